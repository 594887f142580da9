/- What the calls of the package filter have to return, as the chapter says it. -/
import Derived.Test.YtbjhleajhkofeaaDoorP3
import Derived.Test.YtbjhleajhkofeaaDoorTs
namespace Go.Proofs.YtbjhleajhkofeaaDoor
open Go.RowKit
set_option linter.unusedVariables false
set_option linter.unusedSimpArgs false
attribute [local go_sem ↓] Go.wp_at_zero Go.wp_at_succ

theorem pcells17 {V : World} {p : Pls} {P : Pol} {g : Nat} (h : V.heap[g]? = some (.cells (plC p P).toArray 32 (0, 0))) : V.cell? ⟨g, 0, none⟩ = some (.slice p.aq p.an p.ac) ∧ V.cell? ⟨g, 1, none⟩ = some (.int .u8 (P.fl.1 : Nat)) ∧ V.cell? ⟨g, 2, none⟩ = some (.slice p.fq p.fn p.fc) ∧ V.cell? ⟨g, 3, none⟩ = some (.int .u32 (P.dn : Nat)) ∧ V.cell? ⟨g, 4, none⟩ = some (.int .u8 (P.lg.1 : Nat)) ∧ V.cell? ⟨g, 5, none⟩ = some (.slice p.lq p.ln p.lc) ∧ V.cell? ⟨g, 6, none⟩ = some (.slice p.mq p.mn p.mc) ∧ V.cell? ⟨g, 7, none⟩ = some (.int .u8 (P.fm : Nat)) ∧ V.cell? ⟨g, 8, none⟩ = some (.int .u64 (P.sp : Nat)) ∧ V.cell? ⟨g, 9, none⟩ = some (.bool P.b1) ∧ V.cell? ⟨g, 10, none⟩ = some (.bool P.b2) ∧ V.cell? ⟨g, 11, none⟩ = some (.bool P.b3) ∧ V.cell? ⟨g, 12, none⟩ = some (.bool P.b4) :=
  ⟨(cell_of_row V g 0 _ _ (0, 0) h).trans rfl, (cell_of_row V g 1 _ _ (0, 0) h).trans rfl, (cell_of_row V g 2 _ _ (0, 0) h).trans rfl, (cell_of_row V g 3 _ _ (0, 0) h).trans rfl, (cell_of_row V g 4 _ _ (0, 0) h).trans rfl, (cell_of_row V g 5 _ _ (0, 0) h).trans rfl, (cell_of_row V g 6 _ _ (0, 0) h).trans rfl, (cell_of_row V g 7 _ _ (0, 0) h).trans rfl, (cell_of_row V g 8 _ _ (0, 0) h).trans rfl, (cell_of_row V g 9 _ _ (0, 0) h).trans rfl, (cell_of_row V g 10 _ _ (0, 0) h).trans rfl, (cell_of_row V g 11 _ _ (0, 0) h).trans rfl, (cell_of_row V g 12 _ _ (0, 0) h).trans rfl⟩
end Go.Proofs.YtbjhleajhkofeaaDoor
namespace Go.Proofs.YtbjhleajhkofeaaDoor
open Go.RowKit
set_option linter.unusedVariables false
set_option linter.unusedSimpArgs false
attribute [local go_sem ↓] Go.wp_at_zero Go.wp_at_succ

theorem acells17 {V : World} {af ax ak av : ByteArray} {al : Int} {g : Nat} (h : V.heap[g]? = some (.cells #[.string af, .int .i64 al, .string ax, .string ak, .string av] 34 (0, 0))) : V.cell? ⟨g, 0, none⟩ = some (.string af) ∧ V.cell? ⟨g, 1, none⟩ = some (.int .i64 al) ∧ V.cell? ⟨g, 2, none⟩ = some (.string ax) ∧ V.cell? ⟨g, 3, none⟩ = some (.string ak) ∧ V.cell? ⟨g, 4, none⟩ = some (.string av) :=
  ⟨(cell_of_row V g 0 _ _ (0, 0) h).trans rfl, (cell_of_row V g 1 _ _ (0, 0) h).trans rfl, (cell_of_row V g 2 _ _ (0, 0) h).trans rfl, (cell_of_row V g 3 _ _ (0, 0) h).trans rfl, (cell_of_row V g 4 _ _ (0, 0) h).trans rfl⟩
/-- Within what is gone through. -/
def GreatB (p : Pls) (a : As) : Prop := p.an ≤ 20 ∧ p.mn ≤ 20 ∧ p.fn ≤ 100 ∧ p.ln ≤ 100 ∧ a.val.size ≤ 1000 ∧ a.key.size ≤ 200 ∧ a.file.size ≤ 200
def GreatR17 (p : Pls) (a : As) (w : World) (e : Ending) (w' : World) : Prop := ∃ b, e = .returned (.bool b) ∧ (b = false → GreatB p a) ∧ (b = true → ¬ GreatB p a) ∧ Below w.heap.size w w'
set_option maxRecDepth 100000 in
set_option maxHeartbeats 16000000 in
theorem great17 (p : Pls) (P : Pol) (a : As) (w : World) : Calls Tryd.prog 10 #[plV p P, asV a] w fun e w' => GreatR17 p a w e w' := by
  obtain ⟨af, al, ax, ak, av⟩ := a
  unfold asV
  simp only
  obtain ⟨W, hW⟩ : ∃ W, W = (w.alloc (.cells #[.slice p.aq p.an p.ac, .int .u8 (P.fl.1 : Nat), .slice p.fq p.fn p.fc, .int .u32 (P.dn : Nat), .int .u8 (P.lg.1 : Nat), .slice p.lq p.ln p.lc, .slice p.mq p.mn p.mc, .int .u8 (P.fm : Nat), .int .u64 (P.sp : Nat), .bool P.b1, .bool P.b2, .bool P.b3, .bool P.b4] 32)).alloc (.cells #[.string af, .int .i64 al, .string ax, .string ak, .string av] 34) := ⟨_, rfl⟩
  have R0 := Lib.hid (show W.heap[w.heap.size]? = some (.cells (plC p P).toArray 32 (0, 0)) by rw [hW]; exact (Below.heap_alloc _ _ _ (by rw [World.size_alloc]; exact Nat.lt_succ_self _)).trans (heap_alloc_new w _))
  have R1 := Lib.hid (show W.heap[w.heap.size + 1]? = some (.cells #[.string af, .int .i64 al, .string ax, .string ak, .string av] 34 (0, 0)) by rw [hW, ← World.size_alloc w]; exact heap_alloc_new _ _)
  have BB := Lib.hid (show Below w.heap.size w W from hW ▸ ((Below.refl _ _).alloc (Nat.le_refl _) _).alloc (by rw [World.size_alloc]; exact Nat.le_succ _) _)
  have hlt0 : w.heap.size < W.heap.size := by rw [hW, World.size_alloc, World.size_alloc]; omega
  have hlt1 : w.heap.size + 1 < W.heap.size := by rw [hW, World.size_alloc, World.size_alloc]; omega
  have HWW := Lib.hid hW
  rw [show plV p P = .agg #[.slice p.aq p.an p.ac, .int .u8 (P.fl.1 : Nat), .slice p.fq p.fn p.fc, .int .u32 (P.dn : Nat), .int .u8 (P.lg.1 : Nat), .slice p.lq p.ln p.lc, .slice p.mq p.mn p.mc, .int .u8 (P.fm : Nat), .int .u64 (P.sp : Nat), .bool P.b1, .bool P.b2, .bool P.b3, .bool P.b4] from rfl]
  clear hW
  by_cases h0 : 20 < p.an
  · have NB := Lib.hid (show ¬ GreatB p ⟨af, al, ax, ak, av⟩ by unfold GreatB; simp only; omega)
    have k0 : (20 : Int) < (p.an : Nat) := by omega
    clear h0
    go_enter Tryd.func10, Tryd.ntmps10
    go_wp2_with (first
      | (go_at_call 23; (first | rw [← HWW.out] | skip); (with_reducible refine (HC2.out _).mono ?_); rintro e w1 ⟨rfl, b1⟩
         have BV := Lib.hid (thn16 (by first | exact BV.out | exact Below.refl _ _) b1)
         obtain ⟨f0, f1, f2, f3, f4, f5, f6, f7, f8, f9, f10, f11, f12⟩ := pcells17 ((BV.out.block _ hlt0).trans R0.out)
         obtain ⟨g0, g1, g2, g3, g4⟩ := acells17 ((BV.out.block _ hlt1).trans R1.out)
         clear b1)
      | (go_at_call 23; (first | rw [← HWW.out] | skip); (with_reducible refine (HC3.out _).mono ?_); rintro e w1 ⟨rfl, b1⟩
         have BV := Lib.hid (thn16 (by first | exact BV.out | exact Below.refl _ _) b1)
         obtain ⟨f0, f1, f2, f3, f4, f5, f6, f7, f8, f9, f10, f11, f12⟩ := pcells17 ((BV.out.block _ hlt0).trans R0.out)
         obtain ⟨g0, g1, g2, g3, g4⟩ := acells17 ((BV.out.block _ hlt1).trans R1.out)
         clear b1)
      | fail)
    go_ret
    unfold GreatR17
    exact ⟨true, by first | rfl | (simp; done) | (simp; omega), (fun h => by cases h), (fun _ => NB.out), by first | exact thn16 BB.out BV.out | (rw [← HWW.out]; exact BB.out)⟩

  · by_cases h1 : 20 < p.mn
    · have NB := Lib.hid (show ¬ GreatB p ⟨af, al, ax, ak, av⟩ by unfold GreatB; simp only; omega)
      have k0 : ¬ (20 : Int) < (p.an : Nat) := by omega
      have k1 : (20 : Int) < (p.mn : Nat) := by omega
      clear h0 h1
      go_enter Tryd.func10, Tryd.ntmps10
      go_wp2_with (first
        | (go_at_call 23; (first | rw [← HWW.out] | skip); (with_reducible refine (HC2.out _).mono ?_); rintro e w1 ⟨rfl, b1⟩
           have BV := Lib.hid (thn16 (by first | exact BV.out | exact Below.refl _ _) b1)
           obtain ⟨f0, f1, f2, f3, f4, f5, f6, f7, f8, f9, f10, f11, f12⟩ := pcells17 ((BV.out.block _ hlt0).trans R0.out)
           obtain ⟨g0, g1, g2, g3, g4⟩ := acells17 ((BV.out.block _ hlt1).trans R1.out)
           clear b1)
        | (go_at_call 23; (first | rw [← HWW.out] | skip); (with_reducible refine (HC3.out _).mono ?_); rintro e w1 ⟨rfl, b1⟩
           have BV := Lib.hid (thn16 (by first | exact BV.out | exact Below.refl _ _) b1)
           obtain ⟨f0, f1, f2, f3, f4, f5, f6, f7, f8, f9, f10, f11, f12⟩ := pcells17 ((BV.out.block _ hlt0).trans R0.out)
           obtain ⟨g0, g1, g2, g3, g4⟩ := acells17 ((BV.out.block _ hlt1).trans R1.out)
           clear b1)
        | fail)
      go_ret
      unfold GreatR17
      exact ⟨true, by first | rfl | (simp; done) | (simp; omega), (fun h => by cases h), (fun _ => NB.out), by first | exact thn16 BB.out BV.out | (rw [← HWW.out]; exact BB.out)⟩

    · by_cases h2 : 100 < p.fn
      · have NB := Lib.hid (show ¬ GreatB p ⟨af, al, ax, ak, av⟩ by unfold GreatB; simp only; omega)
        have k0 : ¬ (20 : Int) < (p.an : Nat) := by omega
        have k1 : ¬ (20 : Int) < (p.mn : Nat) := by omega
        have HC2 := Lib.hid (fun (X : World) => (great16 P.fl.1 p.fq p.fn p.fc X).mono fun e w' h => (show e = .returned (.bool true) ∧ Below X.heap.size X w' by rw [decide_eq_true h2] at h; exact h))
        unfold lsV at HC2
        clear h0 h1 h2
        go_enter Tryd.func10, Tryd.ntmps10
        go_wp2_with (first
          | (go_at_call 23; (first | rw [← HWW.out] | skip); (with_reducible refine (HC2.out _).mono ?_); rintro e w1 ⟨rfl, b1⟩
             have BV := Lib.hid (thn16 (by first | exact BV.out | exact Below.refl _ _) b1)
             obtain ⟨f0, f1, f2, f3, f4, f5, f6, f7, f8, f9, f10, f11, f12⟩ := pcells17 ((BV.out.block _ hlt0).trans R0.out)
             obtain ⟨g0, g1, g2, g3, g4⟩ := acells17 ((BV.out.block _ hlt1).trans R1.out)
             clear b1)
          | (go_at_call 23; (first | rw [← HWW.out] | skip); (with_reducible refine (HC3.out _).mono ?_); rintro e w1 ⟨rfl, b1⟩
             have BV := Lib.hid (thn16 (by first | exact BV.out | exact Below.refl _ _) b1)
             obtain ⟨f0, f1, f2, f3, f4, f5, f6, f7, f8, f9, f10, f11, f12⟩ := pcells17 ((BV.out.block _ hlt0).trans R0.out)
             obtain ⟨g0, g1, g2, g3, g4⟩ := acells17 ((BV.out.block _ hlt1).trans R1.out)
             clear b1)
          | fail)
        go_ret
        unfold GreatR17
        exact ⟨true, by first | rfl | (simp; done) | (simp; omega), (fun h => by cases h), (fun _ => NB.out), by first | exact thn16 BB.out BV.out | (rw [← HWW.out]; exact BB.out)⟩

      · by_cases h3 : 100 < p.ln
        · have NB := Lib.hid (show ¬ GreatB p ⟨af, al, ax, ak, av⟩ by unfold GreatB; simp only; omega)
          have k0 : ¬ (20 : Int) < (p.an : Nat) := by omega
          have k1 : ¬ (20 : Int) < (p.mn : Nat) := by omega
          have HC2 := Lib.hid (fun (X : World) => (great16 P.fl.1 p.fq p.fn p.fc X).mono fun e w' h => (show e = .returned (.bool false) ∧ Below X.heap.size X w' by rw [decide_eq_false h2] at h; exact h))
          unfold lsV at HC2
          have HC3 := Lib.hid (fun (X : World) => (great16 P.lg.1 p.lq p.ln p.lc X).mono fun e w' h => (show e = .returned (.bool true) ∧ Below X.heap.size X w' by rw [decide_eq_true h3] at h; exact h))
          unfold lsV at HC3
          clear h0 h1 h2 h3
          go_enter Tryd.func10, Tryd.ntmps10
          go_wp2_with (first
            | (go_at_call 23; (first | rw [← HWW.out] | skip); (with_reducible refine (HC2.out _).mono ?_); rintro e w1 ⟨rfl, b1⟩
               have BV := Lib.hid (thn16 (by first | exact BV.out | exact Below.refl _ _) b1)
               obtain ⟨f0, f1, f2, f3, f4, f5, f6, f7, f8, f9, f10, f11, f12⟩ := pcells17 ((BV.out.block _ hlt0).trans R0.out)
               obtain ⟨g0, g1, g2, g3, g4⟩ := acells17 ((BV.out.block _ hlt1).trans R1.out)
               clear b1)
            | (go_at_call 23; (first | rw [← HWW.out] | skip); (with_reducible refine (HC3.out _).mono ?_); rintro e w1 ⟨rfl, b1⟩
               have BV := Lib.hid (thn16 (by first | exact BV.out | exact Below.refl _ _) b1)
               obtain ⟨f0, f1, f2, f3, f4, f5, f6, f7, f8, f9, f10, f11, f12⟩ := pcells17 ((BV.out.block _ hlt0).trans R0.out)
               obtain ⟨g0, g1, g2, g3, g4⟩ := acells17 ((BV.out.block _ hlt1).trans R1.out)
               clear b1)
            | fail)
          go_ret
          unfold GreatR17
          exact ⟨true, by first | rfl | (simp; done) | (simp; omega), (fun h => by cases h), (fun _ => NB.out), by first | exact thn16 BB.out BV.out | (rw [← HWW.out]; exact BB.out)⟩

        · by_cases h4 : 1000 < av.size
          · have NB := Lib.hid (show ¬ GreatB p ⟨af, al, ax, ak, av⟩ by unfold GreatB; simp only; omega)
            have k0 : ¬ (20 : Int) < (p.an : Nat) := by omega
            have k1 : ¬ (20 : Int) < (p.mn : Nat) := by omega
            have HC2 := Lib.hid (fun (X : World) => (great16 P.fl.1 p.fq p.fn p.fc X).mono fun e w' h => (show e = .returned (.bool false) ∧ Below X.heap.size X w' by rw [decide_eq_false h2] at h; exact h))
            unfold lsV at HC2
            have HC3 := Lib.hid (fun (X : World) => (great16 P.lg.1 p.lq p.ln p.lc X).mono fun e w' h => (show e = .returned (.bool false) ∧ Below X.heap.size X w' by rw [decide_eq_false h3] at h; exact h))
            unfold lsV at HC3
            have k4 : (1000 : Int) < (av.size : Nat) := by omega
            clear h0 h1 h2 h3 h4
            go_enter Tryd.func10, Tryd.ntmps10
            go_wp2_with (first
              | (go_at_call 23; (first | rw [← HWW.out] | skip); (with_reducible refine (HC2.out _).mono ?_); rintro e w1 ⟨rfl, b1⟩
                 have BV := Lib.hid (thn16 (by first | exact BV.out | exact Below.refl _ _) b1)
                 obtain ⟨f0, f1, f2, f3, f4, f5, f6, f7, f8, f9, f10, f11, f12⟩ := pcells17 ((BV.out.block _ hlt0).trans R0.out)
                 obtain ⟨g0, g1, g2, g3, g4⟩ := acells17 ((BV.out.block _ hlt1).trans R1.out)
                 clear b1)
              | (go_at_call 23; (first | rw [← HWW.out] | skip); (with_reducible refine (HC3.out _).mono ?_); rintro e w1 ⟨rfl, b1⟩
                 have BV := Lib.hid (thn16 (by first | exact BV.out | exact Below.refl _ _) b1)
                 obtain ⟨f0, f1, f2, f3, f4, f5, f6, f7, f8, f9, f10, f11, f12⟩ := pcells17 ((BV.out.block _ hlt0).trans R0.out)
                 obtain ⟨g0, g1, g2, g3, g4⟩ := acells17 ((BV.out.block _ hlt1).trans R1.out)
                 clear b1)
              | fail)
            go_ret
            unfold GreatR17
            exact ⟨true, by first | rfl | (simp; done) | (simp; omega), (fun h => by cases h), (fun _ => NB.out), by first | exact thn16 BB.out BV.out | (rw [← HWW.out]; exact BB.out)⟩

          · by_cases h5 : 200 < ak.size
            · have NB := Lib.hid (show ¬ GreatB p ⟨af, al, ax, ak, av⟩ by unfold GreatB; simp only; omega)
              have k0 : ¬ (20 : Int) < (p.an : Nat) := by omega
              have k1 : ¬ (20 : Int) < (p.mn : Nat) := by omega
              have HC2 := Lib.hid (fun (X : World) => (great16 P.fl.1 p.fq p.fn p.fc X).mono fun e w' h => (show e = .returned (.bool false) ∧ Below X.heap.size X w' by rw [decide_eq_false h2] at h; exact h))
              unfold lsV at HC2
              have HC3 := Lib.hid (fun (X : World) => (great16 P.lg.1 p.lq p.ln p.lc X).mono fun e w' h => (show e = .returned (.bool false) ∧ Below X.heap.size X w' by rw [decide_eq_false h3] at h; exact h))
              unfold lsV at HC3
              have k4 : ¬ (1000 : Int) < (av.size : Nat) := by omega
              have k5 : (200 : Int) < (ak.size : Nat) := by omega
              clear h0 h1 h2 h3 h4 h5
              go_enter Tryd.func10, Tryd.ntmps10
              go_wp2_with (first
                | (go_at_call 23; (first | rw [← HWW.out] | skip); (with_reducible refine (HC2.out _).mono ?_); rintro e w1 ⟨rfl, b1⟩
                   have BV := Lib.hid (thn16 (by first | exact BV.out | exact Below.refl _ _) b1)
                   obtain ⟨f0, f1, f2, f3, f4, f5, f6, f7, f8, f9, f10, f11, f12⟩ := pcells17 ((BV.out.block _ hlt0).trans R0.out)
                   obtain ⟨g0, g1, g2, g3, g4⟩ := acells17 ((BV.out.block _ hlt1).trans R1.out)
                   clear b1)
                | (go_at_call 23; (first | rw [← HWW.out] | skip); (with_reducible refine (HC3.out _).mono ?_); rintro e w1 ⟨rfl, b1⟩
                   have BV := Lib.hid (thn16 (by first | exact BV.out | exact Below.refl _ _) b1)
                   obtain ⟨f0, f1, f2, f3, f4, f5, f6, f7, f8, f9, f10, f11, f12⟩ := pcells17 ((BV.out.block _ hlt0).trans R0.out)
                   obtain ⟨g0, g1, g2, g3, g4⟩ := acells17 ((BV.out.block _ hlt1).trans R1.out)
                   clear b1)
                | fail)
              go_ret
              unfold GreatR17
              exact ⟨true, by first | rfl | (simp; done) | (simp; omega), (fun h => by cases h), (fun _ => NB.out), by first | exact thn16 BB.out BV.out | (rw [← HWW.out]; exact BB.out)⟩

            · by_cases h6 : 200 < af.size
              · have NB := Lib.hid (show ¬ GreatB p ⟨af, al, ax, ak, av⟩ by unfold GreatB; simp only; omega)
                have k0 : ¬ (20 : Int) < (p.an : Nat) := by omega
                have k1 : ¬ (20 : Int) < (p.mn : Nat) := by omega
                have HC2 := Lib.hid (fun (X : World) => (great16 P.fl.1 p.fq p.fn p.fc X).mono fun e w' h => (show e = .returned (.bool false) ∧ Below X.heap.size X w' by rw [decide_eq_false h2] at h; exact h))
                unfold lsV at HC2
                have HC3 := Lib.hid (fun (X : World) => (great16 P.lg.1 p.lq p.ln p.lc X).mono fun e w' h => (show e = .returned (.bool false) ∧ Below X.heap.size X w' by rw [decide_eq_false h3] at h; exact h))
                unfold lsV at HC3
                have k4 : ¬ (1000 : Int) < (av.size : Nat) := by omega
                have k5 : ¬ (200 : Int) < (ak.size : Nat) := by omega
                have k6 : (200 : Int) < (af.size : Nat) := by omega
                clear h0 h1 h2 h3 h4 h5 h6
                go_enter Tryd.func10, Tryd.ntmps10
                go_wp2_with (first
                  | (go_at_call 23; (first | rw [← HWW.out] | skip); (with_reducible refine (HC2.out _).mono ?_); rintro e w1 ⟨rfl, b1⟩
                     have BV := Lib.hid (thn16 (by first | exact BV.out | exact Below.refl _ _) b1)
                     obtain ⟨f0, f1, f2, f3, f4, f5, f6, f7, f8, f9, f10, f11, f12⟩ := pcells17 ((BV.out.block _ hlt0).trans R0.out)
                     obtain ⟨g0, g1, g2, g3, g4⟩ := acells17 ((BV.out.block _ hlt1).trans R1.out)
                     clear b1)
                  | (go_at_call 23; (first | rw [← HWW.out] | skip); (with_reducible refine (HC3.out _).mono ?_); rintro e w1 ⟨rfl, b1⟩
                     have BV := Lib.hid (thn16 (by first | exact BV.out | exact Below.refl _ _) b1)
                     obtain ⟨f0, f1, f2, f3, f4, f5, f6, f7, f8, f9, f10, f11, f12⟩ := pcells17 ((BV.out.block _ hlt0).trans R0.out)
                     obtain ⟨g0, g1, g2, g3, g4⟩ := acells17 ((BV.out.block _ hlt1).trans R1.out)
                     clear b1)
                  | fail)
                go_ret
                unfold GreatR17
                exact ⟨true, by first | rfl | (simp; done) | (simp; omega), (fun h => by cases h), (fun _ => NB.out), by first | exact thn16 BB.out BV.out | (rw [← HWW.out]; exact BB.out)⟩

              · have LIM := Lib.hid (show GreatB p ⟨af, al, ax, ak, av⟩ by unfold GreatB; simp only; omega)
                have k0 : ¬ (20 : Int) < (p.an : Nat) := by omega
                have k1 : ¬ (20 : Int) < (p.mn : Nat) := by omega
                have HC2 := Lib.hid (fun (X : World) => (great16 P.fl.1 p.fq p.fn p.fc X).mono fun e w' h => (show e = .returned (.bool false) ∧ Below X.heap.size X w' by rw [decide_eq_false h2] at h; exact h))
                unfold lsV at HC2
                have HC3 := Lib.hid (fun (X : World) => (great16 P.lg.1 p.lq p.ln p.lc X).mono fun e w' h => (show e = .returned (.bool false) ∧ Below X.heap.size X w' by rw [decide_eq_false h3] at h; exact h))
                unfold lsV at HC3
                have k4 : ¬ (1000 : Int) < (av.size : Nat) := by omega
                have k5 : ¬ (200 : Int) < (ak.size : Nat) := by omega
                have k6 : ¬ (200 : Int) < (af.size : Nat) := by omega
                clear h0 h1 h2 h3 h4 h5 h6
                go_enter Tryd.func10, Tryd.ntmps10
                go_wp2_with (first
                  | (go_at_call 23; (first | rw [← HWW.out] | skip); (with_reducible refine (HC2.out _).mono ?_); rintro e w1 ⟨rfl, b1⟩
                     have BV := Lib.hid (thn16 (by first | exact BV.out | exact Below.refl _ _) b1)
                     obtain ⟨f0, f1, f2, f3, f4, f5, f6, f7, f8, f9, f10, f11, f12⟩ := pcells17 ((BV.out.block _ hlt0).trans R0.out)
                     obtain ⟨g0, g1, g2, g3, g4⟩ := acells17 ((BV.out.block _ hlt1).trans R1.out)
                     clear b1)
                  | (go_at_call 23; (first | rw [← HWW.out] | skip); (with_reducible refine (HC3.out _).mono ?_); rintro e w1 ⟨rfl, b1⟩
                     have BV := Lib.hid (thn16 (by first | exact BV.out | exact Below.refl _ _) b1)
                     obtain ⟨f0, f1, f2, f3, f4, f5, f6, f7, f8, f9, f10, f11, f12⟩ := pcells17 ((BV.out.block _ hlt0).trans R0.out)
                     obtain ⟨g0, g1, g2, g3, g4⟩ := acells17 ((BV.out.block _ hlt1).trans R1.out)
                     clear b1)
                  | fail)
                go_ret
                unfold GreatR17
                exact ⟨false, by first | rfl | (simp; done) | (simp; omega), (fun _ => LIM.out), (fun h => by cases h), thn16 BB.out BV.out⟩

theorem great_no17 (p : Pls) (P : Pol) (a : As) (h : GreatB p a) (w : World) : Calls Tryd.prog 10 #[plV p P, asV a] w fun e w' => e = .returned (.bool false) ∧ Below w.heap.size w w' :=
  (great17 p P a w).mono fun e w' ⟨b, he, _, h2, hb⟩ => by
    cases b
    · exact ⟨he, hb⟩
    · exact absurd h (h2 rfl)
theorem great_yes17 (p : Pls) (P : Pol) (a : As) (h : ¬ GreatB p a) (w : World) : Calls Tryd.prog 10 #[plV p P, asV a] w fun e w' => e = .returned (.bool true) ∧ Below w.heap.size w w' :=
  (great17 p P a w).mono fun e w' ⟨b, he, h1, _, hb⟩ => by
    cases b
    · exact absurd (h1 rfl) h
    · exact ⟨he, hb⟩
end Go.Proofs.YtbjhleajhkofeaaDoor
namespace Go.Proofs.YtbjhleajhkofeaaDoor
open Go.RowKit
set_option linter.unusedVariables false
set_option linter.unusedSimpArgs false
attribute [local go_sem ↓] Go.wp_at_zero Go.wp_at_succ

section
variable {P : Program}
theorem run_storeVar_cell17 (w : World) (b o : Nat) (ty : TypeId) (v : Value) (h1 : v.oneCell' = true) (ht : w.there b o 1) (hi : (P.info? ty).map (·.size) = some 1) :
    (storeVar ty ⟨b, o, none⟩ v).run P w = .ok () (w.setCells b o [v]) := by
  have := run_storeCells_cells (P := P) b o [v] 0 w (fun j hj => by simpa using (ht j (by simpa using hj)).1) (fun j hj => by simpa using (ht j (by simpa using hj)).2) (fun x hx => by simp at hx; subst hx; exact h1)
  have hc : v.cells = #[v] := by cases v <;> first | rfl | cases h1
  cases hq : P.info? ty with
  | none => simp [hq] at hi
  | some i =>
    have hs : i.size = 1 := by simpa [hq] using hi
    simp only [Nat.add_zero] at this
    simp [storeVar, sizeOf, typeInfo, hq, hc, hs, this]
theorem wpList_store_cell17 {ops : Array Oper} {rest : List Oper} {op : Oper} {a : Act} {w : World} {Q : Exit → Act → World → Prop} (hgd : op.guard = none) (ty : TypeId) (x y : Operand) (ho : op.op = .store ty x y)
    (b o : Nat) (v : Value) (hx : a.eval x = .pointer (some ⟨b, o, none⟩)) (hy : a.eval y = v) (h1 : v.oneCell' = true) (ht : w.there b o 1) (hi : (P.info? ty).map (·.size) = some 1)
    (h : wpList P ops Q rest (a.put op.dst undef) (w.setCells b o [v])) : wpList P ops Q (op :: rest) a w :=
  wpList_plain hgd fun _ hK => by
    unfold Oper.wp execOp
    simp only [ho, hx, hy, Instr.storeAt, Instr.sureAddr, Sem.run_bind, Sem.run_pure, Result.andThen_ok, run_storeVar_cell17 w b o ty v h1 ht hi]
    exact hK _ _ h
end
theorem emp_row17 (W : World) (t : TypeId) : (W.alloc (.cells #[] t)).ownsRow W.heap.size t 1 (.slice (some ⟨W.heap.size, 0, none⟩) 0 0) 0 [] := ⟨rfl, Or.inr ⟨W.heap.size, 0, #[], rfl, Nat.le_refl _, heap_alloc_new W _, Nat.le_refl _, Nat.zero_le _, rfl, rfl⟩⟩
theorem nums_one17 (k : IntKind) (l : List Int) : ∀ u ∈ l.map (Value.int k), u.oneCell' = true := fun u hu => by
  obtain ⟨x, _, rfl⟩ := List.mem_map.1 hu
  rfl
theorem nums_flat17 {k : IntKind} {w : World} {q : Option Addr} {l : List Int} (h : NumsAt k w q l) (h0 : 0 < l.length) : ∃ ad, q = some ad ∧ ∀ j u, (l.map (Value.int k))[j]? = some u → w.cell? (ad.add j) = some u := by
  obtain ⟨g, o, e, _⟩ := h 0 l[0] (List.getElem?_eq_getElem h0)
  refine ⟨_, e, fun j u hu => ?_⟩
  rw [List.getElem?_map] at hu
  obtain ⟨x, hx, rfl⟩ := Option.map_eq_some_iff.1 hu
  obtain ⟨g', o', e', hc⟩ := h j x hx
  rw [e] at e'
  injection e' with e'
  injection e' with e1 e2
  subst e1 e2
  rw [Addr.add_lit]
  exact hc
theorem nums_own17 {k : IntKind} {w : World} {B n c : Nat} {t : TypeId} {q : Option Addr} {l : List Int} (h : w.ownsRow B t 1 (.slice q n c) n (l.map (Value.int k))) (hn : n = l.length) : NumsAt k w q l := fun i x hx => by
  have hi := (List.getElem?_eq_some_iff.1 hx).1
  obtain ⟨g, cap, hv, hB, hl⟩ := h.form (by omega)
  injection hv with h1 h2 h3
  subst h1 h3
  refine ⟨g, 0, rfl, ?_⟩
  rw [Nat.zero_add]
  exact (h.cellAt i (by omega)).trans (by rw [List.getElem?_map, hx]; rfl)
/-- The state of Copied in memory: the policy's box, the result's cells. -/
structure C17 (w : World) (p : Pls) (P : Pol) (V : World) : Prop where
  bel : Below w.heap.size w V
  pol : V.heap[w.heap.size]? = some (.cells (plC p P).toArray 32 (0, 0))
  res : V.heap[w.heap.size + 1]? = some (.cells ([.slice none 0 0, .int .u8 0, .slice none 0 0, .int .u32 0, .int .u8 0, .slice none 0 0, .slice none 0 0, .int .u8 0, .int .u64 0, .bool false, .bool false, .bool false, .bool false] : List Value).toArray 32 (0, 0))
theorem C17.on {w : World} {p : Pls} {P : Pol} {V V' : World} (h : C17 w p P V) (b : Below V.heap.size V V') : C17 w p P V' :=
  ⟨thn16 h.bel b, (b.block _ (Array.getElem?_eq_some_iff.1 h.pol).1).trans h.pol, (b.block _ (Array.getElem?_eq_some_iff.1 h.res).1).trans h.res⟩
theorem C17.store {w : World} {p p' : Pls} {P P' : Pol} {V : World} (h : C17 w p P V) (i : Nat) (vs : List Value) (hi : i + vs.length ≤ 13) (he : (plC p P).take i ++ vs ++ (plC p P).drop (i + vs.length) = plC p' P') : C17 w p' P' (V.setCells w.heap.size i vs) :=
  ⟨below_setCells16 (Nat.le_refl _) _ _ _ h.bel, by rw [set_row17 (W := V) vs i _ V h.pol (by rw [plC_len]; exact hi), he], (heap_setCells16 V _ _ (by omega) _ _).trans h.res⟩
set_option maxRecDepth 100000 in
set_option maxHeartbeats 16000000 in
theorem copied17 (p : Pls) (P : Pol) (w : World) (hP : PolAt w p P) (ha : p.an ≤ 1000) (hfl : p.fn ≤ 1000) (hll : p.ln ≤ 1000) (hm : p.mn ≤ 1000) : Calls Tryd.prog 13 #[plV p P] w fun e w' => ∃ p', e = .returned (plV p' P) ∧ PolAt w' p' P ∧ Below w.heap.size w w' := by
  obtain ⟨aq, an, ac, fq, fn, fc, lq, ln, lc, mq, mn, mc⟩ := p
  simp only at ha hfl hll hm
  obtain ⟨i0, hi0, hz0, hz1, hz2⟩ := info_parts (show (Tryd.prog.info? 3).map (fun i => (i.zero, i.size, i.bytes)) = some (some (.int .i64 0), 1, 8) by kernel_rfl)
  have I0 := Lib.hid hi0
  have I00 := Lib.hid hz0
  have I01 := Lib.hid hz1
  have I02 := Lib.hid hz2
  clear hi0 hz0 hz1 hz2
  obtain ⟨i1, hi1, hz0, hz1, hz2⟩ := info_parts (show (Tryd.prog.info? 28).map (fun i => (i.zero, i.size, i.bytes)) = some (some (.int .u32 0), 1, 4) by kernel_rfl)
  have I1 := Lib.hid hi1
  have I10 := Lib.hid hz0
  have I11 := Lib.hid hz1
  have I12 := Lib.hid hz2
  clear hi1 hz0 hz1 hz2
  obtain ⟨NM, hNM⟩ : ∃ l : List Int, l = P.fa.map fun (x : Nat) => (x : Int) := ⟨_, rfl⟩
  have HNM := Lib.hid hNM
  have HL0 := Lib.hid (show P.ar.length = an from hP.al.symm)
  have HL1 := Lib.hid (show NM.length = mn by rw [hNM, List.length_map]; exact hP.ml.symm)
  have HN0 := Lib.hid (fun (X : World) (b : Below w.heap.size w X) => hP.ar.on b)
  have HN1 := Lib.hid (fun (X : World) (b : Below w.heap.size w X) => (show NumsAt .u32 X mq NM by rw [hNM]; exact hP.fa.on b))
  have HF := Lib.hid (show P.fl.2.length = fn from hP.fl.symm)
  have HG := Lib.hid (show P.lg.2.length = ln from hP.ll.symm)
  have HC2 := Lib.hid (fun (X : World) (b : Below w.heap.size w X) => copied16 P.fl.1 fq fn fc P.fl.2 X hP.fl hfl (hP.fi.on b))
  have HC3 := Lib.hid (fun (X : World) (b : Below w.heap.size w X) => copied16 P.lg.1 lq ln lc P.lg.2 X hP.ll hll (hP.lo.on b))
  unfold NewL2 lsV at HC2 HC3
  simp only at HN0 HC2 HC3
  have HLI := Lib.hid (show (Tryd.prog.info? 27).map (·.size) = some 2 by kernel_rfl)
  obtain ⟨W, hW⟩ : ∃ W, W = (w.alloc (.cells #[.slice aq an ac, .int .u8 (P.fl.1 : Nat), .slice fq fn fc, .int .u32 (P.dn : Nat), .int .u8 (P.lg.1 : Nat), .slice lq ln lc, .slice mq mn mc, .int .u8 (P.fm : Nat), .int .u64 (P.sp : Nat), .bool P.b1, .bool P.b2, .bool P.b3, .bool P.b4] 32)).alloc (.cells #[.slice none 0 0, .int .u8 0, .slice none 0 0, .int .u32 0, .int .u8 0, .slice none 0 0, .slice none 0 0, .int .u8 0, .int .u64 0, .bool false, .bool false, .bool false, .bool false] 32) := ⟨_, rfl⟩
  have CWW := Lib.hid (show C17 w ⟨aq, an, ac, fq, fn, fc, lq, ln, lc, mq, mn, mc⟩ P W from
    ⟨hW ▸ ((Below.refl _ _).alloc (Nat.le_refl _) _).alloc (by rw [World.size_alloc]; exact Nat.le_succ _) _, by rw [hW]; exact (Below.heap_alloc _ _ _ (by rw [World.size_alloc]; exact Nat.lt_succ_self _)).trans (heap_alloc_new w _), by rw [hW, ← World.size_alloc w]; exact heap_alloc_new _ _⟩)
  have HWW := Lib.hid hW
  have HSZ := Lib.hid (show W.heap.size = w.heap.size + 1 + 1 by rw [hW, World.size_alloc, World.size_alloc])
  have EMP0 := Lib.hid (show (W.alloc (.cells #[] 3)).ownsRow W.heap.size 3 1 (.slice (some ⟨w.heap.size + 1 + 1, 0, none⟩) 0 0) 0 [] by rw [show w.heap.size + 1 + 1 = W.heap.size by rw [hW, World.size_alloc, World.size_alloc]]; exact emp_row17 W 3)
  rw [show plV ⟨aq, an, ac, fq, fn, fc, lq, ln, lc, mq, mn, mc⟩ P = .agg #[.slice aq an ac, .int .u8 (P.fl.1 : Nat), .slice fq fn fc, .int .u32 (P.dn : Nat), .int .u8 (P.lg.1 : Nat), .slice lq ln lc, .slice mq mn mc, .int .u8 (P.fm : Nat), .int .u64 (P.sp : Nat), .bool P.b1, .bool P.b2, .bool P.b3, .bool P.b4] from rfl]
  clear hP hNM hW
  go_enter Tryd.func13, Tryd.ntmps13
  go_wp2_with (first
  | (at_builtin; rw [← HWW.out]; refine wpList_app16 rfl (.tmp 3) (.tmp 5) 24 rfl W.heap.size 3 i0 _ 1 8 Tryd.underlying24 I0.out I00.out I01.out I02.out rfl (by omega) (.slice (some ⟨w.heap.size + 1 + 1, 0, none⟩) 0 0) 0 [] (by rfl) (EMP0.out) aq an ac (P.ar.map (Value.int .i64)) (by rfl) (by rw [List.length_map, HL0.out, Nat.mul_one]) (fun h0 => nums_flat17 ((HN0.out _ CWW.out.bel).on (below16 W (.cells #[] 3))) (by rw [HL0.out]; exact h0)) (nums_one17 _ _) (by unfold maxLen; omega) (by omega) (by rw [World.size_alloc]; exact Nat.le_succ _) ?_
     intro v6 w1 o6 h6
     rw [Nat.zero_add, List.nil_append] at o6
     have HB6 := Lib.hid ((below16 W (.cells #[] 3)).grown h6 (by rw [World.size_alloc]; exact Nat.le_succ _) (fun k e => Nat.le_of_eq (HSZ.out.trans (Option.some.inj e))))
     obtain ⟨qA, cA, hq6⟩ := own_form16 o6
     subst hq6
     have CWw1 := Lib.hid (CWW.out.on HB6.out)
     have RAw1 := Lib.hid (owns_low16 o6 CWW.out.bel.size)
     clear o6 h6 HB6)
  | ((with_reducible show wpList _ _ _ (⟨none, .store 24 (.tmp 7) (.tmp 6), _, _, _, _⟩ :: _) _ _)
     refine wpList_store_cell17 rfl 24 (.tmp 7) (.tmp 6) rfl w.heap.size 0 (.slice qA an cA) (by rfl) (by rfl) rfl (there_row17 CWw1.out.pol (show 0 + 1 ≤ 13 by decide)) (by kernel_rfl) ?_
     have CWY1 := Lib.hid (CWw1.out.store (p' := ⟨qA, an, cA, fq, fn, fc, lq, ln, lc, mq, mn, mc⟩) 0 [.slice qA an cA] (show 0 + 1 ≤ 13 by decide) rfl)
     have RAY1 := Lib.hid (rows_box17 (i := 0) CWw1.out.pol (by decide) RAw1.out [.slice qA an cA])
     generalize w1.setCells w.heap.size 0 [.slice qA an cA] = Y1 at CWY1 RAY1 ⊢
     obtain ⟨f0, f1, f2, f3, f4, f5, f6, f7, f8, f9, f10, f11, f12⟩ := (show Y1.cell? ⟨w.heap.size, 0, none⟩ = some (.slice qA an cA) ∧ Y1.cell? ⟨w.heap.size, 1, none⟩ = some (.int .u8 (P.fl.1 : Nat)) ∧ Y1.cell? ⟨w.heap.size, 2, none⟩ = some (.slice fq fn fc) ∧ Y1.cell? ⟨w.heap.size, 3, none⟩ = some (.int .u32 (P.dn : Nat)) ∧ Y1.cell? ⟨w.heap.size, 4, none⟩ = some (.int .u8 (P.lg.1 : Nat)) ∧ Y1.cell? ⟨w.heap.size, 5, none⟩ = some (.slice lq ln lc) ∧ Y1.cell? ⟨w.heap.size, 6, none⟩ = some (.slice mq mn mc) ∧ Y1.cell? ⟨w.heap.size, 7, none⟩ = some (.int .u8 (P.fm : Nat)) ∧ Y1.cell? ⟨w.heap.size, 8, none⟩ = some (.int .u64 (P.sp : Nat)) ∧ Y1.cell? ⟨w.heap.size, 9, none⟩ = some (.bool P.b1) ∧ Y1.cell? ⟨w.heap.size, 10, none⟩ = some (.bool P.b2) ∧ Y1.cell? ⟨w.heap.size, 11, none⟩ = some (.bool P.b3) ∧ Y1.cell? ⟨w.heap.size, 12, none⟩ = some (.bool P.b4) from pcells17 CWY1.out.pol)
     obtain ⟨e0, e1, e2, e3, e4, e5, e6, e7, e8, e9, e10, e11, e12⟩ := (show (World.alloc Y1 (.cells #[] 28)).cell? ⟨w.heap.size, 0, none⟩ = some (.slice qA an cA) ∧ (World.alloc Y1 (.cells #[] 28)).cell? ⟨w.heap.size, 1, none⟩ = some (.int .u8 (P.fl.1 : Nat)) ∧ (World.alloc Y1 (.cells #[] 28)).cell? ⟨w.heap.size, 2, none⟩ = some (.slice fq fn fc) ∧ (World.alloc Y1 (.cells #[] 28)).cell? ⟨w.heap.size, 3, none⟩ = some (.int .u32 (P.dn : Nat)) ∧ (World.alloc Y1 (.cells #[] 28)).cell? ⟨w.heap.size, 4, none⟩ = some (.int .u8 (P.lg.1 : Nat)) ∧ (World.alloc Y1 (.cells #[] 28)).cell? ⟨w.heap.size, 5, none⟩ = some (.slice lq ln lc) ∧ (World.alloc Y1 (.cells #[] 28)).cell? ⟨w.heap.size, 6, none⟩ = some (.slice mq mn mc) ∧ (World.alloc Y1 (.cells #[] 28)).cell? ⟨w.heap.size, 7, none⟩ = some (.int .u8 (P.fm : Nat)) ∧ (World.alloc Y1 (.cells #[] 28)).cell? ⟨w.heap.size, 8, none⟩ = some (.int .u64 (P.sp : Nat)) ∧ (World.alloc Y1 (.cells #[] 28)).cell? ⟨w.heap.size, 9, none⟩ = some (.bool P.b1) ∧ (World.alloc Y1 (.cells #[] 28)).cell? ⟨w.heap.size, 10, none⟩ = some (.bool P.b2) ∧ (World.alloc Y1 (.cells #[] 28)).cell? ⟨w.heap.size, 11, none⟩ = some (.bool P.b3) ∧ (World.alloc Y1 (.cells #[] 28)).cell? ⟨w.heap.size, 12, none⟩ = some (.bool P.b4) from pcells17 (((below16 Y1 (.cells #[] 28)).block _ (Array.getElem?_eq_some_iff.1 CWY1.out.pol).1).trans CWY1.out.pol))
     clear CWw1 RAw1)
  | (at_builtin; refine wpList_app16 rfl (.tmp 8) (.tmp 10) 29 rfl Y1.heap.size 28 i1 _ 1 4 Tryd.underlying29 I1.out I10.out I11.out I12.out rfl (by omega) (.slice (some ⟨Y1.heap.size, 0, none⟩) 0 0) 0 [] (by rfl) (emp_row17 Y1 28) mq mn mc (NM.map (Value.int .u32)) (by rfl) (by rw [List.length_map, HL1.out, Nat.mul_one]) (fun h0 => nums_flat17 ((HN1.out _ CWY1.out.bel).on (below16 Y1 (.cells #[] 28))) (by rw [HL1.out]; exact h0)) (nums_one17 _ _) (by unfold maxLen; omega) (by omega) (by rw [World.size_alloc]; exact Nat.le_succ _) ?_
     intro v6 w2 o6 h6
     rw [Nat.zero_add, List.nil_append] at o6
     have HB6 := Lib.hid ((below16 Y1 (.cells #[] 28)).grown h6 (by rw [World.size_alloc]; exact Nat.le_succ _) (fun k e => Nat.le_of_eq ((Option.some.inj e))))
     obtain ⟨qM, cM, hq6⟩ := own_form16 o6
     subst hq6
     have CWw2 := Lib.hid (CWY1.out.on HB6.out)
     have RMw2 := Lib.hid (owns_low16 o6 CWY1.out.bel.size)
     have RAw2 := Lib.hid (owns_on16 RAY1.out HB6.out)
     clear o6 h6 HB6)
  | ((with_reducible show wpList _ _ _ (⟨none, .store 29 (.tmp 12) (.tmp 11), _, _, _, _⟩ :: _) _ _)
     refine wpList_store_cell17 rfl 29 (.tmp 12) (.tmp 11) rfl w.heap.size 6 (.slice qM mn cM) (by rfl) (by rfl) rfl (there_row17 CWw2.out.pol (show 6 + 1 ≤ 13 by decide)) (by kernel_rfl) ?_
     have CWY2 := Lib.hid (CWw2.out.store (p' := ⟨qA, an, cA, fq, fn, fc, lq, ln, lc, qM, mn, cM⟩) 6 [.slice qM mn cM] (show 6 + 1 ≤ 13 by decide) rfl)
     have RAY2 := Lib.hid (rows_box17 (i := 6) CWw2.out.pol (by decide) RAw2.out [.slice qM mn cM])
     have RMY2 := Lib.hid (rows_box17 (i := 6) CWw2.out.pol (by decide) RMw2.out [.slice qM mn cM])
     generalize w2.setCells w.heap.size 6 [.slice qM mn cM] = Y2 at CWY2 RAY2 RMY2 ⊢
     obtain ⟨f0, f1, f2, f3, f4, f5, f6, f7, f8, f9, f10, f11, f12⟩ := (show Y2.cell? ⟨w.heap.size, 0, none⟩ = some (.slice qA an cA) ∧ Y2.cell? ⟨w.heap.size, 1, none⟩ = some (.int .u8 (P.fl.1 : Nat)) ∧ Y2.cell? ⟨w.heap.size, 2, none⟩ = some (.slice fq fn fc) ∧ Y2.cell? ⟨w.heap.size, 3, none⟩ = some (.int .u32 (P.dn : Nat)) ∧ Y2.cell? ⟨w.heap.size, 4, none⟩ = some (.int .u8 (P.lg.1 : Nat)) ∧ Y2.cell? ⟨w.heap.size, 5, none⟩ = some (.slice lq ln lc) ∧ Y2.cell? ⟨w.heap.size, 6, none⟩ = some (.slice qM mn cM) ∧ Y2.cell? ⟨w.heap.size, 7, none⟩ = some (.int .u8 (P.fm : Nat)) ∧ Y2.cell? ⟨w.heap.size, 8, none⟩ = some (.int .u64 (P.sp : Nat)) ∧ Y2.cell? ⟨w.heap.size, 9, none⟩ = some (.bool P.b1) ∧ Y2.cell? ⟨w.heap.size, 10, none⟩ = some (.bool P.b2) ∧ Y2.cell? ⟨w.heap.size, 11, none⟩ = some (.bool P.b3) ∧ Y2.cell? ⟨w.heap.size, 12, none⟩ = some (.bool P.b4) from pcells17 CWY2.out.pol)
     skip
     clear CWw2 RAw2 RMw2)
  | (go_at_call 25; ((with_reducible refine (HC2.out Y2 CWY2.out.bel).mono ?_); rintro e w3 ⟨qF, nF, cF, rfl, hn, o6, b⟩)
     obtain rfl : nF = fn := hn.trans HF.out
     have CWw3 := Lib.hid (CWY2.out.on b)
     have RFw3 := Lib.hid (owns_low16 o6 CWY2.out.bel.size)
     have RAw3 := Lib.hid (owns_on16 RAY2.out b)
     have RMw3 := Lib.hid (owns_on16 RMY2.out b)
     clear o6 b hn)
  | ((with_reducible show wpList _ _ _ (⟨none, .store 27 (.tmp 16) (.tmp 15), _, _, _, _⟩ :: _) _ _)
     refine wpList_store_mid rfl 27 (.tmp 16) (.tmp 15) rfl w.heap.size 1 #[.int .u8 (P.fl.1 : Nat), .slice qF nF cF] (by rfl) (by rfl) (there_row17 CWw3.out.pol (show 1 + 2 ≤ 13 by decide)) HLI.out (one16 _ _ _ _) ?_
     show wpList _ _ _ _ _ (w3.setCells w.heap.size 1 [.int .u8 (P.fl.1 : Nat), .slice qF nF cF])
     have CWY3 := Lib.hid (CWw3.out.store (p' := ⟨qA, an, cA, qF, nF, cF, lq, ln, lc, qM, mn, cM⟩) 1 [.int .u8 (P.fl.1 : Nat), .slice qF nF cF] (show 1 + 2 ≤ 13 by decide) rfl)
     have RAY3 := Lib.hid (rows_box17 (i := 1) CWw3.out.pol (by decide) RAw3.out [.int .u8 (P.fl.1 : Nat), .slice qF nF cF])
     have RMY3 := Lib.hid (rows_box17 (i := 1) CWw3.out.pol (by decide) RMw3.out [.int .u8 (P.fl.1 : Nat), .slice qF nF cF])
     have RFY3 := Lib.hid (rows_box17 (i := 1) CWw3.out.pol (by decide) RFw3.out [.int .u8 (P.fl.1 : Nat), .slice qF nF cF])
     generalize w3.setCells w.heap.size 1 [.int .u8 (P.fl.1 : Nat), .slice qF nF cF] = Y3 at CWY3 RAY3 RMY3 RFY3 ⊢
     obtain ⟨f0, f1, f2, f3, f4, f5, f6, f7, f8, f9, f10, f11, f12⟩ := (show Y3.cell? ⟨w.heap.size, 0, none⟩ = some (.slice qA an cA) ∧ Y3.cell? ⟨w.heap.size, 1, none⟩ = some (.int .u8 (P.fl.1 : Nat)) ∧ Y3.cell? ⟨w.heap.size, 2, none⟩ = some (.slice qF nF cF) ∧ Y3.cell? ⟨w.heap.size, 3, none⟩ = some (.int .u32 (P.dn : Nat)) ∧ Y3.cell? ⟨w.heap.size, 4, none⟩ = some (.int .u8 (P.lg.1 : Nat)) ∧ Y3.cell? ⟨w.heap.size, 5, none⟩ = some (.slice lq ln lc) ∧ Y3.cell? ⟨w.heap.size, 6, none⟩ = some (.slice qM mn cM) ∧ Y3.cell? ⟨w.heap.size, 7, none⟩ = some (.int .u8 (P.fm : Nat)) ∧ Y3.cell? ⟨w.heap.size, 8, none⟩ = some (.int .u64 (P.sp : Nat)) ∧ Y3.cell? ⟨w.heap.size, 9, none⟩ = some (.bool P.b1) ∧ Y3.cell? ⟨w.heap.size, 10, none⟩ = some (.bool P.b2) ∧ Y3.cell? ⟨w.heap.size, 11, none⟩ = some (.bool P.b3) ∧ Y3.cell? ⟨w.heap.size, 12, none⟩ = some (.bool P.b4) from pcells17 CWY3.out.pol)
     clear CWw3 RAw3 RMw3 RFw3)
  | (go_at_call 25; ((with_reducible refine (HC3.out Y3 CWY3.out.bel).mono ?_); rintro e w4 ⟨qG, nG, cG, rfl, hn, o6, b⟩)
     obtain rfl : nG = ln := hn.trans HG.out
     have CWw4 := Lib.hid (CWY3.out.on b)
     have RGw4 := Lib.hid (owns_low16 o6 CWY3.out.bel.size)
     have RAw4 := Lib.hid (owns_on16 RAY3.out b)
     have RMw4 := Lib.hid (owns_on16 RMY3.out b)
     have RFw4 := Lib.hid (owns_on16 RFY3.out b)
     clear o6 b hn)
  | ((with_reducible show wpList _ _ _ (⟨none, .store 27 (.tmp 20) (.tmp 19), _, _, _, _⟩ :: _) _ _)
     refine wpList_store_mid rfl 27 (.tmp 20) (.tmp 19) rfl w.heap.size 4 #[.int .u8 (P.lg.1 : Nat), .slice qG nG cG] (by rfl) (by rfl) (there_row17 CWw4.out.pol (show 4 + 2 ≤ 13 by decide)) HLI.out (one16 _ _ _ _) ?_
     show wpList _ _ _ _ _ (w4.setCells w.heap.size 4 [.int .u8 (P.lg.1 : Nat), .slice qG nG cG])
     have CWY4 := Lib.hid (CWw4.out.store (p' := ⟨qA, an, cA, qF, nF, cF, qG, nG, cG, qM, mn, cM⟩) 4 [.int .u8 (P.lg.1 : Nat), .slice qG nG cG] (show 4 + 2 ≤ 13 by decide) rfl)
     have RAY4 := Lib.hid (rows_box17 (i := 4) CWw4.out.pol (by decide) RAw4.out [.int .u8 (P.lg.1 : Nat), .slice qG nG cG])
     have RMY4 := Lib.hid (rows_box17 (i := 4) CWw4.out.pol (by decide) RMw4.out [.int .u8 (P.lg.1 : Nat), .slice qG nG cG])
     have RFY4 := Lib.hid (rows_box17 (i := 4) CWw4.out.pol (by decide) RFw4.out [.int .u8 (P.lg.1 : Nat), .slice qG nG cG])
     have RGY4 := Lib.hid (rows_box17 (i := 4) CWw4.out.pol (by decide) RGw4.out [.int .u8 (P.lg.1 : Nat), .slice qG nG cG])
     generalize w4.setCells w.heap.size 4 [.int .u8 (P.lg.1 : Nat), .slice qG nG cG] = Y4 at CWY4 RAY4 RMY4 RFY4 RGY4 ⊢
     obtain ⟨f0, f1, f2, f3, f4, f5, f6, f7, f8, f9, f10, f11, f12⟩ := (show Y4.cell? ⟨w.heap.size, 0, none⟩ = some (.slice qA an cA) ∧ Y4.cell? ⟨w.heap.size, 1, none⟩ = some (.int .u8 (P.fl.1 : Nat)) ∧ Y4.cell? ⟨w.heap.size, 2, none⟩ = some (.slice qF nF cF) ∧ Y4.cell? ⟨w.heap.size, 3, none⟩ = some (.int .u32 (P.dn : Nat)) ∧ Y4.cell? ⟨w.heap.size, 4, none⟩ = some (.int .u8 (P.lg.1 : Nat)) ∧ Y4.cell? ⟨w.heap.size, 5, none⟩ = some (.slice qG nG cG) ∧ Y4.cell? ⟨w.heap.size, 6, none⟩ = some (.slice qM mn cM) ∧ Y4.cell? ⟨w.heap.size, 7, none⟩ = some (.int .u8 (P.fm : Nat)) ∧ Y4.cell? ⟨w.heap.size, 8, none⟩ = some (.int .u64 (P.sp : Nat)) ∧ Y4.cell? ⟨w.heap.size, 9, none⟩ = some (.bool P.b1) ∧ Y4.cell? ⟨w.heap.size, 10, none⟩ = some (.bool P.b2) ∧ Y4.cell? ⟨w.heap.size, 11, none⟩ = some (.bool P.b3) ∧ Y4.cell? ⟨w.heap.size, 12, none⟩ = some (.bool P.b4) from pcells17 CWY4.out.pol)
     clear CWw4 RAw4 RMw4 RFw4 RGw4)
  | ((with_reducible show wpList _ _ _ (⟨none, .store 32 (.tmp 2) (.tmp 21), _, _, _, _⟩ :: _) _ _)
     refine wpList_store_mid rfl 32 (.tmp 2) (.tmp 21) rfl (w.heap.size + 1) 0 (plC ⟨qA, an, cA, qF, nF, cF, qG, nG, cG, qM, mn, cM⟩ P).toArray (by rfl) (by rfl) (there_row17 CWY4.out.res (show 0 + 13 ≤ 13 by decide)) pl_info (plC_one _ _) ?_
     show wpList _ _ _ _ _ (Y4.setCells (w.heap.size + 1) 0 (plC ⟨qA, an, cA, qF, nF, cF, qG, nG, cG, qM, mn, cM⟩ P))
     have hl := run_loadVar_mid (P := Tryd.prog) (Y4.setCells (w.heap.size + 1) 0 (plC ⟨qA, an, cA, qF, nF, cF, qG, nG, cG, qM, mn, cM⟩ P)) (w.heap.size + 1) 0 32 (plC ⟨qA, an, cA, qF, nF, cF, qG, nG, cG, qM, mn, cM⟩ P) _ (World.rangeAt_setCells_same Y4 _ 0 _ (there_row17 CWY4.out.res (show 0 + 13 ≤ 13 by decide))) Tryd.underlying32 rfl pl_info
     have HB := Lib.hid (below_setCells16 (show w.heap.size ≤ w.heap.size + 1 by omega) (plC ⟨qA, an, cA, qF, nF, cF, qG, nG, cG, qM, mn, cM⟩ P) 0 _ CWY4.out.bel)
     have RAZ := Lib.hid (rows_box17 (i := 0) CWY4.out.res (by decide) RAY4.out (plC ⟨qA, an, cA, qF, nF, cF, qG, nG, cG, qM, mn, cM⟩ P))
     have RMZ := Lib.hid (rows_box17 (i := 0) CWY4.out.res (by decide) RMY4.out (plC ⟨qA, an, cA, qF, nF, cF, qG, nG, cG, qM, mn, cM⟩ P))
     have RFZ := Lib.hid (rows_box17 (i := 0) CWY4.out.res (by decide) RFY4.out (plC ⟨qA, an, cA, qF, nF, cF, qG, nG, cG, qM, mn, cM⟩ P))
     have RGZ := Lib.hid (rows_box17 (i := 0) CWY4.out.res (by decide) RGY4.out (plC ⟨qA, an, cA, qF, nF, cF, qG, nG, cG, qM, mn, cM⟩ P))
     generalize Y4.setCells (w.heap.size + 1) 0 (plC ⟨qA, an, cA, qF, nF, cF, qG, nG, cG, qM, mn, cM⟩ P) = Z at hl HB RAZ RMZ RFZ RGZ ⊢)
  | fail)
  (try simp only [Exit.inBlock, Exit.then])
  refine bodyPost_ret (v := .agg (plC ⟨qA, an, cA, qF, nF, cF, qG, nG, cG, qM, mn, cM⟩ P).toArray) (results_one16 Tryd.results13 ?_ hl) rfl ⟨⟨qA, an, cA, qF, nF, cF, qG, nG, cG, qM, mn, cM⟩, rfl, ⟨HL0.out.symm, HF.out.symm, HG.out.symm, ?_, nums_own17 RAZ.out HL0.out.symm, LsAt.of_own RFZ.out HF.out.symm, LsAt.of_own RGZ.out HG.out.symm, ?_⟩, HB.out⟩
  · rfl
  · exact HL1.out.symm.trans (by rw [HNM.out, List.length_map])
  · rw [← HNM.out]
    exact nums_own17 RMZ.out HL1.out.symm
end Go.Proofs.YtbjhleajhkofeaaDoor
namespace Go.Proofs.YtbjhleajhkofeaaDoor
open Go.RowKit
set_option linter.unusedVariables false
set_option linter.unusedSimpArgs false
attribute [local go_sem ↓] Go.wp_at_zero Go.wp_at_succ

/-- A row whose cells may be any. -/
def RowW (B : Nat) (t : TypeId) (s : Nat) (v : Value) (n : Nat) (w : World) : Prop := ∃ xs, w.ownsRow B t s v n xs
theorem RowW.set {B : Nat} {t : TypeId} {s : Nat} {v : Value} {n : Nat} {w : World} (h : RowW B t s v n w) (g i : Nat) (x : Value) : RowW B t s v n (w.setCell ⟨g, i, none⟩ x) := by
  obtain ⟨xs, h0, h⟩ := h
  rcases h with h | ⟨g2, cap, cur, hv, hB, hg, h1, h2, h3, h4⟩
  · exact ⟨xs, h0, Or.inl h⟩
  · by_cases e : g2 = g
    · subst e
      refine ⟨(cur.setIfInBounds i x).toList.take (n * s), ?_, Or.inr ⟨g2, cap, cur.setIfInBounds i x, hv, hB, ?_, h1, h2, ?_, ?_⟩⟩
      · rw [List.length_take, Array.length_toList, Array.size_setIfInBounds, h3]
        exact Nat.min_eq_left (Nat.mul_le_mul_right _ h1)
      · simp [World.setCell, Array.getElem?_modify, hg]
      · rw [Array.size_setIfInBounds]; exact h3
      · rfl
    · exact ⟨xs, h0, Or.inr ⟨g2, cap, cur, hv, hB, (heap_setCell_other w ⟨g, i, none⟩ g2 x e).trans hg, h1, h2, h3, h4⟩⟩
end Go.Proofs.YtbjhleajhkofeaaDoor
namespace Go.Proofs.YtbjhleajhkofeaaDoor
open Go.RowKit
set_option linter.unusedVariables false
set_option linter.unusedSimpArgs false
attribute [local go_sem ↓] Go.wp_at_zero Go.wp_at_succ

/-- A policy in rows of its own, from B on. -/
structure OwnP (B : Nat) (w : World) (p : Pls) (P : Pol) : Prop where
  al : p.an = P.ar.length
  fl : p.fn = P.fl.2.length
  ll : p.ln = P.lg.2.length
  ml : p.mn = P.fa.length
  ar : w.ownsRow B 3 1 (.slice p.aq p.an p.ac) p.an (P.ar.map (Value.int .i64))
  fi : w.ownsRow B 82 2 (.slice p.fq p.fn p.fc) p.fn (rowC encC P.fl.2)
  lo : w.ownsRow B 82 2 (.slice p.lq p.ln p.lc) p.ln (rowC encC P.lg.2)
  fa : w.ownsRow B 28 1 (.slice p.mq p.mn p.mc) p.mn ((P.fa.map fun (x : Nat) => (x : Int)).map (Value.int .u32))
theorem OwnP.pol {B : Nat} {w : World} {p : Pls} {P : Pol} (h : OwnP B w p P) : PolAt w p P := ⟨h.al, h.fl, h.ll, h.ml, nums_own17 h.ar h.al, LsAt.of_own h.fi h.fl, LsAt.of_own h.lo h.ll, nums_own17 h.fa (by rw [List.length_map]; exact h.ml)⟩
theorem OwnP.on {B : Nat} {w w' : World} {p : Pls} {P : Pol} (h : OwnP B w p P) (b : Below w.heap.size w w') : OwnP B w' p P := ⟨h.al, h.fl, h.ll, h.ml, owns_on16 h.ar b, owns_on16 h.fi b, owns_on16 h.lo b, owns_on16 h.fa b⟩
end Go.Proofs.YtbjhleajhkofeaaDoor
