/- The document's own Same: policies of the same make are the same. Conditions: lists of at most 1,000,000. Are a policy and an assignment more than are gone through? No condition. -/
import Derived.Test.YtlenjfodjkhpmaaGreatDoorP3
import Derived.Test.YtlenjfodjkhpmaaGreatDoorF8
namespace Go.Proofs.YtlenjfodjkhpmaaGreatDoor
set_option maxRecDepth 100000
open Go.Lib (hid)
open Go.RowKit
set_option linter.unusedVariables false
set_option linter.unusedSimpArgs false
attribute [local go_sem ↓] Go.wp_at_zero Go.wp_at_succ

theorem pcells17 {V : World} {p : Pls} {P : Pol} {g : Nat} (h : V.heap[g]? = some (.cells (plC p P).toArray 32 (0, 0))) : V.cell? ⟨g, 0, none⟩ = some (.slice p.aq p.an p.ac) ∧ V.cell? ⟨g, 1, none⟩ = some (.int .u8 (P.fl.1 : Nat)) ∧ V.cell? ⟨g, 2, none⟩ = some (.slice p.fq p.fn p.fc) ∧ V.cell? ⟨g, 3, none⟩ = some (.int .u32 (P.dn : Nat)) ∧ V.cell? ⟨g, 4, none⟩ = some (.int .u8 (P.lg.1 : Nat)) ∧ V.cell? ⟨g, 5, none⟩ = some (.slice p.lq p.ln p.lc) ∧ V.cell? ⟨g, 6, none⟩ = some (.slice p.mq p.mn p.mc) ∧ V.cell? ⟨g, 7, none⟩ = some (.int .u8 (P.fm : Nat)) ∧ V.cell? ⟨g, 8, none⟩ = some (.int .u64 (P.sp : Nat)) ∧ V.cell? ⟨g, 9, none⟩ = some (.bool P.b1) ∧ V.cell? ⟨g, 10, none⟩ = some (.bool P.b2) ∧ V.cell? ⟨g, 11, none⟩ = some (.bool P.b3) ∧ V.cell? ⟨g, 12, none⟩ = some (.bool P.b4) :=
 ⟨(cell_of_row V g 0 _ _ (0, 0) h).trans rfl, (cell_of_row V g 1 _ _ (0, 0) h).trans rfl, (cell_of_row V g 2 _ _ (0, 0) h).trans rfl, (cell_of_row V g 3 _ _ (0, 0) h).trans rfl, (cell_of_row V g 4 _ _ (0, 0) h).trans rfl, (cell_of_row V g 5 _ _ (0, 0) h).trans rfl, (cell_of_row V g 6 _ _ (0, 0) h).trans rfl, (cell_of_row V g 7 _ _ (0, 0) h).trans rfl, (cell_of_row V g 8 _ _ (0, 0) h).trans rfl, (cell_of_row V g 9 _ _ (0, 0) h).trans rfl, (cell_of_row V g 10 _ _ (0, 0) h).trans rfl, (cell_of_row V g 11 _ _ (0, 0) h).trans rfl, (cell_of_row V g 12 _ _ (0, 0) h).trans rfl⟩
set_option maxRecDepth 100000
open Go.Lib (hid)
open Go.RowKit
set_option linter.unusedVariables false
set_option linter.unusedSimpArgs false
attribute [local go_sem ↓] Go.wp_at_zero Go.wp_at_succ

theorem acells17 {V : World} {af ax ak av : ByteArray} {al : Int} {g : Nat} (h : V.heap[g]? = some (.cells #[.string af, .int .i64 al, .string ax, .string ak, .string av] 37 (0, 0))) : V.cell? ⟨g, 0, none⟩ = some (.string af) ∧ V.cell? ⟨g, 1, none⟩ = some (.int .i64 al) ∧ V.cell? ⟨g, 2, none⟩ = some (.string ax) ∧ V.cell? ⟨g, 3, none⟩ = some (.string ak) ∧ V.cell? ⟨g, 4, none⟩ = some (.string av) :=
 ⟨(cell_of_row V g 0 _ _ (0, 0) h).trans rfl, (cell_of_row V g 1 _ _ (0, 0) h).trans rfl, (cell_of_row V g 2 _ _ (0, 0) h).trans rfl, (cell_of_row V g 3 _ _ (0, 0) h).trans rfl, (cell_of_row V g 4 _ _ (0, 0) h).trans rfl⟩
def GreatB (p : Pls) (a : As) : Prop := p.an ≤ 20 ∧ p.mn ≤ 20 ∧ p.fn ≤ 100 ∧ p.ln ≤ 100 ∧ a.val.size ≤ 1000 ∧ a.key.size ≤ 200 ∧ a.file.size ≤ 200
def GreatR17 (p : Pls) (a : As) (w : World) (e : Ending) (w' : World) : Prop := ∃ b, e = .returned (.bool b) ∧ (b = false → GreatB p a) ∧ (b = true → ¬ GreatB p a) ∧ Below w.heap.size w w'
set_option maxHeartbeats 16000000 in
theorem great17 (p : Pls) (P : Pol) (a : As) (w : World) : Calls Tryz.prog 16 #[plV p P, asV a] w fun e w' => GreatR17 p a w e w' := by
 obtain ⟨af, al, ax, ak, av⟩ := a
 unfold asV
 simp only
 obtain ⟨W, hW⟩ : ∃ W, W = (w.alloc (.cells #[.slice p.aq p.an p.ac, .int .u8 (P.fl.1 : Nat), .slice p.fq p.fn p.fc, .int .u32 (P.dn : Nat), .int .u8 (P.lg.1 : Nat), .slice p.lq p.ln p.lc, .slice p.mq p.mn p.mc, .int .u8 (P.fm : Nat), .int .u64 (P.sp : Nat), .bool P.b1, .bool P.b2, .bool P.b3, .bool P.b4] 32)).alloc (.cells #[.string af, .int .i64 al, .string ax, .string ak, .string av] 37) := ⟨_, rfl⟩
 have R0 := hid (show W.heap[w.heap.size]? = some (.cells (plC p P).toArray 32 (0, 0)) by rw [hW]; exact (Below.heap_alloc _ _ _ (by rw [World.size_alloc]; exact Nat.lt_succ_self _)).trans (heap_alloc_new w _))
 have R1 := hid (show W.heap[w.heap.size + 1]? = some (.cells #[.string af, .int .i64 al, .string ax, .string ak, .string av] 37 (0, 0)) by rw [hW, ← World.size_alloc w]; exact heap_alloc_new _ _)
 have BB := hid (show Below w.heap.size w W from hW ▸ ((Below.refl _ _).alloc (Nat.le_refl _) _).alloc (by rw [World.size_alloc]; exact Nat.le_succ _) _)
 have hlt0 : w.heap.size < W.heap.size := by rw [hW, World.size_alloc, World.size_alloc]; omega
 have hlt1 : w.heap.size + 1 < W.heap.size := by rw [hW, World.size_alloc, World.size_alloc]; omega
 have HWW := hid hW
 rw [show plV p P = .agg #[.slice p.aq p.an p.ac, .int .u8 (P.fl.1 : Nat), .slice p.fq p.fn p.fc, .int .u32 (P.dn : Nat), .int .u8 (P.lg.1 : Nat), .slice p.lq p.ln p.lc, .slice p.mq p.mn p.mc, .int .u8 (P.fm : Nat), .int .u64 (P.sp : Nat), .bool P.b1, .bool P.b2, .bool P.b3, .bool P.b4] from rfl]
 clear hW
 by_cases h0 : 20 < p.an
 ·have NB := hid (show ¬ GreatB p ⟨af, al, ax, ak, av⟩ by unfold GreatB; simp only; omega)
  have k0 : (20 : Int) < (p.an : Nat) := by omega
  clear h0
  go_enter Tryz.func16, Tryz.ntmps16
  go_wp2_with (first
   | (go_at_call 33; (first | rw [← HWW.out] | skip); (with_reducible refine (HC2.out _).mono ?_); rintro e w1 ⟨rfl, b1⟩
      have BV := hid (thn16 (by first | exact BV.out | exact Below.refl _ _) b1)
      obtain ⟨f0, f1, f2, f3, f4, f5, f6, f7, f8, f9, f10, f11, f12⟩ := pcells17 ((BV.out.block _ hlt0).trans R0.out)
      obtain ⟨g0, g1, g2, g3, g4⟩ := acells17 ((BV.out.block _ hlt1).trans R1.out)
      clear b1)
   | (go_at_call 33; (first | rw [← HWW.out] | skip); (with_reducible refine (HC3.out _).mono ?_); rintro e w1 ⟨rfl, b1⟩
      have BV := hid (thn16 (by first | exact BV.out | exact Below.refl _ _) b1)
      obtain ⟨f0, f1, f2, f3, f4, f5, f6, f7, f8, f9, f10, f11, f12⟩ := pcells17 ((BV.out.block _ hlt0).trans R0.out)
      obtain ⟨g0, g1, g2, g3, g4⟩ := acells17 ((BV.out.block _ hlt1).trans R1.out)
      clear b1)
   | fail)
  go_ret
  unfold GreatR17
  exact ⟨true, by first | rfl | (simp; done) | (simp; omega), (fun h => by cases h), (fun _ => NB.out), by first | exact thn16 BB.out BV.out | (rw [← HWW.out]; exact BB.out)⟩

 ·by_cases h1 : 20 < p.mn
  ·have NB := hid (show ¬ GreatB p ⟨af, al, ax, ak, av⟩ by unfold GreatB; simp only; omega)
   have k0 : ¬ (20 : Int) < (p.an : Nat) := by omega
   have k1 : (20 : Int) < (p.mn : Nat) := by omega
   clear h0 h1
   go_enter Tryz.func16, Tryz.ntmps16
   go_wp2_with (first
    | (go_at_call 33; (first | rw [← HWW.out] | skip); (with_reducible refine (HC2.out _).mono ?_); rintro e w1 ⟨rfl, b1⟩
       have BV := hid (thn16 (by first | exact BV.out | exact Below.refl _ _) b1)
       obtain ⟨f0, f1, f2, f3, f4, f5, f6, f7, f8, f9, f10, f11, f12⟩ := pcells17 ((BV.out.block _ hlt0).trans R0.out)
       obtain ⟨g0, g1, g2, g3, g4⟩ := acells17 ((BV.out.block _ hlt1).trans R1.out)
       clear b1)
    | (go_at_call 33; (first | rw [← HWW.out] | skip); (with_reducible refine (HC3.out _).mono ?_); rintro e w1 ⟨rfl, b1⟩
       have BV := hid (thn16 (by first | exact BV.out | exact Below.refl _ _) b1)
       obtain ⟨f0, f1, f2, f3, f4, f5, f6, f7, f8, f9, f10, f11, f12⟩ := pcells17 ((BV.out.block _ hlt0).trans R0.out)
       obtain ⟨g0, g1, g2, g3, g4⟩ := acells17 ((BV.out.block _ hlt1).trans R1.out)
       clear b1)
    | fail)
   go_ret
   unfold GreatR17
   exact ⟨true, by first | rfl | (simp; done) | (simp; omega), (fun h => by cases h), (fun _ => NB.out), by first | exact thn16 BB.out BV.out | (rw [← HWW.out]; exact BB.out)⟩

  ·by_cases h2 : 100 < p.fn
   ·have NB := hid (show ¬ GreatB p ⟨af, al, ax, ak, av⟩ by unfold GreatB; simp only; omega)
    have k0 : ¬ (20 : Int) < (p.an : Nat) := by omega
    have k1 : ¬ (20 : Int) < (p.mn : Nat) := by omega
    have HC2 := hid (fun (X : World) => (great16 P.fl.1 p.fq p.fn p.fc X).mono fun e w' h => (show e = .returned (.bool true) ∧ Below X.heap.size X w' by rw [decide_eq_true h2] at h; exact h))
    unfold lsV at HC2
    clear h0 h1 h2
    go_enter Tryz.func16, Tryz.ntmps16
    go_wp2_with (first
     | (go_at_call 33; (first | rw [← HWW.out] | skip); (with_reducible refine (HC2.out _).mono ?_); rintro e w1 ⟨rfl, b1⟩
        have BV := hid (thn16 (by first | exact BV.out | exact Below.refl _ _) b1)
        obtain ⟨f0, f1, f2, f3, f4, f5, f6, f7, f8, f9, f10, f11, f12⟩ := pcells17 ((BV.out.block _ hlt0).trans R0.out)
        obtain ⟨g0, g1, g2, g3, g4⟩ := acells17 ((BV.out.block _ hlt1).trans R1.out)
        clear b1)
     | (go_at_call 33; (first | rw [← HWW.out] | skip); (with_reducible refine (HC3.out _).mono ?_); rintro e w1 ⟨rfl, b1⟩
        have BV := hid (thn16 (by first | exact BV.out | exact Below.refl _ _) b1)
        obtain ⟨f0, f1, f2, f3, f4, f5, f6, f7, f8, f9, f10, f11, f12⟩ := pcells17 ((BV.out.block _ hlt0).trans R0.out)
        obtain ⟨g0, g1, g2, g3, g4⟩ := acells17 ((BV.out.block _ hlt1).trans R1.out)
        clear b1)
     | fail)
    go_ret
    unfold GreatR17
    exact ⟨true, by first | rfl | (simp; done) | (simp; omega), (fun h => by cases h), (fun _ => NB.out), by first | exact thn16 BB.out BV.out | (rw [← HWW.out]; exact BB.out)⟩

   ·by_cases h3 : 100 < p.ln
    ·have NB := hid (show ¬ GreatB p ⟨af, al, ax, ak, av⟩ by unfold GreatB; simp only; omega)
     have k0 : ¬ (20 : Int) < (p.an : Nat) := by omega
     have k1 : ¬ (20 : Int) < (p.mn : Nat) := by omega
     have HC2 := hid (fun (X : World) => (great16 P.fl.1 p.fq p.fn p.fc X).mono fun e w' h => (show e = .returned (.bool false) ∧ Below X.heap.size X w' by rw [decide_eq_false h2] at h; exact h))
     unfold lsV at HC2
     have HC3 := hid (fun (X : World) => (great16 P.lg.1 p.lq p.ln p.lc X).mono fun e w' h => (show e = .returned (.bool true) ∧ Below X.heap.size X w' by rw [decide_eq_true h3] at h; exact h))
     unfold lsV at HC3
     clear h0 h1 h2 h3
     go_enter Tryz.func16, Tryz.ntmps16
     go_wp2_with (first
      | (go_at_call 33; (first | rw [← HWW.out] | skip); (with_reducible refine (HC2.out _).mono ?_); rintro e w1 ⟨rfl, b1⟩
         have BV := hid (thn16 (by first | exact BV.out | exact Below.refl _ _) b1)
         obtain ⟨f0, f1, f2, f3, f4, f5, f6, f7, f8, f9, f10, f11, f12⟩ := pcells17 ((BV.out.block _ hlt0).trans R0.out)
         obtain ⟨g0, g1, g2, g3, g4⟩ := acells17 ((BV.out.block _ hlt1).trans R1.out)
         clear b1)
      | (go_at_call 33; (first | rw [← HWW.out] | skip); (with_reducible refine (HC3.out _).mono ?_); rintro e w1 ⟨rfl, b1⟩
         have BV := hid (thn16 (by first | exact BV.out | exact Below.refl _ _) b1)
         obtain ⟨f0, f1, f2, f3, f4, f5, f6, f7, f8, f9, f10, f11, f12⟩ := pcells17 ((BV.out.block _ hlt0).trans R0.out)
         obtain ⟨g0, g1, g2, g3, g4⟩ := acells17 ((BV.out.block _ hlt1).trans R1.out)
         clear b1)
      | fail)
     go_ret
     unfold GreatR17
     exact ⟨true, by first | rfl | (simp; done) | (simp; omega), (fun h => by cases h), (fun _ => NB.out), by first | exact thn16 BB.out BV.out | (rw [← HWW.out]; exact BB.out)⟩

    ·by_cases h4 : 1000 < av.size
     ·have NB := hid (show ¬ GreatB p ⟨af, al, ax, ak, av⟩ by unfold GreatB; simp only; omega)
      have k0 : ¬ (20 : Int) < (p.an : Nat) := by omega
      have k1 : ¬ (20 : Int) < (p.mn : Nat) := by omega
      have HC2 := hid (fun (X : World) => (great16 P.fl.1 p.fq p.fn p.fc X).mono fun e w' h => (show e = .returned (.bool false) ∧ Below X.heap.size X w' by rw [decide_eq_false h2] at h; exact h))
      unfold lsV at HC2
      have HC3 := hid (fun (X : World) => (great16 P.lg.1 p.lq p.ln p.lc X).mono fun e w' h => (show e = .returned (.bool false) ∧ Below X.heap.size X w' by rw [decide_eq_false h3] at h; exact h))
      unfold lsV at HC3
      have k4 : (1000 : Int) < (av.size : Nat) := by omega
      clear h0 h1 h2 h3 h4
      go_enter Tryz.func16, Tryz.ntmps16
      go_wp2_with (first
       | (go_at_call 33; (first | rw [← HWW.out] | skip); (with_reducible refine (HC2.out _).mono ?_); rintro e w1 ⟨rfl, b1⟩
          have BV := hid (thn16 (by first | exact BV.out | exact Below.refl _ _) b1)
          obtain ⟨f0, f1, f2, f3, f4, f5, f6, f7, f8, f9, f10, f11, f12⟩ := pcells17 ((BV.out.block _ hlt0).trans R0.out)
          obtain ⟨g0, g1, g2, g3, g4⟩ := acells17 ((BV.out.block _ hlt1).trans R1.out)
          clear b1)
       | (go_at_call 33; (first | rw [← HWW.out] | skip); (with_reducible refine (HC3.out _).mono ?_); rintro e w1 ⟨rfl, b1⟩
          have BV := hid (thn16 (by first | exact BV.out | exact Below.refl _ _) b1)
          obtain ⟨f0, f1, f2, f3, f4, f5, f6, f7, f8, f9, f10, f11, f12⟩ := pcells17 ((BV.out.block _ hlt0).trans R0.out)
          obtain ⟨g0, g1, g2, g3, g4⟩ := acells17 ((BV.out.block _ hlt1).trans R1.out)
          clear b1)
       | fail)
      go_ret
      unfold GreatR17
      exact ⟨true, by first | rfl | (simp; done) | (simp; omega), (fun h => by cases h), (fun _ => NB.out), by first | exact thn16 BB.out BV.out | (rw [← HWW.out]; exact BB.out)⟩

     ·by_cases h5 : 200 < ak.size
      ·have NB := hid (show ¬ GreatB p ⟨af, al, ax, ak, av⟩ by unfold GreatB; simp only; omega)
       have k0 : ¬ (20 : Int) < (p.an : Nat) := by omega
       have k1 : ¬ (20 : Int) < (p.mn : Nat) := by omega
       have HC2 := hid (fun (X : World) => (great16 P.fl.1 p.fq p.fn p.fc X).mono fun e w' h => (show e = .returned (.bool false) ∧ Below X.heap.size X w' by rw [decide_eq_false h2] at h; exact h))
       unfold lsV at HC2
       have HC3 := hid (fun (X : World) => (great16 P.lg.1 p.lq p.ln p.lc X).mono fun e w' h => (show e = .returned (.bool false) ∧ Below X.heap.size X w' by rw [decide_eq_false h3] at h; exact h))
       unfold lsV at HC3
       have k4 : ¬ (1000 : Int) < (av.size : Nat) := by omega
       have k5 : (200 : Int) < (ak.size : Nat) := by omega
       clear h0 h1 h2 h3 h4 h5
       go_enter Tryz.func16, Tryz.ntmps16
       go_wp2_with (first
        | (go_at_call 33; (first | rw [← HWW.out] | skip); (with_reducible refine (HC2.out _).mono ?_); rintro e w1 ⟨rfl, b1⟩
           have BV := hid (thn16 (by first | exact BV.out | exact Below.refl _ _) b1)
           obtain ⟨f0, f1, f2, f3, f4, f5, f6, f7, f8, f9, f10, f11, f12⟩ := pcells17 ((BV.out.block _ hlt0).trans R0.out)
           obtain ⟨g0, g1, g2, g3, g4⟩ := acells17 ((BV.out.block _ hlt1).trans R1.out)
           clear b1)
        | (go_at_call 33; (first | rw [← HWW.out] | skip); (with_reducible refine (HC3.out _).mono ?_); rintro e w1 ⟨rfl, b1⟩
           have BV := hid (thn16 (by first | exact BV.out | exact Below.refl _ _) b1)
           obtain ⟨f0, f1, f2, f3, f4, f5, f6, f7, f8, f9, f10, f11, f12⟩ := pcells17 ((BV.out.block _ hlt0).trans R0.out)
           obtain ⟨g0, g1, g2, g3, g4⟩ := acells17 ((BV.out.block _ hlt1).trans R1.out)
           clear b1)
        | fail)
       go_ret
       unfold GreatR17
       exact ⟨true, by first | rfl | (simp; done) | (simp; omega), (fun h => by cases h), (fun _ => NB.out), by first | exact thn16 BB.out BV.out | (rw [← HWW.out]; exact BB.out)⟩

      ·by_cases h6 : 200 < af.size
       ·have NB := hid (show ¬ GreatB p ⟨af, al, ax, ak, av⟩ by unfold GreatB; simp only; omega)
        have k0 : ¬ (20 : Int) < (p.an : Nat) := by omega
        have k1 : ¬ (20 : Int) < (p.mn : Nat) := by omega
        have HC2 := hid (fun (X : World) => (great16 P.fl.1 p.fq p.fn p.fc X).mono fun e w' h => (show e = .returned (.bool false) ∧ Below X.heap.size X w' by rw [decide_eq_false h2] at h; exact h))
        unfold lsV at HC2
        have HC3 := hid (fun (X : World) => (great16 P.lg.1 p.lq p.ln p.lc X).mono fun e w' h => (show e = .returned (.bool false) ∧ Below X.heap.size X w' by rw [decide_eq_false h3] at h; exact h))
        unfold lsV at HC3
        have k4 : ¬ (1000 : Int) < (av.size : Nat) := by omega
        have k5 : ¬ (200 : Int) < (ak.size : Nat) := by omega
        have k6 : (200 : Int) < (af.size : Nat) := by omega
        clear h0 h1 h2 h3 h4 h5 h6
        go_enter Tryz.func16, Tryz.ntmps16
        go_wp2_with (first
         | (go_at_call 33; (first | rw [← HWW.out] | skip); (with_reducible refine (HC2.out _).mono ?_); rintro e w1 ⟨rfl, b1⟩
            have BV := hid (thn16 (by first | exact BV.out | exact Below.refl _ _) b1)
            obtain ⟨f0, f1, f2, f3, f4, f5, f6, f7, f8, f9, f10, f11, f12⟩ := pcells17 ((BV.out.block _ hlt0).trans R0.out)
            obtain ⟨g0, g1, g2, g3, g4⟩ := acells17 ((BV.out.block _ hlt1).trans R1.out)
            clear b1)
         | (go_at_call 33; (first | rw [← HWW.out] | skip); (with_reducible refine (HC3.out _).mono ?_); rintro e w1 ⟨rfl, b1⟩
            have BV := hid (thn16 (by first | exact BV.out | exact Below.refl _ _) b1)
            obtain ⟨f0, f1, f2, f3, f4, f5, f6, f7, f8, f9, f10, f11, f12⟩ := pcells17 ((BV.out.block _ hlt0).trans R0.out)
            obtain ⟨g0, g1, g2, g3, g4⟩ := acells17 ((BV.out.block _ hlt1).trans R1.out)
            clear b1)
         | fail)
        go_ret
        unfold GreatR17
        exact ⟨true, by first | rfl | (simp; done) | (simp; omega), (fun h => by cases h), (fun _ => NB.out), by first | exact thn16 BB.out BV.out | (rw [← HWW.out]; exact BB.out)⟩

       ·have LIM := hid (show GreatB p ⟨af, al, ax, ak, av⟩ by unfold GreatB; simp only; omega)
        have k0 : ¬ (20 : Int) < (p.an : Nat) := by omega
        have k1 : ¬ (20 : Int) < (p.mn : Nat) := by omega
        have HC2 := hid (fun (X : World) => (great16 P.fl.1 p.fq p.fn p.fc X).mono fun e w' h => (show e = .returned (.bool false) ∧ Below X.heap.size X w' by rw [decide_eq_false h2] at h; exact h))
        unfold lsV at HC2
        have HC3 := hid (fun (X : World) => (great16 P.lg.1 p.lq p.ln p.lc X).mono fun e w' h => (show e = .returned (.bool false) ∧ Below X.heap.size X w' by rw [decide_eq_false h3] at h; exact h))
        unfold lsV at HC3
        have k4 : ¬ (1000 : Int) < (av.size : Nat) := by omega
        have k5 : ¬ (200 : Int) < (ak.size : Nat) := by omega
        have k6 : ¬ (200 : Int) < (af.size : Nat) := by omega
        clear h0 h1 h2 h3 h4 h5 h6
        go_enter Tryz.func16, Tryz.ntmps16
        go_wp2_with (first
         | (go_at_call 33; (first | rw [← HWW.out] | skip); (with_reducible refine (HC2.out _).mono ?_); rintro e w1 ⟨rfl, b1⟩
            have BV := hid (thn16 (by first | exact BV.out | exact Below.refl _ _) b1)
            obtain ⟨f0, f1, f2, f3, f4, f5, f6, f7, f8, f9, f10, f11, f12⟩ := pcells17 ((BV.out.block _ hlt0).trans R0.out)
            obtain ⟨g0, g1, g2, g3, g4⟩ := acells17 ((BV.out.block _ hlt1).trans R1.out)
            clear b1)
         | (go_at_call 33; (first | rw [← HWW.out] | skip); (with_reducible refine (HC3.out _).mono ?_); rintro e w1 ⟨rfl, b1⟩
            have BV := hid (thn16 (by first | exact BV.out | exact Below.refl _ _) b1)
            obtain ⟨f0, f1, f2, f3, f4, f5, f6, f7, f8, f9, f10, f11, f12⟩ := pcells17 ((BV.out.block _ hlt0).trans R0.out)
            obtain ⟨g0, g1, g2, g3, g4⟩ := acells17 ((BV.out.block _ hlt1).trans R1.out)
            clear b1)
         | fail)
        go_ret
        unfold GreatR17
        exact ⟨false, by first | rfl | (simp; done) | (simp; omega), (fun _ => LIM.out), (fun h => by cases h), thn16 BB.out BV.out⟩

theorem great_no17 (p : Pls) (P : Pol) (a : As) (h : GreatB p a) (w : World) : Calls Tryz.prog 16 #[plV p P, asV a] w fun e w' => e = .returned (.bool false) ∧ Below w.heap.size w w' :=
 (great17 p P a w).mono fun e w' ⟨b, he, _, h2, hb⟩ => by
   cases b
   ·exact ⟨he, hb⟩
   ·exact absurd h (h2 rfl)
theorem great_yes17 (p : Pls) (P : Pol) (a : As) (h : ¬ GreatB p a) (w : World) : Calls Tryz.prog 16 #[plV p P, asV a] w fun e w' => e = .returned (.bool true) ∧ Below w.heap.size w w' :=
 (great17 p P a w).mono fun e w' ⟨b, he, h1, _, hb⟩ => by
   cases b
   ·exact absurd (h1 rfl) h
   ·exact ⟨he, hb⟩
end Go.Proofs.YtlenjfodjkhpmaaGreatDoor
