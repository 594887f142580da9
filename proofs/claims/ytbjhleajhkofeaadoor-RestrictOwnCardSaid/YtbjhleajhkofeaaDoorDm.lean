/- What the walks of RestrictOwn share. -/
import Derived.Test.YtbjhleajhkofeaaDoorD2
import Derived.BigQuiet
import Derived.Deep.QuietTactic
import Derived.Test.YtbjhleajhkofeaaDoorD4
namespace Go.Proofs.YtbjhleajhkofeaaDoor
open Go.RowKit
set_option linter.unusedVariables false
set_option linter.unusedSimpArgs false
attribute [local go_sem ↓] Go.wp_at_zero Go.wp_at_succ

def nbr18 (L : List Int) (m : Nat) : Prop := ∀ i x y, i < m → L[i]? = some x → L[i + 1]? = some y → x < y
theorem nbr_pair18 : ∀ {L : List Int} {m : Nat}, nbr18 L m → L.length ≤ m + 1 → L.Pairwise fun a b => ltI a b = true
  | [], _, _, _ => List.Pairwise.nil
  | [a], _, _, _ => List.pairwise_singleton _ _
  | a :: b :: r, m, h, hl => by
    have ih : (b :: r).Pairwise fun a b => ltI a b = true := nbr_pair18 (m := m - 1) (fun i x y hi h1 h2 => h (i + 1) x y (by omega) (by simpa using h1) (by simpa using h2)) (by simp only [List.length_cons] at hl ⊢; omega)
    have hab : a < b := h 0 a b (by simp only [List.length_cons] at hl; omega) rfl rfl
    refine List.pairwise_cons.2 ⟨fun c hc => ?_, ih⟩
    have h1 : ltI a b = true := decide_eq_true hab
    rcases List.mem_cons.1 hc with rfl | hc
    · exact h1
    · exact ordI.tr _ _ _ h1 ((List.pairwise_cons.1 ih).1 c hc)
theorem nbr_of18 {L : List Int} (h : L.Pairwise fun a b => ltI a b = true) (i : Nat) (x y : Int) (hx : L[i]? = some x) (hy : L[i + 1]? = some y) : x < y := by
  obtain ⟨l1, e1⟩ := List.getElem?_eq_some_iff.1 hx
  obtain ⟨l2, e2⟩ := List.getElem?_eq_some_iff.1 hy
  have := List.pairwise_iff_getElem.1 h i (i + 1) l1 l2 (Nat.lt_succ_self i)
  rw [e1, e2] at this
  exact of_decide_eq_true this
theorem fam_pair18 {l : List Nat} (h : l.Pairwise fun a b => ltN18 a b = true) : (l.map fun (x : Nat) => (x : Int)).Pairwise fun a b => ltI a b = true :=
  List.pairwise_map.2 (h.imp fun {a b} e => by unfold ltN18 at e; unfold ltI; simp at e ⊢; omega)
theorem pair_fam18 {l : List Nat} (h : (l.map fun (x : Nat) => (x : Int)).Pairwise fun a b => ltI a b = true) : l.Pairwise fun a b => ltN18 a b = true :=
  (List.pairwise_map.1 h).imp fun {a b} e => by unfold ltI at e; unfold ltN18; simp at e ⊢; omega
set_option maxRecDepth 100000 in
set_option maxHeartbeats 16000000 in
theorem rises_c18 (p : Pls) (P : Pol) (w : World) (hP : PolAt w p P) (la : p.an ≤ 10000) (lm : p.mn ≤ 10000) : Calls Tryd.prog 11 #[plV p P] w fun e w' => ∃ b, e = .returned (.bool b) ∧ (b = true → Rises18 P) ∧ (b = false → ¬ Rises18 P) ∧ Below w.heap.size w w' := by
  obtain ⟨W, hW⟩ : ∃ W, W = w.alloc (.cells #[.slice p.aq p.an p.ac, .int .u8 (P.fl.1 : Nat), .slice p.fq p.fn p.fc, .int .u32 (P.dn : Nat), .int .u8 (P.lg.1 : Nat), .slice p.lq p.ln p.lc, .slice p.mq p.mn p.mc, .int .u8 (P.fm : Nat), .int .u64 (P.sp : Nat), .bool P.b1, .bool P.b2, .bool P.b3, .bool P.b4] 32) := ⟨_, rfl⟩
  have X0 := Lib.hid (show W.heap[w.heap.size]? = some (.cells (plC p P).toArray 32 (0, 0)) by rw [hW]; exact heap_alloc_new w _)
  have B0 := Lib.hid (show Below w.heap.size w W from hW ▸ below16 w _)
  have HPZ := Lib.hid (fun (X : World) (b : Below W.heap.size W X) => (hP.on B0.out).on b)
  have HAL := Lib.hid hP.al
  have HML0 := Lib.hid hP.ml
  have HML := Lib.hid (show p.mn = (P.fa.map fun (x : Nat) => (x : Int)).length by rw [List.length_map]; exact hP.ml)
  have BZ := Lib.hid (Below.refl W.heap.size W)
  rw [show plV p P = .agg #[.slice p.aq p.an p.ac, .int .u8 (P.fl.1 : Nat), .slice p.fq p.fn p.fc, .int .u32 (P.dn : Nat), .int .u8 (P.lg.1 : Nat), .slice p.lq p.ln p.lc, .slice p.mq p.mn p.mc, .int .u8 (P.fm : Nat), .int .u64 (P.sp : Nat), .bool P.b1, .bool P.b2, .bool P.b3, .bool P.b4] from rfl]
  clear hP
  go_enter Tryd.func11, Tryd.ntmps11
  go_wp2_with fail
  rw [← hW]
  clear hW
  go_loopw [3] (fun v3 wr => ∃ m J : Nat, J = m + 1 ∧ (m = 0 ∨ J ≤ p.an) ∧ v3 = .int .i64 J ∧ Hid (Below W.heap.size W wr) ∧ Hid (nbr18 P.ar m)) (fun v3 _ => p.an - (intOf v3).toNat)
  case atStart => exact ⟨0, 1, rfl, .inl rfl, rfl, BZ, Lib.hid (fun i x y h => absurd h (Nat.not_lt_zero _))⟩
  case round =>
    clear BZ
    obtain ⟨m, J, hJ, hmJ, rfl, BZ, hnb⟩ := hrel
    obtain ⟨V, rfl⟩ : ∃ wo : World, wo = wr := ⟨_, rfl⟩
    obtain ⟨gp0, gp1, gp2, gp3, gp4, gp5, gp6, gp7, gp8, gp9, gp10, gp11, gp12⟩ := (show V.cell? ⟨w.heap.size, 0, none⟩ = some (.slice p.aq p.an p.ac) ∧ V.cell? ⟨w.heap.size, 1, none⟩ = some (.int .u8 (P.fl.1 : Nat)) ∧ V.cell? ⟨w.heap.size, 2, none⟩ = some (.slice p.fq p.fn p.fc) ∧ V.cell? ⟨w.heap.size, 3, none⟩ = some (.int .u32 (P.dn : Nat)) ∧ V.cell? ⟨w.heap.size, 4, none⟩ = some (.int .u8 (P.lg.1 : Nat)) ∧ V.cell? ⟨w.heap.size, 5, none⟩ = some (.slice p.lq p.ln p.lc) ∧ V.cell? ⟨w.heap.size, 6, none⟩ = some (.slice p.mq p.mn p.mc) ∧ V.cell? ⟨w.heap.size, 7, none⟩ = some (.int .u8 (P.fm : Nat)) ∧ V.cell? ⟨w.heap.size, 8, none⟩ = some (.int .u64 (P.sp : Nat)) ∧ V.cell? ⟨w.heap.size, 9, none⟩ = some (.bool P.b1) ∧ V.cell? ⟨w.heap.size, 10, none⟩ = some (.bool P.b2) ∧ V.cell? ⟨w.heap.size, 11, none⟩ = some (.bool P.b3) ∧ V.cell? ⟨w.heap.size, 12, none⟩ = some (.bool P.b4) from pcells17 (blk_on X0.out BZ.out))
    by_cases hlt : J < p.an
    · have hm : m < p.an := by omega
      obtain ⟨x, hx⟩ : ∃ x, P.ar[m]? = some x := ⟨P.ar[m]'(by first | (rw [← HAL.out]; exact hm) | (rw [List.length_map, ← HML0.out]; exact hm)), List.getElem?_eq_getElem _⟩
      obtain ⟨y, hy⟩ : ∃ y, P.ar[J]? = some y := ⟨P.ar[J]'(by first | (rw [← HAL.out]; exact hlt) | (rw [List.length_map, ← HML0.out]; exact hlt)), List.getElem?_eq_getElem _⟩
      obtain ⟨g, o, e1, c0⟩ := (HPZ.out V BZ.out).ar m x hx
      obtain ⟨g', o', e2, c1⟩ := (HPZ.out V BZ.out).ar J y hy
      rw [e1] at e2
      injection e2 with e2
      injection e2 with e3 e4
      subst e3 e4
      rw [e1] at gp0
      have HX := Lib.hid hx
      have HY := Lib.hid hy
      have HJ := Lib.hid hJ
      have k1 : (m : Int) < p.an := by omega
      have k0 : (0 : Int) ≤ m := by omega
      have k3 : (J : Int) < p.an := by omega
      have k2 : (0 : Int) ≤ J := by omega
      have hs : IntKind.i64.wrap ((J : Int) - 1) = m := by rw [IntKind.wrap_i64]; omega
      have ha : IntKind.i64.wrap ((J : Int) + 1) = (J + 1 : Nat) := by rw [IntKind.wrap_i64]; omega
      clear hx hy e1 hJ
      by_cases hxy : y ≤ x
      · have NR := Lib.hid (show ¬ Rises18 P from fun h => absurd (nbr_of18 h.ar _ x y HX.out (by rw [← HJ.out]; exact HY.out)) (by omega))
        go_wp2_with fail
        go_quiet (fail)
        go_wp2_with fail
        go_ret
        exact ⟨false, rfl, fun h => (by cases h), fun _ => NR.out, thn16 B0.out (by first | exact BZ.out | exact Go.below_drewN BZ.out _)⟩
      · have HN2 := Lib.hid (show nbr18 P.ar J from by
          rw [HJ.out]
          intro i a b hi h1 h2
          by_cases hi2 : i < m
          · exact hnb.out i a b hi2 h1 h2
          · obtain rfl : i = m := by omega
            have h3 := HX.out
            have h4 := HY.out
            rw [HJ.out] at h4
            rw [h3] at h1
            rw [h4] at h2
            injection h1 with h1
            injection h2 with h2
            omega)
        go_wp2_with fail
        go_quiet (fail)
        go_wp2_with fail
        go_roundw
        case rel => exact ⟨J, J + 1, rfl, .inr (by omega), by go_num, Lib.hid (Go.below_drewN BZ.out _), HN2⟩
        case measure => first | (simp [intOf]; done) | (simp [intOf]; omega)
    · have k1 : ¬ (J : Int) < (p.an : Nat) := by omega
      have HR0 := Lib.hid (show P.ar.Pairwise (fun a b => ltI a b = true) from nbr_pair18 (hnb.out) (by rw [← HAL.out]; omega))
      go_wp2_with fail
      clear gp0 gp1 gp2 gp3 gp4 gp5 gp6 gp7 gp8 gp9 gp10 gp11 gp12
      go_loopw [4] (fun v4 wr => ∃ m J : Nat, J = m + 1 ∧ (m = 0 ∨ J ≤ p.mn) ∧ v4 = .int .i64 J ∧ Hid (Below W.heap.size W wr) ∧ Hid (nbr18 (P.fa.map fun (x : Nat) => (x : Int)) m)) (fun v4 _ => p.mn - (intOf v4).toNat)
      case atStart => exact ⟨0, 1, rfl, .inl rfl, rfl, BZ, Lib.hid (fun i x y h => absurd h (Nat.not_lt_zero _))⟩
      case round =>
        clear BZ
        obtain ⟨m, J, hJ, hmJ, rfl, BZ, hnb⟩ := hrel
        obtain ⟨V, rfl⟩ : ∃ wo : World, wo = wr := ⟨_, rfl⟩
        obtain ⟨gp0, gp1, gp2, gp3, gp4, gp5, gp6, gp7, gp8, gp9, gp10, gp11, gp12⟩ := (show V.cell? ⟨w.heap.size, 0, none⟩ = some (.slice p.aq p.an p.ac) ∧ V.cell? ⟨w.heap.size, 1, none⟩ = some (.int .u8 (P.fl.1 : Nat)) ∧ V.cell? ⟨w.heap.size, 2, none⟩ = some (.slice p.fq p.fn p.fc) ∧ V.cell? ⟨w.heap.size, 3, none⟩ = some (.int .u32 (P.dn : Nat)) ∧ V.cell? ⟨w.heap.size, 4, none⟩ = some (.int .u8 (P.lg.1 : Nat)) ∧ V.cell? ⟨w.heap.size, 5, none⟩ = some (.slice p.lq p.ln p.lc) ∧ V.cell? ⟨w.heap.size, 6, none⟩ = some (.slice p.mq p.mn p.mc) ∧ V.cell? ⟨w.heap.size, 7, none⟩ = some (.int .u8 (P.fm : Nat)) ∧ V.cell? ⟨w.heap.size, 8, none⟩ = some (.int .u64 (P.sp : Nat)) ∧ V.cell? ⟨w.heap.size, 9, none⟩ = some (.bool P.b1) ∧ V.cell? ⟨w.heap.size, 10, none⟩ = some (.bool P.b2) ∧ V.cell? ⟨w.heap.size, 11, none⟩ = some (.bool P.b3) ∧ V.cell? ⟨w.heap.size, 12, none⟩ = some (.bool P.b4) from pcells17 (blk_on X0.out BZ.out))
        by_cases hlt : J < p.mn
        · have hm : m < p.mn := by omega
          obtain ⟨x, hx⟩ : ∃ x, (P.fa.map fun (x : Nat) => (x : Int))[m]? = some x := ⟨(P.fa.map fun (x : Nat) => (x : Int))[m]'(by first | (rw [← HML.out]; exact hm) | (rw [List.length_map, ← HML0.out]; exact hm)), List.getElem?_eq_getElem _⟩
          obtain ⟨y, hy⟩ : ∃ y, (P.fa.map fun (x : Nat) => (x : Int))[J]? = some y := ⟨(P.fa.map fun (x : Nat) => (x : Int))[J]'(by first | (rw [← HML.out]; exact hlt) | (rw [List.length_map, ← HML0.out]; exact hlt)), List.getElem?_eq_getElem _⟩
          obtain ⟨g, o, e1, c0⟩ := (HPZ.out V BZ.out).fa m x hx
          obtain ⟨g', o', e2, c1⟩ := (HPZ.out V BZ.out).fa J y hy
          rw [e1] at e2
          injection e2 with e2
          injection e2 with e3 e4
          subst e3 e4
          rw [e1] at gp6
          have HX := Lib.hid hx
          have HY := Lib.hid hy
          have HJ := Lib.hid hJ
          have k1 : (m : Int) < p.mn := by omega
          have k0 : (0 : Int) ≤ m := by omega
          have k3 : (J : Int) < p.mn := by omega
          have k2 : (0 : Int) ≤ J := by omega
          have hs : IntKind.i64.wrap ((J : Int) - 1) = m := by rw [IntKind.wrap_i64]; omega
          have ha : IntKind.i64.wrap ((J : Int) + 1) = (J + 1 : Nat) := by rw [IntKind.wrap_i64]; omega
          clear hx hy e1 hJ
          by_cases hxy : y ≤ x
          · have NR := Lib.hid (show ¬ Rises18 P from fun h => absurd (nbr_of18 (fam_pair18 h.fa) _ x y HX.out (by rw [← HJ.out]; exact HY.out)) (by omega))
            go_wp2_with fail
            go_quiet (fail)
            go_wp2_with fail
            go_ret
            exact ⟨false, rfl, fun h => (by cases h), fun _ => NR.out, thn16 B0.out (by first | exact BZ.out | exact Go.below_drewN BZ.out _)⟩
          · have HN2 := Lib.hid (show nbr18 (P.fa.map fun (x : Nat) => (x : Int)) J from by
              rw [HJ.out]
              intro i a b hi h1 h2
              by_cases hi2 : i < m
              · exact hnb.out i a b hi2 h1 h2
              · obtain rfl : i = m := by omega
                have h3 := HX.out
                have h4 := HY.out
                rw [HJ.out] at h4
                rw [h3] at h1
                rw [h4] at h2
                injection h1 with h1
                injection h2 with h2
                omega)
            go_wp2_with fail
            go_quiet (fail)
            go_wp2_with fail
            go_roundw
            case rel => exact ⟨J, J + 1, rfl, .inr (by omega), by go_num, Lib.hid (Go.below_drewN BZ.out _), HN2⟩
            case measure => first | (simp [intOf]; done) | (simp [intOf]; omega)
        · have k1 : ¬ (J : Int) < (p.mn : Nat) := by omega
          have HR1 := Lib.hid (show (P.fa.map fun (x : Nat) => (x : Int)).Pairwise (fun a b => ltI a b = true) from nbr_pair18 (hnb.out) (by rw [← HML.out]; omega))
          go_wp2_with fail
          clear gp0 gp1 gp2 gp3 gp4 gp5 gp6 gp7 gp8 gp9 gp10 gp11 gp12
          go_ret
          exact .inr ⟨rfl, ⟨HR0.out, pair_fam18 HR1.out⟩, thn16 B0.out BZ.out⟩

end Go.Proofs.YtbjhleajhkofeaaDoor
namespace Go.Proofs.YtbjhleajhkofeaaDoor.restrictOwn
open Go.RowKit
set_option linter.unusedVariables false
set_option linter.unusedSimpArgs false
attribute [local go_sem ↓] Go.wp_at_zero Go.wp_at_succ

theorem cells18 {V w : World} {p : Pls} {P : Pol} {af ax ak av : ByteArray} {al : Int} (h : V.heap[w.heap.size]? = some (.cells (plC p P).toArray 32 (0, 0))) (k : V.heap[w.heap.size + 1]? = some (.cells #[.string af, .int .i64 al, .string ax, .string ak, .string av] 34 (0, 0))) : V.cell? ⟨w.heap.size, 0, none⟩ = some (.slice p.aq p.an p.ac) ∧ V.cell? ⟨w.heap.size, 1, none⟩ = some (.int .u8 (P.fl.1 : Nat)) ∧ V.cell? ⟨w.heap.size, 2, none⟩ = some (.slice p.fq p.fn p.fc) ∧ V.cell? ⟨w.heap.size, 3, none⟩ = some (.int .u32 (P.dn : Nat)) ∧ V.cell? ⟨w.heap.size, 4, none⟩ = some (.int .u8 (P.lg.1 : Nat)) ∧ V.cell? ⟨w.heap.size, 5, none⟩ = some (.slice p.lq p.ln p.lc) ∧ V.cell? ⟨w.heap.size, 6, none⟩ = some (.slice p.mq p.mn p.mc) ∧ V.cell? ⟨w.heap.size, 7, none⟩ = some (.int .u8 (P.fm : Nat)) ∧ V.cell? ⟨w.heap.size, 8, none⟩ = some (.int .u64 (P.sp : Nat)) ∧ V.cell? ⟨w.heap.size, 9, none⟩ = some (.bool P.b1) ∧ V.cell? ⟨w.heap.size, 10, none⟩ = some (.bool P.b2) ∧ V.cell? ⟨w.heap.size, 11, none⟩ = some (.bool P.b3) ∧ V.cell? ⟨w.heap.size, 12, none⟩ = some (.bool P.b4) ∧ V.cell? ⟨w.heap.size + 1, 0, none⟩ = some (.string af) ∧ V.cell? ⟨w.heap.size + 1, 1, none⟩ = some (.int .i64 al) ∧ V.cell? ⟨w.heap.size + 1, 2, none⟩ = some (.string ax) ∧ V.cell? ⟨w.heap.size + 1, 3, none⟩ = some (.string ak) ∧ V.cell? ⟨w.heap.size + 1, 4, none⟩ = some (.string av) := cells17 (a := ⟨af, al, ax, ak, av⟩) h k
theorem OwnP.keep {B : Nat} {w w' : World} {p : Pls} {P : Pol} (h : OwnP B w p P) (hk : ∀ (g : Nat) (cs : Array Value) (t : TypeId) (fz : Nat × Nat), t ≠ 32 → w.heap[g]? = some (.cells cs t fz) → w'.heap[g]? = some (.cells cs t fz)) : OwnP B w' p P :=
  ⟨h.al, h.fl, h.ll, h.ml, owns_same16 h.ar (fun g cs fz _ hg => hk g cs _ fz (by decide) hg), owns_same16 h.fi (fun g cs fz _ hg => hk g cs _ fz (by decide) hg), owns_same16 h.lo (fun g cs fz _ hg => hk g cs _ fz (by decide) hg), owns_same16 h.fa (fun g cs fz _ hg => hk g cs _ fz (by decide) hg)⟩
theorem put17 {w v3 : World} {B g5 : Nat} {p q3 : Pls} {P P2 : Pol} {a : As} {vN : Value} {NN : List Nte} (X3 : v3.heap[w.heap.size]? = some (.cells (plC p P).toArray 32 (0, 0))) (Y3 : v3.heap[w.heap.size + 1]? = some (.cells (asC a).toArray 34 (0, 0))) (Z3 : v3.heap[g5]? = some (.cells ([.slice none 0 0, .int .u8 0, .slice none 0 0, .int .u32 0, .int .u8 0, .slice none 0 0, .slice none 0 0, .int .u8 0, .int .u64 0, .bool false, .bool false, .bool false, .bool false] : List Value).toArray 32 (0, 0)))
    (hx : w.heap.size ≠ g5) (hy : w.heap.size + 1 ≠ g5) (hw : w.heap.size ≤ g5) (B3 : Below w.heap.size w v3) (O3 : OwnP B v3 q3 P2) (R3 : v3.ownsRow w.heap.size 43 4 vN NN.length (rowC encN NN)) :
    (v3.setCells g5 0 (plC q3 P2)).heap[w.heap.size]? = some (.cells (plC p P).toArray 32 (0, 0)) ∧ (v3.setCells g5 0 (plC q3 P2)).heap[w.heap.size + 1]? = some (.cells (asC a).toArray 34 (0, 0)) ∧ (v3.setCells g5 0 (plC q3 P2)).heap[g5]? = some (.cells (plC q3 P2).toArray 32 (0, 0)) ∧ Below w.heap.size w (v3.setCells g5 0 (plC q3 P2)) ∧ PolAt (v3.setCells g5 0 (plC q3 P2)) q3 P2 ∧ RowsAt 4 encN (v3.setCells g5 0 (plC q3 P2)) vN NN := by
  have hk : ∀ (g : Nat) (cs : Array Value) (t : TypeId) (fz : Nat × Nat), t ≠ 32 → v3.heap[g]? = some (.cells cs t fz) → (v3.setCells g5 0 (plC q3 P2)).heap[g]? = some (.cells cs t fz) := fun g cs t fz ht h => (heap_setCells16 v3 _ _ (ne_type16 h Z3 ht) _ 0).trans h
  refine ⟨(heap_setCells16 v3 _ _ hx _ 0).trans X3, (heap_setCells16 v3 _ _ hy _ 0).trans Y3, ?_, below_setCells16 hw _ 0 _ B3, (OwnP.keep O3 hk).pol, rows_own encN_len (owns_same16 R3 fun g cs fz _ h => hk g cs _ fz (by decide) h)⟩
  have := set_row17 (W := v3) (plC q3 P2) 0 _ v3 Z3 (by rw [plC_len]; decide)
  rw [this, plC_len]
  rfl
theorem plV_eq18 (p : Pls) (P : Pol) : plV p P = .agg #[.slice p.aq p.an p.ac, .int .u8 (P.fl.1 : Nat), .slice p.fq p.fn p.fc, .int .u32 (P.dn : Nat), .int .u8 (P.lg.1 : Nat), .slice p.lq p.ln p.lc, .slice p.mq p.mn p.mc, .int .u8 (P.fm : Nat), .int .u64 (P.sp : Nat), .bool P.b1, .bool P.b2, .bool P.b3, .bool P.b4] := rfl
theorem rises_yes18 (p : Pls) (P : Pol) (w : World) (hP : PolAt w p P) (la : p.an ≤ 10000) (lm : p.mn ≤ 10000) (h : Rises18 P) : Calls Tryd.prog 11 #[plV p P] w fun e w' => e = .returned (.bool true) ∧ Below w.heap.size w w' :=
  (rises_c18 p P w hP la lm).mono fun e w' ⟨b, he, _, h2, hb⟩ => by
    cases b
    · exact absurd h (h2 rfl)
    · exact ⟨he, hb⟩
theorem rises_no18 (p : Pls) (P : Pol) (w : World) (hP : PolAt w p P) (la : p.an ≤ 10000) (lm : p.mn ≤ 10000) (h : ¬ Rises18 P) : Calls Tryd.prog 11 #[plV p P] w fun e w' => e = .returned (.bool false) ∧ Below w.heap.size w w' :=
  (rises_c18 p P w hP la lm).mono fun e w' ⟨b, he, h1, _, hb⟩ => by
    cases b
    · exact ⟨he, hb⟩
    · exact absurd (h1 rfl) h
/-- What an assignment leaves, as RestrictOwn asks. -/
structure OwnR18 (P P3 : Pol) (a : As) (NN : List Nte) : Prop where
  fl : P3.fl = P.fl
  lg : P3.lg = P.lg
  dn : P3.dn = P.dn
  ar : a.key ≠ kArc → P3.ar = P.ar
  fa : a.key ≠ kFam → P3.fa = P.fa ∧ P3.fm = P.fm
  sp : a.key ≠ kSpa → P3.sp = P.sp
  b1 : a.key ≠ kWri → P3.b1 = P.b1
  b2 : a.key ≠ kPer → P3.b2 = P.b2
  b3 : a.key ≠ kRea → P3.b3 = P.b3
  b4 : a.key ≠ kNop → P3.b4 = P.b4
  rs : Rises18 P3
  la : P3.ar.length ≤ 10000
  lm : P3.fa.length ≤ 10000
  nn : NN.length ≤ 2000
  nt : ∀ (i : Nat) (x : Nte), NN[i]? = some x → x.file = a.file ∧ x.line = a.line ∧ (x.err == 0) = false
  no : keyR18 a.key = false → NN = []
theorem ownR18 {P : Pol} {a : As} (hr : Rises18 P) (la : P.ar.length ≤ 20) (lm : P.fa.length ≤ 20) (lv : a.val.size ≤ 1000) (pb : Bool) : OwnR18 P (setR pb P a.key a.val).1 a ((setR pb P a.key a.val).2.map (nteP a)) := by
  obtain ⟨k1, k2, k3, k4, k5, k6, k7, k8, k9, k10⟩ := setR_keeps (pb := pb) (P := P) (k := a.key) (v := a.val)
  obtain ⟨l1, l2, l3⟩ := setR_len (pb := pb) (P := P) (k := a.key) (v := a.val)
  refine ⟨k1, k2, k3, k4, k5, k6, k7, k8, k9, k10, setR_rises hr, by omega, by omega, by rw [List.length_map]; omega, fun i x hx => ?_, fun hk => ?_⟩
  · rw [List.getElem?_map] at hx
    obtain ⟨y, hy, rfl⟩ := Option.map_eq_some_iff.1 hx
    exact ⟨rfl, rfl, beq_eq_false_iff_ne.2 (setR_nts y (List.mem_of_getElem? hy))⟩
  · rw [setR_oth hk]; rfl
theorem keyO {F R : World → Nat → Pls → Pls → Pol → List Nte → Value → Prop} {T : Prop} (h1 : (∀ X g q q' Q N v, F X g q q' Q N v → R X g q q' Q N v) → T) (h2 : ∀ X g q q' Q N v, F X g q q' Q N v → R X g q q' Q N v) : T := h1 h2
end Go.Proofs.YtbjhleajhkofeaaDoor.restrictOwn
