/- What the calls of the package fold have to return, as the chapter says it; the helpers of its statements: a copy, a list written over. Conditions: lists of at most 1,000 calls. A copy of a list, in memory of its own. Condition: a list of at most 1,000 calls that can be read. -/
import Derived.Test.YtbjhleajhkofeaaDoorTq
namespace Go.Proofs.YtbjhleajhkofeaaDoor
open Go.RowKit
set_option linter.unusedVariables false
set_option linter.unusedSimpArgs false
attribute [local go_sem ↓] Go.wp_at_zero Go.wp_at_succ

theorem blk_lt {w : World} {k : Nat} {o : Obj} (h : w.heap[k]? = some o) : k < w.heap.size := (Array.getElem?_eq_some_iff.1 h).1
theorem blk_on {w w' : World} {k : Nat} {o : Obj} (h : w.heap[k]? = some o) (b : Below w.heap.size w w') : w'.heap[k]? = some o := (b.block k (blk_lt h)).trans h
theorem great16 (m : Nat) (q : Option Addr) (n c : Nat) (w : World) : Calls Tryd.prog 23 #[lsV m q n c] w fun e w' => e = .returned (.bool (decide (100 < n))) ∧ Below w.heap.size w w' := by
  unfold lsV
  obtain ⟨mi, hmi⟩ : ∃ x : Int, x = (m : Nat) := ⟨_, rfl⟩
  rw [← hmi]
  clear hmi
  by_cases h : 100 < n
  · rw [decide_eq_true h]
    have h1 : (100 : Int) < n := by omega
    clear h
    go_enter Tryd.func23, Tryd.ntmps23
    go_wp2
    go_ret
    exact ⟨rfl, (Below.refl _ _).alloc (Nat.le_refl _) _⟩
  · rw [decide_eq_false h]
    have h1 : ¬ (100 : Int) < n := by omega
    clear h
    go_enter Tryd.func23, Tryd.ntmps23
    go_wp2
    go_ret
    exact ⟨rfl, (Below.refl _ _).alloc (Nat.le_refl _) _⟩
end Go.Proofs.YtbjhleajhkofeaaDoor
namespace Go.Proofs.YtbjhleajhkofeaaDoor
open Go.RowKit
set_option linter.unusedVariables false
set_option linter.unusedSimpArgs false
attribute [local go_sem ↓] Go.wp_at_zero Go.wp_at_succ

theorem LsAt.flat {w : World} {q : Option Addr} {L : List Cl} (h : LsAt w q L) (h0 : 0 < L.length) : ∃ ad, q = some ad ∧ ∀ j u, (rowC encC L)[j]? = some u → w.cell? (ad.add j) = some u := by
  obtain ⟨g, o, e, _⟩ := h 0 L[0] (List.getElem?_eq_getElem h0)
  refine ⟨_, e, fun j u hu => ?_⟩
  have hj : j < L.length * 2 := by rw [← rowC_length encC_len]; exact (List.getElem?_eq_some_iff.1 hu).1
  have hk : L[j / 2]? = some (L[j / 2]'(by omega)) := List.getElem?_eq_getElem _
  obtain ⟨g', o', e', c0, c1⟩ := h (j / 2) _ hk
  rw [e] at e'
  injection e' with e'
  injection e' with e1 e2
  subst e1 e2
  rw [Addr.add_lit]
  rcases Nat.mod_two_eq_zero_or_one j with hm | hm
  · have hr := rowC_get encC_len hk 0 _ rfl
    rw [show j / 2 * 2 + 0 = j by omega] at hr
    rw [hr] at hu
    injection hu with hu
    rw [← hu, show o + j = o + j / 2 * 2 by omega]
    exact c0
  · have hr := rowC_get encC_len hk 1 _ rfl
    rw [show j / 2 * 2 + 1 = j by omega] at hr
    rw [hr] at hu
    injection hu with hu
    rw [← hu, show o + j = o + j / 2 * 2 + 1 by omega]
    exact c1
set_option maxRecDepth 100000 in
set_option maxHeartbeats 8000000 in
theorem copied16 (m : Nat) (q : Option Addr) (n cap : Nat) (L : List Cl) (w : World) (hl : n = L.length) (hn : n ≤ 1000) (h : LsAt w q L) : Calls Tryd.prog 25 #[lsV m q n cap] w fun e w' => NewL2 w w' e m L := by
  obtain ⟨i0, hi0, hz0, hz1, hz2⟩ := info_parts cl_info
  have HI := Lib.hid hi0
  have HZ0 := Lib.hid hz0
  have HZ1 := Lib.hid hz1
  have HZ2 := Lib.hid hz2
  have HIN := Lib.hid (show (Tryd.prog.info? 27).map (·.size) = some 2 by kernel_rfl)
  unfold NewL2 lsV
  obtain ⟨mi, hmi⟩ : ∃ x : Int, x = (m : Nat) := ⟨_, rfl⟩
  rw [← hmi]
  obtain ⟨W, hW⟩ : ∃ W, W = (w.alloc (.cells #[.int .u8 mi, .slice q n cap] 27)).alloc (.cells #[.int .u8 0, .slice none 0 0] 27) := ⟨_, rfl⟩
  have BB := Lib.hid (show Below w.heap.size w W from hW ▸ ((Below.refl _ _).alloc (Nat.le_refl _) _).alloc (by rw [World.size_alloc]; omega) _)
  have hx0 : W.heap[w.heap.size]? = some (.cells #[.int .u8 mi, .slice q n cap] 27 (0, 0)) := by rw [hW, heap_old16]
  have P1 := Lib.hid (show W.heap[w.heap.size + 1]? = some (.cells #[.int .u8 0, .slice none 0 0] 27 (0, 0)) by rw [hW, heap_new16])
  have x0 := (cell_of_row W w.heap.size 0 _ _ (0, 0) hx0).trans (show _ = some (Value.int .u8 mi) from rfl)
  have x1 := (cell_of_row W w.heap.size 1 _ _ (0, 0) hx0).trans (show _ = some (Value.slice q n cap) from rfl)
  have LT0 : w.heap.size < W.heap.size := (Array.getElem?_eq_some_iff.1 hx0).1
  have HR := Lib.hid h
  have HL := Lib.hid hl
  have WSH := Lib.hid (show W.heap.size = w.heap.size + 2 by rw [hW, World.size_alloc, World.size_alloc])
  have OWE := Lib.hid (show (W.alloc (.cells #[] 82)).drew.ownsRow W.heap.size 82 2 (.slice (some ⟨W.heap.size, 0, none⟩) 0 0) 0 [] from ⟨rfl, Or.inr ⟨W.heap.size, 0, #[], rfl, Nat.le_refl _, heap_alloc_new W _, Nat.le_refl _, Nat.zero_le _, rfl, rfl⟩⟩)
  clear h hl hi0 hz0 hz1 hz2 hx0 hmi
  go_enter Tryd.func25, Tryd.ntmps25
  go_wp2
  rw [← hW]
  clear hW
  refine wp_region_held_drew (S := (fun w' => Below (w.heap.size + 1) W w' ∧ w'.cell? ⟨w.heap.size, 0, none⟩ = some (.int .u8 mi) ∧ w'.cell? ⟨w.heap.size, 1, none⟩ = some (.slice q n cap))) (by kernel_rfl) ?_ (fun hHeld => ?_)
  · exact ⟨(Below.refl _ _).drew, x0, x1⟩
  refine take_op2 (i := 0) (v := ?_) rfl (by kernel_rfl) (by kernel_rfl) (by kernel_rfl) (fun _ _ _ h => h) (Or.inl ⟨wanted_plain rfl, ?_⟩) (by assumption) ?_
  rotate_left
  · (intro w hSw; (try dsimp only at hSw); go_simp; try with_reducible rfl)
  intro act_ hact_; simp only [Act.put, List.setIfInBounds_toArray, List.set_cons_zero, List.set_cons_succ] at hact_; subst hact_
  refine take_op2 (i := 1) (v := ?_) rfl (by kernel_rfl) (by kernel_rfl) (by kernel_rfl) (fun _ _ _ h => h) (Or.inl ⟨wanted_plain rfl, ?_⟩) (by assumption) ?_
  rotate_left
  · (intro w hSw; (try dsimp only at hSw); go_simp; try with_reducible rfl)
  intro act_ hact_; simp only [Act.put, List.setIfInBounds_toArray, List.set_cons_zero, List.set_cons_succ] at hact_; subst hact_
  refine take_op2 (i := 3) (v := ?_) rfl (by kernel_rfl) (by kernel_rfl) (by kernel_rfl) (fun _ _ _ h => h) (Or.inl ⟨wanted_plain rfl, ?_⟩) (by assumption) ?_
  rotate_left
  · (intro w hSw; (try dsimp only at hSw); go_simp; try with_reducible rfl)
  intro act_ hact_; simp only [Act.put, List.setIfInBounds_toArray, List.set_cons_zero, List.set_cons_succ] at hact_; subst hact_
  refine take_op2 (i := 4) (v := ?_) rfl (by kernel_rfl) (by kernel_rfl) (by kernel_rfl) (fun _ _ _ h => h) (Or.inl ⟨wanted_plain rfl, ?_⟩) (by assumption) ?_
  rotate_left
  · (intro w hSw; (try dsimp only at hSw); go_simp; try with_reducible rfl)
  intro act_ hact_; simp only [Act.put, List.setIfInBounds_toArray, List.set_cons_zero, List.set_cons_succ] at hact_; subst hact_
  refine wpAnyH_ready (rs := [2]) (by kernel_rfl) (List.cons_ne_nil _ _) ?_
  refine AllReadyH.cons rfl (fun K hK => ?_) AllReadyH.nil
  go_simp
  refine hK.out _ _ ?_ (fun hHeld => ?_)
  · exact (fun HB => ⟨HB, (HB.cell (p := ⟨w.heap.size, 0, none⟩) (Nat.lt_succ_self _)).trans x0, (HB.cell (p := ⟨w.heap.size, 1, none⟩) (Nat.lt_succ_self _)).trans x1⟩) (((below16 W (.cells #[] 82)).drew).mono (by omega))
  clear hK K
  refine wpAnyH_ready (rs := [5]) (by kernel_rfl) (List.cons_ne_nil _ _) ?_
  refine AllReadyH.cons rfl (fun K hK => ?_) AllReadyH.nil
  refine step_app16 rfl (.tmp 5) (.tmp 7) 25 rfl W.heap.size 82 i0 _ 2 24 Tryd.underlying25 HI.out HZ0.out HZ1.out HZ2.out rfl (by omega) (.slice (some ⟨W.heap.size, 0, none⟩) 0 0) 0 [] rfl OWE.out q n cap (rowC encC L) rfl (by rw [rowC_length encC_len, HL.out]) (fun h0 => (HR.out.on (thn16 BB.out ((below16 W (.cells #[] 82)).drew))).flat (by rw [← HL.out]; exact h0)) (rowC_oneCell encC_one _) (by unfold maxLen; omega) (by omega) (by show W.heap.size ≤ (W.alloc _).heap.size; rw [World.size_alloc]; exact Nat.le_succ _) ?_
  intro v6 w6 o6 h6
  rw [Nat.zero_add, List.nil_append] at o6
  have HB6 := Lib.hid (((below16 W (.cells #[] 82)).drew).grown h6 (by show W.heap.size ≤ (W.alloc _).heap.size; rw [World.size_alloc]; exact Nat.le_succ _) (fun k e => Nat.le_of_eq (Option.some.inj e)))
  obtain ⟨q6, c6, hq6⟩ := own_form16 o6
  subst hq6
  have O6 := Lib.hid o6
  have F0 := Lib.hid ((HB6.out.block (w.heap.size + 1) (by have := WSH.out; omega)).trans P1.out)
  have z0 := (cell_of_row w6 (w.heap.size + 1) 0 _ _ (0, 0) F0.out).trans (show _ = some (Value.int .u8 0) from rfl)
  have z1 := (cell_of_row w6 (w.heap.size + 1) 1 _ _ (0, 0) F0.out).trans (show _ = some (Value.slice none 0 0) from rfl)
  have zf0 := frozen_of_row w6 (w.heap.size + 1) 0 _ _ F0.out
  have zf1 := frozen_of_row w6 (w.heap.size + 1) 1 _ _ F0.out
  clear o6 h6
  refine hK.out _ _ ?_ (fun hHeld => ?_)
  · exact (fun HB => ⟨HB, (HB.cell (p := ⟨w.heap.size, 0, none⟩) (Nat.lt_succ_self _)).trans x0, (HB.cell (p := ⟨w.heap.size, 1, none⟩) (Nat.lt_succ_self _)).trans x1⟩) (HB6.out.mono (by omega))
  clear hK K
  refine take_op2 (i := 6) (v := ?_) rfl (by kernel_rfl) (by kernel_rfl) (by kernel_rfl) (fun _ _ _ h => h) (Or.inl ⟨wanted_plain rfl, ?_⟩) (by assumption) ?_
  rotate_left
  · (intro w hSw; (try dsimp only at hSw); go_simp; try with_reducible rfl)
  intro act_ hact_; simp only [Act.put, List.setIfInBounds_toArray, List.set_cons_zero, List.set_cons_succ] at hact_; subst hact_
  refine wpAnyH_ready (rs := [7]) (by kernel_rfl) (List.cons_ne_nil _ _) ?_
  refine AllReadyH.cons rfl (fun K hK => ?_) AllReadyH.nil
  go_simp
  refine hK.out _ _ ?_ (fun hHeld => ?_)
  · exact (fun HB => ⟨HB, (HB.cell (p := ⟨w.heap.size, 0, none⟩) (Nat.lt_succ_self _)).trans x0, (HB.cell (p := ⟨w.heap.size, 1, none⟩) (Nat.lt_succ_self _)).trans x1⟩) ((hHeld.1.setCell (p := ⟨w.heap.size + 1, 0, none⟩) (Nat.le_refl _) _).setCell (p := ⟨w.heap.size + 1, 1, none⟩) (Nat.le_refl _) _)
  clear hK K
  refine wpAnyH_done (by kernel_rfl) ?_ _
  have hret := retL16 F0.out (thn16 BB.out HB6.out) (by omega : w.heap.size ≤ w.heap.size + 1) mi q6 n c6
  have OX := Lib.hid (owns_low16 (own_box16 F0.out (by decide) O6.out [.int .u8 mi, .slice q6 n c6]) (show w.heap.size ≤ W.heap.size by omega))
  have hl : (loadVar 27 ⟨w.heap.size + 1, 0, none⟩).run Tryd.prog ((w6.setCell ⟨w.heap.size + 1, 0, none⟩ (.int .u8 mi)).setCell ⟨w.heap.size + 1, 1, none⟩ (.slice q6 n c6)) = .ok (.agg #[.int .u8 mi, .slice q6 n c6]) ((w6.setCell ⟨w.heap.size + 1, 0, none⟩ (.int .u8 mi)).setCell ⟨w.heap.size + 1, 1, none⟩ (.slice q6 n c6)) := hret.1
  go_wp2_with fail
  (try simp only [Exit.inBlock, Exit.then])
  refine bodyPost_ret (v := .agg #[.int .u8 mi, .slice q6 n c6]) (results_one16 Tryd.results25 ?_ hl) rfl ⟨q6, n, c6, rfl, HL.out, OX.out, hret.2⟩
  rfl
end Go.Proofs.YtbjhleajhkofeaaDoor
