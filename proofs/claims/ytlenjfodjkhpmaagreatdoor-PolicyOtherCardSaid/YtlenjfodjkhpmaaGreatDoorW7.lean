/- PolicyOther: other sections and keys change nothing but the notes. -/
import Derived.Test.YtlenjfodjkhpmaaGreatDoorW4
import Derived.Test.YtlenjfodjkhpmaaGreatDoorW6
import Derived.Test.YtlenjfodjkhpmaaGreatDoorV4
import Derived.Deep.RegionHeld3
import Derived.Deep.DeepCutAuto
namespace Go.Proofs.YtlenjfodjkhpmaaGreatDoor
set_option maxRecDepth 100000
open Go.RowKit
set_option linter.unusedVariables false
set_option linter.unusedSimpArgs false
attribute [local go_sem ↓] Go.wp_at_zero Go.wp_at_succ

theorem asC_len (a : As) : (asC a).length = 5 := rfl
theorem asC_one1 (a : As) : ∀ u ∈ asC a, u.oneCell' = true := fun u hu => by
 unfold asC at hu
 simp only [List.mem_cons, List.mem_nil_iff, or_false] at hu
 rcases hu with rfl | rfl | rfl | rfl | rfl <;> rfl
theorem asC_one (l : List As) : ∀ u ∈ rowC asC l, u.oneCell' = true := rowC_oneCell asC_one1 l
theorem asinf19 : (Tryz.prog.info? 37).map (fun i => (i.zero, i.size, i.bytes)) = some (some (.agg #[.string ⟨#[]⟩, .int .i64 0, .string ⟨#[]⟩, .string ⟨#[]⟩, .string ⟨#[]⟩]), 5, 72) := by kernel_rfl
theorem acells19 {V : World} {g : Nat} {v0 v1 v2 v3 v4 : Value} (h : V.heap[g]? = some (.cells #[v0, v1, v2, v3, v4] 37 (0, 0))) : V.cell? ⟨g, 0, none⟩ = some v0 ∧ V.cell? ⟨g, 1, none⟩ = some v1 ∧ V.cell? ⟨g, 2, none⟩ = some v2 ∧ V.cell? ⟨g, 3, none⟩ = some v3 ∧ V.cell? ⟨g, 4, none⟩ = some v4 :=
 ⟨(cell_of_row V g 0 _ _ (0, 0) h).trans rfl, (cell_of_row V g 1 _ _ (0, 0) h).trans rfl, (cell_of_row V g 2 _ _ (0, 0) h).trans rfl, (cell_of_row V g 3 _ _ (0, 0) h).trans rfl, (cell_of_row V g 4 _ _ (0, 0) h).trans rfl⟩
theorem asRows19 {w : World} {q : Option Addr} {n c : Nat} {l : List As} (hn : n = l.length) (h : AsAt w q l) : RowsAt 5 asC w (.slice q n c) l := ⟨q, c, by rw [hn], fun k a hk => by
 obtain ⟨g, o, e, c0, c1, c2, c3, c4⟩ := h k a hk
 refine ⟨g, o, e, fun j u hu => ?_⟩
 match j with
 | 0 => injection hu with hu; subst hu; exact c0
 | 1 => injection hu with hu; subst hu; exact c1
 | 2 => injection hu with hu; subst hu; exact c2
 | 3 => injection hu with hu; subst hu; exact c3
 | 4 => injection hu with hu; subst hu; exact c4
 | j + 5 => simp [asC] at hu⟩
theorem rows_take19 {w : World} {q : Option Addr} {n c : Nat} {l : List As} (h : RowsAt 5 asC w (.slice q n c) l) {K : Nat} (hK : K ≤ n) (c' : Nat) : RowsAt 5 asC w (.slice q K c') (l.take K) := by
 obtain ⟨q', c2, e, hr⟩ := h
 injection e with e1 e2 _
 subst e1
 refine ⟨q, c', by rw [List.length_take, ← e2, Nat.min_eq_left hK], fun k a hk => ?_⟩
 rw [List.getElem?_take] at hk
 split at hk
 ·exact hr k a hk
 ·cases hk
theorem rows_drop19 {w : World} {q : Option Addr} {n c : Nat} {l : List As} (h : RowsAt 5 asC w (.slice q n c) l) {K : Nat} (hK : K ≤ n) (hc : n ≤ c) (c' : Nat) : RowsAt 5 asC w (.slice (if c = K then q else q.map (·.add (K * 5))) (n - K) c') (l.drop K) := by
 obtain ⟨q', c2, e, hr⟩ := h
 injection e with e1 e2 _
 subst e1
 refine ⟨_, c', by rw [List.length_drop, ← e2], fun k a hk => ?_⟩
 rw [List.getElem?_drop] at hk
 obtain ⟨g, o, rfl, hcell⟩ := hr (K + k) a hk
 have hlt : K + k < n := by rw [e2]; exact (List.getElem?_eq_some_iff.1 hk).1
 rw [if_neg (by omega)]
 refine ⟨g, o + K * 5, by simp [Addr.add], fun j u hu => ?_⟩
 have := hcell j u hu
 rw [Nat.add_mul, ← Nat.add_assoc] at this
 exact this
theorem row_cells19 {W : World} {g : Nat} {v0 v1 v2 v3 v4 : Value} (h : W.heap[g]? = some (.cells #[v0, v1, v2, v3, v4] 37 (0, 0))) : ∀ j u, ([v0, v1, v2, v3, v4] : List Value)[j]? = some u → W.cell? ((⟨g, 0, none⟩ : Addr).add j) = some u := fun j u hu => by
 rw [Addr.add_lit, Nat.zero_add, cell_of_row W g j _ _ (0, 0) h]
 simpa using hu
theorem ml_len19 {l : List As} {a : As} {n K : Nat} (hn : n = l.length) (hK : K ≤ n) : n + 1 = (l.take K ++ a :: l.drop K).length := by
 rw [List.length_append, List.length_cons, List.length_take, List.length_drop, ← hn]
 omega
theorem row_ml19 {w : World} {B : Nat} {l : List As} {a : As} {v : Value} {n K : Nat} (hn : n = l.length) (hK : K ≤ n) (h : w.ownsRow B 37 5 v (K + 1 + (n - K)) (rowC asC (l.take K) ++ asC a ++ rowC asC (l.drop K))) : w.ownsRow B 37 5 v (n + 1) (rowC asC (l.take K ++ a :: l.drop K)) := by
 rw [show n + 1 = K + 1 + (n - K) by omega, show l.take K ++ a :: l.drop K = l.take K ++ [a] ++ l.drop K by simp, rowC_app, rowC_app, rowC_one1]
 exact h
theorem ml_mem19 {l : List As} {a : As} {K : Nat} (ho : OkAs l) : (a.val.size ≤ 1000 ∧ a.key.size ≤ 200) → ∀ b ∈ l.take K ++ a :: l.drop K, b.val.size ≤ 1000 ∧ b.key.size ≤ 200 := fun ha b hb => by
 rcases List.mem_append.1 hb with h | h
 ·exact ⟨(ho.each b (List.mem_of_mem_take h)).1, (ho.each b (List.mem_of_mem_take h)).2.1⟩
 ·rcases List.mem_cons.1 h with rfl | h
  ·exact ha
  ·exact ⟨(ho.each b (List.mem_of_mem_drop h)).1, (ho.each b (List.mem_of_mem_drop h)).2.1⟩
theorem resF_short19 (l : List As) : (resF l).ar.length ≤ 1000000 ∧ (resF l).fl.2.length ≤ 1000000 ∧ (resF l).lg.2.length ≤ 1000000 ∧ (resF l).fa.length ≤ 1000000 := by
 have h := res_short19 l
 unfold resF
 split
 ·exact ⟨by decide, by decide, by decide, by decide⟩
 ·exact ⟨Nat.le_trans h.1 (by decide), Nat.le_trans h.2.2.1 (by decide), Nat.le_trans h.2.2.2 (by decide), Nat.le_trans h.2.1 (by decide)⟩
theorem t60_cut19 {a : ByteArray} (h : 60 < a.size) : t60 a.data.toList = a.extract 0 60 := by
 show t60 a.data.toList = _
 unfold t60
 have := bs_cut60 a.data.toList
 rw [bs_self] at this
 exact this.symm
theorem t60_self19 {a : ByteArray} (h : ¬ 60 < a.size) : t60 a.data.toList = a := by
 show t60 a.data.toList = _
 unfold t60
 rw [List.take_of_length_le (by rw [show a.data.toList.length = a.size by simp]; omega), bs_self]
theorem key19 {F R : Value → Value → Value → Value → World → Prop} {T : Prop} (h1 : (∀ a b c d X, F a b c d X → R a b c d X) → T) (h2 : ∀ a b c d X, F a b c d X → R a b c d X) : T := h1 h2
theorem other_is19 {l : List As} {a : As} (h : a.sec ≠ kSvc ∨ (keyF a.key = false ∧ keyR18 a.key = false)) (K : Nat) :
 resF (l.take K ++ a :: l.drop K) = resF l ∧ (resR (l.take K ++ a :: l.drop K)).2.length = (resR l).2.length + 1 ∧ (resR (l.take K ++ a :: l.drop K)).2[(resR (l.take K)).2.length]? = some (nteP a (100, t60 (if a.sec = kSvc then a.key else a.sec).data.toList)) := by
 obtain ⟨e1, N, e2, e3⟩ := res_oth19 (l := l.take K) (m := l.drop K) h
 rw [List.take_append_drop] at e1 e2
 have hw : wrnB (nteP a (100, t60 (if a.sec = kSvc then a.key else a.sec).data.toList)) = false := by unfold wrnB nteP; rfl
 refine ⟨?_, ?_, ?_⟩
 ·have ha : (resR (l.take K ++ a :: l.drop K)).2.any wrnB = (resR l).2.any wrnB := by
   rw [e2, e3, List.any_append, List.any_append, List.any_append, List.any_cons, hw]
   simp
  unfold resF
  rw [ha, e1]
 ·rw [e2, e3]
  simp only [List.length_append, List.length_cons, List.length_nil]
  omega
 ·rw [e3, List.append_assoc, List.getElem?_append_right (Nat.le_refl _), Nat.sub_self]
  rfl
end Go.Proofs.YtlenjfodjkhpmaaGreatDoor
