/- What a value of namespaces denies, and what its turned one. Plain lists and numbers. -/
import Derived.Test.YtbjhleajhkofeaaDoorD4
namespace Go.Proofs.YtbjhleajhkofeaaDoor
open Go.RowKit
set_option linter.unusedVariables false
set_option linter.unusedSimpArgs false

theorem wdA_ne18 : ∀ (r a : List UInt8), a ≠ [] → wdA a r ≠ []
  | [], a, h => by rw [wdA_nil, if_neg h]; exact List.cons_ne_nil _ _
  | c :: r, a, h => by
    cases hc : blkB c with
    | true => rw [wdA_blk hc, if_neg h]; exact List.cons_ne_nil _ _
    | false => rw [wdA_go hc]; exact wdA_ne18 r _ (by simp)
def til18 (v : ByteArray) : ByteArray := ⟨#[126]⟩ ++ v
theorem til_is18 (v : ByteArray) : til18 v = bs (126 :: v.data.toList) := by
  have h := bs_app [126] v.data.toList
  rw [bs_self] at h
  exact h
theorem til_list18 (v : ByteArray) : (til18 v).data.toList = 126 :: v.data.toList := by rw [til_is18, bs_list]
theorem til_size18 (v : ByteArray) : (til18 v).size = v.size + 1 := by rw [til_is18, bs_size, List.length_cons]; simp
theorem til_words18 (v : ByteArray) : wdL (til18 v).data.toList ≠ [] := by
  rw [til_list18]
  show wdA [] (126 :: v.data.toList) ≠ []
  rw [wdA_go (by decide)]
  exact wdA_ne18 _ _ (by simp)
theorem til_turn18 (v : ByteArray) : turnR (til18 v) = (v, true) := by
  unfold turnR
  rw [til_list18]
  refine (if_pos (show (126 :: v.data.toList).head? = some 126 from rfl)).trans ?_
  show (bs v.data.toList, true) = _
  rw [bs_self]
theorem til_bool18 (v : ByteArray) : boolR (til18 v) = none := by
  have h : ∀ (l : List ByteArray), l.all (fun t => t.data.toList.head? != some 126) = true → isIn l (til18 v) = false := fun l hl => by
    unfold isIn
    rw [List.any_eq_false]
    intro t ht e
    have e := of_decide_eq_true e
    have h1 := List.all_eq_true.1 hl t ht
    rw [e, til_list18] at h1
    simp at h1
  unfold boolR
  rw [h yesT (by decide +kernel), h noT (by decide +kernel)]
  rfl
theorem sub_bits18 : ∀ (n x y : Nat), x ≤ n → y &&& x = y → (x - y) ||| y = x ∧ (x - y) &&& y = 0
  | 0, x, y, hx, h => by
    obtain rfl : x = 0 := by omega
    rw [Nat.and_zero] at h
    subst h
    exact ⟨rfl, rfl⟩
  | n + 1, x, y, hx, h => by
    by_cases h0 : x = 0
    · subst h0
      rw [Nat.and_zero] at h
      subst h
      exact ⟨rfl, rfl⟩
    have hle : y ≤ x := by rw [← h]; exact Nat.and_le_right
    have h2 : (y / 2) &&& (x / 2) = y / 2 := by rw [← Nat.and_div_two, h]
    have hm : y % 2 = 1 → x % 2 = 1 := fun e => by rw [← h] at e; exact (Nat.and_mod_two_eq_one.1 e).2
    obtain ⟨i1, i2⟩ := sub_bits18 n (x / 2) (y / 2) (by omega) h2
    have e1 : (x - y) / 2 = x / 2 - y / 2 := by omega
    constructor
    · have a : ((x - y) ||| y) / 2 = x / 2 := by rw [Nat.or_div_two, e1, i1]
      have b : ((x - y) ||| y) % 2 = 1 ↔ x % 2 = 1 := by rw [Nat.or_mod_two_eq_one]; omega
      omega
    · have a : ((x - y) &&& y) / 2 = 0 := by rw [Nat.and_div_two, e1, i2]
      have b : ¬ ((x - y) &&& y) % 2 = 1 := by rw [Nat.and_mod_two_eq_one]; omega
      omega
theorem spcT_sub : ∀ e ∈ spcT, e.2 &&& allN = e.2 := fun e he => of_decide_eq_true (List.all_eq_true.1 (show (spcT.all fun e => decide (e.2 &&& allN = e.2)) = true by decide +kernel) e he)
theorem spcN_sub (w : List UInt8) : spcN w &&& allN = spcN w := by
  unfold spcN
  cases h : findR spcT (bs w) with
  | none => rfl
  | some n =>
    obtain ⟨e, he, h2⟩ := findR_mem h
    subst h2
    exact spcT_sub e he
theorem orL_sub : ∀ l, orL l &&& allN = orL l
  | [] => rfl
  | w :: r => by
    show (spcN w ||| orL r) &&& allN = _
    rw [Nat.and_or_distrib_right, spcN_sub, orL_sub r]; rfl
theorem runA_spa (v : ByteArray) : runA18 kSpa [v] 1 = ({ PZ18 with sp := (spaF 0 v).1 }, (spaF 0 v).2.length) := by
  show stA18 kSpa (PZ18, 0) v = _
  unfold stA18 setR
  rw [if_neg (by decide), if_neg (by decide), if_pos rfl, Nat.zero_add]
  rfl
/-- What a value denies, and what its turned one. -/
theorem spa_two18 (v : ByteArray) (hw : wdL v.data.toList ≠ []) (hb : boolR v = none) (ht : (turnR v).2 = false) :
    (spaF 0 v).2.length = (spaF 0 (til18 v)).2.length ∧ (0 < (spaF 0 v).2.length → (spaF 0 v).1 = 0 ∧ (spaF 0 (til18 v)).1 = 0) ∧ (¬ 0 < (spaF 0 v).2.length → (spaF 0 v).1 ||| (spaF 0 (til18 v)).1 = allN ∧ (spaF 0 v).1 &&& (spaF 0 (til18 v)).1 = 0) := by
  have e1 : (turnR v).1 = v := by
    unfold turnR at ht ⊢
    split
    · rename_i h; rw [if_pos h] at ht; cases ht
    · rfl
  have s1 : spaF 0 v = if (wdL v.data.toList).any spcB = true then (0, ((wdL v.data.toList).filter spcB).map fun w => (181, t60 w)) else (allN - orL (wdL v.data.toList), []) := by
    unfold spaF
    rw [if_neg (by rw [hb]; intro h; rcases h with h | h; exact hw h; cases h), if_neg (by rw [hb]; intro h; cases h), ht, e1]
    rfl
  have s2 : spaF 0 (til18 v) = if (wdL v.data.toList).any spcB = true then (0, ((wdL v.data.toList).filter spcB).map fun w => (181, t60 w)) else (orL (wdL v.data.toList), []) := by
    unfold spaF
    rw [if_neg (by rw [til_bool18]; intro h; rcases h with h | h; exact til_words18 v h; cases h), if_neg (by rw [til_bool18]; intro h; cases h), til_turn18]
    rfl
  rw [s1, s2]
  clear s1 s2
  by_cases hn : (wdL v.data.toList).any spcB = true
  · rw [if_pos hn, if_pos hn]
    refine ⟨rfl, fun _ => ⟨rfl, rfl⟩, fun h => absurd ?_ h⟩
    obtain ⟨w, hw, h1⟩ := List.any_eq_true.1 hn
    show 0 < (List.map _ _).length
    rw [List.length_map]
    exact List.length_pos_of_mem (List.mem_filter.2 ⟨hw, h1⟩)
  · rw [if_neg hn, if_neg hn]
    have h := sub_bits18 _ allN (orL (wdL v.data.toList)) (Nat.le_refl _) (orL_sub _)
    exact ⟨rfl, fun h => absurd h (Nat.lt_irrefl 0), fun _ => h⟩
theorem spa_lt18 (v : ByteArray) : (spaF 0 v).1 < 2 ^ 64 := by
  have h1 := orL_lt (wdL (turnR v).1.data.toList)
  have h3 : allN < 2 ^ 64 := by decide
  unfold spaF
  repeat' split
  all_goals simp only
  all_goals first
    | decide
    | (split <;> omega)
    | omega
end Go.Proofs.YtbjhleajhkofeaaDoor
