/- What a value of namespaces denies, and what its turned one. Plain lists and numbers. -/
import Derived.Test.YtbjhleajhkofeaaDoorD4
namespace Go.Proofs.YtbjhleajhkofeaaDoor
open Go.RowKit
set_option linter.unusedVariables false
set_option linter.unusedSimpArgs false

theorem sub_bits18 : ∀ (n x y : Nat), x ≤ n → y &&& x = y → (x - y) ||| y = x ∧ (x - y) &&& y = 0
  | 0, x, y, hx, h => by
    obtain rfl : x = 0 := by omega
    rw [Nat.and_zero] at h
    subst h
    exact ⟨rfl, rfl⟩
  | n + 1, x, y, hx, h => by
    by_cases h0 : x = 0
    · subst h0
      rw [Nat.and_zero] at h
      subst h
      exact ⟨rfl, rfl⟩
    have hle : y ≤ x := by rw [← h]; exact Nat.and_le_right
    have h2 : (y / 2) &&& (x / 2) = y / 2 := by rw [← Nat.and_div_two, h]
    have hm : y % 2 = 1 → x % 2 = 1 := fun e => by rw [← h] at e; exact (Nat.and_mod_two_eq_one.1 e).2
    obtain ⟨i1, i2⟩ := sub_bits18 n (x / 2) (y / 2) (by omega) h2
    have e1 : (x - y) / 2 = x / 2 - y / 2 := by omega
    constructor
    · have a : ((x - y) ||| y) / 2 = x / 2 := by rw [Nat.or_div_two, e1, i1]
      have b : ((x - y) ||| y) % 2 = 1 ↔ x % 2 = 1 := by rw [Nat.or_mod_two_eq_one]; omega
      omega
    · have a : ((x - y) &&& y) / 2 = 0 := by rw [Nat.and_div_two, e1, i2]
      have b : ¬ ((x - y) &&& y) % 2 = 1 := by rw [Nat.and_mod_two_eq_one]; omega
      omega
theorem spcT_sub : ∀ e ∈ spcT, e.2 &&& allN = e.2 := fun e he => of_decide_eq_true (List.all_eq_true.1 (show (spcT.all fun e => decide (e.2 &&& allN = e.2)) = true by decide +kernel) e he)
theorem spcN_sub (w : List UInt8) : spcN w &&& allN = spcN w := by
  unfold spcN
  cases h : findR spcT (bs w) with
  | none => rfl
  | some n =>
    obtain ⟨e, he, h2⟩ := findR_mem h
    subst h2
    exact spcT_sub e he
theorem orL_sub : ∀ l, orL l &&& allN = orL l
  | [] => rfl
  | w :: r => by
    show (spcN w ||| orL r) &&& allN = _
    rw [Nat.and_or_distrib_right, spcN_sub, orL_sub r]; rfl
end Go.Proofs.YtbjhleajhkofeaaDoor
