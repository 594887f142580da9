/- What the document's own Word and Parse of data return. Condition: each number fits its kind. -/
import Derived.Test.YthhfpehngdohhaaDoorDb
namespace Go.Proofs.YthhfpehngdohhaaDoor
open Go.RowKit
set_option linter.unusedVariables false
attribute [local go_sem ↓] Go.wp_at_zero Go.wp_at_succ

theorem word_no {d : Dat} {a : Int} (h : ¬ (a % 4 = 0 ∧ a < 64)) : wordV d a = 0 ∧ wordE a = 41 := by
  have e : wordB a = false := decide_eq_false h
  unfold wordV wordE; rw [e]; exact ⟨rfl, rfl⟩
theorem word_yes {d : Dat} {a : Int} (h : a % 4 = 0 ∧ a < 64) (h0 : 0 ≤ a) : getV 4 (datB d) a = wordV d a ∧ wordE a = 0 := by
  have e : wordB a = true := decide_eq_true h
  obtain ⟨n, rfl⟩ := Int.eq_ofNat_of_zero_le h0
  refine ⟨?_, by unfold wordE; rw [e]; rfl⟩
  rw [getV_true (by rw [datB_length]; omega)]
  unfold wordV; rw [e]; rfl
end Go.Proofs.YthhfpehngdohhaaDoor
