/- What the document's own Same, Copy, Decode and Parse return of instructions. Condition: the program is as long as its slice. -/
import Derived.Test.YtekmbhjdacaphaaDoorIc
import Derived.BigQuiet
import Derived.Deep.QuietTactic
import Derived.Deep.RegionHeld3
import Derived.Laws.AppendOwnNone
namespace Go.Proofs.YtekmbhjdacaphaaDoor
open Go.RowKit
set_option linter.unusedVariables false
attribute [local go_sem ↓] Go.wp_at_zero Go.wp_at_succ

theorem ins_cases (c1 c2 t1 t2 f1 f2 k1 k2 : Int) : (c1 = c2 ∧ t1 = t2 ∧ f1 = f2 ∧ k1 = k2) ∨ c1 ≠ c2 ∨ (c1 = c2 ∧ t1 ≠ t2) ∨ (c1 = c2 ∧ t1 = t2 ∧ f1 ≠ f2) ∨ (c1 = c2 ∧ t1 = t2 ∧ f1 = f2 ∧ k1 ≠ k2) := by omega
theorem takeI_step {xs ys : List Ins} {k : Nat} (h : xs.take k = ys.take k) (hx : k < xs.length) (hy : k < ys.length) (e : xs[k] = ys[k]) : xs.take (k + 1) = ys.take (k + 1) := by
  rw [List.take_add_one, List.take_add_one, h, List.getElem?_eq_getElem hx, List.getElem?_eq_getElem hy, e]
end Go.Proofs.YtekmbhjdacaphaaDoor
