/- What the calls of the package fold have to return, as the chapter says it; the helpers of its statements: a copy, a list written over. Conditions: lists of at most 1,000 calls. A copy of a list, in memory of its own. Condition: a list of at most 1,000 calls that can be read. -/
import Derived.Test.YtanifiobfbfehaaGreatDoorTq
namespace Go.Proofs.YtanifiobfbfehaaGreatDoor
open Go.RowKit
set_option linter.unusedVariables false
set_option linter.unusedSimpArgs false
attribute [local go_sem ↓] Go.wp_at_zero Go.wp_at_succ

theorem step_bound (sfx : Bool) (v : ByteArray) (m : Nat) (L : List Cl) (hv : v.size ≤ 1000) (hL : L.length ≤ 100) : (stepA sfx v (m, L)).1.2.length ≤ 100 ∧ (stepA sfx v (m, L)).2.length ≤ 1000 := by
  unfold stepA
  by_cases h : mayR knownR m L = true
  · rw [if_pos h]
    have := okl_le (step_ok grpX_known sfx v (s := (m, L)) (may_iff.1 h))
    exact ⟨by omega, stepC_nts_le sfx v _ hv⟩
  · rw [if_neg h]
    exact ⟨hL, Nat.zero_le _⟩
theorem nts_rows {w : World} {B : Nat} {v : Value} {r : List (Int × ByteArray)} (h : w.ownsRow B 51 4 v r.length (rowC encN (r.map nteS))) : RowsAt 4 encN w v (r.map nteS) := rows_own encN_len (by rw [List.length_map]; exact h)
theorem blk_lt {w : World} {k : Nat} {o : Obj} (h : w.heap[k]? = some o) : k < w.heap.size := (Array.getElem?_eq_some_iff.1 h).1
theorem blk_on {w w' : World} {k : Nat} {o : Obj} (h : w.heap[k]? = some o) (b : Below w.heap.size w w') : w'.heap[k]? = some o := (b.block k (blk_lt h)).trans h
end Go.Proofs.YtanifiobfbfehaaGreatDoor
namespace Go.Proofs.YtanifiobfbfehaaGreatDoor
open Go.RowKit
set_option linter.unusedVariables false
set_option linter.unusedSimpArgs false
attribute [local go_sem ↓] Go.wp_at_zero Go.wp_at_succ

end Go.Proofs.YtanifiobfbfehaaGreatDoor
