/- What Spaces and Flags of the landed names return: all flags together; those that are set in a number, in order. Condition: the table of namespaces lies as the text lays it. -/
import Derived.Test.YtfmfjnnbldmdlaaDoorJn
namespace Go.Proofs.YtfmfjnnbldmdlaaDoor
open Go.RowKit
set_option linter.unusedVariables false
set_option linter.unusedSimpArgs false
attribute [local go_sem ↓] Go.wp_at_zero Go.wp_at_succ

def spcV : Array Value := (cellsT .u64 spcT).toArray
theorem spc_bit : ∀ e ∈ spcT, e.2 = 2 ^ e.2.log2 := by decide +kernel
theorem spc_and (y : Nat) {e : En10} (he : e ∈ spcT) : y &&& e.2 = y / e.2 % 2 * e.2 := by
  have := nat_bit e.2.log2 y
  rw [← spc_bit e he] at this
  exact this
/-- All flags up to a place, joined. -/
theorem sum_or : ∀ k, k < 8 → ∀ e, spcT[k]? = some e → sumTo k ||| e.2 = sumTo k + e.2 := by
  have h : (List.range 8).all (fun k => match spcT[k]? with | some e => decide (sumTo k ||| e.2 = sumTo k + e.2) | none => false) = true := by decide +kernel
  intro k hk e he
  have := List.all_eq_true.1 h k (List.mem_range.2 hk)
  rw [he] at this
  exact of_decide_eq_true this
end Go.Proofs.YtfmfjnnbldmdlaaDoor
