/- What the document's machine makes of the codes that jump: how many instructions are left out. Condition: numbers below 2 to the 32nd. -/
import Derived.Test.YthhfpehngdohhaaDoorVc
import Derived.Laws.BitsAllLaws
namespace Go.Proofs.YthhfpehngdohhaaDoor
open Go.RowKit
set_option linter.unusedVariables false
attribute [local go_sem ↓] Go.wp_at_zero Go.wp_at_succ

def JumpTo (n : Nat) (w : World) (e : Ending) (w' : World) : Prop := e = .returned (.int .i64 n) ∧ Below w.heap.size w w'
end Go.Proofs.YthhfpehngdohhaaDoor
