/- What the document's own Decode and Parse return of bytes. Condition: at most 2 to the 40th bytes. -/
import Derived.Test.YthhfpehngdohhaaDoorId
namespace Go.Proofs.YthhfpehngdohhaaDoor
open Go.RowKit
set_option linter.unusedVariables false
attribute [local go_sem ↓] Go.wp_at_zero Go.wp_at_succ

theorem insC_one (i : Ins) : ∀ v ∈ insC i, v.oneCell' = true := by
  intro v hi
  simp only [insC, List.mem_cons, List.not_mem_nil, or_false] at hi
  rcases hi with rfl | rfl | rfl | rfl <;> rfl
end Go.Proofs.YthhfpehngdohhaaDoor
