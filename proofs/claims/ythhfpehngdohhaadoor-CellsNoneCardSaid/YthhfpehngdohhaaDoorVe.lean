/- What the document's machine makes of the codes of the class Number. Condition: numbers below 2 to the 32nd. -/
import Derived.Test.YthhfpehngdohhaaDoorVd
namespace Go.Proofs.YthhfpehngdohhaaDoor
open Go.RowKit
set_option linter.unusedVariables false
attribute [local go_sem ↓] Go.wp_at_zero Go.wp_at_succ

end Go.Proofs.YthhfpehngdohhaaDoor
