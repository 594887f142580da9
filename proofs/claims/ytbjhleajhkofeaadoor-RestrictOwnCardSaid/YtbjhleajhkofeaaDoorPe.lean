/- A row of assignments: what it comes to, a value at a time. No condition. -/
import Derived.Test.YtbjhleajhkofeaaDoorP8
namespace Go.Proofs.YtbjhleajhkofeaaDoor
open Go.RowKit
set_option linter.unusedVariables false
set_option linter.unusedSimpArgs false

def P0 : Pol := ⟨[], (0, []), 2147483648, (0, []), [], 0, 0, false, false, false, false⟩
end Go.Proofs.YtbjhleajhkofeaaDoor
