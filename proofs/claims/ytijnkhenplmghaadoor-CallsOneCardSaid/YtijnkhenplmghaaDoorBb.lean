/- What the calls of the package arch have to return, as the chapter says it. -/
import Derived.Test.YtijnkhenplmghaaDoorBa
namespace Go.Proofs.YtijnkhenplmghaaDoor
open Go.RowKit
set_option linter.unusedVariables false

/-- The row of numbers from nought to five. -/
def sixL : List Int := [0, 1, 2, 3, 4, 5]
end Go.Proofs.YtijnkhenplmghaaDoor
