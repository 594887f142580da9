/- The statement PolicyOther holds: an assignment of another section, or of a key that is not known, changes nothing but the notes: one warning more. Conditions: the tables of architectures, of errnos, of families, of namespaces, of words lie in their variables, as the program's text lays them. -/
import Derived.Test.YtlenjfodjkhpmaaGreatDoorW8
import Derived.Test.YtlenjfodjkhpmaaGreatDoorX0
namespace Go.Proofs.YtlenjfodjkhpmaaGreatDoor.policyOtherF
set_option maxRecDepth 100000
open Go.ChangeShapes Go.WideShapes Go.ChangeAt Go.RowKit
open Go.ChangeMaps (open_string shut_string)
set_option linter.unusedVariables false
set_option linter.unusedSimpArgs false

theorem proved : Rows.PolicyOtherCardSaid := proved0 policyOther_walk
#print axioms proved
end Go.Proofs.YtlenjfodjkhpmaaGreatDoor.policyOtherF
