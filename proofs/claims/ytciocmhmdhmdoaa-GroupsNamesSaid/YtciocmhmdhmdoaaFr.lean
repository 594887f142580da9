/- How an argument of a statement is opened: bytes that came in, as a list of bytes. No condition. -/
import Derived.Test.YtciocmhmdhmdoaaWh
import Derived.ProofKit
import Derived.OpenShut
import Derived.ShutString
import Derived.ChangeOld
import Derived.Below
namespace Go.Proofs.Ytciocmhmdhmdoaa
open Go.ChangeShapes Go.WideShapes Go.ChangeAt Go.RowKit
set_option linter.unusedVariables false

theorem ownKnob_none : ownKnob Try.prog.godebug = none := by kernel_rfl
theorem laidOut : laidOutB Try.prog = true := by kernel_rfl
/-- What is known of a slice of bytes that came in. -/
structure IsBytes (w : World) (a : Option Addr) (len cap : Nat) (z : List Int) : Prop where
  size : z.length = len
  byt : Byt z
  fits : len ≤ cap
  most : cap ≤ maxLen
  rd : Rd w w.heap.size a z
  nil : a = none → cap = 0
end Go.Proofs.Ytciocmhmdhmdoaa
