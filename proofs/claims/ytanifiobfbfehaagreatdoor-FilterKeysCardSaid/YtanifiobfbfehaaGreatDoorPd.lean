/- A policy, an assignment that came in. No condition. A row of assignments: what it comes to, a value at a time. No condition. The chapter's rows that awake looks at. No condition. -/
import Derived.Test.YtanifiobfbfehaaGreatDoorP8
namespace Go.Proofs.YtanifiobfbfehaaGreatDoor
open Go.ChangeShapes Go.WideShapes Go.ChangeAt Go.RowKit
set_option linter.unusedVariables false
set_option linter.unusedSimpArgs false

end Go.Proofs.YtanifiobfbfehaaGreatDoor
namespace Go.Proofs.YtanifiobfbfehaaGreatDoor
open Go.RowKit
set_option linter.unusedVariables false
set_option linter.unusedSimpArgs false

def P0 : Pol := ⟨[], (0, []), 2147483648, (0, []), [], 0, 0, false, false, false, false⟩
end Go.Proofs.YtanifiobfbfehaaGreatDoor
namespace Go.Proofs.YtanifiobfbfehaaGreatDoor
open Go.RowKit
set_option linter.unusedVariables false
set_option linter.unusedSimpArgs false

def PZ : Pol := ⟨[], (0, []), 0, (0, []), [], 0, 0, false, false, false, false⟩
def PA1 : Pol := { PZ with fl := (2, [(⟨#[107, 105, 108, 108]⟩, 327681)]) }
def PA2 : Pol := { PA1 with dn := 327718 }
def PA3 : Pol := { PA2 with lg := (1, [(⟨#[114, 101, 97, 100]⟩, 0)]) }
def PA4 : Pol := { PA3 with dn := 2147483648 }
set_option maxRecDepth 100000 in
theorem row17_1 : setF PZ kFil (⟨#[126, 107, 105, 108, 108, 58, 69, 80, 69, 82, 77]⟩) = (PA1, []) := by kernel_rfl
set_option maxRecDepth 100000 in
theorem row17_2 : setF PA1 kErr (⟨#[69, 78, 79, 83, 89, 83]⟩) = (PA2, []) := by kernel_rfl
set_option maxRecDepth 100000 in
theorem row17_3 : setF PA2 kLog (⟨#[114, 101, 97, 100, 58, 53]⟩) = (PA3, [(161, ⟨#[114, 101, 97, 100, 58, 53]⟩)]) := by kernel_rfl
set_option maxRecDepth 100000 in
theorem row17_4 : setF PA3 kErr (⟨#[]⟩) = (PA4, []) := by kernel_rfl
set_option maxRecDepth 100000 in
theorem row17_5 : setF PA4 kErr (⟨#[53, 48, 48, 48]⟩) = (PA4, [(160, ⟨#[53, 48, 48, 48]⟩)]) := by kernel_rfl
theorem row17_6 : keyF (⟨#[79, 116, 104, 101, 114]⟩) = false := by kernel_rfl
end Go.Proofs.YtanifiobfbfehaaGreatDoor
