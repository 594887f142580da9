/-
  NARROWER THAN 'FOR EVERY INPUT', by the rows' own cells (each row's printed sentence says how): CheckPrograms: laid · CheckOne: laid · CheckLimit: laid · CheckHalts: laid · CheckErrors: laid · CheckMore: laid · CheckSpoilt: laid.
  DERIVED. THE GIVEN ROWS OF THIS SEAT. 7 by the template 'for every input the law returns true; each argument reads behind the call as it read before'; 0 by the template 'total and deterministic' (their statements: YtohfampfnhfnlaaDoorTotals.lean).
  GIVEN WITH THE SEED: the statements are not yours to turn. If you find one false, say at which input.
  Laid BY PROGRAM, IN A SANDBOX (cutbox-rows.mjs): the forced cells as the released guide's own fill.sh prints them over the translation e2690b14e2e59def… (all of the seat's roots in one cut). By AI agents, Wed Nov 11 2026. No macro, syntax, notation, axiom, sorry.
-/
import Derived.Test.YtohfampfnhfnlaaDoorChecked
import GoSem.Claim
import GoSem.ClaimJoined
import GoSem.ClaimMapViews
import Derived.JoinedTies
import Derived.KernelRfl
namespace Go.Proofs.YtohfampfnhfnlaaDoor
/- THE CELL 'sum', in the pinned program and in every row, IS THE sha256 OF THE DUMP (.gsa) THAT YtohfampfnhfnlaaDoorProg.lean LOADS. Nothing in Lean hashes anything: it is a label: what it is worth is what the hold of that sum in a sandbox is worth. -/
noncomputable def Tryd.pinned : Pinned := { name := "ytohfampfnhfnlaadoor", sum := "e2690b14e2e59def9f04c5e3b119795a0fb2df241440909a218a2bbfad5cb6ef", checked := Tryd.checked }
namespace Rows
def none {H : Type} : Left H := { results := [], args := [] }

/- WHAT THE LISTED PACKAGE-LEVEL VARIABLES READ AS WHEN THE CALL BEGINS. Each datum BY PROGRAM (the guide's laid-datum.mjs) off the statement by which the dump's own 'gosem.cut.vars' lays the variable. In a bare row this is a premise. The card (YtohfampfnhfnlaaDoorCards.lean) ties it to the program's text. -/
def laid_vestibule_insn_rows {H : Type} : DataW H := .agg [.agg [.lit (.int .u16 32), .lit (.int .u8 1), .lit (.string [108, 100, 97, 98, 115])], .agg [.lit (.int .u16 128), .lit (.int .u8 1), .lit (.string [108, 100, 108, 101, 110])], .agg [.lit (.int .u16 0), .lit (.int .u8 1), .lit (.string [108, 100, 105])], .agg [.lit (.int .u16 96), .lit (.int .u8 1), .lit (.string [108, 100, 109])], .agg [.lit (.int .u16 129), .lit (.int .u8 1), .lit (.string [108, 100, 120, 108, 101, 110])], .agg [.lit (.int .u16 1), .lit (.int .u8 1), .lit (.string [108, 100, 120, 105])], .agg [.lit (.int .u16 97), .lit (.int .u8 1), .lit (.string [108, 100, 120, 109])], .agg [.lit (.int .u16 2), .lit (.int .u8 2), .lit (.string [115, 116])], .agg [.lit (.int .u16 3), .lit (.int .u8 2), .lit (.string [115, 116, 120])], .agg [.lit (.int .u16 4), .lit (.int .u8 3), .lit (.string [97, 100, 100])], .agg [.lit (.int .u16 20), .lit (.int .u8 3), .lit (.string [115, 117, 98])], .agg [.lit (.int .u16 36), .lit (.int .u8 3), .lit (.string [109, 117, 108])], .agg [.lit (.int .u16 52), .lit (.int .u8 3), .lit (.string [100, 105, 118])], .agg [.lit (.int .u16 68), .lit (.int .u8 3), .lit (.string [111, 114])], .agg [.lit (.int .u16 84), .lit (.int .u8 3), .lit (.string [97, 110, 100])], .agg [.lit (.int .u16 100), .lit (.int .u8 3), .lit (.string [108, 115, 104])], .agg [.lit (.int .u16 116), .lit (.int .u8 3), .lit (.string [114, 115, 104])], .agg [.lit (.int .u16 164), .lit (.int .u8 3), .lit (.string [120, 111, 114])], .agg [.lit (.int .u16 12), .lit (.int .u8 3), .lit (.string [97, 100, 100, 120])], .agg [.lit (.int .u16 28), .lit (.int .u8 3), .lit (.string [115, 117, 98, 120])], .agg [.lit (.int .u16 44), .lit (.int .u8 3), .lit (.string [109, 117, 108, 120])], .agg [.lit (.int .u16 60), .lit (.int .u8 3), .lit (.string [100, 105, 118, 120])], .agg [.lit (.int .u16 76), .lit (.int .u8 3), .lit (.string [111, 114, 120])], .agg [.lit (.int .u16 92), .lit (.int .u8 3), .lit (.string [97, 110, 100, 120])], .agg [.lit (.int .u16 108), .lit (.int .u8 3), .lit (.string [108, 115, 104, 120])], .agg [.lit (.int .u16 124), .lit (.int .u8 3), .lit (.string [114, 115, 104, 120])], .agg [.lit (.int .u16 172), .lit (.int .u8 3), .lit (.string [120, 111, 114, 120])], .agg [.lit (.int .u16 132), .lit (.int .u8 3), .lit (.string [110, 101, 103])], .agg [.lit (.int .u16 5), .lit (.int .u8 4), .lit (.string [106, 97])], .agg [.lit (.int .u16 21), .lit (.int .u8 4), .lit (.string [106, 101, 113])], .agg [.lit (.int .u16 37), .lit (.int .u8 4), .lit (.string [106, 103, 116])], .agg [.lit (.int .u16 53), .lit (.int .u8 4), .lit (.string [106, 103, 101])], .agg [.lit (.int .u16 69), .lit (.int .u8 4), .lit (.string [106, 115, 101, 116])], .agg [.lit (.int .u16 29), .lit (.int .u8 4), .lit (.string [106, 101, 113, 120])], .agg [.lit (.int .u16 45), .lit (.int .u8 4), .lit (.string [106, 103, 116, 120])], .agg [.lit (.int .u16 61), .lit (.int .u8 4), .lit (.string [106, 103, 101, 120])], .agg [.lit (.int .u16 77), .lit (.int .u8 4), .lit (.string [106, 115, 101, 116, 120])], .agg [.lit (.int .u16 6), .lit (.int .u8 5), .lit (.string [114, 101, 116])], .agg [.lit (.int .u16 22), .lit (.int .u8 5), .lit (.string [114, 101, 116, 97])], .agg [.lit (.int .u16 7), .lit (.int .u8 6), .lit (.string [116, 97, 120])], .agg [.lit (.int .u16 135), .lit (.int .u8 6), .lit (.string [116, 120, 97])]]

/-- 'vestibulelaw06.CheckPrograms': WHATEVER THE INPUT: true; the input reads as it did. -/
def checkProgramsSpec : ChangeSpec := { name := "checkPrograms", fn := fun _ => fun
  | [d] => { results := [.lit (.bool true)], args := [d] }
  | _ => none }
def checkProgramsRow : OpenClaim := { program := "ytohfampfnhfnlaadoor", sum := "e2690b14e2e59def9f04c5e3b119795a0fb2df241440909a218a2bbfad5cb6ef", func := "vestibule/vestibulelaw06.CheckPrograms", spec := "checkPrograms", unfollowed := true, recurses := true, named := ["vestibule/insn.rows"], apart := false, laid := [("vestibule/insn.rows", laid_vestibule_insn_rows)] }
def CheckProgramsSaid : Prop := checkProgramsRow.holds Tryd.pinned (OpenSpec.ofChange checkProgramsSpec)

/-- ITS FALSE NEIGHBOUR: 'it returns false'. Refute it at one input. -/
def checkProgramsWrong : ChangeSpec := { name := "checkPrograms", fn := fun _ => fun
  | [d] => { results := [.lit (.bool false)], args := [d] }
  | _ => none }
def CheckProgramsWrongFalsely : Prop := checkProgramsRow.holds Tryd.pinned (OpenSpec.ofChange checkProgramsWrong)

/-- 'vestibulelaw06.CheckOne': WHATEVER THE INPUT: true; the input reads as it did. -/
def checkOneSpec : ChangeSpec := { name := "checkOne", fn := fun _ => fun
  | [d1, d2] => { results := [.lit (.bool true)], args := [d1, d2] }
  | _ => none }
def checkOneRow : OpenClaim := { program := "ytohfampfnhfnlaadoor", sum := "e2690b14e2e59def9f04c5e3b119795a0fb2df241440909a218a2bbfad5cb6ef", func := "vestibule/vestibulelaw06.CheckOne", spec := "checkOne", unfollowed := true, recurses := true, named := ["vestibule/insn.rows"], apart := false, laid := [("vestibule/insn.rows", laid_vestibule_insn_rows)] }
def CheckOneSaid : Prop := checkOneRow.holds Tryd.pinned (OpenSpec.ofChange checkOneSpec)

/-- ITS FALSE NEIGHBOUR: 'it returns false'. Refute it at one input. -/
def checkOneWrong : ChangeSpec := { name := "checkOne", fn := fun _ => fun
  | [d1, d2] => { results := [.lit (.bool false)], args := [d1, d2] }
  | _ => none }
def CheckOneWrongFalsely : Prop := checkOneRow.holds Tryd.pinned (OpenSpec.ofChange checkOneWrong)

/-- 'vestibulelaw06.CheckLimit': WHATEVER THE INPUT: true; the input reads as it did. -/
def checkLimitSpec : ChangeSpec := { name := "checkLimit", fn := fun _ => fun
  | [d] => { results := [.lit (.bool true)], args := [d] }
  | _ => none }
def checkLimitRow : OpenClaim := { program := "ytohfampfnhfnlaadoor", sum := "e2690b14e2e59def9f04c5e3b119795a0fb2df241440909a218a2bbfad5cb6ef", func := "vestibule/vestibulelaw06.CheckLimit", spec := "checkLimit", unfollowed := true, recurses := true, named := ["vestibule/insn.rows"], apart := false, laid := [("vestibule/insn.rows", laid_vestibule_insn_rows)] }
def CheckLimitSaid : Prop := checkLimitRow.holds Tryd.pinned (OpenSpec.ofChange checkLimitSpec)

/-- ITS FALSE NEIGHBOUR: 'it returns false'. Refute it at one input. -/
def checkLimitWrong : ChangeSpec := { name := "checkLimit", fn := fun _ => fun
  | [d] => { results := [.lit (.bool false)], args := [d] }
  | _ => none }
def CheckLimitWrongFalsely : Prop := checkLimitRow.holds Tryd.pinned (OpenSpec.ofChange checkLimitWrong)

/-- 'vestibulelaw06.CheckHalts': WHATEVER THE INPUT: true; the input reads as it did. -/
def checkHaltsSpec : ChangeSpec := { name := "checkHalts", fn := fun _ => fun
  | [d1, d2] => { results := [.lit (.bool true)], args := [d1, d2] }
  | _ => none }
def checkHaltsRow : OpenClaim := { program := "ytohfampfnhfnlaadoor", sum := "e2690b14e2e59def9f04c5e3b119795a0fb2df241440909a218a2bbfad5cb6ef", func := "vestibule/vestibulelaw06.CheckHalts", spec := "checkHalts", unfollowed := true, recurses := true, named := ["vestibule/insn.rows"], apart := false, laid := [("vestibule/insn.rows", laid_vestibule_insn_rows)] }
def CheckHaltsSaid : Prop := checkHaltsRow.holds Tryd.pinned (OpenSpec.ofChange checkHaltsSpec)

/-- ITS FALSE NEIGHBOUR: 'it returns false'. Refute it at one input. -/
def checkHaltsWrong : ChangeSpec := { name := "checkHalts", fn := fun _ => fun
  | [d1, d2] => { results := [.lit (.bool false)], args := [d1, d2] }
  | _ => none }
def CheckHaltsWrongFalsely : Prop := checkHaltsRow.holds Tryd.pinned (OpenSpec.ofChange checkHaltsWrong)

/-- 'vestibulelaw06.CheckErrors': WHATEVER THE INPUT: true; the input reads as it did. -/
def checkErrorsSpec : ChangeSpec := { name := "checkErrors", fn := fun _ => fun
  | [d1, d2] => { results := [.lit (.bool true)], args := [d1, d2] }
  | _ => none }
def checkErrorsRow : OpenClaim := { program := "ytohfampfnhfnlaadoor", sum := "e2690b14e2e59def9f04c5e3b119795a0fb2df241440909a218a2bbfad5cb6ef", func := "vestibule/vestibulelaw06.CheckErrors", spec := "checkErrors", unfollowed := true, recurses := true, named := ["vestibule/insn.rows"], apart := false, laid := [("vestibule/insn.rows", laid_vestibule_insn_rows)] }
def CheckErrorsSaid : Prop := checkErrorsRow.holds Tryd.pinned (OpenSpec.ofChange checkErrorsSpec)

/-- ITS FALSE NEIGHBOUR: 'it returns false'. Refute it at one input. -/
def checkErrorsWrong : ChangeSpec := { name := "checkErrors", fn := fun _ => fun
  | [d1, d2] => { results := [.lit (.bool false)], args := [d1, d2] }
  | _ => none }
def CheckErrorsWrongFalsely : Prop := checkErrorsRow.holds Tryd.pinned (OpenSpec.ofChange checkErrorsWrong)

/-- 'vestibulelaw06.CheckMore': WHATEVER THE INPUT: true; the input reads as it did. -/
def checkMoreSpec : ChangeSpec := { name := "checkMore", fn := fun _ => fun
  | [d1, d2] => { results := [.lit (.bool true)], args := [d1, d2] }
  | _ => none }
def checkMoreRow : OpenClaim := { program := "ytohfampfnhfnlaadoor", sum := "e2690b14e2e59def9f04c5e3b119795a0fb2df241440909a218a2bbfad5cb6ef", func := "vestibule/vestibulelaw06.CheckMore", spec := "checkMore", unfollowed := true, recurses := true, named := ["vestibule/insn.rows"], apart := false, laid := [("vestibule/insn.rows", laid_vestibule_insn_rows)] }
def CheckMoreSaid : Prop := checkMoreRow.holds Tryd.pinned (OpenSpec.ofChange checkMoreSpec)

/-- ITS FALSE NEIGHBOUR: 'it returns false'. Refute it at one input. -/
def checkMoreWrong : ChangeSpec := { name := "checkMore", fn := fun _ => fun
  | [d1, d2] => { results := [.lit (.bool false)], args := [d1, d2] }
  | _ => none }
def CheckMoreWrongFalsely : Prop := checkMoreRow.holds Tryd.pinned (OpenSpec.ofChange checkMoreWrong)

/-- 'vestibulelaw06.CheckSpoilt': WHATEVER THE INPUT: true; the input reads as it did. -/
def checkSpoiltSpec : ChangeSpec := { name := "checkSpoilt", fn := fun _ => fun
  | [d1, d2, d3] => { results := [.lit (.bool true)], args := [d1, d2, d3] }
  | _ => none }
def checkSpoiltRow : OpenClaim := { program := "ytohfampfnhfnlaadoor", sum := "e2690b14e2e59def9f04c5e3b119795a0fb2df241440909a218a2bbfad5cb6ef", func := "vestibule/vestibulelaw06.CheckSpoilt", spec := "checkSpoilt", unfollowed := true, recurses := true, named := ["vestibule/insn.rows"], apart := false, laid := [("vestibule/insn.rows", laid_vestibule_insn_rows)] }
def CheckSpoiltSaid : Prop := checkSpoiltRow.holds Tryd.pinned (OpenSpec.ofChange checkSpoiltSpec)

/-- ITS FALSE NEIGHBOUR: 'it returns false'. Refute it at one input. -/
def checkSpoiltWrong : ChangeSpec := { name := "checkSpoilt", fn := fun _ => fun
  | [d1, d2, d3] => { results := [.lit (.bool false)], args := [d1, d2, d3] }
  | _ => none }
def CheckSpoiltWrongFalsely : Prop := checkSpoiltRow.holds Tryd.pinned (OpenSpec.ofChange checkSpoiltWrong)

/- THE SECOND FORM. 'bulk': how many values and letters a reading holds, each counted each time it is reached (what is shared counts as often as it is met; a slice's spare places count too). A statement '..UptoSaid' is the law's where the arguments, and the package variables that the reading takes, are together of bulk at most 1048576: NARROWER than '..Said'. Prove '..Said' where nothing that the law and all that it calls make is longer than what came in: it says more and counts as full. Else prove '..UptoSaid'. A law counts once. -/
mutual
def uptoBulk {H : Type} : DataW H → Nat
  | .lit (.string bytes) => bytes.length + 1
  | .lit _ => 1
  | .nil => 1
  | .ptr d => uptoBulk d + 1
  | .slice elems spare => uptoBulkAll elems + uptoBulkAll spare + 1
  | .agg parts => uptoBulkAll parts + 1
  | .iface _ d => uptoBulk d + 1
  | .map entries => uptoBulkEntries entries + 1
  | .held _ => 1
def uptoBulkAll {H : Type} : List (DataW H) → Nat
  | [] => 0
  | d :: r => uptoBulk d + uptoBulkAll r
def uptoBulkEntries {H : Type} : List (Lit × DataW H) → Nat
  | [] => 0
  | x :: r => uptoBulkEntry x + uptoBulkEntries r
def uptoBulkEntry {H : Type} : Lit × DataW H → Nat
  | (.string bytes, d) => bytes.length + uptoBulk d + 1
  | (_, d) => uptoBulk d + 1
 end
def uptoSmall : (H : Type) → List (DataW H) → Bool := fun _ ds => decide (uptoBulkAll ds ≤ 1048576)
def OpenSpec.upto (s : _root_.Go.ChangeSpec) : _root_.Go.OpenSpec := { _root_.Go.OpenSpec.ofChange s with cond := some uptoSmall }

/-- 'vestibulelaw06.CheckPrograms', WHERE WHAT IT READS IS OF BULK AT MOST 1048576: true; the input reads as it did. -/
def checkProgramsUptoRow : OpenClaim := { program := "ytohfampfnhfnlaadoor", sum := "e2690b14e2e59def9f04c5e3b119795a0fb2df241440909a218a2bbfad5cb6ef", func := "vestibule/vestibulelaw06.CheckPrograms", spec := "checkPrograms", unfollowed := true, recurses := true, named := ["vestibule/insn.rows"], apart := false, laid := [("vestibule/insn.rows", laid_vestibule_insn_rows)], narrowed := true }
def CheckProgramsUptoSaid : Prop := checkProgramsUptoRow.holds Tryd.pinned (OpenSpec.upto checkProgramsSpec)

/-- 'vestibulelaw06.CheckOne', WHERE WHAT IT READS IS OF BULK AT MOST 1048576: true; the input reads as it did. -/
def checkOneUptoRow : OpenClaim := { program := "ytohfampfnhfnlaadoor", sum := "e2690b14e2e59def9f04c5e3b119795a0fb2df241440909a218a2bbfad5cb6ef", func := "vestibule/vestibulelaw06.CheckOne", spec := "checkOne", unfollowed := true, recurses := true, named := ["vestibule/insn.rows"], apart := false, laid := [("vestibule/insn.rows", laid_vestibule_insn_rows)], narrowed := true }
def CheckOneUptoSaid : Prop := checkOneUptoRow.holds Tryd.pinned (OpenSpec.upto checkOneSpec)

/-- 'vestibulelaw06.CheckLimit', WHERE WHAT IT READS IS OF BULK AT MOST 1048576: true; the input reads as it did. -/
def checkLimitUptoRow : OpenClaim := { program := "ytohfampfnhfnlaadoor", sum := "e2690b14e2e59def9f04c5e3b119795a0fb2df241440909a218a2bbfad5cb6ef", func := "vestibule/vestibulelaw06.CheckLimit", spec := "checkLimit", unfollowed := true, recurses := true, named := ["vestibule/insn.rows"], apart := false, laid := [("vestibule/insn.rows", laid_vestibule_insn_rows)], narrowed := true }
def CheckLimitUptoSaid : Prop := checkLimitUptoRow.holds Tryd.pinned (OpenSpec.upto checkLimitSpec)

/-- 'vestibulelaw06.CheckHalts', WHERE WHAT IT READS IS OF BULK AT MOST 1048576: true; the input reads as it did. -/
def checkHaltsUptoRow : OpenClaim := { program := "ytohfampfnhfnlaadoor", sum := "e2690b14e2e59def9f04c5e3b119795a0fb2df241440909a218a2bbfad5cb6ef", func := "vestibule/vestibulelaw06.CheckHalts", spec := "checkHalts", unfollowed := true, recurses := true, named := ["vestibule/insn.rows"], apart := false, laid := [("vestibule/insn.rows", laid_vestibule_insn_rows)], narrowed := true }
def CheckHaltsUptoSaid : Prop := checkHaltsUptoRow.holds Tryd.pinned (OpenSpec.upto checkHaltsSpec)

/-- 'vestibulelaw06.CheckErrors', WHERE WHAT IT READS IS OF BULK AT MOST 1048576: true; the input reads as it did. -/
def checkErrorsUptoRow : OpenClaim := { program := "ytohfampfnhfnlaadoor", sum := "e2690b14e2e59def9f04c5e3b119795a0fb2df241440909a218a2bbfad5cb6ef", func := "vestibule/vestibulelaw06.CheckErrors", spec := "checkErrors", unfollowed := true, recurses := true, named := ["vestibule/insn.rows"], apart := false, laid := [("vestibule/insn.rows", laid_vestibule_insn_rows)], narrowed := true }
def CheckErrorsUptoSaid : Prop := checkErrorsUptoRow.holds Tryd.pinned (OpenSpec.upto checkErrorsSpec)

/-- 'vestibulelaw06.CheckMore', WHERE WHAT IT READS IS OF BULK AT MOST 1048576: true; the input reads as it did. -/
def checkMoreUptoRow : OpenClaim := { program := "ytohfampfnhfnlaadoor", sum := "e2690b14e2e59def9f04c5e3b119795a0fb2df241440909a218a2bbfad5cb6ef", func := "vestibule/vestibulelaw06.CheckMore", spec := "checkMore", unfollowed := true, recurses := true, named := ["vestibule/insn.rows"], apart := false, laid := [("vestibule/insn.rows", laid_vestibule_insn_rows)], narrowed := true }
def CheckMoreUptoSaid : Prop := checkMoreUptoRow.holds Tryd.pinned (OpenSpec.upto checkMoreSpec)

/-- 'vestibulelaw06.CheckSpoilt', WHERE WHAT IT READS IS OF BULK AT MOST 1048576: true; the input reads as it did. -/
def checkSpoiltUptoRow : OpenClaim := { program := "ytohfampfnhfnlaadoor", sum := "e2690b14e2e59def9f04c5e3b119795a0fb2df241440909a218a2bbfad5cb6ef", func := "vestibule/vestibulelaw06.CheckSpoilt", spec := "checkSpoilt", unfollowed := true, recurses := true, named := ["vestibule/insn.rows"], apart := false, laid := [("vestibule/insn.rows", laid_vestibule_insn_rows)], narrowed := true }
def CheckSpoiltUptoSaid : Prop := checkSpoiltUptoRow.holds Tryd.pinned (OpenSpec.upto checkSpoiltSpec)

end Rows
end Go.Proofs.YtohfampfnhfnlaaDoor
