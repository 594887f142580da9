/-
  NARROWER THAN 'FOR EVERY INPUT', by the rows' own cells (each row's printed sentence says how): CallsTells: laid · CallsAll: laid · CallsOne: laid · CallsKnown: laid.
  DERIVED. THE GIVEN ROWS OF THIS SEAT. 4 by the template 'for every input the law returns true; each argument reads behind the call as it read before'; 0 by the template 'total and deterministic' (their statements: YtijnkhenplmghaaDoorTotals.lean).
  GIVEN WITH THE SEED: the statements are not yours to turn. If you find one false, say at which input.
  Laid BY PROGRAM, IN A SANDBOX (cutbox-rows.mjs): the forced cells as the released guide's own fill.sh prints them over the translation eda29b83d15eaa62… (all of the seat's roots in one cut). By AI agents, Wed Nov 11 2026. No macro, syntax, notation, axiom, sorry.
-/
import Derived.Test.YtijnkhenplmghaaDoorChecked
import GoSem.Claim
import GoSem.ClaimJoined
import GoSem.ClaimMapViews
import Derived.JoinedTies
import Derived.KernelRfl
namespace Go.Proofs.YtijnkhenplmghaaDoor
/- THE CELL 'sum', in the pinned program and in every row, IS THE sha256 OF THE DUMP (.gsa) THAT YtijnkhenplmghaaDoorProg.lean LOADS. Nothing in Lean hashes anything: it is a label: what it is worth is what the hold of that sum in a sandbox is worth. -/
noncomputable def Tryd.pinned : Pinned := { name := "ytijnkhenplmghaadoor", sum := "eda29b83d15eaa62aac39fa67b13381ab3634d0b5d78d0e64d578c127e3a9b76", checked := Tryd.checked }
namespace Rows
def none {H : Type} : Left H := { results := [], args := [] }

/- WHAT THE LISTED PACKAGE-LEVEL VARIABLES READ AS WHEN THE CALL BEGINS. Each datum BY PROGRAM (the guide's laid-datum.mjs) off the statement by which the dump's own 'gosem.cut.vars' lays the variable. In a bare row this is a premise. The card (YtijnkhenplmghaaDoorCards.lean) ties it to the program's text. -/
def laid_vestibule_arch_rows {H : Type} : DataW H := .agg [.agg [.lit (.string [120, 56, 54, 45, 54, 52]), .lit (.int .u32 3221225534)], .agg [.lit (.string [120, 56, 54]), .lit (.int .u32 1073741827)], .agg [.lit (.string [120, 51, 50]), .lit (.int .u32 3221225534)], .agg [.lit (.string [97, 114, 109]), .lit (.int .u32 1073741864)], .agg [.lit (.string [97, 114, 109, 54, 52]), .lit (.int .u32 3221225655)], .agg [.lit (.string [114, 105, 115, 99, 118, 54, 52]), .lit (.int .u32 3221225715)]]

/-- 'vestibulelaw09.CallsTells': WHATEVER THE INPUT: true; the input reads as it did. -/
def callsTellsSpec : ChangeSpec := { name := "callsTells", fn := fun _ => fun
  | [d1, d2, d3] => { results := [.lit (.bool true)], args := [d1, d2, d3] }
  | _ => none }
def callsTellsRow : OpenClaim := { program := "ytijnkhenplmghaadoor", sum := "eda29b83d15eaa62aac39fa67b13381ab3634d0b5d78d0e64d578c127e3a9b76", func := "vestibule/vestibulelaw09.CallsTells", spec := "callsTells", unfollowed := true, recurses := true, named := ["vestibule/arch.rows"], apart := false, laid := [("vestibule/arch.rows", laid_vestibule_arch_rows)] }
def CallsTellsSaid : Prop := callsTellsRow.holds Tryd.pinned (OpenSpec.ofChange callsTellsSpec)

/-- ITS FALSE NEIGHBOUR: 'it returns false'. Refute it at one input. -/
def callsTellsWrong : ChangeSpec := { name := "callsTells", fn := fun _ => fun
  | [d1, d2, d3] => { results := [.lit (.bool false)], args := [d1, d2, d3] }
  | _ => none }
def CallsTellsWrongFalsely : Prop := callsTellsRow.holds Tryd.pinned (OpenSpec.ofChange callsTellsWrong)

/-- 'vestibulelaw09.CallsAll': WHATEVER THE INPUT: true; the input reads as it did. -/
def callsAllSpec : ChangeSpec := { name := "callsAll", fn := fun _ => fun
  | [d] => { results := [.lit (.bool true)], args := [d] }
  | _ => none }
def callsAllRow : OpenClaim := { program := "ytijnkhenplmghaadoor", sum := "eda29b83d15eaa62aac39fa67b13381ab3634d0b5d78d0e64d578c127e3a9b76", func := "vestibule/vestibulelaw09.CallsAll", spec := "callsAll", unfollowed := true, recurses := true, named := ["vestibule/arch.rows"], apart := false, laid := [("vestibule/arch.rows", laid_vestibule_arch_rows)] }
def CallsAllSaid : Prop := callsAllRow.holds Tryd.pinned (OpenSpec.ofChange callsAllSpec)

/-- ITS FALSE NEIGHBOUR: 'it returns false'. Refute it at one input. -/
def callsAllWrong : ChangeSpec := { name := "callsAll", fn := fun _ => fun
  | [d] => { results := [.lit (.bool false)], args := [d] }
  | _ => none }
def CallsAllWrongFalsely : Prop := callsAllRow.holds Tryd.pinned (OpenSpec.ofChange callsAllWrong)

/-- 'vestibulelaw09.CallsOne': WHATEVER THE INPUT: true; the input reads as it did. -/
def callsOneSpec : ChangeSpec := { name := "callsOne", fn := fun _ => fun
  | [d1, d2] => { results := [.lit (.bool true)], args := [d1, d2] }
  | _ => none }
def callsOneRow : OpenClaim := { program := "ytijnkhenplmghaadoor", sum := "eda29b83d15eaa62aac39fa67b13381ab3634d0b5d78d0e64d578c127e3a9b76", func := "vestibule/vestibulelaw09.CallsOne", spec := "callsOne", unfollowed := true, recurses := true, named := ["vestibule/arch.rows"], apart := false, laid := [("vestibule/arch.rows", laid_vestibule_arch_rows)] }
def CallsOneSaid : Prop := callsOneRow.holds Tryd.pinned (OpenSpec.ofChange callsOneSpec)

/-- ITS FALSE NEIGHBOUR: 'it returns false'. Refute it at one input. -/
def callsOneWrong : ChangeSpec := { name := "callsOne", fn := fun _ => fun
  | [d1, d2] => { results := [.lit (.bool false)], args := [d1, d2] }
  | _ => none }
def CallsOneWrongFalsely : Prop := callsOneRow.holds Tryd.pinned (OpenSpec.ofChange callsOneWrong)

/-- 'vestibulelaw09.CallsKnown': WHATEVER THE INPUT: true; the input reads as it did. -/
def callsKnownSpec : ChangeSpec := { name := "callsKnown", fn := fun _ => fun
  | [d1, d2] => { results := [.lit (.bool true)], args := [d1, d2] }
  | _ => none }
def callsKnownRow : OpenClaim := { program := "ytijnkhenplmghaadoor", sum := "eda29b83d15eaa62aac39fa67b13381ab3634d0b5d78d0e64d578c127e3a9b76", func := "vestibule/vestibulelaw09.CallsKnown", spec := "callsKnown", unfollowed := true, recurses := true, named := ["vestibule/arch.rows"], apart := false, laid := [("vestibule/arch.rows", laid_vestibule_arch_rows)] }
def CallsKnownSaid : Prop := callsKnownRow.holds Tryd.pinned (OpenSpec.ofChange callsKnownSpec)

/-- ITS FALSE NEIGHBOUR: 'it returns false'. Refute it at one input. -/
def callsKnownWrong : ChangeSpec := { name := "callsKnown", fn := fun _ => fun
  | [d1, d2] => { results := [.lit (.bool false)], args := [d1, d2] }
  | _ => none }
def CallsKnownWrongFalsely : Prop := callsKnownRow.holds Tryd.pinned (OpenSpec.ofChange callsKnownWrong)

/- THE SECOND FORM. 'bulk': how many values and letters a reading holds, each counted each time it is reached (what is shared counts as often as it is met; a slice's spare places count too). A statement '..UptoSaid' is the law's where the arguments, and the package variables that the reading takes, are together of bulk at most 1048576: NARROWER than '..Said'. Prove '..Said' where nothing that the law and all that it calls make is longer than what came in: it says more and counts as full. Else prove '..UptoSaid'. A law counts once. -/
mutual
def uptoBulk {H : Type} : DataW H → Nat
  | .lit (.string bytes) => bytes.length + 1
  | .lit _ => 1
  | .nil => 1
  | .ptr d => uptoBulk d + 1
  | .slice elems spare => uptoBulkAll elems + uptoBulkAll spare + 1
  | .agg parts => uptoBulkAll parts + 1
  | .iface _ d => uptoBulk d + 1
  | .map entries => uptoBulkEntries entries + 1
  | .held _ => 1
def uptoBulkAll {H : Type} : List (DataW H) → Nat
  | [] => 0
  | d :: r => uptoBulk d + uptoBulkAll r
def uptoBulkEntries {H : Type} : List (Lit × DataW H) → Nat
  | [] => 0
  | x :: r => uptoBulkEntry x + uptoBulkEntries r
def uptoBulkEntry {H : Type} : Lit × DataW H → Nat
  | (.string bytes, d) => bytes.length + uptoBulk d + 1
  | (_, d) => uptoBulk d + 1
 end
def uptoSmall : (H : Type) → List (DataW H) → Bool := fun _ ds => decide (uptoBulkAll ds ≤ 1048576)
def OpenSpec.upto (s : _root_.Go.ChangeSpec) : _root_.Go.OpenSpec := { _root_.Go.OpenSpec.ofChange s with cond := some uptoSmall }

/-- 'vestibulelaw09.CallsTells', WHERE WHAT IT READS IS OF BULK AT MOST 1048576: true; the input reads as it did. -/
def callsTellsUptoRow : OpenClaim := { program := "ytijnkhenplmghaadoor", sum := "eda29b83d15eaa62aac39fa67b13381ab3634d0b5d78d0e64d578c127e3a9b76", func := "vestibule/vestibulelaw09.CallsTells", spec := "callsTells", unfollowed := true, recurses := true, named := ["vestibule/arch.rows"], apart := false, laid := [("vestibule/arch.rows", laid_vestibule_arch_rows)], narrowed := true }
def CallsTellsUptoSaid : Prop := callsTellsUptoRow.holds Tryd.pinned (OpenSpec.upto callsTellsSpec)

/-- 'vestibulelaw09.CallsAll', WHERE WHAT IT READS IS OF BULK AT MOST 1048576: true; the input reads as it did. -/
def callsAllUptoRow : OpenClaim := { program := "ytijnkhenplmghaadoor", sum := "eda29b83d15eaa62aac39fa67b13381ab3634d0b5d78d0e64d578c127e3a9b76", func := "vestibule/vestibulelaw09.CallsAll", spec := "callsAll", unfollowed := true, recurses := true, named := ["vestibule/arch.rows"], apart := false, laid := [("vestibule/arch.rows", laid_vestibule_arch_rows)], narrowed := true }
def CallsAllUptoSaid : Prop := callsAllUptoRow.holds Tryd.pinned (OpenSpec.upto callsAllSpec)

/-- 'vestibulelaw09.CallsOne', WHERE WHAT IT READS IS OF BULK AT MOST 1048576: true; the input reads as it did. -/
def callsOneUptoRow : OpenClaim := { program := "ytijnkhenplmghaadoor", sum := "eda29b83d15eaa62aac39fa67b13381ab3634d0b5d78d0e64d578c127e3a9b76", func := "vestibule/vestibulelaw09.CallsOne", spec := "callsOne", unfollowed := true, recurses := true, named := ["vestibule/arch.rows"], apart := false, laid := [("vestibule/arch.rows", laid_vestibule_arch_rows)], narrowed := true }
def CallsOneUptoSaid : Prop := callsOneUptoRow.holds Tryd.pinned (OpenSpec.upto callsOneSpec)

/-- 'vestibulelaw09.CallsKnown', WHERE WHAT IT READS IS OF BULK AT MOST 1048576: true; the input reads as it did. -/
def callsKnownUptoRow : OpenClaim := { program := "ytijnkhenplmghaadoor", sum := "eda29b83d15eaa62aac39fa67b13381ab3634d0b5d78d0e64d578c127e3a9b76", func := "vestibule/vestibulelaw09.CallsKnown", spec := "callsKnown", unfollowed := true, recurses := true, named := ["vestibule/arch.rows"], apart := false, laid := [("vestibule/arch.rows", laid_vestibule_arch_rows)], narrowed := true }
def CallsKnownUptoSaid : Prop := callsKnownUptoRow.holds Tryd.pinned (OpenSpec.upto callsKnownSpec)

end Rows
end Go.Proofs.YtijnkhenplmghaaDoor
