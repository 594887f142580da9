/-
  NARROWER THAN 'FOR EVERY INPUT', by the rows' own cells (each row's printed sentence says how): VmRuns: laid · VmOne: laid · VmEnds: laid · VmUnseen: laid · VmBehind: laid.
  DERIVED. THE GIVEN ROWS OF THIS SEAT. 5 by the template 'for every input the law returns true; each argument reads behind the call as it read before'; 0 by the template 'total and deterministic' (their statements: YtinfbmfmmbibbaaDoorTotals.lean).
  GIVEN WITH THE SEED: the statements are not yours to turn. If you find one false, say at which input.
  Laid BY PROGRAM, IN A SANDBOX (cutbox-rows.mjs): the forced cells as the released guide's own fill.sh prints them over the translation 1ceb4c75049c1b8f… (all of the seat's roots in one cut). By AI agents, Wed Nov 11 2026. No macro, syntax, notation, axiom, sorry.
-/
import Derived.Test.YtinfbmfmmbibbaaDoorChecked
import GoSem.Claim
import GoSem.ClaimJoined
import GoSem.ClaimMapViews
import Derived.JoinedTies
import Derived.KernelRfl
namespace Go.Proofs.YtinfbmfmmbibbaaDoor
/- THE CELL 'sum', in the pinned program and in every row, IS THE sha256 OF THE DUMP (.gsa) THAT YtinfbmfmmbibbaaDoorProg.lean LOADS. Nothing in Lean hashes anything: it is a label: what it is worth is what the hold of that sum in a sandbox is worth. -/
noncomputable def Tryd.pinned : Pinned := { name := "ytinfbmfmmbibbaadoor", sum := "1ceb4c75049c1b8f420386f616ee559cf4c2b830567d3db38a1880fd615c05e1", checked := Tryd.checked }
namespace Rows
def none {H : Type} : Left H := { results := [], args := [] }

/- WHAT THE LISTED PACKAGE-LEVEL VARIABLES READ AS WHEN THE CALL BEGINS. Each datum BY PROGRAM (the guide's laid-datum.mjs) off the statement by which the dump's own 'gosem.cut.vars' lays the variable. In a bare row this is a premise. The card (YtinfbmfmmbibbaaDoorCards.lean) ties it to the program's text. -/
def laid_vestibule_insn_rows {H : Type} : DataW H := .agg [.agg [.lit (.int .u16 32), .lit (.int .u8 1), .lit (.string [108, 100, 97, 98, 115])], .agg [.lit (.int .u16 128), .lit (.int .u8 1), .lit (.string [108, 100, 108, 101, 110])], .agg [.lit (.int .u16 0), .lit (.int .u8 1), .lit (.string [108, 100, 105])], .agg [.lit (.int .u16 96), .lit (.int .u8 1), .lit (.string [108, 100, 109])], .agg [.lit (.int .u16 129), .lit (.int .u8 1), .lit (.string [108, 100, 120, 108, 101, 110])], .agg [.lit (.int .u16 1), .lit (.int .u8 1), .lit (.string [108, 100, 120, 105])], .agg [.lit (.int .u16 97), .lit (.int .u8 1), .lit (.string [108, 100, 120, 109])], .agg [.lit (.int .u16 2), .lit (.int .u8 2), .lit (.string [115, 116])], .agg [.lit (.int .u16 3), .lit (.int .u8 2), .lit (.string [115, 116, 120])], .agg [.lit (.int .u16 4), .lit (.int .u8 3), .lit (.string [97, 100, 100])], .agg [.lit (.int .u16 20), .lit (.int .u8 3), .lit (.string [115, 117, 98])], .agg [.lit (.int .u16 36), .lit (.int .u8 3), .lit (.string [109, 117, 108])], .agg [.lit (.int .u16 52), .lit (.int .u8 3), .lit (.string [100, 105, 118])], .agg [.lit (.int .u16 68), .lit (.int .u8 3), .lit (.string [111, 114])], .agg [.lit (.int .u16 84), .lit (.int .u8 3), .lit (.string [97, 110, 100])], .agg [.lit (.int .u16 100), .lit (.int .u8 3), .lit (.string [108, 115, 104])], .agg [.lit (.int .u16 116), .lit (.int .u8 3), .lit (.string [114, 115, 104])], .agg [.lit (.int .u16 164), .lit (.int .u8 3), .lit (.string [120, 111, 114])], .agg [.lit (.int .u16 12), .lit (.int .u8 3), .lit (.string [97, 100, 100, 120])], .agg [.lit (.int .u16 28), .lit (.int .u8 3), .lit (.string [115, 117, 98, 120])], .agg [.lit (.int .u16 44), .lit (.int .u8 3), .lit (.string [109, 117, 108, 120])], .agg [.lit (.int .u16 60), .lit (.int .u8 3), .lit (.string [100, 105, 118, 120])], .agg [.lit (.int .u16 76), .lit (.int .u8 3), .lit (.string [111, 114, 120])], .agg [.lit (.int .u16 92), .lit (.int .u8 3), .lit (.string [97, 110, 100, 120])], .agg [.lit (.int .u16 108), .lit (.int .u8 3), .lit (.string [108, 115, 104, 120])], .agg [.lit (.int .u16 124), .lit (.int .u8 3), .lit (.string [114, 115, 104, 120])], .agg [.lit (.int .u16 172), .lit (.int .u8 3), .lit (.string [120, 111, 114, 120])], .agg [.lit (.int .u16 132), .lit (.int .u8 3), .lit (.string [110, 101, 103])], .agg [.lit (.int .u16 5), .lit (.int .u8 4), .lit (.string [106, 97])], .agg [.lit (.int .u16 21), .lit (.int .u8 4), .lit (.string [106, 101, 113])], .agg [.lit (.int .u16 37), .lit (.int .u8 4), .lit (.string [106, 103, 116])], .agg [.lit (.int .u16 53), .lit (.int .u8 4), .lit (.string [106, 103, 101])], .agg [.lit (.int .u16 69), .lit (.int .u8 4), .lit (.string [106, 115, 101, 116])], .agg [.lit (.int .u16 29), .lit (.int .u8 4), .lit (.string [106, 101, 113, 120])], .agg [.lit (.int .u16 45), .lit (.int .u8 4), .lit (.string [106, 103, 116, 120])], .agg [.lit (.int .u16 61), .lit (.int .u8 4), .lit (.string [106, 103, 101, 120])], .agg [.lit (.int .u16 77), .lit (.int .u8 4), .lit (.string [106, 115, 101, 116, 120])], .agg [.lit (.int .u16 6), .lit (.int .u8 5), .lit (.string [114, 101, 116])], .agg [.lit (.int .u16 22), .lit (.int .u8 5), .lit (.string [114, 101, 116, 97])], .agg [.lit (.int .u16 7), .lit (.int .u8 6), .lit (.string [116, 97, 120])], .agg [.lit (.int .u16 135), .lit (.int .u8 6), .lit (.string [116, 120, 97])]]

/-- 'vestibulelaw04.VmRuns': WHATEVER THE INPUT: true; the input reads as it did. -/
def vmRunsSpec : ChangeSpec := { name := "vmRuns", fn := fun _ => fun
  | [d1, d2] => { results := [.lit (.bool true)], args := [d1, d2] }
  | _ => none }
def vmRunsRow : OpenClaim := { program := "ytinfbmfmmbibbaadoor", sum := "1ceb4c75049c1b8f420386f616ee559cf4c2b830567d3db38a1880fd615c05e1", func := "vestibule/vestibulelaw04.VmRuns", spec := "vmRuns", unfollowed := true, recurses := true, named := ["vestibule/insn.rows"], apart := false, laid := [("vestibule/insn.rows", laid_vestibule_insn_rows)] }
def VmRunsSaid : Prop := vmRunsRow.holds Tryd.pinned (OpenSpec.ofChange vmRunsSpec)

/-- ITS FALSE NEIGHBOUR: 'it returns false'. Refute it at one input. -/
def vmRunsWrong : ChangeSpec := { name := "vmRuns", fn := fun _ => fun
  | [d1, d2] => { results := [.lit (.bool false)], args := [d1, d2] }
  | _ => none }
def VmRunsWrongFalsely : Prop := vmRunsRow.holds Tryd.pinned (OpenSpec.ofChange vmRunsWrong)

/-- 'vestibulelaw04.VmOne': WHATEVER THE INPUT: true; the input reads as it did. -/
def vmOneSpec : ChangeSpec := { name := "vmOne", fn := fun _ => fun
  | [d1, d2, d3, d4, d5] => { results := [.lit (.bool true)], args := [d1, d2, d3, d4, d5] }
  | _ => none }
def vmOneRow : OpenClaim := { program := "ytinfbmfmmbibbaadoor", sum := "1ceb4c75049c1b8f420386f616ee559cf4c2b830567d3db38a1880fd615c05e1", func := "vestibule/vestibulelaw04.VmOne", spec := "vmOne", unfollowed := true, recurses := true, named := ["vestibule/insn.rows"], apart := false, laid := [("vestibule/insn.rows", laid_vestibule_insn_rows)] }
def VmOneSaid : Prop := vmOneRow.holds Tryd.pinned (OpenSpec.ofChange vmOneSpec)

/-- ITS FALSE NEIGHBOUR: 'it returns false'. Refute it at one input. -/
def vmOneWrong : ChangeSpec := { name := "vmOne", fn := fun _ => fun
  | [d1, d2, d3, d4, d5] => { results := [.lit (.bool false)], args := [d1, d2, d3, d4, d5] }
  | _ => none }
def VmOneWrongFalsely : Prop := vmOneRow.holds Tryd.pinned (OpenSpec.ofChange vmOneWrong)

/-- 'vestibulelaw04.VmEnds': WHATEVER THE INPUT: true; the input reads as it did. -/
def vmEndsSpec : ChangeSpec := { name := "vmEnds", fn := fun _ => fun
  | [d1, d2] => { results := [.lit (.bool true)], args := [d1, d2] }
  | _ => none }
def vmEndsRow : OpenClaim := { program := "ytinfbmfmmbibbaadoor", sum := "1ceb4c75049c1b8f420386f616ee559cf4c2b830567d3db38a1880fd615c05e1", func := "vestibule/vestibulelaw04.VmEnds", spec := "vmEnds", unfollowed := true, recurses := true, named := ["vestibule/insn.rows"], apart := false, laid := [("vestibule/insn.rows", laid_vestibule_insn_rows)] }
def VmEndsSaid : Prop := vmEndsRow.holds Tryd.pinned (OpenSpec.ofChange vmEndsSpec)

/-- ITS FALSE NEIGHBOUR: 'it returns false'. Refute it at one input. -/
def vmEndsWrong : ChangeSpec := { name := "vmEnds", fn := fun _ => fun
  | [d1, d2] => { results := [.lit (.bool false)], args := [d1, d2] }
  | _ => none }
def VmEndsWrongFalsely : Prop := vmEndsRow.holds Tryd.pinned (OpenSpec.ofChange vmEndsWrong)

/-- 'vestibulelaw04.VmUnseen': WHATEVER THE INPUT: true; the input reads as it did. -/
def vmUnseenSpec : ChangeSpec := { name := "vmUnseen", fn := fun _ => fun
  | [d1, d2, d3, d4, d5, d6] => { results := [.lit (.bool true)], args := [d1, d2, d3, d4, d5, d6] }
  | _ => none }
def vmUnseenRow : OpenClaim := { program := "ytinfbmfmmbibbaadoor", sum := "1ceb4c75049c1b8f420386f616ee559cf4c2b830567d3db38a1880fd615c05e1", func := "vestibule/vestibulelaw04.VmUnseen", spec := "vmUnseen", unfollowed := true, recurses := true, named := ["vestibule/insn.rows"], apart := false, laid := [("vestibule/insn.rows", laid_vestibule_insn_rows)] }
def VmUnseenSaid : Prop := vmUnseenRow.holds Tryd.pinned (OpenSpec.ofChange vmUnseenSpec)

/-- ITS FALSE NEIGHBOUR: 'it returns false'. Refute it at one input. -/
def vmUnseenWrong : ChangeSpec := { name := "vmUnseen", fn := fun _ => fun
  | [d1, d2, d3, d4, d5, d6] => { results := [.lit (.bool false)], args := [d1, d2, d3, d4, d5, d6] }
  | _ => none }
def VmUnseenWrongFalsely : Prop := vmUnseenRow.holds Tryd.pinned (OpenSpec.ofChange vmUnseenWrong)

/-- 'vestibulelaw04.VmBehind': WHATEVER THE INPUT: true; the input reads as it did. -/
def vmBehindSpec : ChangeSpec := { name := "vmBehind", fn := fun _ => fun
  | [d1, d2, d3] => { results := [.lit (.bool true)], args := [d1, d2, d3] }
  | _ => none }
def vmBehindRow : OpenClaim := { program := "ytinfbmfmmbibbaadoor", sum := "1ceb4c75049c1b8f420386f616ee559cf4c2b830567d3db38a1880fd615c05e1", func := "vestibule/vestibulelaw04.VmBehind", spec := "vmBehind", unfollowed := true, recurses := true, named := ["vestibule/insn.rows"], apart := false, laid := [("vestibule/insn.rows", laid_vestibule_insn_rows)] }
def VmBehindSaid : Prop := vmBehindRow.holds Tryd.pinned (OpenSpec.ofChange vmBehindSpec)

/-- ITS FALSE NEIGHBOUR: 'it returns false'. Refute it at one input. -/
def vmBehindWrong : ChangeSpec := { name := "vmBehind", fn := fun _ => fun
  | [d1, d2, d3] => { results := [.lit (.bool false)], args := [d1, d2, d3] }
  | _ => none }
def VmBehindWrongFalsely : Prop := vmBehindRow.holds Tryd.pinned (OpenSpec.ofChange vmBehindWrong)

/- THE SECOND FORM. 'bulk': how many values and letters a reading holds, each counted each time it is reached (what is shared counts as often as it is met; a slice's spare places count too). A statement '..UptoSaid' is the law's where the arguments, and the package variables that the reading takes, are together of bulk at most 1048576: NARROWER than '..Said'. Prove '..Said' where nothing that the law and all that it calls make is longer than what came in: it says more and counts as full. Else prove '..UptoSaid'. A law counts once. -/
mutual
def uptoBulk {H : Type} : DataW H → Nat
  | .lit (.string bytes) => bytes.length + 1
  | .lit _ => 1
  | .nil => 1
  | .ptr d => uptoBulk d + 1
  | .slice elems spare => uptoBulkAll elems + uptoBulkAll spare + 1
  | .agg parts => uptoBulkAll parts + 1
  | .iface _ d => uptoBulk d + 1
  | .map entries => uptoBulkEntries entries + 1
  | .held _ => 1
def uptoBulkAll {H : Type} : List (DataW H) → Nat
  | [] => 0
  | d :: r => uptoBulk d + uptoBulkAll r
def uptoBulkEntries {H : Type} : List (Lit × DataW H) → Nat
  | [] => 0
  | x :: r => uptoBulkEntry x + uptoBulkEntries r
def uptoBulkEntry {H : Type} : Lit × DataW H → Nat
  | (.string bytes, d) => bytes.length + uptoBulk d + 1
  | (_, d) => uptoBulk d + 1
 end
def uptoSmall : (H : Type) → List (DataW H) → Bool := fun _ ds => decide (uptoBulkAll ds ≤ 1048576)
def OpenSpec.upto (s : _root_.Go.ChangeSpec) : _root_.Go.OpenSpec := { _root_.Go.OpenSpec.ofChange s with cond := some uptoSmall }

/-- 'vestibulelaw04.VmRuns', WHERE WHAT IT READS IS OF BULK AT MOST 1048576: true; the input reads as it did. -/
def vmRunsUptoRow : OpenClaim := { program := "ytinfbmfmmbibbaadoor", sum := "1ceb4c75049c1b8f420386f616ee559cf4c2b830567d3db38a1880fd615c05e1", func := "vestibule/vestibulelaw04.VmRuns", spec := "vmRuns", unfollowed := true, recurses := true, named := ["vestibule/insn.rows"], apart := false, laid := [("vestibule/insn.rows", laid_vestibule_insn_rows)], narrowed := true }
def VmRunsUptoSaid : Prop := vmRunsUptoRow.holds Tryd.pinned (OpenSpec.upto vmRunsSpec)

/-- 'vestibulelaw04.VmOne', WHERE WHAT IT READS IS OF BULK AT MOST 1048576: true; the input reads as it did. -/
def vmOneUptoRow : OpenClaim := { program := "ytinfbmfmmbibbaadoor", sum := "1ceb4c75049c1b8f420386f616ee559cf4c2b830567d3db38a1880fd615c05e1", func := "vestibule/vestibulelaw04.VmOne", spec := "vmOne", unfollowed := true, recurses := true, named := ["vestibule/insn.rows"], apart := false, laid := [("vestibule/insn.rows", laid_vestibule_insn_rows)], narrowed := true }
def VmOneUptoSaid : Prop := vmOneUptoRow.holds Tryd.pinned (OpenSpec.upto vmOneSpec)

/-- 'vestibulelaw04.VmEnds', WHERE WHAT IT READS IS OF BULK AT MOST 1048576: true; the input reads as it did. -/
def vmEndsUptoRow : OpenClaim := { program := "ytinfbmfmmbibbaadoor", sum := "1ceb4c75049c1b8f420386f616ee559cf4c2b830567d3db38a1880fd615c05e1", func := "vestibule/vestibulelaw04.VmEnds", spec := "vmEnds", unfollowed := true, recurses := true, named := ["vestibule/insn.rows"], apart := false, laid := [("vestibule/insn.rows", laid_vestibule_insn_rows)], narrowed := true }
def VmEndsUptoSaid : Prop := vmEndsUptoRow.holds Tryd.pinned (OpenSpec.upto vmEndsSpec)

/-- 'vestibulelaw04.VmUnseen', WHERE WHAT IT READS IS OF BULK AT MOST 1048576: true; the input reads as it did. -/
def vmUnseenUptoRow : OpenClaim := { program := "ytinfbmfmmbibbaadoor", sum := "1ceb4c75049c1b8f420386f616ee559cf4c2b830567d3db38a1880fd615c05e1", func := "vestibule/vestibulelaw04.VmUnseen", spec := "vmUnseen", unfollowed := true, recurses := true, named := ["vestibule/insn.rows"], apart := false, laid := [("vestibule/insn.rows", laid_vestibule_insn_rows)], narrowed := true }
def VmUnseenUptoSaid : Prop := vmUnseenUptoRow.holds Tryd.pinned (OpenSpec.upto vmUnseenSpec)

/-- 'vestibulelaw04.VmBehind', WHERE WHAT IT READS IS OF BULK AT MOST 1048576: true; the input reads as it did. -/
def vmBehindUptoRow : OpenClaim := { program := "ytinfbmfmmbibbaadoor", sum := "1ceb4c75049c1b8f420386f616ee559cf4c2b830567d3db38a1880fd615c05e1", func := "vestibule/vestibulelaw04.VmBehind", spec := "vmBehind", unfollowed := true, recurses := true, named := ["vestibule/insn.rows"], apart := false, laid := [("vestibule/insn.rows", laid_vestibule_insn_rows)], narrowed := true }
def VmBehindUptoSaid : Prop := vmBehindUptoRow.holds Tryd.pinned (OpenSpec.upto vmBehindSpec)

end Rows
end Go.Proofs.YtinfbmfmmbibbaaDoor
