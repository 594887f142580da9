/-
  NARROWER THAN 'FOR EVERY INPUT', by the rows' own cells (each row's printed sentence says how): CellsWays: laid · CellsSure: laid · CellsLimit: laid · CellsDone: laid · CellsMore: laid · CellsNone: laid.
  DERIVED. THE GIVEN ROWS OF THIS SEAT. 6 by the template 'for every input the law returns true; each argument reads behind the call as it read before'; 0 by the template 'total and deterministic' (their statements: YthhfpehngdohhaaDoorTotals.lean).
  GIVEN WITH THE SEED: the statements are not yours to turn. If you find one false, say at which input.
  Laid BY PROGRAM, IN A SANDBOX (cutbox-rows.mjs): the forced cells as the released guide's own fill.sh prints them over the translation 985c84b571c70d61… (all of the seat's roots in one cut). By AI agents, Wed Nov 11 2026. No macro, syntax, notation, axiom, sorry.
-/
import Derived.Test.YthhfpehngdohhaaDoorChecked
import GoSem.Claim
import GoSem.ClaimJoined
import GoSem.ClaimMapViews
import Derived.JoinedTies
import Derived.KernelRfl
namespace Go.Proofs.YthhfpehngdohhaaDoor
/- THE CELL 'sum', in the pinned program and in every row, IS THE sha256 OF THE DUMP (.gsa) THAT YthhfpehngdohhaaDoorProg.lean LOADS. Nothing in Lean hashes anything: it is a label: what it is worth is what the hold of that sum in a sandbox is worth. -/
noncomputable def Tryd.pinned : Pinned := { name := "ythhfpehngdohhaadoor", sum := "985c84b571c70d61877d4f98081f8acea6c2fd532c37a579f5ec778d7ab3760b", checked := Tryd.checked }
namespace Rows
def none {H : Type} : Left H := { results := [], args := [] }

/- WHAT THE LISTED PACKAGE-LEVEL VARIABLES READ AS WHEN THE CALL BEGINS. Each datum BY PROGRAM (the guide's laid-datum.mjs) off the statement by which the dump's own 'gosem.cut.vars' lays the variable. In a bare row this is a premise. The card (YthhfpehngdohhaaDoorCards.lean) ties it to the program's text. -/
def laid_vestibule_insn_rows {H : Type} : DataW H := .agg [.agg [.lit (.int .u16 32), .lit (.int .u8 1), .lit (.string [108, 100, 97, 98, 115])], .agg [.lit (.int .u16 128), .lit (.int .u8 1), .lit (.string [108, 100, 108, 101, 110])], .agg [.lit (.int .u16 0), .lit (.int .u8 1), .lit (.string [108, 100, 105])], .agg [.lit (.int .u16 96), .lit (.int .u8 1), .lit (.string [108, 100, 109])], .agg [.lit (.int .u16 129), .lit (.int .u8 1), .lit (.string [108, 100, 120, 108, 101, 110])], .agg [.lit (.int .u16 1), .lit (.int .u8 1), .lit (.string [108, 100, 120, 105])], .agg [.lit (.int .u16 97), .lit (.int .u8 1), .lit (.string [108, 100, 120, 109])], .agg [.lit (.int .u16 2), .lit (.int .u8 2), .lit (.string [115, 116])], .agg [.lit (.int .u16 3), .lit (.int .u8 2), .lit (.string [115, 116, 120])], .agg [.lit (.int .u16 4), .lit (.int .u8 3), .lit (.string [97, 100, 100])], .agg [.lit (.int .u16 20), .lit (.int .u8 3), .lit (.string [115, 117, 98])], .agg [.lit (.int .u16 36), .lit (.int .u8 3), .lit (.string [109, 117, 108])], .agg [.lit (.int .u16 52), .lit (.int .u8 3), .lit (.string [100, 105, 118])], .agg [.lit (.int .u16 68), .lit (.int .u8 3), .lit (.string [111, 114])], .agg [.lit (.int .u16 84), .lit (.int .u8 3), .lit (.string [97, 110, 100])], .agg [.lit (.int .u16 100), .lit (.int .u8 3), .lit (.string [108, 115, 104])], .agg [.lit (.int .u16 116), .lit (.int .u8 3), .lit (.string [114, 115, 104])], .agg [.lit (.int .u16 164), .lit (.int .u8 3), .lit (.string [120, 111, 114])], .agg [.lit (.int .u16 12), .lit (.int .u8 3), .lit (.string [97, 100, 100, 120])], .agg [.lit (.int .u16 28), .lit (.int .u8 3), .lit (.string [115, 117, 98, 120])], .agg [.lit (.int .u16 44), .lit (.int .u8 3), .lit (.string [109, 117, 108, 120])], .agg [.lit (.int .u16 60), .lit (.int .u8 3), .lit (.string [100, 105, 118, 120])], .agg [.lit (.int .u16 76), .lit (.int .u8 3), .lit (.string [111, 114, 120])], .agg [.lit (.int .u16 92), .lit (.int .u8 3), .lit (.string [97, 110, 100, 120])], .agg [.lit (.int .u16 108), .lit (.int .u8 3), .lit (.string [108, 115, 104, 120])], .agg [.lit (.int .u16 124), .lit (.int .u8 3), .lit (.string [114, 115, 104, 120])], .agg [.lit (.int .u16 172), .lit (.int .u8 3), .lit (.string [120, 111, 114, 120])], .agg [.lit (.int .u16 132), .lit (.int .u8 3), .lit (.string [110, 101, 103])], .agg [.lit (.int .u16 5), .lit (.int .u8 4), .lit (.string [106, 97])], .agg [.lit (.int .u16 21), .lit (.int .u8 4), .lit (.string [106, 101, 113])], .agg [.lit (.int .u16 37), .lit (.int .u8 4), .lit (.string [106, 103, 116])], .agg [.lit (.int .u16 53), .lit (.int .u8 4), .lit (.string [106, 103, 101])], .agg [.lit (.int .u16 69), .lit (.int .u8 4), .lit (.string [106, 115, 101, 116])], .agg [.lit (.int .u16 29), .lit (.int .u8 4), .lit (.string [106, 101, 113, 120])], .agg [.lit (.int .u16 45), .lit (.int .u8 4), .lit (.string [106, 103, 116, 120])], .agg [.lit (.int .u16 61), .lit (.int .u8 4), .lit (.string [106, 103, 101, 120])], .agg [.lit (.int .u16 77), .lit (.int .u8 4), .lit (.string [106, 115, 101, 116, 120])], .agg [.lit (.int .u16 6), .lit (.int .u8 5), .lit (.string [114, 101, 116])], .agg [.lit (.int .u16 22), .lit (.int .u8 5), .lit (.string [114, 101, 116, 97])], .agg [.lit (.int .u16 7), .lit (.int .u8 6), .lit (.string [116, 97, 120])], .agg [.lit (.int .u16 135), .lit (.int .u8 6), .lit (.string [116, 120, 97])]]

/-- 'vestibulelaw05.CellsWays': WHATEVER THE INPUT: true; the input reads as it did. -/
def cellsWaysSpec : ChangeSpec := { name := "cellsWays", fn := fun _ => fun
  | [d1, d2] => { results := [.lit (.bool true)], args := [d1, d2] }
  | _ => none }
def cellsWaysRow : OpenClaim := { program := "ythhfpehngdohhaadoor", sum := "985c84b571c70d61877d4f98081f8acea6c2fd532c37a579f5ec778d7ab3760b", func := "vestibule/vestibulelaw05.CellsWays", spec := "cellsWays", unfollowed := true, recurses := true, named := ["vestibule/insn.rows"], apart := false, laid := [("vestibule/insn.rows", laid_vestibule_insn_rows)] }
def CellsWaysSaid : Prop := cellsWaysRow.holds Tryd.pinned (OpenSpec.ofChange cellsWaysSpec)

/-- ITS FALSE NEIGHBOUR: 'it returns false'. Refute it at one input. -/
def cellsWaysWrong : ChangeSpec := { name := "cellsWays", fn := fun _ => fun
  | [d1, d2] => { results := [.lit (.bool false)], args := [d1, d2] }
  | _ => none }
def CellsWaysWrongFalsely : Prop := cellsWaysRow.holds Tryd.pinned (OpenSpec.ofChange cellsWaysWrong)

/-- 'vestibulelaw05.CellsSure': WHATEVER THE INPUT: true; the input reads as it did. -/
def cellsSureSpec : ChangeSpec := { name := "cellsSure", fn := fun _ => fun
  | [d] => { results := [.lit (.bool true)], args := [d] }
  | _ => none }
def cellsSureRow : OpenClaim := { program := "ythhfpehngdohhaadoor", sum := "985c84b571c70d61877d4f98081f8acea6c2fd532c37a579f5ec778d7ab3760b", func := "vestibule/vestibulelaw05.CellsSure", spec := "cellsSure", unfollowed := true, recurses := true, named := ["vestibule/insn.rows"], apart := false, laid := [("vestibule/insn.rows", laid_vestibule_insn_rows)] }
def CellsSureSaid : Prop := cellsSureRow.holds Tryd.pinned (OpenSpec.ofChange cellsSureSpec)

/-- ITS FALSE NEIGHBOUR: 'it returns false'. Refute it at one input. -/
def cellsSureWrong : ChangeSpec := { name := "cellsSure", fn := fun _ => fun
  | [d] => { results := [.lit (.bool false)], args := [d] }
  | _ => none }
def CellsSureWrongFalsely : Prop := cellsSureRow.holds Tryd.pinned (OpenSpec.ofChange cellsSureWrong)

/-- 'vestibulelaw05.CellsLimit': WHATEVER THE INPUT: true; the input reads as it did. -/
def cellsLimitSpec : ChangeSpec := { name := "cellsLimit", fn := fun _ => fun
  | [d] => { results := [.lit (.bool true)], args := [d] }
  | _ => none }
def cellsLimitRow : OpenClaim := { program := "ythhfpehngdohhaadoor", sum := "985c84b571c70d61877d4f98081f8acea6c2fd532c37a579f5ec778d7ab3760b", func := "vestibule/vestibulelaw05.CellsLimit", spec := "cellsLimit", unfollowed := true, recurses := true, named := ["vestibule/insn.rows"], apart := false, laid := [("vestibule/insn.rows", laid_vestibule_insn_rows)] }
def CellsLimitSaid : Prop := cellsLimitRow.holds Tryd.pinned (OpenSpec.ofChange cellsLimitSpec)

/-- ITS FALSE NEIGHBOUR: 'it returns false'. Refute it at one input. -/
def cellsLimitWrong : ChangeSpec := { name := "cellsLimit", fn := fun _ => fun
  | [d] => { results := [.lit (.bool false)], args := [d] }
  | _ => none }
def CellsLimitWrongFalsely : Prop := cellsLimitRow.holds Tryd.pinned (OpenSpec.ofChange cellsLimitWrong)

/-- 'vestibulelaw05.CellsDone': WHATEVER THE INPUT: true; the input reads as it did. -/
def cellsDoneSpec : ChangeSpec := { name := "cellsDone", fn := fun _ => fun
  | [d1, d2] => { results := [.lit (.bool true)], args := [d1, d2] }
  | _ => none }
def cellsDoneRow : OpenClaim := { program := "ythhfpehngdohhaadoor", sum := "985c84b571c70d61877d4f98081f8acea6c2fd532c37a579f5ec778d7ab3760b", func := "vestibule/vestibulelaw05.CellsDone", spec := "cellsDone", unfollowed := true, recurses := true, named := ["vestibule/insn.rows"], apart := false, laid := [("vestibule/insn.rows", laid_vestibule_insn_rows)] }
def CellsDoneSaid : Prop := cellsDoneRow.holds Tryd.pinned (OpenSpec.ofChange cellsDoneSpec)

/-- ITS FALSE NEIGHBOUR: 'it returns false'. Refute it at one input. -/
def cellsDoneWrong : ChangeSpec := { name := "cellsDone", fn := fun _ => fun
  | [d1, d2] => { results := [.lit (.bool false)], args := [d1, d2] }
  | _ => none }
def CellsDoneWrongFalsely : Prop := cellsDoneRow.holds Tryd.pinned (OpenSpec.ofChange cellsDoneWrong)

/-- 'vestibulelaw05.CellsMore': WHATEVER THE INPUT: true; the input reads as it did. -/
def cellsMoreSpec : ChangeSpec := { name := "cellsMore", fn := fun _ => fun
  | [d1, d2] => { results := [.lit (.bool true)], args := [d1, d2] }
  | _ => none }
def cellsMoreRow : OpenClaim := { program := "ythhfpehngdohhaadoor", sum := "985c84b571c70d61877d4f98081f8acea6c2fd532c37a579f5ec778d7ab3760b", func := "vestibule/vestibulelaw05.CellsMore", spec := "cellsMore", unfollowed := true, recurses := true, named := ["vestibule/insn.rows"], apart := false, laid := [("vestibule/insn.rows", laid_vestibule_insn_rows)] }
def CellsMoreSaid : Prop := cellsMoreRow.holds Tryd.pinned (OpenSpec.ofChange cellsMoreSpec)

/-- ITS FALSE NEIGHBOUR: 'it returns false'. Refute it at one input. -/
def cellsMoreWrong : ChangeSpec := { name := "cellsMore", fn := fun _ => fun
  | [d1, d2] => { results := [.lit (.bool false)], args := [d1, d2] }
  | _ => none }
def CellsMoreWrongFalsely : Prop := cellsMoreRow.holds Tryd.pinned (OpenSpec.ofChange cellsMoreWrong)

/-- 'vestibulelaw05.CellsNone': WHATEVER THE INPUT: true; the input reads as it did. -/
def cellsNoneSpec : ChangeSpec := { name := "cellsNone", fn := fun _ => fun
  | [d] => { results := [.lit (.bool true)], args := [d] }
  | _ => none }
def cellsNoneRow : OpenClaim := { program := "ythhfpehngdohhaadoor", sum := "985c84b571c70d61877d4f98081f8acea6c2fd532c37a579f5ec778d7ab3760b", func := "vestibule/vestibulelaw05.CellsNone", spec := "cellsNone", unfollowed := true, recurses := true, named := ["vestibule/insn.rows"], apart := false, laid := [("vestibule/insn.rows", laid_vestibule_insn_rows)] }
def CellsNoneSaid : Prop := cellsNoneRow.holds Tryd.pinned (OpenSpec.ofChange cellsNoneSpec)

/-- ITS FALSE NEIGHBOUR: 'it returns false'. Refute it at one input. -/
def cellsNoneWrong : ChangeSpec := { name := "cellsNone", fn := fun _ => fun
  | [d] => { results := [.lit (.bool false)], args := [d] }
  | _ => none }
def CellsNoneWrongFalsely : Prop := cellsNoneRow.holds Tryd.pinned (OpenSpec.ofChange cellsNoneWrong)

/- THE SECOND FORM. 'bulk': how many values and letters a reading holds, each counted each time it is reached (what is shared counts as often as it is met; a slice's spare places count too). A statement '..UptoSaid' is the law's where the arguments, and the package variables that the reading takes, are together of bulk at most 1048576: NARROWER than '..Said'. Prove '..Said' where nothing that the law and all that it calls make is longer than what came in: it says more and counts as full. Else prove '..UptoSaid'. A law counts once. -/
mutual
def uptoBulk {H : Type} : DataW H → Nat
  | .lit (.string bytes) => bytes.length + 1
  | .lit _ => 1
  | .nil => 1
  | .ptr d => uptoBulk d + 1
  | .slice elems spare => uptoBulkAll elems + uptoBulkAll spare + 1
  | .agg parts => uptoBulkAll parts + 1
  | .iface _ d => uptoBulk d + 1
  | .map entries => uptoBulkEntries entries + 1
  | .held _ => 1
def uptoBulkAll {H : Type} : List (DataW H) → Nat
  | [] => 0
  | d :: r => uptoBulk d + uptoBulkAll r
def uptoBulkEntries {H : Type} : List (Lit × DataW H) → Nat
  | [] => 0
  | x :: r => uptoBulkEntry x + uptoBulkEntries r
def uptoBulkEntry {H : Type} : Lit × DataW H → Nat
  | (.string bytes, d) => bytes.length + uptoBulk d + 1
  | (_, d) => uptoBulk d + 1
 end
def uptoSmall : (H : Type) → List (DataW H) → Bool := fun _ ds => decide (uptoBulkAll ds ≤ 1048576)
def OpenSpec.upto (s : _root_.Go.ChangeSpec) : _root_.Go.OpenSpec := { _root_.Go.OpenSpec.ofChange s with cond := some uptoSmall }

/-- 'vestibulelaw05.CellsWays', WHERE WHAT IT READS IS OF BULK AT MOST 1048576: true; the input reads as it did. -/
def cellsWaysUptoRow : OpenClaim := { program := "ythhfpehngdohhaadoor", sum := "985c84b571c70d61877d4f98081f8acea6c2fd532c37a579f5ec778d7ab3760b", func := "vestibule/vestibulelaw05.CellsWays", spec := "cellsWays", unfollowed := true, recurses := true, named := ["vestibule/insn.rows"], apart := false, laid := [("vestibule/insn.rows", laid_vestibule_insn_rows)], narrowed := true }
def CellsWaysUptoSaid : Prop := cellsWaysUptoRow.holds Tryd.pinned (OpenSpec.upto cellsWaysSpec)

/-- 'vestibulelaw05.CellsSure', WHERE WHAT IT READS IS OF BULK AT MOST 1048576: true; the input reads as it did. -/
def cellsSureUptoRow : OpenClaim := { program := "ythhfpehngdohhaadoor", sum := "985c84b571c70d61877d4f98081f8acea6c2fd532c37a579f5ec778d7ab3760b", func := "vestibule/vestibulelaw05.CellsSure", spec := "cellsSure", unfollowed := true, recurses := true, named := ["vestibule/insn.rows"], apart := false, laid := [("vestibule/insn.rows", laid_vestibule_insn_rows)], narrowed := true }
def CellsSureUptoSaid : Prop := cellsSureUptoRow.holds Tryd.pinned (OpenSpec.upto cellsSureSpec)

/-- 'vestibulelaw05.CellsLimit', WHERE WHAT IT READS IS OF BULK AT MOST 1048576: true; the input reads as it did. -/
def cellsLimitUptoRow : OpenClaim := { program := "ythhfpehngdohhaadoor", sum := "985c84b571c70d61877d4f98081f8acea6c2fd532c37a579f5ec778d7ab3760b", func := "vestibule/vestibulelaw05.CellsLimit", spec := "cellsLimit", unfollowed := true, recurses := true, named := ["vestibule/insn.rows"], apart := false, laid := [("vestibule/insn.rows", laid_vestibule_insn_rows)], narrowed := true }
def CellsLimitUptoSaid : Prop := cellsLimitUptoRow.holds Tryd.pinned (OpenSpec.upto cellsLimitSpec)

/-- 'vestibulelaw05.CellsDone', WHERE WHAT IT READS IS OF BULK AT MOST 1048576: true; the input reads as it did. -/
def cellsDoneUptoRow : OpenClaim := { program := "ythhfpehngdohhaadoor", sum := "985c84b571c70d61877d4f98081f8acea6c2fd532c37a579f5ec778d7ab3760b", func := "vestibule/vestibulelaw05.CellsDone", spec := "cellsDone", unfollowed := true, recurses := true, named := ["vestibule/insn.rows"], apart := false, laid := [("vestibule/insn.rows", laid_vestibule_insn_rows)], narrowed := true }
def CellsDoneUptoSaid : Prop := cellsDoneUptoRow.holds Tryd.pinned (OpenSpec.upto cellsDoneSpec)

/-- 'vestibulelaw05.CellsMore', WHERE WHAT IT READS IS OF BULK AT MOST 1048576: true; the input reads as it did. -/
def cellsMoreUptoRow : OpenClaim := { program := "ythhfpehngdohhaadoor", sum := "985c84b571c70d61877d4f98081f8acea6c2fd532c37a579f5ec778d7ab3760b", func := "vestibule/vestibulelaw05.CellsMore", spec := "cellsMore", unfollowed := true, recurses := true, named := ["vestibule/insn.rows"], apart := false, laid := [("vestibule/insn.rows", laid_vestibule_insn_rows)], narrowed := true }
def CellsMoreUptoSaid : Prop := cellsMoreUptoRow.holds Tryd.pinned (OpenSpec.upto cellsMoreSpec)

/-- 'vestibulelaw05.CellsNone', WHERE WHAT IT READS IS OF BULK AT MOST 1048576: true; the input reads as it did. -/
def cellsNoneUptoRow : OpenClaim := { program := "ythhfpehngdohhaadoor", sum := "985c84b571c70d61877d4f98081f8acea6c2fd532c37a579f5ec778d7ab3760b", func := "vestibule/vestibulelaw05.CellsNone", spec := "cellsNone", unfollowed := true, recurses := true, named := ["vestibule/insn.rows"], apart := false, laid := [("vestibule/insn.rows", laid_vestibule_insn_rows)], narrowed := true }
def CellsNoneUptoSaid : Prop := cellsNoneUptoRow.holds Tryd.pinned (OpenSpec.upto cellsNoneSpec)

end Rows
end Go.Proofs.YthhfpehngdohhaaDoor
