/-
  NARROWER THAN 'FOR EVERY INPUT', by the rows' own cells (each row's printed sentence says how): ArchNames: laid · ArchTokens: laid · ArchBack: laid · ArchBit: laid · ArchLists: laid.
  DERIVED. THE GIVEN ROWS OF THIS SEAT. 5 by the template 'for every input the law returns true; each argument reads behind the call as it read before'; 0 by the template 'total and deterministic' (their statements: YtjfoipjifjblmaaDoorTotals.lean).
  GIVEN WITH THE SEED: the statements are not yours to turn. If you find one false, say at which input.
  Laid BY PROGRAM, IN A SANDBOX (cutbox-rows.mjs): the forced cells as the released guide's own fill.sh prints them over the translation 9a6d9df920a62780… (all of the seat's roots in one cut). By AI agents, Wed Nov 11 2026. No macro, syntax, notation, axiom, sorry.
-/
import Derived.Test.YtjfoipjifjblmaaDoorChecked
import GoSem.Claim
import GoSem.ClaimJoined
import GoSem.ClaimMapViews
import Derived.JoinedTies
import Derived.KernelRfl
namespace Go.Proofs.YtjfoipjifjblmaaDoor
/- THE CELL 'sum', in the pinned program and in every row, IS THE sha256 OF THE DUMP (.gsa) THAT YtjfoipjifjblmaaDoorProg.lean LOADS. Nothing in Lean hashes anything: it is a label: what it is worth is what the hold of that sum in a sandbox is worth. -/
noncomputable def Tryd.pinned : Pinned := { name := "ytjfoipjifjblmaadoor", sum := "9a6d9df920a62780172996b68fe268913848e6e7c634f918bc55f36c1c3c6ce5", checked := Tryd.checked }
namespace Rows
def none {H : Type} : Left H := { results := [], args := [] }

/- WHAT THE LISTED PACKAGE-LEVEL VARIABLES READ AS WHEN THE CALL BEGINS. Each datum BY PROGRAM (the guide's laid-datum.mjs) off the statement by which the dump's own 'gosem.cut.vars' lays the variable. In a bare row this is a premise. The card (YtjfoipjifjblmaaDoorCards.lean) ties it to the program's text. -/
def laid_vestibule_arch_rows {H : Type} : DataW H := .agg [.agg [.lit (.string [120, 56, 54, 45, 54, 52]), .lit (.int .u32 3221225534)], .agg [.lit (.string [120, 56, 54]), .lit (.int .u32 1073741827)], .agg [.lit (.string [120, 51, 50]), .lit (.int .u32 3221225534)], .agg [.lit (.string [97, 114, 109]), .lit (.int .u32 1073741864)], .agg [.lit (.string [97, 114, 109, 54, 52]), .lit (.int .u32 3221225655)], .agg [.lit (.string [114, 105, 115, 99, 118, 54, 52]), .lit (.int .u32 3221225715)]]

/-- 'vestibulelaw08.ArchNames': WHATEVER THE INPUT: true; the input reads as it did. -/
def archNamesSpec : ChangeSpec := { name := "archNames", fn := fun _ => fun
  | [d1, d2] => { results := [.lit (.bool true)], args := [d1, d2] }
  | _ => none }
def archNamesRow : OpenClaim := { program := "ytjfoipjifjblmaadoor", sum := "9a6d9df920a62780172996b68fe268913848e6e7c634f918bc55f36c1c3c6ce5", func := "vestibule/vestibulelaw08.ArchNames", spec := "archNames", unfollowed := true, recurses := true, named := ["vestibule/arch.rows"], apart := false, laid := [("vestibule/arch.rows", laid_vestibule_arch_rows)] }
def ArchNamesSaid : Prop := archNamesRow.holds Tryd.pinned (OpenSpec.ofChange archNamesSpec)

/-- ITS FALSE NEIGHBOUR: 'it returns false'. Refute it at one input. -/
def archNamesWrong : ChangeSpec := { name := "archNames", fn := fun _ => fun
  | [d1, d2] => { results := [.lit (.bool false)], args := [d1, d2] }
  | _ => none }
def ArchNamesWrongFalsely : Prop := archNamesRow.holds Tryd.pinned (OpenSpec.ofChange archNamesWrong)

/-- 'vestibulelaw08.ArchTokens': WHATEVER THE INPUT: true; the input reads as it did. -/
def archTokensSpec : ChangeSpec := { name := "archTokens", fn := fun _ => fun
  | [d1, d2, d3, d4] => { results := [.lit (.bool true)], args := [d1, d2, d3, d4] }
  | _ => none }
def archTokensRow : OpenClaim := { program := "ytjfoipjifjblmaadoor", sum := "9a6d9df920a62780172996b68fe268913848e6e7c634f918bc55f36c1c3c6ce5", func := "vestibule/vestibulelaw08.ArchTokens", spec := "archTokens", unfollowed := true, recurses := true, named := ["vestibule/arch.rows"], apart := false, laid := [("vestibule/arch.rows", laid_vestibule_arch_rows)] }
def ArchTokensSaid : Prop := archTokensRow.holds Tryd.pinned (OpenSpec.ofChange archTokensSpec)

/-- ITS FALSE NEIGHBOUR: 'it returns false'. Refute it at one input. -/
def archTokensWrong : ChangeSpec := { name := "archTokens", fn := fun _ => fun
  | [d1, d2, d3, d4] => { results := [.lit (.bool false)], args := [d1, d2, d3, d4] }
  | _ => none }
def ArchTokensWrongFalsely : Prop := archTokensRow.holds Tryd.pinned (OpenSpec.ofChange archTokensWrong)

/-- 'vestibulelaw08.ArchBack': WHATEVER THE INPUT: true; the input reads as it did. -/
def archBackSpec : ChangeSpec := { name := "archBack", fn := fun _ => fun
  | [d1, d2] => { results := [.lit (.bool true)], args := [d1, d2] }
  | _ => none }
def archBackRow : OpenClaim := { program := "ytjfoipjifjblmaadoor", sum := "9a6d9df920a62780172996b68fe268913848e6e7c634f918bc55f36c1c3c6ce5", func := "vestibule/vestibulelaw08.ArchBack", spec := "archBack", unfollowed := true, recurses := true, named := ["vestibule/arch.rows"], apart := false, laid := [("vestibule/arch.rows", laid_vestibule_arch_rows)] }
def ArchBackSaid : Prop := archBackRow.holds Tryd.pinned (OpenSpec.ofChange archBackSpec)

/-- ITS FALSE NEIGHBOUR: 'it returns false'. Refute it at one input. -/
def archBackWrong : ChangeSpec := { name := "archBack", fn := fun _ => fun
  | [d1, d2] => { results := [.lit (.bool false)], args := [d1, d2] }
  | _ => none }
def ArchBackWrongFalsely : Prop := archBackRow.holds Tryd.pinned (OpenSpec.ofChange archBackWrong)

/-- 'vestibulelaw08.ArchBit': WHATEVER THE INPUT: true; the input reads as it did. -/
def archBitSpec : ChangeSpec := { name := "archBit", fn := fun _ => fun
  | [d1, d2] => { results := [.lit (.bool true)], args := [d1, d2] }
  | _ => none }
def archBitRow : OpenClaim := { program := "ytjfoipjifjblmaadoor", sum := "9a6d9df920a62780172996b68fe268913848e6e7c634f918bc55f36c1c3c6ce5", func := "vestibule/vestibulelaw08.ArchBit", spec := "archBit", unfollowed := true, recurses := true, named := ["vestibule/arch.rows"], apart := false, laid := [("vestibule/arch.rows", laid_vestibule_arch_rows)] }
def ArchBitSaid : Prop := archBitRow.holds Tryd.pinned (OpenSpec.ofChange archBitSpec)

/-- ITS FALSE NEIGHBOUR: 'it returns false'. Refute it at one input. -/
def archBitWrong : ChangeSpec := { name := "archBit", fn := fun _ => fun
  | [d1, d2] => { results := [.lit (.bool false)], args := [d1, d2] }
  | _ => none }
def ArchBitWrongFalsely : Prop := archBitRow.holds Tryd.pinned (OpenSpec.ofChange archBitWrong)

/-- 'vestibulelaw08.ArchLists': WHATEVER THE INPUT: true; the input reads as it did. -/
def archListsSpec : ChangeSpec := { name := "archLists", fn := fun _ => fun
  | [d1, d2, d3] => { results := [.lit (.bool true)], args := [d1, d2, d3] }
  | _ => none }
def archListsRow : OpenClaim := { program := "ytjfoipjifjblmaadoor", sum := "9a6d9df920a62780172996b68fe268913848e6e7c634f918bc55f36c1c3c6ce5", func := "vestibule/vestibulelaw08.ArchLists", spec := "archLists", unfollowed := true, recurses := true, named := ["vestibule/arch.rows"], apart := false, laid := [("vestibule/arch.rows", laid_vestibule_arch_rows)] }
def ArchListsSaid : Prop := archListsRow.holds Tryd.pinned (OpenSpec.ofChange archListsSpec)

/-- ITS FALSE NEIGHBOUR: 'it returns false'. Refute it at one input. -/
def archListsWrong : ChangeSpec := { name := "archLists", fn := fun _ => fun
  | [d1, d2, d3] => { results := [.lit (.bool false)], args := [d1, d2, d3] }
  | _ => none }
def ArchListsWrongFalsely : Prop := archListsRow.holds Tryd.pinned (OpenSpec.ofChange archListsWrong)

/- THE SECOND FORM. 'bulk': how many values and letters a reading holds, each counted each time it is reached (what is shared counts as often as it is met; a slice's spare places count too). A statement '..UptoSaid' is the law's where the arguments, and the package variables that the reading takes, are together of bulk at most 1048576: NARROWER than '..Said'. Prove '..Said' where nothing that the law and all that it calls make is longer than what came in: it says more and counts as full. Else prove '..UptoSaid'. A law counts once. -/
mutual
def uptoBulk {H : Type} : DataW H → Nat
  | .lit (.string bytes) => bytes.length + 1
  | .lit _ => 1
  | .nil => 1
  | .ptr d => uptoBulk d + 1
  | .slice elems spare => uptoBulkAll elems + uptoBulkAll spare + 1
  | .agg parts => uptoBulkAll parts + 1
  | .iface _ d => uptoBulk d + 1
  | .map entries => uptoBulkEntries entries + 1
  | .held _ => 1
def uptoBulkAll {H : Type} : List (DataW H) → Nat
  | [] => 0
  | d :: r => uptoBulk d + uptoBulkAll r
def uptoBulkEntries {H : Type} : List (Lit × DataW H) → Nat
  | [] => 0
  | x :: r => uptoBulkEntry x + uptoBulkEntries r
def uptoBulkEntry {H : Type} : Lit × DataW H → Nat
  | (.string bytes, d) => bytes.length + uptoBulk d + 1
  | (_, d) => uptoBulk d + 1
 end
def uptoSmall : (H : Type) → List (DataW H) → Bool := fun _ ds => decide (uptoBulkAll ds ≤ 1048576)
def OpenSpec.upto (s : _root_.Go.ChangeSpec) : _root_.Go.OpenSpec := { _root_.Go.OpenSpec.ofChange s with cond := some uptoSmall }

/-- 'vestibulelaw08.ArchNames', WHERE WHAT IT READS IS OF BULK AT MOST 1048576: true; the input reads as it did. -/
def archNamesUptoRow : OpenClaim := { program := "ytjfoipjifjblmaadoor", sum := "9a6d9df920a62780172996b68fe268913848e6e7c634f918bc55f36c1c3c6ce5", func := "vestibule/vestibulelaw08.ArchNames", spec := "archNames", unfollowed := true, recurses := true, named := ["vestibule/arch.rows"], apart := false, laid := [("vestibule/arch.rows", laid_vestibule_arch_rows)], narrowed := true }
def ArchNamesUptoSaid : Prop := archNamesUptoRow.holds Tryd.pinned (OpenSpec.upto archNamesSpec)

/-- 'vestibulelaw08.ArchTokens', WHERE WHAT IT READS IS OF BULK AT MOST 1048576: true; the input reads as it did. -/
def archTokensUptoRow : OpenClaim := { program := "ytjfoipjifjblmaadoor", sum := "9a6d9df920a62780172996b68fe268913848e6e7c634f918bc55f36c1c3c6ce5", func := "vestibule/vestibulelaw08.ArchTokens", spec := "archTokens", unfollowed := true, recurses := true, named := ["vestibule/arch.rows"], apart := false, laid := [("vestibule/arch.rows", laid_vestibule_arch_rows)], narrowed := true }
def ArchTokensUptoSaid : Prop := archTokensUptoRow.holds Tryd.pinned (OpenSpec.upto archTokensSpec)

/-- 'vestibulelaw08.ArchBack', WHERE WHAT IT READS IS OF BULK AT MOST 1048576: true; the input reads as it did. -/
def archBackUptoRow : OpenClaim := { program := "ytjfoipjifjblmaadoor", sum := "9a6d9df920a62780172996b68fe268913848e6e7c634f918bc55f36c1c3c6ce5", func := "vestibule/vestibulelaw08.ArchBack", spec := "archBack", unfollowed := true, recurses := true, named := ["vestibule/arch.rows"], apart := false, laid := [("vestibule/arch.rows", laid_vestibule_arch_rows)], narrowed := true }
def ArchBackUptoSaid : Prop := archBackUptoRow.holds Tryd.pinned (OpenSpec.upto archBackSpec)

/-- 'vestibulelaw08.ArchBit', WHERE WHAT IT READS IS OF BULK AT MOST 1048576: true; the input reads as it did. -/
def archBitUptoRow : OpenClaim := { program := "ytjfoipjifjblmaadoor", sum := "9a6d9df920a62780172996b68fe268913848e6e7c634f918bc55f36c1c3c6ce5", func := "vestibule/vestibulelaw08.ArchBit", spec := "archBit", unfollowed := true, recurses := true, named := ["vestibule/arch.rows"], apart := false, laid := [("vestibule/arch.rows", laid_vestibule_arch_rows)], narrowed := true }
def ArchBitUptoSaid : Prop := archBitUptoRow.holds Tryd.pinned (OpenSpec.upto archBitSpec)

/-- 'vestibulelaw08.ArchLists', WHERE WHAT IT READS IS OF BULK AT MOST 1048576: true; the input reads as it did. -/
def archListsUptoRow : OpenClaim := { program := "ytjfoipjifjblmaadoor", sum := "9a6d9df920a62780172996b68fe268913848e6e7c634f918bc55f36c1c3c6ce5", func := "vestibule/vestibulelaw08.ArchLists", spec := "archLists", unfollowed := true, recurses := true, named := ["vestibule/arch.rows"], apart := false, laid := [("vestibule/arch.rows", laid_vestibule_arch_rows)], narrowed := true }
def ArchListsUptoSaid : Prop := archListsUptoRow.holds Tryd.pinned (OpenSpec.upto archListsSpec)

end Rows
end Go.Proofs.YtjfoipjifjblmaaDoor
