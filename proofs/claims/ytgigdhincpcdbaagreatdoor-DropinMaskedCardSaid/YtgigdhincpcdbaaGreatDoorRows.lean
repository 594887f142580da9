/-
  NARROWER THAN 'FOR EVERY INPUT', by the rows' own cells (each row's printed sentence says how): DropinOrders: laid · DropinMerges: laid · DropinAny: laid · DropinMasked: laid · DropinBehind: laid.
  DERIVED. THE GIVEN ROWS OF THIS SEAT. 5 by the template 'for every input the law returns true; each argument reads behind the call as it read before'; 0 by the template 'total and deterministic' (their statements: YtgigdhincpcdbaaGreatDoorTotals.lean).
  GIVEN WITH THE SEED: the statements are not yours to turn. If you find one false, say at which input.
  Laid BY PROGRAM, IN A SANDBOX (cutbox-rows.mjs): the forced cells as the released guide's own fill.sh prints them over the translation 5a1b5eece7913113… (all of the seat's roots in one cut). By AI agents, Wed Nov 11 2026. No macro, syntax, notation, axiom, sorry.
-/
import Derived.Test.YtgigdhincpcdbaaGreatDoorChecked
import GoSem.PinnedTables
import GoSem.Claim
import GoSem.ClaimJoined
import GoSem.ClaimMapViews
import Derived.JoinedTies
import Derived.KernelRfl
namespace Go.Proofs.YtgigdhincpcdbaaGreatDoor
/- THE CELL 'sum', in the pinned program and in every row, IS THE sha256 OF THE DUMP (.gsa) THAT YtgigdhincpcdbaaGreatDoorProg.lean LOADS. Nothing in Lean hashes anything: it is a label: what it is worth is what the hold of that sum in a sandbox is worth. -/
noncomputable def Tryz.pinned : Pinned := { name := "ytgigdhincpcdbaagreatdoor", sum := "5a1b5eece79131137e0b2085d5abedf3d552382c48c905ce95f4a352f1f9c2a9", checked := Tryz.checked }
namespace Rows
def none {H : Type} : Left H := { results := [], args := [] }

/- WHAT THE LISTED PACKAGE-LEVEL VARIABLES READ AS WHEN THE CALL BEGINS. Each datum BY PROGRAM (the guide's laid-datum.mjs) off the statement by which the dump's own 'gosem.cut.vars' lays the variable. In a bare row this is a premise. The card (YtgigdhincpcdbaaGreatDoorCards.lean) ties it to the program's text. -/
def laid_unicode_utf8_acceptRanges {H : Type} : DataW H := .agg [.agg [.lit (.int .u8 128), .lit (.int .u8 191)], .agg [.lit (.int .u8 160), .lit (.int .u8 191)], .agg [.lit (.int .u8 128), .lit (.int .u8 159)], .agg [.lit (.int .u8 144), .lit (.int .u8 191)], .agg [.lit (.int .u8 128), .lit (.int .u8 143)], .agg [.lit (.int .u8 0), .lit (.int .u8 0)], .agg [.lit (.int .u8 0), .lit (.int .u8 0)], .agg [.lit (.int .u8 0), .lit (.int .u8 0)], .agg [.lit (.int .u8 0), .lit (.int .u8 0)], .agg [.lit (.int .u8 0), .lit (.int .u8 0)], .agg [.lit (.int .u8 0), .lit (.int .u8 0)], .agg [.lit (.int .u8 0), .lit (.int .u8 0)], .agg [.lit (.int .u8 0), .lit (.int .u8 0)], .agg [.lit (.int .u8 0), .lit (.int .u8 0)], .agg [.lit (.int .u8 0), .lit (.int .u8 0)], .agg [.lit (.int .u8 0), .lit (.int .u8 0)]]
/-- One of Go's own tables, pinned by name: the form's constant. -/
def laid_unicode_utf8_first : DataW Unit := Go.Pinned.utf8First

/-- 'vestibulelaw14.DropinOrders': WHATEVER THE INPUT: true; the input reads as it did. -/
def dropinOrdersSpec : ChangeSpec := { name := "dropinOrders", fn := fun _ => fun
  | [d1, d2, d3] => { results := [.lit (.bool true)], args := [d1, d2, d3] }
  | _ => none }
def dropinOrdersRow : OpenClaim := { program := "ytgigdhincpcdbaagreatdoor", sum := "5a1b5eece79131137e0b2085d5abedf3d552382c48c905ce95f4a352f1f9c2a9", func := "vestibule/vestibulelaw14.DropinOrders", spec := "dropinOrders", inPlace := ["internal/bytealg.abigen_runtime_cmpstring", "internal/bytealg.IndexByteString", "internal/bytealg.IndexString", "internal/abi.NoEscape"], unfollowed := true, recurses := true, named := ["unicode/utf8.first", "unicode/utf8.acceptRanges", "internal/bytealg.MaxLen"], apart := false, laid := [("unicode/utf8.acceptRanges", laid_unicode_utf8_acceptRanges), ("unicode/utf8.first", laid_unicode_utf8_first)] }
def DropinOrdersSaid : Prop := dropinOrdersRow.holds Tryz.pinned (OpenSpec.ofChange dropinOrdersSpec)

/-- ITS FALSE NEIGHBOUR: 'it returns false'. Refute it at one input. -/
def dropinOrdersWrong : ChangeSpec := { name := "dropinOrders", fn := fun _ => fun
  | [d1, d2, d3] => { results := [.lit (.bool false)], args := [d1, d2, d3] }
  | _ => none }
def DropinOrdersWrongFalsely : Prop := dropinOrdersRow.holds Tryz.pinned (OpenSpec.ofChange dropinOrdersWrong)

/-- 'vestibulelaw14.DropinMerges': WHATEVER THE INPUT: true; the input reads as it did. -/
def dropinMergesSpec : ChangeSpec := { name := "dropinMerges", fn := fun _ => fun
  | [d1, d2] => { results := [.lit (.bool true)], args := [d1, d2] }
  | _ => none }
def dropinMergesRow : OpenClaim := { program := "ytgigdhincpcdbaagreatdoor", sum := "5a1b5eece79131137e0b2085d5abedf3d552382c48c905ce95f4a352f1f9c2a9", func := "vestibule/vestibulelaw14.DropinMerges", spec := "dropinMerges", inPlace := ["internal/bytealg.abigen_runtime_cmpstring", "internal/bytealg.IndexByteString", "internal/bytealg.IndexString", "internal/abi.NoEscape"], unfollowed := true, recurses := true, named := ["unicode/utf8.first", "unicode/utf8.acceptRanges", "internal/bytealg.MaxLen"], apart := false, laid := [("unicode/utf8.acceptRanges", laid_unicode_utf8_acceptRanges), ("unicode/utf8.first", laid_unicode_utf8_first)] }
def DropinMergesSaid : Prop := dropinMergesRow.holds Tryz.pinned (OpenSpec.ofChange dropinMergesSpec)

/-- ITS FALSE NEIGHBOUR: 'it returns false'. Refute it at one input. -/
def dropinMergesWrong : ChangeSpec := { name := "dropinMerges", fn := fun _ => fun
  | [d1, d2] => { results := [.lit (.bool false)], args := [d1, d2] }
  | _ => none }
def DropinMergesWrongFalsely : Prop := dropinMergesRow.holds Tryz.pinned (OpenSpec.ofChange dropinMergesWrong)

/-- 'vestibulelaw14.DropinAny': WHATEVER THE INPUT: true; the input reads as it did. -/
def dropinAnySpec : ChangeSpec := { name := "dropinAny", fn := fun _ => fun
  | [d1, d2, d3] => { results := [.lit (.bool true)], args := [d1, d2, d3] }
  | _ => none }
def dropinAnyRow : OpenClaim := { program := "ytgigdhincpcdbaagreatdoor", sum := "5a1b5eece79131137e0b2085d5abedf3d552382c48c905ce95f4a352f1f9c2a9", func := "vestibule/vestibulelaw14.DropinAny", spec := "dropinAny", inPlace := ["internal/bytealg.abigen_runtime_cmpstring", "internal/bytealg.IndexByteString", "internal/bytealg.IndexString", "internal/abi.NoEscape"], unfollowed := true, recurses := true, named := ["unicode/utf8.first", "unicode/utf8.acceptRanges", "internal/bytealg.MaxLen"], apart := false, laid := [("unicode/utf8.acceptRanges", laid_unicode_utf8_acceptRanges), ("unicode/utf8.first", laid_unicode_utf8_first)] }
def DropinAnySaid : Prop := dropinAnyRow.holds Tryz.pinned (OpenSpec.ofChange dropinAnySpec)

/-- ITS FALSE NEIGHBOUR: 'it returns false'. Refute it at one input. -/
def dropinAnyWrong : ChangeSpec := { name := "dropinAny", fn := fun _ => fun
  | [d1, d2, d3] => { results := [.lit (.bool false)], args := [d1, d2, d3] }
  | _ => none }
def DropinAnyWrongFalsely : Prop := dropinAnyRow.holds Tryz.pinned (OpenSpec.ofChange dropinAnyWrong)

/-- 'vestibulelaw14.DropinMasked': WHATEVER THE INPUT: true; the input reads as it did. -/
def dropinMaskedSpec : ChangeSpec := { name := "dropinMasked", fn := fun _ => fun
  | [d1, d2, d3, d4, d5] => { results := [.lit (.bool true)], args := [d1, d2, d3, d4, d5] }
  | _ => none }
def dropinMaskedRow : OpenClaim := { program := "ytgigdhincpcdbaagreatdoor", sum := "5a1b5eece79131137e0b2085d5abedf3d552382c48c905ce95f4a352f1f9c2a9", func := "vestibule/vestibulelaw14.DropinMasked", spec := "dropinMasked", inPlace := ["internal/bytealg.abigen_runtime_cmpstring", "internal/bytealg.IndexByteString", "internal/bytealg.IndexString", "internal/abi.NoEscape"], unfollowed := true, recurses := true, named := ["unicode/utf8.first", "unicode/utf8.acceptRanges", "internal/bytealg.MaxLen"], apart := false, laid := [("unicode/utf8.acceptRanges", laid_unicode_utf8_acceptRanges), ("unicode/utf8.first", laid_unicode_utf8_first)] }
def DropinMaskedSaid : Prop := dropinMaskedRow.holds Tryz.pinned (OpenSpec.ofChange dropinMaskedSpec)

/-- ITS FALSE NEIGHBOUR: 'it returns false'. Refute it at one input. -/
def dropinMaskedWrong : ChangeSpec := { name := "dropinMasked", fn := fun _ => fun
  | [d1, d2, d3, d4, d5] => { results := [.lit (.bool false)], args := [d1, d2, d3, d4, d5] }
  | _ => none }
def DropinMaskedWrongFalsely : Prop := dropinMaskedRow.holds Tryz.pinned (OpenSpec.ofChange dropinMaskedWrong)

/-- 'vestibulelaw14.DropinBehind': WHATEVER THE INPUT: true; the input reads as it did. -/
def dropinBehindSpec : ChangeSpec := { name := "dropinBehind", fn := fun _ => fun
  | [d1, d2] => { results := [.lit (.bool true)], args := [d1, d2] }
  | _ => none }
def dropinBehindRow : OpenClaim := { program := "ytgigdhincpcdbaagreatdoor", sum := "5a1b5eece79131137e0b2085d5abedf3d552382c48c905ce95f4a352f1f9c2a9", func := "vestibule/vestibulelaw14.DropinBehind", spec := "dropinBehind", inPlace := ["internal/bytealg.abigen_runtime_cmpstring", "internal/bytealg.IndexByteString", "internal/bytealg.IndexString", "internal/abi.NoEscape"], unfollowed := true, recurses := true, named := ["unicode/utf8.first", "unicode/utf8.acceptRanges", "internal/bytealg.MaxLen"], apart := false, laid := [("unicode/utf8.acceptRanges", laid_unicode_utf8_acceptRanges), ("unicode/utf8.first", laid_unicode_utf8_first)] }
def DropinBehindSaid : Prop := dropinBehindRow.holds Tryz.pinned (OpenSpec.ofChange dropinBehindSpec)

/-- ITS FALSE NEIGHBOUR: 'it returns false'. Refute it at one input. -/
def dropinBehindWrong : ChangeSpec := { name := "dropinBehind", fn := fun _ => fun
  | [d1, d2] => { results := [.lit (.bool false)], args := [d1, d2] }
  | _ => none }
def DropinBehindWrongFalsely : Prop := dropinBehindRow.holds Tryz.pinned (OpenSpec.ofChange dropinBehindWrong)

/- THE SECOND FORM. 'bulk': how many values and letters a reading holds, each counted each time it is reached (what is shared counts as often as it is met; a slice's spare places count too). A statement '..UptoSaid' is the law's where the arguments, and the package variables that the reading takes, are together of bulk at most 1048576: NARROWER than '..Said'. Prove '..Said' where nothing that the law and all that it calls make is longer than what came in: it says more and counts as full. Else prove '..UptoSaid'. A law counts once. -/
mutual
def uptoBulk {H : Type} : DataW H → Nat
  | .lit (.string bytes) => bytes.length + 1
  | .lit _ => 1
  | .nil => 1
  | .ptr d => uptoBulk d + 1
  | .slice elems spare => uptoBulkAll elems + uptoBulkAll spare + 1
  | .agg parts => uptoBulkAll parts + 1
  | .iface _ d => uptoBulk d + 1
  | .map entries => uptoBulkEntries entries + 1
  | .held _ => 1
def uptoBulkAll {H : Type} : List (DataW H) → Nat
  | [] => 0
  | d :: r => uptoBulk d + uptoBulkAll r
def uptoBulkEntries {H : Type} : List (Lit × DataW H) → Nat
  | [] => 0
  | x :: r => uptoBulkEntry x + uptoBulkEntries r
def uptoBulkEntry {H : Type} : Lit × DataW H → Nat
  | (.string bytes, d) => bytes.length + uptoBulk d + 1
  | (_, d) => uptoBulk d + 1
 end
def uptoSmall : (H : Type) → List (DataW H) → Bool := fun _ ds => decide (uptoBulkAll ds ≤ 1048576)
def OpenSpec.upto (s : _root_.Go.ChangeSpec) : _root_.Go.OpenSpec := { _root_.Go.OpenSpec.ofChange s with cond := some uptoSmall }

/-- 'vestibulelaw14.DropinOrders', WHERE WHAT IT READS IS OF BULK AT MOST 1048576: true; the input reads as it did. -/
def dropinOrdersUptoRow : OpenClaim := { program := "ytgigdhincpcdbaagreatdoor", sum := "5a1b5eece79131137e0b2085d5abedf3d552382c48c905ce95f4a352f1f9c2a9", func := "vestibule/vestibulelaw14.DropinOrders", spec := "dropinOrders", inPlace := ["internal/bytealg.abigen_runtime_cmpstring", "internal/bytealg.IndexByteString", "internal/bytealg.IndexString", "internal/abi.NoEscape"], unfollowed := true, recurses := true, named := ["unicode/utf8.first", "unicode/utf8.acceptRanges", "internal/bytealg.MaxLen"], apart := false, laid := [("unicode/utf8.acceptRanges", laid_unicode_utf8_acceptRanges), ("unicode/utf8.first", laid_unicode_utf8_first)], narrowed := true }
def DropinOrdersUptoSaid : Prop := dropinOrdersUptoRow.holds Tryz.pinned (OpenSpec.upto dropinOrdersSpec)

/-- 'vestibulelaw14.DropinMerges', WHERE WHAT IT READS IS OF BULK AT MOST 1048576: true; the input reads as it did. -/
def dropinMergesUptoRow : OpenClaim := { program := "ytgigdhincpcdbaagreatdoor", sum := "5a1b5eece79131137e0b2085d5abedf3d552382c48c905ce95f4a352f1f9c2a9", func := "vestibule/vestibulelaw14.DropinMerges", spec := "dropinMerges", inPlace := ["internal/bytealg.abigen_runtime_cmpstring", "internal/bytealg.IndexByteString", "internal/bytealg.IndexString", "internal/abi.NoEscape"], unfollowed := true, recurses := true, named := ["unicode/utf8.first", "unicode/utf8.acceptRanges", "internal/bytealg.MaxLen"], apart := false, laid := [("unicode/utf8.acceptRanges", laid_unicode_utf8_acceptRanges), ("unicode/utf8.first", laid_unicode_utf8_first)], narrowed := true }
def DropinMergesUptoSaid : Prop := dropinMergesUptoRow.holds Tryz.pinned (OpenSpec.upto dropinMergesSpec)

/-- 'vestibulelaw14.DropinAny', WHERE WHAT IT READS IS OF BULK AT MOST 1048576: true; the input reads as it did. -/
def dropinAnyUptoRow : OpenClaim := { program := "ytgigdhincpcdbaagreatdoor", sum := "5a1b5eece79131137e0b2085d5abedf3d552382c48c905ce95f4a352f1f9c2a9", func := "vestibule/vestibulelaw14.DropinAny", spec := "dropinAny", inPlace := ["internal/bytealg.abigen_runtime_cmpstring", "internal/bytealg.IndexByteString", "internal/bytealg.IndexString", "internal/abi.NoEscape"], unfollowed := true, recurses := true, named := ["unicode/utf8.first", "unicode/utf8.acceptRanges", "internal/bytealg.MaxLen"], apart := false, laid := [("unicode/utf8.acceptRanges", laid_unicode_utf8_acceptRanges), ("unicode/utf8.first", laid_unicode_utf8_first)], narrowed := true }
def DropinAnyUptoSaid : Prop := dropinAnyUptoRow.holds Tryz.pinned (OpenSpec.upto dropinAnySpec)

/-- 'vestibulelaw14.DropinMasked', WHERE WHAT IT READS IS OF BULK AT MOST 1048576: true; the input reads as it did. -/
def dropinMaskedUptoRow : OpenClaim := { program := "ytgigdhincpcdbaagreatdoor", sum := "5a1b5eece79131137e0b2085d5abedf3d552382c48c905ce95f4a352f1f9c2a9", func := "vestibule/vestibulelaw14.DropinMasked", spec := "dropinMasked", inPlace := ["internal/bytealg.abigen_runtime_cmpstring", "internal/bytealg.IndexByteString", "internal/bytealg.IndexString", "internal/abi.NoEscape"], unfollowed := true, recurses := true, named := ["unicode/utf8.first", "unicode/utf8.acceptRanges", "internal/bytealg.MaxLen"], apart := false, laid := [("unicode/utf8.acceptRanges", laid_unicode_utf8_acceptRanges), ("unicode/utf8.first", laid_unicode_utf8_first)], narrowed := true }
def DropinMaskedUptoSaid : Prop := dropinMaskedUptoRow.holds Tryz.pinned (OpenSpec.upto dropinMaskedSpec)

/-- 'vestibulelaw14.DropinBehind', WHERE WHAT IT READS IS OF BULK AT MOST 1048576: true; the input reads as it did. -/
def dropinBehindUptoRow : OpenClaim := { program := "ytgigdhincpcdbaagreatdoor", sum := "5a1b5eece79131137e0b2085d5abedf3d552382c48c905ce95f4a352f1f9c2a9", func := "vestibule/vestibulelaw14.DropinBehind", spec := "dropinBehind", inPlace := ["internal/bytealg.abigen_runtime_cmpstring", "internal/bytealg.IndexByteString", "internal/bytealg.IndexString", "internal/abi.NoEscape"], unfollowed := true, recurses := true, named := ["unicode/utf8.first", "unicode/utf8.acceptRanges", "internal/bytealg.MaxLen"], apart := false, laid := [("unicode/utf8.acceptRanges", laid_unicode_utf8_acceptRanges), ("unicode/utf8.first", laid_unicode_utf8_first)], narrowed := true }
def DropinBehindUptoSaid : Prop := dropinBehindUptoRow.holds Tryz.pinned (OpenSpec.upto dropinBehindSpec)

end Rows
end Go.Proofs.YtgigdhincpcdbaaGreatDoor
