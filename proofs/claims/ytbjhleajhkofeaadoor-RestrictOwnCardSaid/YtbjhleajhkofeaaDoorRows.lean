/-
  NARROWER THAN 'FOR EVERY INPUT', by the rows' own cells (each row's printed sentence says how): RestrictKeys: laid · RestrictOwn: laid · RestrictSpaces: laid · RestrictFamilies: laid.
  DERIVED. THE GIVEN ROWS OF THIS SEAT. 4 by the template 'for every input the law returns true; each argument reads behind the call as it read before'; 0 by the template 'total and deterministic' (their statements: YtbjhleajhkofeaaDoorTotals.lean).
  GIVEN WITH THE SEED: the statements are not yours to turn. If you find one false, say at which input.
  Laid BY PROGRAM, IN A SANDBOX (cutbox-rows.mjs): the forced cells as the released guide's own fill.sh prints them over the translation 015bc53024464e76… (all of the seat's roots in one cut). By AI agents, Wed Nov 11 2026. No macro, syntax, notation, axiom, sorry.
-/
import Derived.Test.YtbjhleajhkofeaaDoorChecked
import GoSem.Claim
import GoSem.ClaimJoined
import GoSem.ClaimMapViews
import Derived.JoinedTies
import Derived.KernelRfl
namespace Go.Proofs.YtbjhleajhkofeaaDoor
/- THE CELL 'sum', in the pinned program and in every row, IS THE sha256 OF THE DUMP (.gsa) THAT YtbjhleajhkofeaaDoorProg.lean LOADS. Nothing in Lean hashes anything: it is a label: what it is worth is what the hold of that sum in a sandbox is worth. -/
noncomputable def Tryd.pinned : Pinned := { name := "ytbjhleajhkofeaadoor", sum := "015bc53024464e762db89b8e8bc702fdb74fa445e676daa2cfe4dc885dbdf1c0", checked := Tryd.checked }
namespace Rows
def none {H : Type} : Left H := { results := [], args := [] }

/- WHAT THE LISTED PACKAGE-LEVEL VARIABLES READ AS WHEN THE CALL BEGINS. Each datum BY PROGRAM (the guide's laid-datum.mjs) off the statement by which the dump's own 'gosem.cut.vars' lays the variable. In a bare row this is a premise. The card (YtbjhleajhkofeaaDoorCards.lean) ties it to the program's text. -/
def laid_vestibule_arch_rows {H : Type} : DataW H := .agg [.agg [.lit (.string [120, 56, 54, 45, 54, 52]), .lit (.int .u32 3221225534)], .agg [.lit (.string [120, 56, 54]), .lit (.int .u32 1073741827)], .agg [.lit (.string [120, 51, 50]), .lit (.int .u32 3221225534)], .agg [.lit (.string [97, 114, 109]), .lit (.int .u32 1073741864)], .agg [.lit (.string [97, 114, 109, 54, 52]), .lit (.int .u32 3221225655)], .agg [.lit (.string [114, 105, 115, 99, 118, 54, 52]), .lit (.int .u32 3221225715)]]
def laid_vestibule_names_families {H : Type} : DataW H := .agg [.agg [.lit (.string [65, 70, 95, 85, 78, 73, 88]), .lit (.int .u32 1)], .agg [.lit (.string [65, 70, 95, 73, 78, 69, 84]), .lit (.int .u32 2)], .agg [.lit (.string [65, 70, 95, 73, 78, 69, 84, 54]), .lit (.int .u32 10)], .agg [.lit (.string [65, 70, 95, 78, 69, 84, 76, 73, 78, 75]), .lit (.int .u32 16)], .agg [.lit (.string [65, 70, 95, 80, 65, 67, 75, 69, 84]), .lit (.int .u32 17)], .agg [.lit (.string [65, 70, 95, 66, 76, 85, 69, 84, 79, 79, 84, 72]), .lit (.int .u32 31)], .agg [.lit (.string [65, 70, 95, 65, 76, 71]), .lit (.int .u32 38)], .agg [.lit (.string [65, 70, 95, 86, 83, 79, 67, 75]), .lit (.int .u32 40)]]
def laid_vestibule_names_spaces {H : Type} : DataW H := .agg [.agg [.lit (.string [116, 105, 109, 101]), .lit (.int .u64 128)], .agg [.lit (.string [109, 110, 116]), .lit (.int .u64 131072)], .agg [.lit (.string [99, 103, 114, 111, 117, 112]), .lit (.int .u64 33554432)], .agg [.lit (.string [117, 116, 115]), .lit (.int .u64 67108864)], .agg [.lit (.string [105, 112, 99]), .lit (.int .u64 134217728)], .agg [.lit (.string [117, 115, 101, 114]), .lit (.int .u64 268435456)], .agg [.lit (.string [112, 105, 100]), .lit (.int .u64 536870912)], .agg [.lit (.string [110, 101, 116]), .lit (.int .u64 1073741824)]]
def laid_vestibule_values_booleans {H : Type} : DataW H := .agg [.agg [.lit (.string [110, 111]), .lit (.string [102, 97, 108, 115, 101]), .lit (.string [111, 102, 102]), .lit (.string [48])], .agg [.lit (.string [121, 101, 115]), .lit (.string [116, 114, 117, 101]), .lit (.string [111, 110]), .lit (.string [49])]]

/-- 'vestibulelaw18.RestrictKeys': WHATEVER THE INPUT: true; the input reads as it did. -/
def restrictKeysSpec : ChangeSpec := { name := "restrictKeys", fn := fun _ => fun
  | [d] => { results := [.lit (.bool true)], args := [d] }
  | _ => none }
def restrictKeysRow : OpenClaim := { program := "ytbjhleajhkofeaadoor", sum := "015bc53024464e762db89b8e8bc702fdb74fa445e676daa2cfe4dc885dbdf1c0", func := "vestibule/vestibulelaw18.RestrictKeys", spec := "restrictKeys", inPlace := ["internal/bytealg.IndexByteString", "internal/bytealg.IndexString", "slices.overlaps[int]", "slices.overlaps[uint32]"], unfollowed := true, recurses := true, named := ["vestibule/arch.rows", "vestibule/names.families", "vestibule/values.booleans", "vestibule/names.spaces", "internal/bytealg.MaxLen"], apart := false, laid := [("vestibule/arch.rows", laid_vestibule_arch_rows), ("vestibule/names.families", laid_vestibule_names_families), ("vestibule/names.spaces", laid_vestibule_names_spaces), ("vestibule/values.booleans", laid_vestibule_values_booleans)] }
def RestrictKeysSaid : Prop := restrictKeysRow.holds Tryd.pinned (OpenSpec.ofChange restrictKeysSpec)

/-- ITS FALSE NEIGHBOUR: 'it returns false'. Refute it at one input. -/
def restrictKeysWrong : ChangeSpec := { name := "restrictKeys", fn := fun _ => fun
  | [d] => { results := [.lit (.bool false)], args := [d] }
  | _ => none }
def RestrictKeysWrongFalsely : Prop := restrictKeysRow.holds Tryd.pinned (OpenSpec.ofChange restrictKeysWrong)

/-- 'vestibulelaw18.RestrictOwn': WHATEVER THE INPUT: true; the input reads as it did. -/
def restrictOwnSpec : ChangeSpec := { name := "restrictOwn", fn := fun _ => fun
  | [d1, d2] => { results := [.lit (.bool true)], args := [d1, d2] }
  | _ => none }
def restrictOwnRow : OpenClaim := { program := "ytbjhleajhkofeaadoor", sum := "015bc53024464e762db89b8e8bc702fdb74fa445e676daa2cfe4dc885dbdf1c0", func := "vestibule/vestibulelaw18.RestrictOwn", spec := "restrictOwn", inPlace := ["internal/bytealg.IndexByteString", "internal/bytealg.IndexString", "slices.overlaps[int]", "slices.overlaps[uint32]"], unfollowed := true, recurses := true, named := ["vestibule/arch.rows", "vestibule/names.families", "vestibule/values.booleans", "vestibule/names.spaces", "internal/bytealg.MaxLen"], apart := false, laid := [("vestibule/arch.rows", laid_vestibule_arch_rows), ("vestibule/names.families", laid_vestibule_names_families), ("vestibule/names.spaces", laid_vestibule_names_spaces), ("vestibule/values.booleans", laid_vestibule_values_booleans)] }
def RestrictOwnSaid : Prop := restrictOwnRow.holds Tryd.pinned (OpenSpec.ofChange restrictOwnSpec)

/-- ITS FALSE NEIGHBOUR: 'it returns false'. Refute it at one input. -/
def restrictOwnWrong : ChangeSpec := { name := "restrictOwn", fn := fun _ => fun
  | [d1, d2] => { results := [.lit (.bool false)], args := [d1, d2] }
  | _ => none }
def RestrictOwnWrongFalsely : Prop := restrictOwnRow.holds Tryd.pinned (OpenSpec.ofChange restrictOwnWrong)

/-- 'vestibulelaw18.RestrictSpaces': WHATEVER THE INPUT: true; the input reads as it did. -/
def restrictSpacesSpec : ChangeSpec := { name := "restrictSpaces", fn := fun _ => fun
  | [d] => { results := [.lit (.bool true)], args := [d] }
  | _ => none }
def restrictSpacesRow : OpenClaim := { program := "ytbjhleajhkofeaadoor", sum := "015bc53024464e762db89b8e8bc702fdb74fa445e676daa2cfe4dc885dbdf1c0", func := "vestibule/vestibulelaw18.RestrictSpaces", spec := "restrictSpaces", inPlace := ["internal/bytealg.IndexByteString", "internal/bytealg.IndexString", "slices.overlaps[int]", "slices.overlaps[uint32]"], unfollowed := true, recurses := true, named := ["vestibule/arch.rows", "vestibule/names.families", "vestibule/values.booleans", "vestibule/names.spaces", "internal/bytealg.MaxLen"], apart := false, laid := [("vestibule/arch.rows", laid_vestibule_arch_rows), ("vestibule/names.families", laid_vestibule_names_families), ("vestibule/names.spaces", laid_vestibule_names_spaces), ("vestibule/values.booleans", laid_vestibule_values_booleans)] }
def RestrictSpacesSaid : Prop := restrictSpacesRow.holds Tryd.pinned (OpenSpec.ofChange restrictSpacesSpec)

/-- ITS FALSE NEIGHBOUR: 'it returns false'. Refute it at one input. -/
def restrictSpacesWrong : ChangeSpec := { name := "restrictSpaces", fn := fun _ => fun
  | [d] => { results := [.lit (.bool false)], args := [d] }
  | _ => none }
def RestrictSpacesWrongFalsely : Prop := restrictSpacesRow.holds Tryd.pinned (OpenSpec.ofChange restrictSpacesWrong)

/-- 'vestibulelaw18.RestrictFamilies': WHATEVER THE INPUT: true; the input reads as it did. -/
def restrictFamiliesSpec : ChangeSpec := { name := "restrictFamilies", fn := fun _ => fun
  | [d1, d2] => { results := [.lit (.bool true)], args := [d1, d2] }
  | _ => none }
def restrictFamiliesRow : OpenClaim := { program := "ytbjhleajhkofeaadoor", sum := "015bc53024464e762db89b8e8bc702fdb74fa445e676daa2cfe4dc885dbdf1c0", func := "vestibule/vestibulelaw18.RestrictFamilies", spec := "restrictFamilies", inPlace := ["internal/bytealg.IndexByteString", "internal/bytealg.IndexString", "slices.overlaps[int]", "slices.overlaps[uint32]"], unfollowed := true, recurses := true, named := ["vestibule/names.families", "vestibule/arch.rows", "vestibule/values.booleans", "vestibule/names.spaces", "internal/bytealg.MaxLen"], apart := false, laid := [("vestibule/arch.rows", laid_vestibule_arch_rows), ("vestibule/names.families", laid_vestibule_names_families), ("vestibule/names.spaces", laid_vestibule_names_spaces), ("vestibule/values.booleans", laid_vestibule_values_booleans)] }
def RestrictFamiliesSaid : Prop := restrictFamiliesRow.holds Tryd.pinned (OpenSpec.ofChange restrictFamiliesSpec)

/-- ITS FALSE NEIGHBOUR: 'it returns false'. Refute it at one input. -/
def restrictFamiliesWrong : ChangeSpec := { name := "restrictFamilies", fn := fun _ => fun
  | [d1, d2] => { results := [.lit (.bool false)], args := [d1, d2] }
  | _ => none }
def RestrictFamiliesWrongFalsely : Prop := restrictFamiliesRow.holds Tryd.pinned (OpenSpec.ofChange restrictFamiliesWrong)

/- THE SECOND FORM. 'bulk': how many values and letters a reading holds, each counted each time it is reached (what is shared counts as often as it is met; a slice's spare places count too). A statement '..UptoSaid' is the law's where the arguments, and the package variables that the reading takes, are together of bulk at most 1048576: NARROWER than '..Said'. Prove '..Said' where nothing that the law and all that it calls make is longer than what came in: it says more and counts as full. Else prove '..UptoSaid'. A law counts once. -/
mutual
def uptoBulk {H : Type} : DataW H → Nat
  | .lit (.string bytes) => bytes.length + 1
  | .lit _ => 1
  | .nil => 1
  | .ptr d => uptoBulk d + 1
  | .slice elems spare => uptoBulkAll elems + uptoBulkAll spare + 1
  | .agg parts => uptoBulkAll parts + 1
  | .iface _ d => uptoBulk d + 1
  | .map entries => uptoBulkEntries entries + 1
  | .held _ => 1
def uptoBulkAll {H : Type} : List (DataW H) → Nat
  | [] => 0
  | d :: r => uptoBulk d + uptoBulkAll r
def uptoBulkEntries {H : Type} : List (Lit × DataW H) → Nat
  | [] => 0
  | x :: r => uptoBulkEntry x + uptoBulkEntries r
def uptoBulkEntry {H : Type} : Lit × DataW H → Nat
  | (.string bytes, d) => bytes.length + uptoBulk d + 1
  | (_, d) => uptoBulk d + 1
 end
def uptoSmall : (H : Type) → List (DataW H) → Bool := fun _ ds => decide (uptoBulkAll ds ≤ 1048576)
def OpenSpec.upto (s : _root_.Go.ChangeSpec) : _root_.Go.OpenSpec := { _root_.Go.OpenSpec.ofChange s with cond := some uptoSmall }

/-- 'vestibulelaw18.RestrictKeys', WHERE WHAT IT READS IS OF BULK AT MOST 1048576: true; the input reads as it did. -/
def restrictKeysUptoRow : OpenClaim := { program := "ytbjhleajhkofeaadoor", sum := "015bc53024464e762db89b8e8bc702fdb74fa445e676daa2cfe4dc885dbdf1c0", func := "vestibule/vestibulelaw18.RestrictKeys", spec := "restrictKeys", inPlace := ["internal/bytealg.IndexByteString", "internal/bytealg.IndexString", "slices.overlaps[int]", "slices.overlaps[uint32]"], unfollowed := true, recurses := true, named := ["vestibule/arch.rows", "vestibule/names.families", "vestibule/values.booleans", "vestibule/names.spaces", "internal/bytealg.MaxLen"], apart := false, laid := [("vestibule/arch.rows", laid_vestibule_arch_rows), ("vestibule/names.families", laid_vestibule_names_families), ("vestibule/names.spaces", laid_vestibule_names_spaces), ("vestibule/values.booleans", laid_vestibule_values_booleans)], narrowed := true }
def RestrictKeysUptoSaid : Prop := restrictKeysUptoRow.holds Tryd.pinned (OpenSpec.upto restrictKeysSpec)

/-- 'vestibulelaw18.RestrictOwn', WHERE WHAT IT READS IS OF BULK AT MOST 1048576: true; the input reads as it did. -/
def restrictOwnUptoRow : OpenClaim := { program := "ytbjhleajhkofeaadoor", sum := "015bc53024464e762db89b8e8bc702fdb74fa445e676daa2cfe4dc885dbdf1c0", func := "vestibule/vestibulelaw18.RestrictOwn", spec := "restrictOwn", inPlace := ["internal/bytealg.IndexByteString", "internal/bytealg.IndexString", "slices.overlaps[int]", "slices.overlaps[uint32]"], unfollowed := true, recurses := true, named := ["vestibule/arch.rows", "vestibule/names.families", "vestibule/values.booleans", "vestibule/names.spaces", "internal/bytealg.MaxLen"], apart := false, laid := [("vestibule/arch.rows", laid_vestibule_arch_rows), ("vestibule/names.families", laid_vestibule_names_families), ("vestibule/names.spaces", laid_vestibule_names_spaces), ("vestibule/values.booleans", laid_vestibule_values_booleans)], narrowed := true }
def RestrictOwnUptoSaid : Prop := restrictOwnUptoRow.holds Tryd.pinned (OpenSpec.upto restrictOwnSpec)

/-- 'vestibulelaw18.RestrictSpaces', WHERE WHAT IT READS IS OF BULK AT MOST 1048576: true; the input reads as it did. -/
def restrictSpacesUptoRow : OpenClaim := { program := "ytbjhleajhkofeaadoor", sum := "015bc53024464e762db89b8e8bc702fdb74fa445e676daa2cfe4dc885dbdf1c0", func := "vestibule/vestibulelaw18.RestrictSpaces", spec := "restrictSpaces", inPlace := ["internal/bytealg.IndexByteString", "internal/bytealg.IndexString", "slices.overlaps[int]", "slices.overlaps[uint32]"], unfollowed := true, recurses := true, named := ["vestibule/arch.rows", "vestibule/names.families", "vestibule/values.booleans", "vestibule/names.spaces", "internal/bytealg.MaxLen"], apart := false, laid := [("vestibule/arch.rows", laid_vestibule_arch_rows), ("vestibule/names.families", laid_vestibule_names_families), ("vestibule/names.spaces", laid_vestibule_names_spaces), ("vestibule/values.booleans", laid_vestibule_values_booleans)], narrowed := true }
def RestrictSpacesUptoSaid : Prop := restrictSpacesUptoRow.holds Tryd.pinned (OpenSpec.upto restrictSpacesSpec)

/-- 'vestibulelaw18.RestrictFamilies', WHERE WHAT IT READS IS OF BULK AT MOST 1048576: true; the input reads as it did. -/
def restrictFamiliesUptoRow : OpenClaim := { program := "ytbjhleajhkofeaadoor", sum := "015bc53024464e762db89b8e8bc702fdb74fa445e676daa2cfe4dc885dbdf1c0", func := "vestibule/vestibulelaw18.RestrictFamilies", spec := "restrictFamilies", inPlace := ["internal/bytealg.IndexByteString", "internal/bytealg.IndexString", "slices.overlaps[int]", "slices.overlaps[uint32]"], unfollowed := true, recurses := true, named := ["vestibule/names.families", "vestibule/arch.rows", "vestibule/values.booleans", "vestibule/names.spaces", "internal/bytealg.MaxLen"], apart := false, laid := [("vestibule/arch.rows", laid_vestibule_arch_rows), ("vestibule/names.families", laid_vestibule_names_families), ("vestibule/names.spaces", laid_vestibule_names_spaces), ("vestibule/values.booleans", laid_vestibule_values_booleans)], narrowed := true }
def RestrictFamiliesUptoSaid : Prop := restrictFamiliesUptoRow.holds Tryd.pinned (OpenSpec.upto restrictFamiliesSpec)

end Rows
end Go.Proofs.YtbjhleajhkofeaaDoor
