/-
  NARROWER THAN 'FOR EVERY INPUT', by the rows' own cells (each row's printed sentence says how): FilterSets: laid · FilterKeys: laid · FilterOwn: laid · FilterLists: laid.
  DERIVED. THE GIVEN ROWS OF THIS SEAT. 4 by the template 'for every input the law returns true; each argument reads behind the call as it read before'; 0 by the template 'total and deterministic' (their statements: YtanifiobfbfehaaGreatDoorTotals.lean).
  GIVEN WITH THE SEED: the statements are not yours to turn. If you find one false, say at which input.
  Laid BY PROGRAM, IN A SANDBOX (cutbox-rows.mjs): the forced cells as the released guide's own fill.sh prints them over the translation 7f1d9c0e35376519… (all of the seat's roots in one cut). By AI agents, Wed Nov 11 2026. No macro, syntax, notation, axiom, sorry.
-/
import Derived.Test.YtanifiobfbfehaaGreatDoorChecked
import GoSem.Claim
import GoSem.ClaimJoined
import GoSem.ClaimMapViews
import Derived.JoinedTies
import Derived.KernelRfl
namespace Go.Proofs.YtanifiobfbfehaaGreatDoor
/- THE CELL 'sum', in the pinned program and in every row, IS THE sha256 OF THE DUMP (.gsa) THAT YtanifiobfbfehaaGreatDoorProg.lean LOADS. Nothing in Lean hashes anything: it is a label: what it is worth is what the hold of that sum in a sandbox is worth. -/
noncomputable def Tryz.pinned : Pinned := { name := "ytanifiobfbfehaagreatdoor", sum := "7f1d9c0e35376519bc2c7b74457cd42b625211d77d401e17814e3dc698353b85", checked := Tryz.checked }
namespace Rows
def none {H : Type} : Left H := { results := [], args := [] }

/- WHAT THE LISTED PACKAGE-LEVEL VARIABLES READ AS WHEN THE CALL BEGINS. Each datum BY PROGRAM (the guide's laid-datum.mjs) off the statement by which the dump's own 'gosem.cut.vars' lays the variable. In a bare row this is a premise. The card (YtanifiobfbfehaaGreatDoorCards.lean) ties it to the program's text. -/
def laid_math_bits_deBruijn32tab {H : Type} : DataW H := .agg [.lit (.int .u8 0), .lit (.int .u8 1), .lit (.int .u8 28), .lit (.int .u8 2), .lit (.int .u8 29), .lit (.int .u8 14), .lit (.int .u8 24), .lit (.int .u8 3), .lit (.int .u8 30), .lit (.int .u8 22), .lit (.int .u8 20), .lit (.int .u8 15), .lit (.int .u8 25), .lit (.int .u8 17), .lit (.int .u8 4), .lit (.int .u8 8), .lit (.int .u8 31), .lit (.int .u8 27), .lit (.int .u8 13), .lit (.int .u8 23), .lit (.int .u8 21), .lit (.int .u8 19), .lit (.int .u8 16), .lit (.int .u8 7), .lit (.int .u8 26), .lit (.int .u8 12), .lit (.int .u8 18), .lit (.int .u8 6), .lit (.int .u8 11), .lit (.int .u8 5), .lit (.int .u8 10), .lit (.int .u8 9)]
def laid_math_bits_deBruijn64tab {H : Type} : DataW H := .agg [.lit (.int .u8 0), .lit (.int .u8 1), .lit (.int .u8 56), .lit (.int .u8 2), .lit (.int .u8 57), .lit (.int .u8 49), .lit (.int .u8 28), .lit (.int .u8 3), .lit (.int .u8 61), .lit (.int .u8 58), .lit (.int .u8 42), .lit (.int .u8 50), .lit (.int .u8 38), .lit (.int .u8 29), .lit (.int .u8 17), .lit (.int .u8 4), .lit (.int .u8 62), .lit (.int .u8 47), .lit (.int .u8 59), .lit (.int .u8 36), .lit (.int .u8 45), .lit (.int .u8 43), .lit (.int .u8 51), .lit (.int .u8 22), .lit (.int .u8 53), .lit (.int .u8 39), .lit (.int .u8 33), .lit (.int .u8 30), .lit (.int .u8 24), .lit (.int .u8 18), .lit (.int .u8 12), .lit (.int .u8 5), .lit (.int .u8 63), .lit (.int .u8 55), .lit (.int .u8 48), .lit (.int .u8 27), .lit (.int .u8 60), .lit (.int .u8 41), .lit (.int .u8 37), .lit (.int .u8 16), .lit (.int .u8 46), .lit (.int .u8 35), .lit (.int .u8 44), .lit (.int .u8 21), .lit (.int .u8 52), .lit (.int .u8 32), .lit (.int .u8 23), .lit (.int .u8 11), .lit (.int .u8 54), .lit (.int .u8 26), .lit (.int .u8 40), .lit (.int .u8 15), .lit (.int .u8 34), .lit (.int .u8 20), .lit (.int .u8 31), .lit (.int .u8 10), .lit (.int .u8 25), .lit (.int .u8 14), .lit (.int .u8 19), .lit (.int .u8 9), .lit (.int .u8 13), .lit (.int .u8 8), .lit (.int .u8 7), .lit (.int .u8 6)]
def laid_internal_strconv_uint64pow10 {H : Type} : DataW H := .agg [.lit (.int .u64 1), .lit (.int .u64 10), .lit (.int .u64 100), .lit (.int .u64 1000), .lit (.int .u64 10000), .lit (.int .u64 100000), .lit (.int .u64 1000000), .lit (.int .u64 10000000), .lit (.int .u64 100000000), .lit (.int .u64 1000000000), .lit (.int .u64 10000000000), .lit (.int .u64 100000000000), .lit (.int .u64 1000000000000), .lit (.int .u64 10000000000000), .lit (.int .u64 100000000000000), .lit (.int .u64 1000000000000000), .lit (.int .u64 10000000000000000), .lit (.int .u64 100000000000000000), .lit (.int .u64 1000000000000000000), .lit (.int .u64 10000000000000000000)]
def laid_strconv_ErrRange {H : Type} : DataW H := .iface "*errors.errorString" (.ptr (.agg [.lit (.string [118, 97, 108, 117, 101, 32, 111, 117, 116, 32, 111, 102, 32, 114, 97, 110, 103, 101])]))
def laid_strconv_ErrSyntax {H : Type} : DataW H := .iface "*errors.errorString" (.ptr (.agg [.lit (.string [105, 110, 118, 97, 108, 105, 100, 32, 115, 121, 110, 116, 97, 120])]))
def laid_vestibule_names_errnos {H : Type} : DataW H := .agg [.agg [.lit (.string [69, 80, 69, 82, 77]), .lit (.int .u32 1)], .agg [.lit (.string [69, 78, 79, 69, 78, 84]), .lit (.int .u32 2)], .agg [.lit (.string [69, 73, 79]), .lit (.int .u32 5)], .agg [.lit (.string [69, 66, 65, 68, 70]), .lit (.int .u32 9)], .agg [.lit (.string [69, 65, 71, 65, 73, 78]), .lit (.int .u32 11)], .agg [.lit (.string [69, 78, 79, 77, 69, 77]), .lit (.int .u32 12)], .agg [.lit (.string [69, 65, 67, 67, 69, 83]), .lit (.int .u32 13)], .agg [.lit (.string [69, 70, 65, 85, 76, 84]), .lit (.int .u32 14)], .agg [.lit (.string [69, 66, 85, 83, 89]), .lit (.int .u32 16)], .agg [.lit (.string [69, 78, 79, 68, 69, 86]), .lit (.int .u32 19)], .agg [.lit (.string [69, 73, 78, 86, 65, 76]), .lit (.int .u32 22)], .agg [.lit (.string [69, 78, 79, 83, 89, 83]), .lit (.int .u32 38)], .agg [.lit (.string [69, 79, 80, 78, 79, 84, 83, 85, 80, 80]), .lit (.int .u32 95)], .agg [.lit (.string [69, 65, 70, 78, 79, 83, 85, 80, 80, 79, 82, 84]), .lit (.int .u32 97)], .agg [.lit (.string [69, 84, 73, 77, 69, 68, 79, 85, 84]), .lit (.int .u32 110)]]

/-- 'vestibulelaw17.FilterSets': WHATEVER THE INPUT: true; the input reads as it did. -/
def filterSetsSpec : ChangeSpec := { name := "filterSets", fn := fun _ => fun
  | [d1, d2] => { results := [.lit (.bool true)], args := [d1, d2] }
  | _ => none }
def filterSetsRow : OpenClaim := { program := "ytanifiobfbfehaagreatdoor", sum := "7f1d9c0e35376519bc2c7b74457cd42b625211d77d401e17814e3dc698353b85", func := "vestibule/vestibulelaw17.FilterSets", spec := "filterSets", inPlace := ["internal/bytealg.IndexByteString", "internal/bytealg.IndexString", "slices.overlaps[vestibule/api.Call]"], unfollowed := true, recurses := true, named := ["internal/bytealg.MaxLen", "vestibule/names.errnos", "strconv.ErrSyntax", "strconv.ErrRange", "internal/strconv.uint64pow10", "math/bits.deBruijn32tab", "math/bits.deBruijn64tab"], apart := false, laid := [("math/bits.deBruijn32tab", laid_math_bits_deBruijn32tab), ("math/bits.deBruijn64tab", laid_math_bits_deBruijn64tab), ("internal/strconv.uint64pow10", laid_internal_strconv_uint64pow10), ("strconv.ErrRange", laid_strconv_ErrRange), ("strconv.ErrSyntax", laid_strconv_ErrSyntax), ("vestibule/names.errnos", laid_vestibule_names_errnos)] }
def FilterSetsSaid : Prop := filterSetsRow.holds Tryz.pinned (OpenSpec.ofChange filterSetsSpec)

/-- ITS FALSE NEIGHBOUR: 'it returns false'. Refute it at one input. -/
def filterSetsWrong : ChangeSpec := { name := "filterSets", fn := fun _ => fun
  | [d1, d2] => { results := [.lit (.bool false)], args := [d1, d2] }
  | _ => none }
def FilterSetsWrongFalsely : Prop := filterSetsRow.holds Tryz.pinned (OpenSpec.ofChange filterSetsWrong)

/-- 'vestibulelaw17.FilterKeys': WHATEVER THE INPUT: true; the input reads as it did. -/
def filterKeysSpec : ChangeSpec := { name := "filterKeys", fn := fun _ => fun
  | [d1, d2] => { results := [.lit (.bool true)], args := [d1, d2] }
  | _ => none }
def filterKeysRow : OpenClaim := { program := "ytanifiobfbfehaagreatdoor", sum := "7f1d9c0e35376519bc2c7b74457cd42b625211d77d401e17814e3dc698353b85", func := "vestibule/vestibulelaw17.FilterKeys", spec := "filterKeys", inPlace := ["internal/bytealg.IndexByteString", "internal/bytealg.IndexString", "slices.overlaps[vestibule/api.Call]"], unfollowed := true, recurses := true, named := ["vestibule/names.errnos", "strconv.ErrSyntax", "strconv.ErrRange", "internal/strconv.uint64pow10", "math/bits.deBruijn32tab", "math/bits.deBruijn64tab", "internal/bytealg.MaxLen"], apart := false, laid := [("math/bits.deBruijn32tab", laid_math_bits_deBruijn32tab), ("math/bits.deBruijn64tab", laid_math_bits_deBruijn64tab), ("internal/strconv.uint64pow10", laid_internal_strconv_uint64pow10), ("strconv.ErrRange", laid_strconv_ErrRange), ("strconv.ErrSyntax", laid_strconv_ErrSyntax), ("vestibule/names.errnos", laid_vestibule_names_errnos)] }
def FilterKeysSaid : Prop := filterKeysRow.holds Tryz.pinned (OpenSpec.ofChange filterKeysSpec)

/-- ITS FALSE NEIGHBOUR: 'it returns false'. Refute it at one input. -/
def filterKeysWrong : ChangeSpec := { name := "filterKeys", fn := fun _ => fun
  | [d1, d2] => { results := [.lit (.bool false)], args := [d1, d2] }
  | _ => none }
def FilterKeysWrongFalsely : Prop := filterKeysRow.holds Tryz.pinned (OpenSpec.ofChange filterKeysWrong)

/-- 'vestibulelaw17.FilterOwn': WHATEVER THE INPUT: true; the input reads as it did. -/
def filterOwnSpec : ChangeSpec := { name := "filterOwn", fn := fun _ => fun
  | [d1, d2] => { results := [.lit (.bool true)], args := [d1, d2] }
  | _ => none }
def filterOwnRow : OpenClaim := { program := "ytanifiobfbfehaagreatdoor", sum := "7f1d9c0e35376519bc2c7b74457cd42b625211d77d401e17814e3dc698353b85", func := "vestibule/vestibulelaw17.FilterOwn", spec := "filterOwn", inPlace := ["internal/bytealg.IndexByteString", "internal/bytealg.IndexString", "slices.overlaps[vestibule/api.Call]"], unfollowed := true, recurses := true, named := ["internal/bytealg.MaxLen", "vestibule/names.errnos", "strconv.ErrSyntax", "strconv.ErrRange", "internal/strconv.uint64pow10", "math/bits.deBruijn32tab", "math/bits.deBruijn64tab"], apart := false, laid := [("math/bits.deBruijn32tab", laid_math_bits_deBruijn32tab), ("math/bits.deBruijn64tab", laid_math_bits_deBruijn64tab), ("internal/strconv.uint64pow10", laid_internal_strconv_uint64pow10), ("strconv.ErrRange", laid_strconv_ErrRange), ("strconv.ErrSyntax", laid_strconv_ErrSyntax), ("vestibule/names.errnos", laid_vestibule_names_errnos)] }
def FilterOwnSaid : Prop := filterOwnRow.holds Tryz.pinned (OpenSpec.ofChange filterOwnSpec)

/-- ITS FALSE NEIGHBOUR: 'it returns false'. Refute it at one input. -/
def filterOwnWrong : ChangeSpec := { name := "filterOwn", fn := fun _ => fun
  | [d1, d2] => { results := [.lit (.bool false)], args := [d1, d2] }
  | _ => none }
def FilterOwnWrongFalsely : Prop := filterOwnRow.holds Tryz.pinned (OpenSpec.ofChange filterOwnWrong)

/-- 'vestibulelaw17.FilterLists': WHATEVER THE INPUT: true; the input reads as it did. -/
def filterListsSpec : ChangeSpec := { name := "filterLists", fn := fun _ => fun
  | [d1, d2] => { results := [.lit (.bool true)], args := [d1, d2] }
  | _ => none }
def filterListsRow : OpenClaim := { program := "ytanifiobfbfehaagreatdoor", sum := "7f1d9c0e35376519bc2c7b74457cd42b625211d77d401e17814e3dc698353b85", func := "vestibule/vestibulelaw17.FilterLists", spec := "filterLists", inPlace := ["internal/bytealg.IndexByteString", "internal/bytealg.IndexString", "slices.overlaps[vestibule/api.Call]"], unfollowed := true, recurses := true, named := ["internal/bytealg.MaxLen", "vestibule/names.errnos", "strconv.ErrSyntax", "strconv.ErrRange", "internal/strconv.uint64pow10", "math/bits.deBruijn32tab", "math/bits.deBruijn64tab"], apart := false, laid := [("math/bits.deBruijn32tab", laid_math_bits_deBruijn32tab), ("math/bits.deBruijn64tab", laid_math_bits_deBruijn64tab), ("internal/strconv.uint64pow10", laid_internal_strconv_uint64pow10), ("strconv.ErrRange", laid_strconv_ErrRange), ("strconv.ErrSyntax", laid_strconv_ErrSyntax), ("vestibule/names.errnos", laid_vestibule_names_errnos)] }
def FilterListsSaid : Prop := filterListsRow.holds Tryz.pinned (OpenSpec.ofChange filterListsSpec)

/-- ITS FALSE NEIGHBOUR: 'it returns false'. Refute it at one input. -/
def filterListsWrong : ChangeSpec := { name := "filterLists", fn := fun _ => fun
  | [d1, d2] => { results := [.lit (.bool false)], args := [d1, d2] }
  | _ => none }
def FilterListsWrongFalsely : Prop := filterListsRow.holds Tryz.pinned (OpenSpec.ofChange filterListsWrong)

/- THE SECOND FORM. 'bulk': how many values and letters a reading holds, each counted each time it is reached (what is shared counts as often as it is met; a slice's spare places count too). A statement '..UptoSaid' is the law's where the arguments, and the package variables that the reading takes, are together of bulk at most 1048576: NARROWER than '..Said'. Prove '..Said' where nothing that the law and all that it calls make is longer than what came in: it says more and counts as full. Else prove '..UptoSaid'. A law counts once. -/
mutual
def uptoBulk {H : Type} : DataW H → Nat
  | .lit (.string bytes) => bytes.length + 1
  | .lit _ => 1
  | .nil => 1
  | .ptr d => uptoBulk d + 1
  | .slice elems spare => uptoBulkAll elems + uptoBulkAll spare + 1
  | .agg parts => uptoBulkAll parts + 1
  | .iface _ d => uptoBulk d + 1
  | .map entries => uptoBulkEntries entries + 1
  | .held _ => 1
def uptoBulkAll {H : Type} : List (DataW H) → Nat
  | [] => 0
  | d :: r => uptoBulk d + uptoBulkAll r
def uptoBulkEntries {H : Type} : List (Lit × DataW H) → Nat
  | [] => 0
  | x :: r => uptoBulkEntry x + uptoBulkEntries r
def uptoBulkEntry {H : Type} : Lit × DataW H → Nat
  | (.string bytes, d) => bytes.length + uptoBulk d + 1
  | (_, d) => uptoBulk d + 1
 end
def uptoSmall : (H : Type) → List (DataW H) → Bool := fun _ ds => decide (uptoBulkAll ds ≤ 1048576)
def OpenSpec.upto (s : _root_.Go.ChangeSpec) : _root_.Go.OpenSpec := { _root_.Go.OpenSpec.ofChange s with cond := some uptoSmall }

/-- 'vestibulelaw17.FilterSets', WHERE WHAT IT READS IS OF BULK AT MOST 1048576: true; the input reads as it did. -/
def filterSetsUptoRow : OpenClaim := { program := "ytanifiobfbfehaagreatdoor", sum := "7f1d9c0e35376519bc2c7b74457cd42b625211d77d401e17814e3dc698353b85", func := "vestibule/vestibulelaw17.FilterSets", spec := "filterSets", inPlace := ["internal/bytealg.IndexByteString", "internal/bytealg.IndexString", "slices.overlaps[vestibule/api.Call]"], unfollowed := true, recurses := true, named := ["internal/bytealg.MaxLen", "vestibule/names.errnos", "strconv.ErrSyntax", "strconv.ErrRange", "internal/strconv.uint64pow10", "math/bits.deBruijn32tab", "math/bits.deBruijn64tab"], apart := false, laid := [("math/bits.deBruijn32tab", laid_math_bits_deBruijn32tab), ("math/bits.deBruijn64tab", laid_math_bits_deBruijn64tab), ("internal/strconv.uint64pow10", laid_internal_strconv_uint64pow10), ("strconv.ErrRange", laid_strconv_ErrRange), ("strconv.ErrSyntax", laid_strconv_ErrSyntax), ("vestibule/names.errnos", laid_vestibule_names_errnos)], narrowed := true }
def FilterSetsUptoSaid : Prop := filterSetsUptoRow.holds Tryz.pinned (OpenSpec.upto filterSetsSpec)

/-- 'vestibulelaw17.FilterKeys', WHERE WHAT IT READS IS OF BULK AT MOST 1048576: true; the input reads as it did. -/
def filterKeysUptoRow : OpenClaim := { program := "ytanifiobfbfehaagreatdoor", sum := "7f1d9c0e35376519bc2c7b74457cd42b625211d77d401e17814e3dc698353b85", func := "vestibule/vestibulelaw17.FilterKeys", spec := "filterKeys", inPlace := ["internal/bytealg.IndexByteString", "internal/bytealg.IndexString", "slices.overlaps[vestibule/api.Call]"], unfollowed := true, recurses := true, named := ["vestibule/names.errnos", "strconv.ErrSyntax", "strconv.ErrRange", "internal/strconv.uint64pow10", "math/bits.deBruijn32tab", "math/bits.deBruijn64tab", "internal/bytealg.MaxLen"], apart := false, laid := [("math/bits.deBruijn32tab", laid_math_bits_deBruijn32tab), ("math/bits.deBruijn64tab", laid_math_bits_deBruijn64tab), ("internal/strconv.uint64pow10", laid_internal_strconv_uint64pow10), ("strconv.ErrRange", laid_strconv_ErrRange), ("strconv.ErrSyntax", laid_strconv_ErrSyntax), ("vestibule/names.errnos", laid_vestibule_names_errnos)], narrowed := true }
def FilterKeysUptoSaid : Prop := filterKeysUptoRow.holds Tryz.pinned (OpenSpec.upto filterKeysSpec)

/-- 'vestibulelaw17.FilterOwn', WHERE WHAT IT READS IS OF BULK AT MOST 1048576: true; the input reads as it did. -/
def filterOwnUptoRow : OpenClaim := { program := "ytanifiobfbfehaagreatdoor", sum := "7f1d9c0e35376519bc2c7b74457cd42b625211d77d401e17814e3dc698353b85", func := "vestibule/vestibulelaw17.FilterOwn", spec := "filterOwn", inPlace := ["internal/bytealg.IndexByteString", "internal/bytealg.IndexString", "slices.overlaps[vestibule/api.Call]"], unfollowed := true, recurses := true, named := ["internal/bytealg.MaxLen", "vestibule/names.errnos", "strconv.ErrSyntax", "strconv.ErrRange", "internal/strconv.uint64pow10", "math/bits.deBruijn32tab", "math/bits.deBruijn64tab"], apart := false, laid := [("math/bits.deBruijn32tab", laid_math_bits_deBruijn32tab), ("math/bits.deBruijn64tab", laid_math_bits_deBruijn64tab), ("internal/strconv.uint64pow10", laid_internal_strconv_uint64pow10), ("strconv.ErrRange", laid_strconv_ErrRange), ("strconv.ErrSyntax", laid_strconv_ErrSyntax), ("vestibule/names.errnos", laid_vestibule_names_errnos)], narrowed := true }
def FilterOwnUptoSaid : Prop := filterOwnUptoRow.holds Tryz.pinned (OpenSpec.upto filterOwnSpec)

/-- 'vestibulelaw17.FilterLists', WHERE WHAT IT READS IS OF BULK AT MOST 1048576: true; the input reads as it did. -/
def filterListsUptoRow : OpenClaim := { program := "ytanifiobfbfehaagreatdoor", sum := "7f1d9c0e35376519bc2c7b74457cd42b625211d77d401e17814e3dc698353b85", func := "vestibule/vestibulelaw17.FilterLists", spec := "filterLists", inPlace := ["internal/bytealg.IndexByteString", "internal/bytealg.IndexString", "slices.overlaps[vestibule/api.Call]"], unfollowed := true, recurses := true, named := ["internal/bytealg.MaxLen", "vestibule/names.errnos", "strconv.ErrSyntax", "strconv.ErrRange", "internal/strconv.uint64pow10", "math/bits.deBruijn32tab", "math/bits.deBruijn64tab"], apart := false, laid := [("math/bits.deBruijn32tab", laid_math_bits_deBruijn32tab), ("math/bits.deBruijn64tab", laid_math_bits_deBruijn64tab), ("internal/strconv.uint64pow10", laid_internal_strconv_uint64pow10), ("strconv.ErrRange", laid_strconv_ErrRange), ("strconv.ErrSyntax", laid_strconv_ErrSyntax), ("vestibule/names.errnos", laid_vestibule_names_errnos)], narrowed := true }
def FilterListsUptoSaid : Prop := filterListsUptoRow.holds Tryz.pinned (OpenSpec.upto filterListsSpec)

end Rows
end Go.Proofs.YtanifiobfbfehaaGreatDoor
