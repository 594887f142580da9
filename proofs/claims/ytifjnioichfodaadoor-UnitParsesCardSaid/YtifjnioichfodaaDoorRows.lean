/-
  NARROWER THAN 'FOR EVERY INPUT', by the rows' own cells (each row's printed sentence says how): UnitParses: laid · UnitLines: laid · UnitWritten: laid · UnitEither: laid.
  DERIVED. THE GIVEN ROWS OF THIS SEAT. 4 by the template 'for every input the law returns true; each argument reads behind the call as it read before'; 0 by the template 'total and deterministic' (their statements: YtifjnioichfodaaDoorTotals.lean).
  GIVEN WITH THE SEED: the statements are not yours to turn. If you find one false, say at which input.
  Laid BY PROGRAM, IN A SANDBOX (cutbox-rows.mjs): the forced cells as the released guide's own fill.sh prints them over the translation a557ed6e7dd08ca2… (all of the seat's roots in one cut). By AI agents, Wed Nov 11 2026. No macro, syntax, notation, axiom, sorry.
-/
import Derived.Test.YtifjnioichfodaaDoorChecked
import GoSem.PinnedTables
import GoSem.Claim
import GoSem.ClaimJoined
import GoSem.ClaimMapViews
import Derived.JoinedTies
import Derived.KernelRfl
namespace Go.Proofs.YtifjnioichfodaaDoor
/- THE CELL 'sum', in the pinned program and in every row, IS THE sha256 OF THE DUMP (.gsa) THAT YtifjnioichfodaaDoorProg.lean LOADS. Nothing in Lean hashes anything: it is a label: what it is worth is what the hold of that sum in a sandbox is worth. -/
noncomputable def Tryd.pinned : Pinned := { name := "ytifjnioichfodaadoor", sum := "a557ed6e7dd08ca27910c15505d5eb0a4f6d3c888b96a9e29f6897e2383128b6", checked := Tryd.checked }
namespace Rows
def none {H : Type} : Left H := { results := [], args := [] }

/- WHAT THE LISTED PACKAGE-LEVEL VARIABLES READ AS WHEN THE CALL BEGINS. Each datum BY PROGRAM (the guide's laid-datum.mjs) off the statement by which the dump's own 'gosem.cut.vars' lays the variable. In a bare row this is a premise. The card (YtifjnioichfodaaDoorCards.lean) ties it to the program's text. -/
def laid_unicode_utf8_acceptRanges {H : Type} : DataW H := .agg [.agg [.lit (.int .u8 128), .lit (.int .u8 191)], .agg [.lit (.int .u8 160), .lit (.int .u8 191)], .agg [.lit (.int .u8 128), .lit (.int .u8 159)], .agg [.lit (.int .u8 144), .lit (.int .u8 191)], .agg [.lit (.int .u8 128), .lit (.int .u8 143)], .agg [.lit (.int .u8 0), .lit (.int .u8 0)], .agg [.lit (.int .u8 0), .lit (.int .u8 0)], .agg [.lit (.int .u8 0), .lit (.int .u8 0)], .agg [.lit (.int .u8 0), .lit (.int .u8 0)], .agg [.lit (.int .u8 0), .lit (.int .u8 0)], .agg [.lit (.int .u8 0), .lit (.int .u8 0)], .agg [.lit (.int .u8 0), .lit (.int .u8 0)], .agg [.lit (.int .u8 0), .lit (.int .u8 0)], .agg [.lit (.int .u8 0), .lit (.int .u8 0)], .agg [.lit (.int .u8 0), .lit (.int .u8 0)], .agg [.lit (.int .u8 0), .lit (.int .u8 0)]]
/-- One of Go's own tables, pinned by name: the form's constant. -/
def laid_unicode_utf8_first : DataW Unit := Go.Pinned.utf8First

/-- 'vestibulelaw13.UnitParses': WHATEVER THE INPUT: true; the input reads as it did. -/
def unitParsesSpec : ChangeSpec := { name := "unitParses", fn := fun _ => fun
  | [d] => { results := [.lit (.bool true)], args := [d] }
  | _ => none }
def unitParsesRow : OpenClaim := { program := "ytifjnioichfodaadoor", sum := "a557ed6e7dd08ca27910c15505d5eb0a4f6d3c888b96a9e29f6897e2383128b6", func := "vestibule/vestibulelaw13.UnitParses", spec := "unitParses", inPlace := ["internal/bytealg.IndexByteString", "internal/bytealg.IndexString", "internal/abi.NoEscape"], unfollowed := true, recurses := true, named := ["unicode/utf8.first", "unicode/utf8.acceptRanges", "internal/bytealg.MaxLen"], apart := false, laid := [("unicode/utf8.acceptRanges", laid_unicode_utf8_acceptRanges), ("unicode/utf8.first", laid_unicode_utf8_first)] }
def UnitParsesSaid : Prop := unitParsesRow.holds Tryd.pinned (OpenSpec.ofChange unitParsesSpec)

/-- ITS FALSE NEIGHBOUR: 'it returns false'. Refute it at one input. -/
def unitParsesWrong : ChangeSpec := { name := "unitParses", fn := fun _ => fun
  | [d] => { results := [.lit (.bool false)], args := [d] }
  | _ => none }
def UnitParsesWrongFalsely : Prop := unitParsesRow.holds Tryd.pinned (OpenSpec.ofChange unitParsesWrong)

/-- 'vestibulelaw13.UnitLines': WHATEVER THE INPUT: true; the input reads as it did. -/
def unitLinesSpec : ChangeSpec := { name := "unitLines", fn := fun _ => fun
  | [d] => { results := [.lit (.bool true)], args := [d] }
  | _ => none }
def unitLinesRow : OpenClaim := { program := "ytifjnioichfodaadoor", sum := "a557ed6e7dd08ca27910c15505d5eb0a4f6d3c888b96a9e29f6897e2383128b6", func := "vestibule/vestibulelaw13.UnitLines", spec := "unitLines", inPlace := ["internal/bytealg.IndexByteString", "internal/bytealg.IndexString", "internal/abi.NoEscape"], unfollowed := true, recurses := true, named := ["internal/bytealg.MaxLen", "unicode/utf8.first", "unicode/utf8.acceptRanges"], apart := false, laid := [("unicode/utf8.acceptRanges", laid_unicode_utf8_acceptRanges), ("unicode/utf8.first", laid_unicode_utf8_first)] }
def UnitLinesSaid : Prop := unitLinesRow.holds Tryd.pinned (OpenSpec.ofChange unitLinesSpec)

/-- ITS FALSE NEIGHBOUR: 'it returns false'. Refute it at one input. -/
def unitLinesWrong : ChangeSpec := { name := "unitLines", fn := fun _ => fun
  | [d] => { results := [.lit (.bool false)], args := [d] }
  | _ => none }
def UnitLinesWrongFalsely : Prop := unitLinesRow.holds Tryd.pinned (OpenSpec.ofChange unitLinesWrong)

/-- 'vestibulelaw13.UnitWritten': WHATEVER THE INPUT: true; the input reads as it did. -/
def unitWrittenSpec : ChangeSpec := { name := "unitWritten", fn := fun _ => fun
  | [d1, d2] => { results := [.lit (.bool true)], args := [d1, d2] }
  | _ => none }
def unitWrittenRow : OpenClaim := { program := "ytifjnioichfodaadoor", sum := "a557ed6e7dd08ca27910c15505d5eb0a4f6d3c888b96a9e29f6897e2383128b6", func := "vestibule/vestibulelaw13.UnitWritten", spec := "unitWritten", inPlace := ["internal/bytealg.IndexByteString", "internal/bytealg.IndexString", "internal/abi.NoEscape"], unfollowed := true, recurses := true, named := ["unicode/utf8.first", "unicode/utf8.acceptRanges", "internal/bytealg.MaxLen"], apart := false, laid := [("unicode/utf8.acceptRanges", laid_unicode_utf8_acceptRanges), ("unicode/utf8.first", laid_unicode_utf8_first)] }
def UnitWrittenSaid : Prop := unitWrittenRow.holds Tryd.pinned (OpenSpec.ofChange unitWrittenSpec)

/-- ITS FALSE NEIGHBOUR: 'it returns false'. Refute it at one input. -/
def unitWrittenWrong : ChangeSpec := { name := "unitWritten", fn := fun _ => fun
  | [d1, d2] => { results := [.lit (.bool false)], args := [d1, d2] }
  | _ => none }
def UnitWrittenWrongFalsely : Prop := unitWrittenRow.holds Tryd.pinned (OpenSpec.ofChange unitWrittenWrong)

/-- 'vestibulelaw13.UnitEither': WHATEVER THE INPUT: true; the input reads as it did. -/
def unitEitherSpec : ChangeSpec := { name := "unitEither", fn := fun _ => fun
  | [d] => { results := [.lit (.bool true)], args := [d] }
  | _ => none }
def unitEitherRow : OpenClaim := { program := "ytifjnioichfodaadoor", sum := "a557ed6e7dd08ca27910c15505d5eb0a4f6d3c888b96a9e29f6897e2383128b6", func := "vestibule/vestibulelaw13.UnitEither", spec := "unitEither", inPlace := ["internal/bytealg.IndexByteString", "internal/bytealg.IndexString", "internal/abi.NoEscape"], unfollowed := true, recurses := true, named := ["unicode/utf8.first", "unicode/utf8.acceptRanges", "internal/bytealg.MaxLen"], apart := false, laid := [("unicode/utf8.acceptRanges", laid_unicode_utf8_acceptRanges), ("unicode/utf8.first", laid_unicode_utf8_first)] }
def UnitEitherSaid : Prop := unitEitherRow.holds Tryd.pinned (OpenSpec.ofChange unitEitherSpec)

/-- ITS FALSE NEIGHBOUR: 'it returns false'. Refute it at one input. -/
def unitEitherWrong : ChangeSpec := { name := "unitEither", fn := fun _ => fun
  | [d] => { results := [.lit (.bool false)], args := [d] }
  | _ => none }
def UnitEitherWrongFalsely : Prop := unitEitherRow.holds Tryd.pinned (OpenSpec.ofChange unitEitherWrong)

/- THE SECOND FORM. 'bulk': how many values and letters a reading holds, each counted each time it is reached (what is shared counts as often as it is met; a slice's spare places count too). A statement '..UptoSaid' is the law's where the arguments, and the package variables that the reading takes, are together of bulk at most 1048576: NARROWER than '..Said'. Prove '..Said' where nothing that the law and all that it calls make is longer than what came in: it says more and counts as full. Else prove '..UptoSaid'. A law counts once. -/
mutual
def uptoBulk {H : Type} : DataW H → Nat
  | .lit (.string bytes) => bytes.length + 1
  | .lit _ => 1
  | .nil => 1
  | .ptr d => uptoBulk d + 1
  | .slice elems spare => uptoBulkAll elems + uptoBulkAll spare + 1
  | .agg parts => uptoBulkAll parts + 1
  | .iface _ d => uptoBulk d + 1
  | .map entries => uptoBulkEntries entries + 1
  | .held _ => 1
def uptoBulkAll {H : Type} : List (DataW H) → Nat
  | [] => 0
  | d :: r => uptoBulk d + uptoBulkAll r
def uptoBulkEntries {H : Type} : List (Lit × DataW H) → Nat
  | [] => 0
  | x :: r => uptoBulkEntry x + uptoBulkEntries r
def uptoBulkEntry {H : Type} : Lit × DataW H → Nat
  | (.string bytes, d) => bytes.length + uptoBulk d + 1
  | (_, d) => uptoBulk d + 1
 end
def uptoSmall : (H : Type) → List (DataW H) → Bool := fun _ ds => decide (uptoBulkAll ds ≤ 1048576)
def OpenSpec.upto (s : _root_.Go.ChangeSpec) : _root_.Go.OpenSpec := { _root_.Go.OpenSpec.ofChange s with cond := some uptoSmall }

/-- 'vestibulelaw13.UnitParses', WHERE WHAT IT READS IS OF BULK AT MOST 1048576: true; the input reads as it did. -/
def unitParsesUptoRow : OpenClaim := { program := "ytifjnioichfodaadoor", sum := "a557ed6e7dd08ca27910c15505d5eb0a4f6d3c888b96a9e29f6897e2383128b6", func := "vestibule/vestibulelaw13.UnitParses", spec := "unitParses", inPlace := ["internal/bytealg.IndexByteString", "internal/bytealg.IndexString", "internal/abi.NoEscape"], unfollowed := true, recurses := true, named := ["unicode/utf8.first", "unicode/utf8.acceptRanges", "internal/bytealg.MaxLen"], apart := false, laid := [("unicode/utf8.acceptRanges", laid_unicode_utf8_acceptRanges), ("unicode/utf8.first", laid_unicode_utf8_first)], narrowed := true }
def UnitParsesUptoSaid : Prop := unitParsesUptoRow.holds Tryd.pinned (OpenSpec.upto unitParsesSpec)

/-- 'vestibulelaw13.UnitLines', WHERE WHAT IT READS IS OF BULK AT MOST 1048576: true; the input reads as it did. -/
def unitLinesUptoRow : OpenClaim := { program := "ytifjnioichfodaadoor", sum := "a557ed6e7dd08ca27910c15505d5eb0a4f6d3c888b96a9e29f6897e2383128b6", func := "vestibule/vestibulelaw13.UnitLines", spec := "unitLines", inPlace := ["internal/bytealg.IndexByteString", "internal/bytealg.IndexString", "internal/abi.NoEscape"], unfollowed := true, recurses := true, named := ["internal/bytealg.MaxLen", "unicode/utf8.first", "unicode/utf8.acceptRanges"], apart := false, laid := [("unicode/utf8.acceptRanges", laid_unicode_utf8_acceptRanges), ("unicode/utf8.first", laid_unicode_utf8_first)], narrowed := true }
def UnitLinesUptoSaid : Prop := unitLinesUptoRow.holds Tryd.pinned (OpenSpec.upto unitLinesSpec)

/-- 'vestibulelaw13.UnitWritten', WHERE WHAT IT READS IS OF BULK AT MOST 1048576: true; the input reads as it did. -/
def unitWrittenUptoRow : OpenClaim := { program := "ytifjnioichfodaadoor", sum := "a557ed6e7dd08ca27910c15505d5eb0a4f6d3c888b96a9e29f6897e2383128b6", func := "vestibule/vestibulelaw13.UnitWritten", spec := "unitWritten", inPlace := ["internal/bytealg.IndexByteString", "internal/bytealg.IndexString", "internal/abi.NoEscape"], unfollowed := true, recurses := true, named := ["unicode/utf8.first", "unicode/utf8.acceptRanges", "internal/bytealg.MaxLen"], apart := false, laid := [("unicode/utf8.acceptRanges", laid_unicode_utf8_acceptRanges), ("unicode/utf8.first", laid_unicode_utf8_first)], narrowed := true }
def UnitWrittenUptoSaid : Prop := unitWrittenUptoRow.holds Tryd.pinned (OpenSpec.upto unitWrittenSpec)

/-- 'vestibulelaw13.UnitEither', WHERE WHAT IT READS IS OF BULK AT MOST 1048576: true; the input reads as it did. -/
def unitEitherUptoRow : OpenClaim := { program := "ytifjnioichfodaadoor", sum := "a557ed6e7dd08ca27910c15505d5eb0a4f6d3c888b96a9e29f6897e2383128b6", func := "vestibule/vestibulelaw13.UnitEither", spec := "unitEither", inPlace := ["internal/bytealg.IndexByteString", "internal/bytealg.IndexString", "internal/abi.NoEscape"], unfollowed := true, recurses := true, named := ["unicode/utf8.first", "unicode/utf8.acceptRanges", "internal/bytealg.MaxLen"], apart := false, laid := [("unicode/utf8.acceptRanges", laid_unicode_utf8_acceptRanges), ("unicode/utf8.first", laid_unicode_utf8_first)], narrowed := true }
def UnitEitherUptoSaid : Prop := unitEitherUptoRow.holds Tryd.pinned (OpenSpec.upto unitEitherSpec)

end Rows
end Go.Proofs.YtifjnioichfodaaDoor
