/-
  No cell of these rows narrows 'for every input' (looked for: loops, veiled, ifaces, maps, wideKeys, modest, calm, conditions, laid).
  DERIVED. THE GIVEN ROWS OF THIS SEAT. 5 by the template 'for every input the law returns true; each argument reads behind the call as it read before'; 0 by the template 'total and deterministic' (their statements: YthoichjomfdgjaaTotals.lean).
  GIVEN WITH THE SEED: the statements are not yours to turn. If you find one false, say at which input.
  Laid BY PROGRAM, IN A SANDBOX (cutbox-rows.mjs): the forced cells as the released guide's own fill.sh prints them over the translation dab66646397551fd… (all of the seat's roots in one cut). By AI agents, Wed Nov 11 2026. No macro, syntax, notation, axiom, sorry.
-/
import Derived.Test.YthoichjomfdgjaaChecked
import GoSem.Claim
import GoSem.ClaimJoined
import GoSem.ClaimMapViews
import Derived.JoinedTies
import Derived.KernelRfl
namespace Go.Proofs.Ythoichjomfdgjaa
/- THE CELL 'sum', in the pinned program and in every row, IS THE sha256 OF THE DUMP (.gsa) THAT YthoichjomfdgjaaProg.lean LOADS. Nothing in Lean hashes anything: it is a label: what it is worth is what the hold of that sum in a sandbox is worth. -/
noncomputable def Try.pinned : Pinned := { name := "ythoichjomfdgjaa", sum := "dab66646397551fdea16160cdbd630a0e99a469fce30153a7c482f58a1c5a99c", checked := Try.checked }
namespace Rows
def none {H : Type} : Left H := { results := [], args := [] }

/-- 'vestibulelaw03.DataPrint': WHATEVER THE INPUT: true; the input reads as it did. -/
def dataPrintSpec : ChangeSpec := { name := "dataPrint", fn := fun _ => fun
  | [d1, d2] => { results := [.lit (.bool true)], args := [d1, d2] }
  | _ => none }
def dataPrintRow : OpenClaim := { program := "ythoichjomfdgjaa", sum := "dab66646397551fdea16160cdbd630a0e99a469fce30153a7c482f58a1c5a99c", func := "vestibule/vestibulelaw03.DataPrint", spec := "dataPrint", apart := false }
def DataPrintSaid : Prop := dataPrintRow.holds Try.pinned (OpenSpec.ofChange dataPrintSpec)

/-- ITS FALSE NEIGHBOUR: 'it returns false'. Refute it at one input. -/
def dataPrintWrong : ChangeSpec := { name := "dataPrint", fn := fun _ => fun
  | [d1, d2] => { results := [.lit (.bool false)], args := [d1, d2] }
  | _ => none }
def DataPrintWrongFalsely : Prop := dataPrintRow.holds Try.pinned (OpenSpec.ofChange dataPrintWrong)

/-- 'vestibulelaw03.DataParse': WHATEVER THE INPUT: true; the input reads as it did. -/
def dataParseSpec : ChangeSpec := { name := "dataParse", fn := fun _ => fun
  | [d] => { results := [.lit (.bool true)], args := [d] }
  | _ => none }
def dataParseRow : OpenClaim := { program := "ythoichjomfdgjaa", sum := "dab66646397551fdea16160cdbd630a0e99a469fce30153a7c482f58a1c5a99c", func := "vestibule/vestibulelaw03.DataParse", spec := "dataParse", apart := false }
def DataParseSaid : Prop := dataParseRow.holds Try.pinned (OpenSpec.ofChange dataParseSpec)

/-- ITS FALSE NEIGHBOUR: 'it returns false'. Refute it at one input. -/
def dataParseWrong : ChangeSpec := { name := "dataParse", fn := fun _ => fun
  | [d] => { results := [.lit (.bool false)], args := [d] }
  | _ => none }
def DataParseWrongFalsely : Prop := dataParseRow.holds Try.pinned (OpenSpec.ofChange dataParseWrong)

/-- 'vestibulelaw03.DataBack': WHATEVER THE INPUT: true; the input reads as it did. -/
def dataBackSpec : ChangeSpec := { name := "dataBack", fn := fun _ => fun
  | [d1, d2] => { results := [.lit (.bool true)], args := [d1, d2] }
  | _ => none }
def dataBackRow : OpenClaim := { program := "ythoichjomfdgjaa", sum := "dab66646397551fdea16160cdbd630a0e99a469fce30153a7c482f58a1c5a99c", func := "vestibule/vestibulelaw03.DataBack", spec := "dataBack", apart := false }
def DataBackSaid : Prop := dataBackRow.holds Try.pinned (OpenSpec.ofChange dataBackSpec)

/-- ITS FALSE NEIGHBOUR: 'it returns false'. Refute it at one input. -/
def dataBackWrong : ChangeSpec := { name := "dataBack", fn := fun _ => fun
  | [d1, d2] => { results := [.lit (.bool false)], args := [d1, d2] }
  | _ => none }
def DataBackWrongFalsely : Prop := dataBackRow.holds Try.pinned (OpenSpec.ofChange dataBackWrong)

/-- 'vestibulelaw03.DataWords': WHATEVER THE INPUT: true; the input reads as it did. -/
def dataWordsSpec : ChangeSpec := { name := "dataWords", fn := fun _ => fun
  | [d1, d2] => { results := [.lit (.bool true)], args := [d1, d2] }
  | _ => none }
def dataWordsRow : OpenClaim := { program := "ythoichjomfdgjaa", sum := "dab66646397551fdea16160cdbd630a0e99a469fce30153a7c482f58a1c5a99c", func := "vestibule/vestibulelaw03.DataWords", spec := "dataWords", apart := false }
def DataWordsSaid : Prop := dataWordsRow.holds Try.pinned (OpenSpec.ofChange dataWordsSpec)

/-- ITS FALSE NEIGHBOUR: 'it returns false'. Refute it at one input. -/
def dataWordsWrong : ChangeSpec := { name := "dataWords", fn := fun _ => fun
  | [d1, d2] => { results := [.lit (.bool false)], args := [d1, d2] }
  | _ => none }
def DataWordsWrongFalsely : Prop := dataWordsRow.holds Try.pinned (OpenSpec.ofChange dataWordsWrong)

/-- 'vestibulelaw03.DataArgs': WHATEVER THE INPUT: true; the input reads as it did. -/
def dataArgsSpec : ChangeSpec := { name := "dataArgs", fn := fun _ => fun
  | [d1, d2] => { results := [.lit (.bool true)], args := [d1, d2] }
  | _ => none }
def dataArgsRow : OpenClaim := { program := "ythoichjomfdgjaa", sum := "dab66646397551fdea16160cdbd630a0e99a469fce30153a7c482f58a1c5a99c", func := "vestibule/vestibulelaw03.DataArgs", spec := "dataArgs", apart := false }
def DataArgsSaid : Prop := dataArgsRow.holds Try.pinned (OpenSpec.ofChange dataArgsSpec)

/-- ITS FALSE NEIGHBOUR: 'it returns false'. Refute it at one input. -/
def dataArgsWrong : ChangeSpec := { name := "dataArgs", fn := fun _ => fun
  | [d1, d2] => { results := [.lit (.bool false)], args := [d1, d2] }
  | _ => none }
def DataArgsWrongFalsely : Prop := dataArgsRow.holds Try.pinned (OpenSpec.ofChange dataArgsWrong)

/- THE SECOND FORM. 'bulk': how many values and letters a reading holds, each counted each time it is reached (what is shared counts as often as it is met; a slice's spare places count too). A statement '..UptoSaid' is the law's where the arguments, and the package variables that the reading takes, are together of bulk at most 1048576: NARROWER than '..Said'. Prove '..Said' where nothing that the law and all that it calls make is longer than what came in: it says more and counts as full. Else prove '..UptoSaid'. A law counts once. -/
mutual
def uptoBulk {H : Type} : DataW H → Nat
  | .lit (.string bytes) => bytes.length + 1
  | .lit _ => 1
  | .nil => 1
  | .ptr d => uptoBulk d + 1
  | .slice elems spare => uptoBulkAll elems + uptoBulkAll spare + 1
  | .agg parts => uptoBulkAll parts + 1
  | .iface _ d => uptoBulk d + 1
  | .map entries => uptoBulkEntries entries + 1
  | .held _ => 1
def uptoBulkAll {H : Type} : List (DataW H) → Nat
  | [] => 0
  | d :: r => uptoBulk d + uptoBulkAll r
def uptoBulkEntries {H : Type} : List (Lit × DataW H) → Nat
  | [] => 0
  | x :: r => uptoBulkEntry x + uptoBulkEntries r
def uptoBulkEntry {H : Type} : Lit × DataW H → Nat
  | (.string bytes, d) => bytes.length + uptoBulk d + 1
  | (_, d) => uptoBulk d + 1
 end
def uptoSmall : (H : Type) → List (DataW H) → Bool := fun _ ds => decide (uptoBulkAll ds ≤ 1048576)
def OpenSpec.upto (s : _root_.Go.ChangeSpec) : _root_.Go.OpenSpec := { _root_.Go.OpenSpec.ofChange s with cond := some uptoSmall }

/-- 'vestibulelaw03.DataPrint', WHERE WHAT IT READS IS OF BULK AT MOST 1048576: true; the input reads as it did. -/
def dataPrintUptoRow : OpenClaim := { program := "ythoichjomfdgjaa", sum := "dab66646397551fdea16160cdbd630a0e99a469fce30153a7c482f58a1c5a99c", func := "vestibule/vestibulelaw03.DataPrint", spec := "dataPrint", apart := false, narrowed := true }
def DataPrintUptoSaid : Prop := dataPrintUptoRow.holds Try.pinned (OpenSpec.upto dataPrintSpec)

/-- 'vestibulelaw03.DataParse', WHERE WHAT IT READS IS OF BULK AT MOST 1048576: true; the input reads as it did. -/
def dataParseUptoRow : OpenClaim := { program := "ythoichjomfdgjaa", sum := "dab66646397551fdea16160cdbd630a0e99a469fce30153a7c482f58a1c5a99c", func := "vestibule/vestibulelaw03.DataParse", spec := "dataParse", apart := false, narrowed := true }
def DataParseUptoSaid : Prop := dataParseUptoRow.holds Try.pinned (OpenSpec.upto dataParseSpec)

/-- 'vestibulelaw03.DataBack', WHERE WHAT IT READS IS OF BULK AT MOST 1048576: true; the input reads as it did. -/
def dataBackUptoRow : OpenClaim := { program := "ythoichjomfdgjaa", sum := "dab66646397551fdea16160cdbd630a0e99a469fce30153a7c482f58a1c5a99c", func := "vestibule/vestibulelaw03.DataBack", spec := "dataBack", apart := false, narrowed := true }
def DataBackUptoSaid : Prop := dataBackUptoRow.holds Try.pinned (OpenSpec.upto dataBackSpec)

/-- 'vestibulelaw03.DataWords', WHERE WHAT IT READS IS OF BULK AT MOST 1048576: true; the input reads as it did. -/
def dataWordsUptoRow : OpenClaim := { program := "ythoichjomfdgjaa", sum := "dab66646397551fdea16160cdbd630a0e99a469fce30153a7c482f58a1c5a99c", func := "vestibule/vestibulelaw03.DataWords", spec := "dataWords", apart := false, narrowed := true }
def DataWordsUptoSaid : Prop := dataWordsUptoRow.holds Try.pinned (OpenSpec.upto dataWordsSpec)

/-- 'vestibulelaw03.DataArgs', WHERE WHAT IT READS IS OF BULK AT MOST 1048576: true; the input reads as it did. -/
def dataArgsUptoRow : OpenClaim := { program := "ythoichjomfdgjaa", sum := "dab66646397551fdea16160cdbd630a0e99a469fce30153a7c482f58a1c5a99c", func := "vestibule/vestibulelaw03.DataArgs", spec := "dataArgs", apart := false, narrowed := true }
def DataArgsUptoSaid : Prop := dataArgsUptoRow.holds Try.pinned (OpenSpec.upto dataArgsSpec)

end Rows
end Go.Proofs.Ythoichjomfdgjaa
