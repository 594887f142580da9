/-
  No cell of these rows narrows 'for every input' (looked for: loops, veiled, ifaces, maps, wideKeys, modest, calm, conditions, laid).
  DERIVED. THE GIVEN ROWS OF THIS SEAT. 3 by the template 'for every input the law returns true; each argument reads behind the call as it read before'; 0 by the template 'total and deterministic' (their statements: YtekmbhjdacaphaaTotals.lean).
  GIVEN WITH THE SEED: the statements are not yours to turn. If you find one false, say at which input.
  Laid BY PROGRAM, IN A SANDBOX (cutbox-rows.mjs): the forced cells as the released guide's own fill.sh prints them over the translation a6e6e7fd60ba223d… (all of the seat's roots in one cut). By AI agents, Wed Nov 11 2026. No macro, syntax, notation, axiom, sorry.
-/
import Derived.Test.YtekmbhjdacaphaaChecked
import GoSem.Claim
import GoSem.ClaimJoined
import GoSem.ClaimMapViews
import Derived.JoinedTies
import Derived.KernelRfl
namespace Go.Proofs.Ytekmbhjdacaphaa
/- THE CELL 'sum', in the pinned program and in every row, IS THE sha256 OF THE DUMP (.gsa) THAT YtekmbhjdacaphaaProg.lean LOADS. Nothing in Lean hashes anything: it is a label: what it is worth is what the hold of that sum in a sandbox is worth. -/
noncomputable def Try.pinned : Pinned := { name := "ytekmbhjdacaphaa", sum := "a6e6e7fd60ba223d2700a7694c51316b168cff04b1c11cc7ae96939e65e52250", checked := Try.checked }
namespace Rows
def none {H : Type} : Left H := { results := [], args := [] }

/-- 'vestibulelaw02.InsnPrint': WHATEVER THE INPUT: true; the input reads as it did. -/
def insnPrintSpec : ChangeSpec := { name := "insnPrint", fn := fun _ => fun
  | [d] => { results := [.lit (.bool true)], args := [d] }
  | _ => none }
def insnPrintRow : OpenClaim := { program := "ytekmbhjdacaphaa", sum := "a6e6e7fd60ba223d2700a7694c51316b168cff04b1c11cc7ae96939e65e52250", func := "vestibule/vestibulelaw02.InsnPrint", spec := "insnPrint", unfollowed := true, recurses := true, apart := false }
def InsnPrintSaid : Prop := insnPrintRow.holds Try.pinned (OpenSpec.ofChange insnPrintSpec)

/-- ITS FALSE NEIGHBOUR: 'it returns false'. Refute it at one input. -/
def insnPrintWrong : ChangeSpec := { name := "insnPrint", fn := fun _ => fun
  | [d] => { results := [.lit (.bool false)], args := [d] }
  | _ => none }
def InsnPrintWrongFalsely : Prop := insnPrintRow.holds Try.pinned (OpenSpec.ofChange insnPrintWrong)

/-- 'vestibulelaw02.InsnParse': WHATEVER THE INPUT: true; the input reads as it did. -/
def insnParseSpec : ChangeSpec := { name := "insnParse", fn := fun _ => fun
  | [d] => { results := [.lit (.bool true)], args := [d] }
  | _ => none }
def insnParseRow : OpenClaim := { program := "ytekmbhjdacaphaa", sum := "a6e6e7fd60ba223d2700a7694c51316b168cff04b1c11cc7ae96939e65e52250", func := "vestibule/vestibulelaw02.InsnParse", spec := "insnParse", unfollowed := true, recurses := true, apart := false }
def InsnParseSaid : Prop := insnParseRow.holds Try.pinned (OpenSpec.ofChange insnParseSpec)

/-- ITS FALSE NEIGHBOUR: 'it returns false'. Refute it at one input. -/
def insnParseWrong : ChangeSpec := { name := "insnParse", fn := fun _ => fun
  | [d] => { results := [.lit (.bool false)], args := [d] }
  | _ => none }
def InsnParseWrongFalsely : Prop := insnParseRow.holds Try.pinned (OpenSpec.ofChange insnParseWrong)

/-- 'vestibulelaw02.InsnLimit': WHATEVER THE INPUT: true; the input reads as it did. -/
def insnLimitSpec : ChangeSpec := { name := "insnLimit", fn := fun _ => fun
  | [d] => { results := [.lit (.bool true)], args := [d] }
  | _ => none }
def insnLimitRow : OpenClaim := { program := "ytekmbhjdacaphaa", sum := "a6e6e7fd60ba223d2700a7694c51316b168cff04b1c11cc7ae96939e65e52250", func := "vestibule/vestibulelaw02.InsnLimit", spec := "insnLimit", unfollowed := true, recurses := true, apart := false }
def InsnLimitSaid : Prop := insnLimitRow.holds Try.pinned (OpenSpec.ofChange insnLimitSpec)

/-- ITS FALSE NEIGHBOUR: 'it returns false'. Refute it at one input. -/
def insnLimitWrong : ChangeSpec := { name := "insnLimit", fn := fun _ => fun
  | [d] => { results := [.lit (.bool false)], args := [d] }
  | _ => none }
def InsnLimitWrongFalsely : Prop := insnLimitRow.holds Try.pinned (OpenSpec.ofChange insnLimitWrong)

/- THE SECOND FORM. 'bulk': how many values and letters a reading holds, each counted each time it is reached (what is shared counts as often as it is met; a slice's spare places count too). A statement '..UptoSaid' is the law's where the arguments, and the package variables that the reading takes, are together of bulk at most 1048576: NARROWER than '..Said'. Prove '..Said' where nothing that the law and all that it calls make is longer than what came in: it says more and counts as full. Else prove '..UptoSaid'. A law counts once. -/
mutual
def uptoBulk {H : Type} : DataW H → Nat
  | .lit (.string bytes) => bytes.length + 1
  | .lit _ => 1
  | .nil => 1
  | .ptr d => uptoBulk d + 1
  | .slice elems spare => uptoBulkAll elems + uptoBulkAll spare + 1
  | .agg parts => uptoBulkAll parts + 1
  | .iface _ d => uptoBulk d + 1
  | .map entries => uptoBulkEntries entries + 1
  | .held _ => 1
def uptoBulkAll {H : Type} : List (DataW H) → Nat
  | [] => 0
  | d :: r => uptoBulk d + uptoBulkAll r
def uptoBulkEntries {H : Type} : List (Lit × DataW H) → Nat
  | [] => 0
  | x :: r => uptoBulkEntry x + uptoBulkEntries r
def uptoBulkEntry {H : Type} : Lit × DataW H → Nat
  | (.string bytes, d) => bytes.length + uptoBulk d + 1
  | (_, d) => uptoBulk d + 1
 end
def uptoSmall : (H : Type) → List (DataW H) → Bool := fun _ ds => decide (uptoBulkAll ds ≤ 1048576)
def OpenSpec.upto (s : _root_.Go.ChangeSpec) : _root_.Go.OpenSpec := { _root_.Go.OpenSpec.ofChange s with cond := some uptoSmall }

/-- 'vestibulelaw02.InsnPrint', WHERE WHAT IT READS IS OF BULK AT MOST 1048576: true; the input reads as it did. -/
def insnPrintUptoRow : OpenClaim := { program := "ytekmbhjdacaphaa", sum := "a6e6e7fd60ba223d2700a7694c51316b168cff04b1c11cc7ae96939e65e52250", func := "vestibule/vestibulelaw02.InsnPrint", spec := "insnPrint", unfollowed := true, recurses := true, apart := false, narrowed := true }
def InsnPrintUptoSaid : Prop := insnPrintUptoRow.holds Try.pinned (OpenSpec.upto insnPrintSpec)

/-- 'vestibulelaw02.InsnParse', WHERE WHAT IT READS IS OF BULK AT MOST 1048576: true; the input reads as it did. -/
def insnParseUptoRow : OpenClaim := { program := "ytekmbhjdacaphaa", sum := "a6e6e7fd60ba223d2700a7694c51316b168cff04b1c11cc7ae96939e65e52250", func := "vestibule/vestibulelaw02.InsnParse", spec := "insnParse", unfollowed := true, recurses := true, apart := false, narrowed := true }
def InsnParseUptoSaid : Prop := insnParseUptoRow.holds Try.pinned (OpenSpec.upto insnParseSpec)

/-- 'vestibulelaw02.InsnLimit', WHERE WHAT IT READS IS OF BULK AT MOST 1048576: true; the input reads as it did. -/
def insnLimitUptoRow : OpenClaim := { program := "ytekmbhjdacaphaa", sum := "a6e6e7fd60ba223d2700a7694c51316b168cff04b1c11cc7ae96939e65e52250", func := "vestibule/vestibulelaw02.InsnLimit", spec := "insnLimit", unfollowed := true, recurses := true, apart := false, narrowed := true }
def InsnLimitUptoSaid : Prop := insnLimitUptoRow.holds Try.pinned (OpenSpec.upto insnLimitSpec)

end Rows
end Go.Proofs.Ytekmbhjdacaphaa
