/- What the calls of the package asm have to return, as the chapter says it. -/
import Derived.Test.YtlneiiljdghmjaaDoorAg
import Derived.Test.YtlneiiljdghmjaaDoorIs
namespace Go.Proofs.YtlneiiljdghmjaaDoor
open Go.RowKit
set_option linter.unusedVariables false

/-- What asm.Text has to return for a program. -/
def textE (p : List Ins) : List UInt8 := if canL p = true then textL p else []
def textN (p : List Ins) : Int := if canL p = true then 0 else 70
/-- What asm.Parse has to return for a text. -/
def ParseTo (l : List UInt8) (w : World) (e : Ending) (w' : World) : Prop :=
  (∃ (q : List Ins) (a : Option Addr) (c : Nat), OkL q ∧ canL q = true ∧ textL q = l ∧ e = .returned (.tuple #[.slice a q.length c, .int .i64 0]) ∧ RdI w' w'.heap.size a q ∧ q.length ≤ c ∧ c ≤ maxLen ∧ (a = none → c = 0) ∧ Below w.heap.size w w') ∨
  ((∀ q, OkL q → canL q = true → textL q ≠ l) ∧ e = .returned (.tuple #[.slice none 0 0, .int .i64 70]) ∧ Below w.heap.size w w')
/-- What asm.Can, Text, Line have to return, over what must lie in memory. -/
structure AsmA (G : World → Prop) : Prop where
  on : ∀ {w w' : World}, G w → Below w.heap.size w w' → G w'
  can : ∀ (a0 : Option Addr) (n cap : Nat) (p : List Ins) (w : World), G w → p.length = n → OkL p → n ≤ cap → cap ≤ maxLen → (a0 = none → cap = 0) → RdI w w.heap.size a0 p → Calls Tryd.prog 11 #[.slice a0 n cap] w fun e w' => e = .returned (.bool (canL p)) ∧ Below w.heap.size w w'
  text : ∀ (a0 : Option Addr) (n cap : Nat) (p : List Ins) (w : World), G w → p.length = n → OkL p → n ≤ cap → cap ≤ maxLen → (a0 = none → cap = 0) → RdI w w.heap.size a0 p → Calls Tryd.prog 10 #[.slice a0 n cap] w fun e w' => e = .returned (.tuple #[.string (bs (textE p)), .int .i64 (textN p)]) ∧ Below w.heap.size w w'
  line : ∀ (i : Ins) (at_ : Int) (w : World), G w → i.Ok → -9223372036854775808 ≤ at_ → at_ ≤ 1099511627776 → Calls Tryd.prog 15 #[.agg #[.int .u16 i.c, .int .u8 i.jt, .int .u8 i.jf, .int .u32 i.k], .int .i64 at_] w fun e w' => e = .returned (.string (bs (lineI i at_))) ∧ Below w.heap.size w w'
/-- And asm.Parse, of a text of at most 2^47 bytes. -/
structure AsmC (G : World → Prop) : Prop extends AsmA G where
  parse : ∀ (s : List UInt8) (w : World), G w → s.length ≤ 140737488355328 → Calls Tryd.prog 17 #[.string (bs s)] w (ParseTo s w)
theorem AsmA.al {G : World → Prop} (H : AsmA G) {w : World} (h : G w) (o : Obj) : G (w.alloc o) := H.on h ((Below.refl _ _).alloc (Nat.le_refl _) o)
theorem AsmC.al {G : World → Prop} (H : AsmC G) {w : World} (h : G w) (o : Obj) : G (w.alloc o) := H.on h ((Below.refl _ _).alloc (Nat.le_refl _) o)
end Go.Proofs.YtlneiiljdghmjaaDoor
