/- Names of errnos, families, namespaces as the chapter says them: tables, what is found in one; the document's own tables, Find, Name. No condition. What the document's own Errno, Digits, ErrnoName, All, Flags of the names return. Condition: a text of at most 2^62 bytes. What the document's own Digits, ErrnoName, All, Flags of the names return. Condition: none. What the document's own All, Flags of the namespaces return. No condition. What the calls of the package names have to return, as the chapter says it; the chapter's rows. -/
import Derived.Test.YtanifiobfbfehaaGreatDoorWd
import Derived.Laws.Strings2
import Derived.Laws.Strings3
import Derived.Laws.DeepStrings4
import Derived.Laws.IdiomStrings
import Derived.Deep.AppendLies
import Derived.Deep.DrawnRows
import Derived.RegionTactic
import Derived.BigRegion
import Derived.Laws.Concat
import Derived.Laws.Cover1
import Derived.Maps.AppendAt
import Derived.WalkSmall
namespace Go.Proofs.YtanifiobfbfehaaGreatDoor
set_option linter.unusedVariables false

/-- A string of these bytes. -/
def bs (l : List UInt8) : ByteArray := ⟨l.toArray⟩
theorem bs_size (l : List UInt8) : (bs l).size = l.length := by unfold bs; simp [ByteArray.size]
theorem bs_self (s : ByteArray) : bs s.data.toList = s := by unfold bs; rfl
theorem bs_list (l : List UInt8) : (bs l).data.toList = l := by unfold bs; rfl
theorem bs_toList (l : List UInt8) : (bs l).toList = l := by rw [ByteArray.toList_eq]; unfold bs; rfl
/-- White space. -/
def blkB (c : UInt8) : Bool := c == 32 || c == 9 || c == 13
end Go.Proofs.YtanifiobfbfehaaGreatDoor
namespace Go.Proofs.YtanifiobfbfehaaGreatDoor
open Go.RowKit
set_option linter.unusedVariables false
attribute [local go_sem ↓] Go.wp_at_zero Go.wp_at_succ

end Go.Proofs.YtanifiobfbfehaaGreatDoor
namespace Go.Proofs.YtanifiobfbfehaaGreatDoor
open Go.RowKit
set_option linter.unusedVariables false
set_option linter.unusedSimpArgs false
attribute [local go_sem ↓] Go.wp_at_zero Go.wp_at_succ

/-- A slice of bytes can be read. -/
def RdB (w : World) (B : Nat) (p : Option Addr) (l : List UInt8) : Prop := 0 < l.length → ∃ b o, p = some ⟨b, o, none⟩ ∧ b < B ∧ ∀ i (h : i < l.length), w.cell? ⟨b, o + i, none⟩ = some (.int .u8 (l[i].toNat : Int))
theorem RdB.on {w w' : World} {p : Option Addr} {l : List UInt8} (h : RdB w w.heap.size p l) (hb : Below w.heap.size w w') : RdB w' w'.heap.size p l := fun h0 => by
  obtain ⟨b, o, rfl, hlt, hc⟩ := h h0
  exact ⟨b, o, rfl, Nat.lt_of_lt_of_le hlt hb.size, fun i hi => (hb.cell (p := ⟨b, o + i, none⟩) hlt).trans (hc i hi)⟩
/-- Strings as cells. -/
def sL (ls : List (List UInt8)) : List Value := ls.map fun s => .string (bs s)
theorem sL_get {ls : List (List UInt8)} {k : Nat} {s : List UInt8} (h : ls[k]? = some s) : (sL ls)[k]? = some (.string (bs s)) := by
  unfold sL; rw [List.getElem?_map, h]; rfl
end Go.Proofs.YtanifiobfbfehaaGreatDoor
namespace Go.Proofs.YtanifiobfbfehaaGreatDoor
open Go.RowKit
set_option linter.unusedVariables false
attribute [local go_sem ↓] Go.wp_at_zero Go.wp_at_succ

abbrev En10 := ByteArray × Nat
def errnoT : List En10 := [(⟨#[69, 80, 69, 82, 77]⟩, 1), (⟨#[69, 78, 79, 69, 78, 84]⟩, 2), (⟨#[69, 73, 79]⟩, 5), (⟨#[69, 66, 65, 68, 70]⟩, 9), (⟨#[69, 65, 71, 65, 73, 78]⟩, 11), (⟨#[69, 78, 79, 77, 69, 77]⟩, 12), (⟨#[69, 65, 67, 67, 69, 83]⟩, 13), (⟨#[69, 70, 65, 85, 76, 84]⟩, 14), (⟨#[69, 66, 85, 83, 89]⟩, 16), (⟨#[69, 78, 79, 68, 69, 86]⟩, 19), (⟨#[69, 73, 78, 86, 65, 76]⟩, 22), (⟨#[69, 78, 79, 83, 89, 83]⟩, 38), (⟨#[69, 79, 80, 78, 79, 84, 83, 85, 80, 80]⟩, 95), (⟨#[69, 65, 70, 78, 79, 83, 85, 80, 80, 79, 82, 84]⟩, 97), (⟨#[69, 84, 73, 77, 69, 68, 79, 85, 84]⟩, 110)]
/-- The number of a name. -/
def findR : List En10 → ByteArray → Option Nat
  | [], _ => none
  | e :: r, s => if e.1 = s then some e.2 else findR r s
theorem find_at {l : List En10} {k : Nat} {e : En10} (h : l[k]? = some e) (s : ByteArray) : findR (l.drop k) s = if e.1 = s then some e.2 else findR (l.drop (k + 1)) s := by
  obtain ⟨hk, rfl⟩ := List.getElem?_eq_some_iff.1 h
  rw [List.drop_eq_getElem_cons hk]; rfl
/-- A table's cells; they lie in memory. -/
def esN (l : List En10) : List Value := l.flatMap fun e => [.string e.1, .int .u64 (e.2 : Nat)]
theorem esN_get : ∀ {l : List En10} {k : Nat} {e : En10}, l[k]? = some e → (esN l)[k * 2]? = some (.string e.1) ∧ (esN l)[k * 2 + 1]? = some (.int .u64 (e.2 : Nat))
  | [], k, e, h => by simp at h
  | x :: r, 0, e, h => by injection h with h; subst h; exact ⟨rfl, rfl⟩
  | x :: r, k + 1, e, h => by
    have := esN_get (l := r) (k := k) (e := e) (by simpa using h)
    have e1 : esN (x :: r) = .string x.1 :: .int .u64 (x.2 : Nat) :: esN r := rfl
    rw [e1, show (k + 1) * 2 = k * 2 + 1 + 1 by omega]
    exact this
def RowsN (w : World) (g : Nat) (l : List En10) : Prop := ∀ k e, l[k]? = some e → w.cell? ⟨g, k * 2, none⟩ = some (.string e.1) ∧ w.cell? ⟨g, k * 2 + 1, none⟩ = some (.int .u64 (e.2 : Nat))
theorem RowsN.on {w w' : World} {g : Nat} {l : List En10} (h : RowsN w g l) (hb : Below w.heap.size w w') : RowsN w' g l := fun k e hk =>
  ⟨(hb.cell (World.block_lt_of_cell? w _ (h k e hk).1)).trans (h k e hk).1, (hb.cell (World.block_lt_of_cell? w _ (h k e hk).2)).trans (h k e hk).2⟩
theorem RowsN.new (w : World) (l : List En10) (t : TypeId) : RowsN (w.alloc (.cells (esN l).toArray t)) w.heap.size l := fun k e hk => by
  obtain ⟨h1, h2⟩ := esN_get hk
  constructor
  · rw [cell_of_row _ _ _ _ _ (0, 0) (heap_alloc_new w _), List.getElem?_toArray]; exact h1
  · rw [cell_of_row _ _ _ _ _ (0, 0) (heap_alloc_new w _), List.getElem?_toArray]; exact h2
theorem list_of_bytes10 {a b : ByteArray} (h : a.toList = b.toList) : a = b := by
  apply ByteArray.ext
  have h2 := congrArg List.toArray h
  simpa [ByteArray.toList_eq] using h2
end Go.Proofs.YtanifiobfbfehaaGreatDoor
namespace Go.Proofs.YtanifiobfbfehaaGreatDoor
open Go.RowKit
set_option linter.unusedVariables false
set_option linter.unusedSimpArgs false
attribute [local go_sem ↓] Go.wp_at_zero Go.wp_at_succ

def digB10 (c : UInt8) : Bool := decide (48 ≤ c.toNat) && decide (c.toNat ≤ 57)
def valD (l : List UInt8) : Nat := l.foldl (fun a c => 10 * a + (c.toNat - 48)) 0
/-- A number of one to four digits, up to 4095. -/
def parse4 (l : List UInt8) : Option Nat := if l ≠ [] ∧ l.length ≤ 4 ∧ l.all digB10 = true then (if valD l ≤ 4095 then some (valD l) else none) else none
/-- The number of an errno that is written. -/
def errnoR (s : ByteArray) : Option Nat := match findR errnoT s with | some x => some x | none => parse4 s.data.toList
theorem valD_snoc (l : List UInt8) (c : UInt8) : valD (l ++ [c]) = 10 * valD l + (c.toNat - 48) := by unfold valD; rw [List.foldl_append]; rfl
theorem valD_lt : ∀ (l : List UInt8), l.all digB10 = true → valD l < 10 ^ l.length := by
  intro l
  induction h : l.length generalizing l with
  | zero => intro _; rw [List.length_eq_zero_iff.1 h]; decide
  | succ n ih =>
    intro ha
    obtain ⟨m, c, rfl⟩ : ∃ m c, l = m ++ [c] := ⟨l.dropLast, l.getLast (by intro e; simp [e] at h), (List.dropLast_concat_getLast _).symm⟩
    rw [List.all_append, Bool.and_eq_true] at ha
    have h1 := ih m (by simpa using h) ha.1
    have hc : c.toNat ≤ 57 := by
      have := ha.2
      simp [digB10] at this
      omega
    rw [valD_snoc, Nat.pow_succ]
    omega
theorem parse4_long {l : List UInt8} (h : 4 < l.length) : parse4 l = none := by unfold parse4; rw [if_neg (by rintro ⟨_, h2, _⟩; omega)]
end Go.Proofs.YtanifiobfbfehaaGreatDoor
namespace Go.Proofs.YtanifiobfbfehaaGreatDoor
open Go.RowKit
set_option linter.unusedVariables false
set_option linter.unusedSimpArgs false
attribute [local go_sem ↓] Go.wp_at_zero Go.wp_at_succ

def db (n : Nat) : UInt8 := UInt8.ofNat (48 + n)
end Go.Proofs.YtanifiobfbfehaaGreatDoor
namespace Go.Proofs.YtanifiobfbfehaaGreatDoor
open Go.RowKit
set_option linter.unusedVariables false
set_option linter.unusedSimpArgs false
attribute [local go_sem ↓] Go.wp_at_zero Go.wp_at_succ

end Go.Proofs.YtanifiobfbfehaaGreatDoor
namespace Go.Proofs.YtanifiobfbfehaaGreatDoor
open Go.RowKit
set_option linter.unusedVariables false
set_option linter.unusedSimpArgs false
attribute [local go_sem ↓] Go.wp_at_zero Go.wp_at_succ

def errE (o : Option Nat) (e : Int) : Int := if o.isSome = true then 0 else e
end Go.Proofs.YtanifiobfbfehaaGreatDoor
