/- Lines as the chapter says them, on lists of bytes: white space, comments, physical lines, logical lines. Plain lists and numbers, no program. What the document's own blank, Trim, Comment return. Condition: a string that lies in memory. What the document's own Lines returns: a file's lines. Condition: bytes that lie in memory, at most a million. -/
import Derived.Test.YtbjhleajhkofeaaDoorWd
import Derived.Laws.Strings2
import Derived.Laws.Strings3
import Derived.Laws.DeepStrings4
import Derived.Laws.IdiomStrings
import Derived.Deep.AppendLies
import Derived.Deep.DrawnRows
import Derived.RegionTactic
import Derived.BigRegion
import Derived.Laws.Concat
import Derived.Laws.Cover1
import Derived.Maps.AppendAt
import Derived.WalkSmall
namespace Go.Proofs.YtbjhleajhkofeaaDoor
set_option linter.unusedVariables false

/-- A string of these bytes. -/
def bs (l : List UInt8) : ByteArray := ⟨l.toArray⟩
theorem bs_size (l : List UInt8) : (bs l).size = l.length := by unfold bs; simp [ByteArray.size]
theorem bs_self (s : ByteArray) : bs s.data.toList = s := by unfold bs; rfl
theorem bs_list (l : List UInt8) : (bs l).data.toList = l := by unfold bs; rfl
theorem bs_toList (l : List UInt8) : (bs l).toList = l := by rw [ByteArray.toList_eq]; unfold bs; rfl
/-- White space. -/
def blkB (c : UInt8) : Bool := c == 32 || c == 9 || c == 13
end Go.Proofs.YtbjhleajhkofeaaDoor
namespace Go.Proofs.YtbjhleajhkofeaaDoor
open Go.RowKit
set_option linter.unusedVariables false
attribute [local go_sem ↓] Go.wp_at_zero Go.wp_at_succ

end Go.Proofs.YtbjhleajhkofeaaDoor
namespace Go.Proofs.YtbjhleajhkofeaaDoor
open Go.RowKit
set_option linter.unusedVariables false
set_option linter.unusedSimpArgs false
attribute [local go_sem ↓] Go.wp_at_zero Go.wp_at_succ

/-- A slice of bytes can be read. -/
def RdB (w : World) (B : Nat) (p : Option Addr) (l : List UInt8) : Prop := 0 < l.length → ∃ b o, p = some ⟨b, o, none⟩ ∧ b < B ∧ ∀ i (h : i < l.length), w.cell? ⟨b, o + i, none⟩ = some (.int .u8 (l[i].toNat : Int))
theorem RdB.on {w w' : World} {p : Option Addr} {l : List UInt8} (h : RdB w w.heap.size p l) (hb : Below w.heap.size w w') : RdB w' w'.heap.size p l := fun h0 => by
  obtain ⟨b, o, rfl, hlt, hc⟩ := h h0
  exact ⟨b, o, rfl, Nat.lt_of_lt_of_le hlt hb.size, fun i hi => (hb.cell (p := ⟨b, o + i, none⟩) hlt).trans (hc i hi)⟩
/-- Strings as cells. -/
def sL (ls : List (List UInt8)) : List Value := ls.map fun s => .string (bs s)
theorem sL_get {ls : List (List UInt8)} {k : Nat} {s : List UInt8} (h : ls[k]? = some s) : (sL ls)[k]? = some (.string (bs s)) := by
  unfold sL; rw [List.getElem?_map, h]; rfl
end Go.Proofs.YtbjhleajhkofeaaDoor
