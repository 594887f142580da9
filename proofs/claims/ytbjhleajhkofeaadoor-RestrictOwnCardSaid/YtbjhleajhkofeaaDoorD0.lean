/- Architectures as the chapter says them: names, tokens, whose a token and a number are; numbers that came in as a list; what the document's own calls return. No condition. -/
import Derived.Test.YtbjhleajhkofeaaDoorWd
import Derived.Deep.AppendLies
import Derived.Deep.DrawnRows
import Derived.RegionTactic
import Derived.BigRegion
namespace Go.Proofs.YtbjhleajhkofeaaDoor
open Go.ChangeShapes Go.WideShapes Go.ChangeAt Go.RowKit
set_option linter.unusedVariables false
attribute [local go_sem ↓] Go.wp_at_zero Go.wp_at_succ

/-- A slice of numbers can be read. -/
def RdZ (w : World) (B : Nat) (p : Option Addr) (l : List Int) : Prop := 0 < l.length → ∃ b o, p = some ⟨b, o, none⟩ ∧ b < B ∧ ∀ i, i < l.length → w.cell? ⟨b, o + i, none⟩ = some (.int .i64 (l.getD i 0))
theorem RdZ.on {w w' : World} {p : Option Addr} {l : List Int} (h : RdZ w w.heap.size p l) (hb : Below w.heap.size w w') : RdZ w' w'.heap.size p l := fun h0 => by
  obtain ⟨b, o, rfl, hlt, hc⟩ := h h0
  exact ⟨b, o, rfl, Nat.lt_of_lt_of_le hlt hb.size, fun i hi => (hb.cell (p := ⟨b, o + i, none⟩) hlt).trans (hc i hi)⟩
/-- The names, the tokens. -/
def archN : List ByteArray := [⟨#[120, 56, 54, 45, 54, 52]⟩, ⟨#[120, 56, 54]⟩, ⟨#[120, 51, 50]⟩, ⟨#[97, 114, 109]⟩, ⟨#[97, 114, 109, 54, 52]⟩, ⟨#[114, 105, 115, 99, 118, 54, 52]⟩]
def archT : List Int := [3221225534, 1073741827, 3221225534, 1073741864, 3221225655, 3221225715]
def findN (s : ByteArray) : Option Nat := archN.findIdx? (fun x => decide (x = s))
/-- The architecture of a name. -/
def parR (s : ByteArray) : Int × Int := match findN s with | some k => ((k : Nat), 0) | none => if s = ⟨#[110, 97, 116, 105, 118, 101]⟩ then (0, 0) else (0, 80)
theorem list_of_bytes8 {a b : ByteArray} (h : a.toList = b.toList) : a = b := by
  apply ByteArray.ext
  have h2 := congrArg List.toArray h
  simpa [ByteArray.toList_eq] using h2
theorem getD_of {α : Type} {l : List α} {k : Nat} {d : α} (h : k < l.length) : l.getD k d = l[k] := by rw [List.getD_eq_getElem?_getD, List.getElem?_eq_getElem h]; rfl
theorem findN_hit {s : ByteArray} {k : Nat} (hk : k < 6) (h : archN.getD k ⟨#[]⟩ = s) (hm : ∀ j, j < k → archN.getD j ⟨#[]⟩ ≠ s) : findN s = some k := by
  have hl : archN.length = 6 := rfl
  unfold findN
  rw [List.findIdx?_eq_some_iff_getElem]
  refine ⟨by omega, ?_, fun j hj => ?_⟩
  · rw [← getD_of (d := ⟨#[]⟩) (by omega), h]; simp
  · rw [← getD_of (d := ⟨#[]⟩) (by omega), decide_eq_false (hm j hj)]; decide
theorem findN_miss {s : ByteArray} (hm : ∀ j, j < 6 → archN.getD j ⟨#[]⟩ ≠ s) : findN s = none := by
  have hl : archN.length = 6 := rfl
  unfold findN
  rw [List.findIdx?_eq_none_iff]
  intro x hx
  obtain ⟨j, hj, e⟩ := List.mem_iff_getElem.1 hx
  exact decide_eq_false (by rw [← e, ← getD_of (d := ⟨#[]⟩) hj]; exact hm j (by omega))
end Go.Proofs.YtbjhleajhkofeaaDoor
