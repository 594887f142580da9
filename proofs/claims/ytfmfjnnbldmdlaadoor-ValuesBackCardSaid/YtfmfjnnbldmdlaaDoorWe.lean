/- What the document's own Cat and the function Cat of the package words return, of slices that read as lists of bytes. Condition: the lengths together are at most 2 to the 46th. -/
import Derived.Test.YtfmfjnnbldmdlaaDoorWd
namespace Go.Proofs.YtfmfjnnbldmdlaaDoor
open Go.RowKit
set_option linter.unusedVariables false

/-- The slice of slices leads, below block B, to slices that read as the lists. -/
def RdL (w : World) (B : Nat) (p : Option Addr) (xss : List (List Int)) : Prop :=
  0 < xss.length → ∃ b o, p = some ⟨b, o, none⟩ ∧ b < B ∧ ∀ i, i < xss.length → ∃ q c, w.cell? ⟨b, o + i, none⟩ = some (.slice q (xss.getD i []).length c) ∧ Rd w B q (xss.getD i []) ∧ (q = none → c = 0)
theorem RdL.keep {w w' : World} {B : Nat} {p : Option Addr} {xss : List (List Int)} (h : RdL w B p xss) (hk : ∀ q : Addr, q.block < B → w'.cell? q = w.cell? q) : RdL w' B p xss := fun hn => by
  obtain ⟨b, o, e, hb, hc⟩ := h hn
  refine ⟨b, o, e, hb, fun i hi => ?_⟩
  obtain ⟨q, c, h1, h2, h3⟩ := hc i hi
  exact ⟨q, c, (hk _ hb).trans h1, h2.keep hk, h3⟩
theorem RdL.below {w w' : World} {B B' : Nat} {p : Option Addr} {xss : List (List Int)} (h : RdL w B p xss) (hb : Below B' w w') (hB : B ≤ B') : RdL w' B p xss := h.keep fun _ hq => hb.cell (by omega)
theorem RdL.more {w : World} {B B' : Nat} {p : Option Addr} {xss : List (List Int)} (h : RdL w B p xss) (hB : B ≤ B') : RdL w B' p xss := fun hn => by
  obtain ⟨b, o, e, hb, hc⟩ := h hn
  refine ⟨b, o, e, by omega, fun i hi => ?_⟩
  obtain ⟨q, c, h1, h2, h3⟩ := hc i hi
  exact ⟨q, c, h1, h2.more hB, h3⟩
/-- How many bytes the first k lists have together. -/
def lenL (xss : List (List Int)) (k : Nat) : Nat := ((xss.take k).flatten).length
theorem lenL_step {xss : List (List Int)} {k : Nat} (hk : k < xss.length) : lenL xss (k + 1) = lenL xss k + (xss.getD k []).length := by
  unfold lenL
  rw [List.take_add_one, List.getElem?_eq_getElem hk, List.flatten_append, List.length_append, List.getD_eq_getElem?_getD, List.getElem?_eq_getElem hk]
  simp
theorem lenL_le (xss : List (List Int)) (k : Nat) : lenL xss k ≤ xss.flatten.length := by
  unfold lenL
  conv => rhs; rw [← List.take_append_drop k xss, List.flatten_append, List.length_append]
  omega
theorem lenL_all {xss : List (List Int)} {k : Nat} (h : xss.length ≤ k) : lenL xss k = xss.flatten.length := by unfold lenL; rw [List.take_of_length_le h]
theorem flat_step {xss : List (List Int)} {k : Nat} (hk : k < xss.length) : (xss.take (k + 1)).flatten = (xss.take k).flatten ++ xss.getD k [] := by
  rw [List.take_add_one, List.getElem?_eq_getElem hk, List.flatten_append, List.getD_eq_getElem?_getD, List.getElem?_eq_getElem hk]
  simp
end Go.Proofs.YtfmfjnnbldmdlaaDoor
