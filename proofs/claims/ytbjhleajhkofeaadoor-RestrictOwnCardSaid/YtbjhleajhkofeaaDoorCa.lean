/- The table of the calls as the document's own code lays it: forty rows, each with six numbers in memory of their own. No condition. What the document's own Known, Number, Name of the calls return. No condition. -/
import Derived.Test.YtbjhleajhkofeaaDoorWd
import Derived.Deep.AppendLies
import Derived.Deep.DrawnRows
import Derived.RegionTactic
import Derived.BigRegion
import Derived.Deep.DeepCutAuto
namespace Go.Proofs.YtbjhleajhkofeaaDoor
open Go.RowKit
set_option linter.unusedVariables false
attribute [local go_sem ↓] Go.wp_at_zero Go.wp_at_succ

/-- A call: its name, its numbers. -/
def callN : List ByteArray := [⟨#[98, 105, 110, 100]⟩, ⟨#[98, 112, 102]⟩, ⟨#[98, 114, 107]⟩, ⟨#[99, 108, 111, 99, 107, 95, 115, 101, 116, 116, 105, 109, 101]⟩, ⟨#[99, 108, 111, 110, 101]⟩, ⟨#[99, 108, 111, 110, 101, 51]⟩, ⟨#[99, 108, 111, 115, 101]⟩, ⟨#[99, 111, 110, 110, 101, 99, 116]⟩, ⟨#[100, 101, 108, 101, 116, 101, 95, 109, 111, 100, 117, 108, 101]⟩, ⟨#[101, 120, 101, 99, 118, 101]⟩, ⟨#[101, 120, 105, 116]⟩, ⟨#[102, 105, 110, 105, 116, 95, 109, 111, 100, 117, 108, 101]⟩, ⟨#[102, 111, 114, 107]⟩, ⟨#[103, 101, 116, 117, 105, 100]⟩, ⟨#[105, 110, 105, 116, 95, 109, 111, 100, 117, 108, 101]⟩, ⟨#[105, 111, 99, 116, 108]⟩, ⟨#[107, 105, 108, 108]⟩, ⟨#[108, 105, 115, 116, 101, 110]⟩, ⟨#[109, 109, 97, 112]⟩, ⟨#[109, 111, 117, 110, 116]⟩, ⟨#[109, 112, 114, 111, 116, 101, 99, 116]⟩, ⟨#[109, 117, 110, 109, 97, 112]⟩, ⟨#[111, 112, 101, 110]⟩, ⟨#[111, 112, 101, 110, 97, 116]⟩, ⟨#[112, 101, 114, 115, 111, 110, 97, 108, 105, 116, 121]⟩, ⟨#[112, 107, 101, 121, 95, 109, 112, 114, 111, 116, 101, 99, 116]⟩, ⟨#[112, 116, 114, 97, 99, 101]⟩, ⟨#[114, 101, 97, 100]⟩, ⟨#[114, 101, 98, 111, 111, 116]⟩, ⟨#[115, 99, 104, 101, 100, 95, 115, 101, 116, 97, 116, 116, 114]⟩, ⟨#[115, 99, 104, 101, 100, 95, 115, 101, 116, 115, 99, 104, 101, 100, 117, 108, 101, 114]⟩, ⟨#[115, 101, 99, 99, 111, 109, 112]⟩, ⟨#[115, 101, 116, 110, 115]⟩, ⟨#[115, 101, 116, 116, 105, 109, 101, 111, 102, 100, 97, 121]⟩, ⟨#[115, 101, 116, 117, 105, 100]⟩, ⟨#[115, 104, 109, 97, 116]⟩, ⟨#[115, 111, 99, 107, 101, 116]⟩, ⟨#[117, 109, 111, 117, 110, 116, 50]⟩, ⟨#[117, 110, 115, 104, 97, 114, 101]⟩, ⟨#[119, 114, 105, 116, 101]⟩]
def callR : List (List Int) := [[49, 361, 1073741873, 282, 200, 200], [321, 357, 1073742145, 386, 280, 280], [12, 45, 1073741836, 45, 214, 214], [227, 264, 1073742051, 262, 112, 112], [56, 120, 1073741880, 120, 220, 220], [435, 435, (-1), 435, 435, 435], [3, 6, 1073741827, 6, 57, 57], [42, 362, 1073741866, 283, 203, 203], [176, 129, 1073742000, 129, 106, 106], [59, 11, 1073742344, 11, 221, 221], [60, 1, 1073741884, 1, 93, 93], [313, 350, 1073742137, 379, 273, 273], [57, 2, 1073741881, 2, (-1), (-1)], [102, 24, 1073741926, 24, 174, 174], [175, 128, (-1), 128, 105, 105], [16, 54, 1073742338, 54, 29, 29], [62, 37, 1073741886, 37, 129, 129], [50, 363, 1073741874, 284, 201, 201], [9, 90, 1073741833, (-1), 222, 222], [165, 21, 1073741989, 21, 40, 40], [10, 125, 1073741834, 125, 226, 226], [11, 91, 1073741835, 91, 215, 215], [2, 5, 1073741826, 5, (-1), (-1)], [257, 295, 1073742081, 322, 56, 56], [135, 136, 1073741959, 136, 92, 92], [329, 380, 1073742153, 394, 288, (-1)], [101, 26, 1073742345, 26, 117, 117], [0, 3, 1073741824, 3, 63, 63], [169, 88, 1073741993, 88, 142, 142], [314, 351, 1073742138, 380, 274, 274], [144, 156, 1073741968, 156, 119, 119], [317, 354, 1073742141, 383, 277, 277], [308, 346, 1073742132, 375, 268, 268], [164, 79, 1073741988, 79, 170, 170], [105, 23, 1073741929, 23, 146, 146], [30, 397, (-1), 305, 196, 196], [41, 359, 1073741865, 281, 198, 198], [166, 52, 1073741990, 52, 39, 39], [272, 310, 1073742096, 337, 97, 97], [1, 4, 1073741825, 4, 64, 64]]
def nmT (j : Nat) : ByteArray := callN.getD j ⟨#[]⟩
def nrT (j i : Nat) : Int := (callR.getD j []).getD i (-1)
def rowT (j : Nat) : Array Value := ((callR.getD j []).map fun x => Value.int .i64 x).toArray
theorem callR_len : ∀ j, j < 40 → (callR.getD j []).length = 6 := by decide +kernel
/-- So many rows of numbers lie in memory, one behind the other. -/
structure PT (w : World) (k : Nat) (W : World) : Prop where
  size : W.heap.size = w.heap.size + k
  below : Below w.heap.size w W
  rows : ∀ j, j < k → ∀ i, i < 6 → W.cell? ⟨w.heap.size + j, i, none⟩ = some (.int .i64 (nrT j i))
theorem PT.zero (w : World) : PT w 0 w := ⟨rfl, Below.refl _ _, fun j hj => absurd hj (by omega)⟩
theorem rowT_get {j i : Nat} (hj : j < 40) (hi : i < 6) : (rowT j)[i]? = some (.int .i64 (nrT j i)) := by
  have hl := callR_len j hj
  unfold rowT nrT
  rw [List.getElem?_toArray, List.getElem?_map, List.getD_eq_getElem?_getD (l := callR.getD j []), List.getElem?_eq_getElem (by omega)]; rfl
theorem PT.next {w W : World} {k : Nat} (h : PT w k W) (hk : k < 40) (t : TypeId) : PT w (k + 1) (W.alloc (.cells (rowT k) t)) := by
  refine ⟨by rw [World.size_alloc, h.size]; omega, h.below.alloc h.below.size _, fun j hj i hi => ?_⟩
  by_cases e : j = k
  · subst e
    rw [← h.size, cell_of_row _ _ i _ _ (0, 0) (heap_alloc_new W _)]
    exact rowT_get hk hi
  · rw [World.cell?_alloc_lt W _ _ (by show w.heap.size + j < _; rw [h.size]; omega)]
    exact h.rows j (by omega) i hi
/-- The table lies in memory: where its rows lie. -/
structure TabAt (w : World) (g B : Nat) : Prop where
  name : ∀ j, j < 40 → w.cell? ⟨g, j * 2, none⟩ = some (.string (nmT j))
  row : ∀ j, j < 40 → w.cell? ⟨g, j * 2 + 1, none⟩ = some (.slice (some ⟨B + j, 0, none⟩) 6 6)
  nr : ∀ j, j < 40 → ∀ i, i < 6 → w.cell? ⟨B + j, i, none⟩ = some (.int .i64 (nrT j i))
  lt : g < w.heap.size ∧ B + 40 ≤ w.heap.size
theorem TabAt.on {w w' : World} {g B : Nat} (h : TabAt w g B) (hb : Below w.heap.size w w') : TabAt w' g B :=
  ⟨fun j hj => (hb.cell (p := ⟨g, j * 2, none⟩) h.lt.1).trans (h.name j hj), fun j hj => (hb.cell (p := ⟨g, j * 2 + 1, none⟩) h.lt.1).trans (h.row j hj),
    fun j hj i hi => (hb.cell (p := ⟨B + j, i, none⟩) (show B + j < _ by have := h.lt.2; omega)).trans (h.nr j hj i hi), by have := hb.size; have := h.lt; omega⟩
end Go.Proofs.YtbjhleajhkofeaaDoor
namespace Go.Proofs.YtbjhleajhkofeaaDoor
open Go.RowKit
set_option linter.unusedVariables false
attribute [local go_sem ↓] Go.wp_at_zero Go.wp_at_succ

end Go.Proofs.YtbjhleajhkofeaaDoor
