/- The examples of the chapter on words, as the statements begin with them: they answer true. No condition. -/
import Derived.Test.YtfmfjnnbldmdlaaDoorWf
namespace Go.Proofs.YtfmfjnnbldmdlaaDoor
open Go.RowKit
set_option linter.unusedVariables false

/-- A slice that the text writes out reads as its bytes. -/
theorem Rd.lit (w : World) (cs : Array Value) (e : TypeId) (xs : List Int) (h : cs = (bv xs).toArray) : Rd (w.alloc (.cells cs e)) (w.heap.size + 1) (some ⟨w.heap.size, 0, none⟩) xs := fun _ => by
  subst h
  refine ⟨_, 0, rfl, by omega, fun i hi => ?_⟩
  rw [Nat.zero_add, cell_of_row (w.alloc (.cells (bv xs).toArray e)) w.heap.size i (bv xs).toArray e (0, 0) (heap_alloc_new w _), List.getElem?_toArray, bv_get hi]
theorem byt_dec {l : List Int} (h : l.all (fun x => decide (0 ≤ x ∧ x < 256)) = true) : Byt l := fun x hx => by
  have := List.all_eq_true.1 h x hx
  exact of_decide_eq_true this
/-- Behind a row that the text writes out. -/
theorem below_lit {w0 w : World} (hb : Below w0.heap.size w0 w) (o : Obj) : Below w0.heap.size w0 (w.alloc o) := hb.alloc hb.size o
end Go.Proofs.YtfmfjnnbldmdlaaDoor
