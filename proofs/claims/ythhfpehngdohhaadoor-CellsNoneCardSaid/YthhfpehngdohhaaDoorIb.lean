/- An instruction as a value and as cells in memory; what the document's own Encode and Decode return. Condition: each number fits its kind. -/
import Derived.Test.YthhfpehngdohhaaDoorIa
import Derived.Test.YthhfpehngdohhaaDoorWh
import Derived.Deep.AppendLies
import Derived.Deep.DrawnRows
import Derived.RegionTactic
import Derived.BigRegion
namespace Go.Proofs.YthhfpehngdohhaaDoor
open Go.RowKit
set_option linter.unusedVariables false

/-- The instruction as a value. -/
def insV (i : Ins) : Value := .agg #[.int .u16 i.c, .int .u8 i.jt, .int .u8 i.jf, .int .u32 i.k]
/-- A new block's cells behind a call that makes new memory alone. -/
theorem box_cells {w w1 : World} {cs : Array Value} {t : TypeId} (b : Below (w.alloc (.cells cs t)).heap.size (w.alloc (.cells cs t)) w1) (j : Nat) (v : Value) (h : cs[j]? = some v) : w1.cell? ⟨w.heap.size, j, none⟩ = some v := by
  rw [b.cell (p := ⟨w.heap.size, j, none⟩) (by simp), cell_of_row (w.alloc (.cells cs t)) w.heap.size j cs t (0, 0) (heap_alloc_new w _)]
  exact h
/-- A cell of a block that was there is there behind a growth of another row. -/
theorem cell_grown {w w1 : World} {o : Obj} {p : Addr} {v : Value} {g : Nat} (h : w.cell? p = some v) (hg : (w.alloc o).grownBy w1 (some g)) (hne : p.block ≠ g) : w1.cell? p = some v := by
  have hb := World.block_lt_of_cell? w p h
  rw [World.cell?_of_block (hg.block p.block (by simp; omega) (fun e => hne (by injection e))), World.cell?_alloc_lt w o p hb]
  exact h
theorem Below.grown_lit {w0 w w1 : World} {o : Obj} {g : Nat} (hb : Below w0.heap.size w0 w) (hg : (w.alloc o).grownBy w1 (some g)) (h : w0.heap.size ≤ g) : Below w0.heap.size w0 w1 :=
  (hb.alloc hb.size o).grown hg (by have := hb.size; simp; omega) (by intro k hk; cases hk; exact h)
theorem own_mono {w : World} {B B' n size : Nat} {e : TypeId} {v : Value} {xs : List Value} (h : w.ownsRow B e size v n xs) (hB : B' ≤ B) : w.ownsRow B' e size v n xs := by
  obtain ⟨h1, h2⟩ := h
  refine ⟨h1, ?_⟩
  rcases h2 with h2 | ⟨g, cap, cur, hv, hg, r⟩
  · exact Or.inl h2
  · exact Or.inr ⟨g, cap, cur, hv, Nat.le_trans hB hg, r⟩
theorem news_lit (w : World) (cs : Array Value) (e : TypeId) (l : List Value) (h : cs.toList = l) : ∀ j u, l[j]? = some u → (w.alloc (.cells cs e)).cell? ((⟨w.heap.size, 0, none⟩ : Addr).add j) = some u := by
  intro j u hu
  subst h
  rw [Addr.add_lit, Nat.zero_add, cell_of_row (w.alloc (.cells cs e)) w.heap.size j cs e (0, 0) (heap_alloc_new w _)]
  simpa using hu
end Go.Proofs.YthhfpehngdohhaaDoor
