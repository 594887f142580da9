/- What the document's machine makes of an instruction: as the plain function says. Condition: numbers below 2 to the 32nd. -/
import Derived.Test.YthhfpehngdohhaaDoorVe
namespace Go.Proofs.YthhfpehngdohhaaDoor
open Go.RowKit
set_option linter.unusedVariables false
attribute [local go_sem ↓] Go.wp_at_zero Go.wp_at_succ

/-- The machine's numbers are below 2 to the 32nd. -/
def OkM (a x : Int) (c : Nat → Int) : Prop := U32 a ∧ U32 x ∧ ∀ j, U32 (c j)
theorem one_field2 (x : Int) (n : ByteArray) (k : Int) (w : World) : (Instr.field 54 (.agg #[.int .u16 x, .string n, .int .u8 k]) 2).run Tryd.prog w = .ok (.int .u8 k) w := by kernel_rfl
/-- Block b is a box with an instruction. -/
def BoxI (w : World) (b : Nat) (c jt jf k : Int) : Prop := w.heap[b]? = some (.cells #[.int .u16 c, .int .u8 jt, .int .u8 jf, .int .u32 k] 38 (0, 0))
theorem BoxI.on {w w' : World} {b : Nat} {c jt jf k : Int} (h : BoxI w b c jt jf k) (hb : Below w.heap.size w w') : BoxI w' b c jt jf k := (hb.block b (lt_of_block h)).trans h
theorem BoxI.cells {w : World} {b : Nat} {c jt jf k : Int} (h : BoxI w b c jt jf k) : w.cell? ⟨b, 0, none⟩ = some (.int .u16 c) ∧ w.cell? ⟨b, 1, none⟩ = some (.int .u8 jt) ∧ w.cell? ⟨b, 2, none⟩ = some (.int .u8 jf) ∧ w.cell? ⟨b, 3, none⟩ = some (.int .u32 k) := by
  refine ⟨?_, ?_, ?_, ?_⟩ <;> (rw [cell_of_row w b _ _ 38 (0, 0) h]; rfl)
theorem BoxI.new2 {w w1 : World} {c jt jf k : Int} {o : Obj} (b : Below ((w.alloc (.cells #[.int .u16 c, .int .u8 jt, .int .u8 jf, .int .u32 k] 38)).alloc o).heap.size ((w.alloc (.cells #[.int .u16 c, .int .u8 jt, .int .u8 jf, .int .u32 k] 38)).alloc o) w1) : BoxI w1 w.heap.size c jt jf k :=
  (b.block _ (by simp; omega)).trans ((Below.heap_alloc _ o _ (by simp)).trans (heap_alloc_new w _))
theorem box2 {w w1 : World} {d : Dat} {o : Obj} (b : Below ((w.alloc o).alloc (.cells (datC d) 43)).heap.size ((w.alloc o).alloc (.cells (datC d) 43)) w1) : BoxD w1 (w.heap.size + 1) d := by
  have h := heap_alloc_new (w.alloc o) (.cells (datC d) 43)
  rw [World.size_alloc] at h
  exact (b.block _ (by simp)).trans h
end Go.Proofs.YthhfpehngdohhaaDoor
