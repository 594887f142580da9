/- What the document's own One has to say of an instruction; of a code that is not known. -/
import Derived.Test.YtohfampfnhfnlaaDoorSa
import Derived.Test.YtohfampfnhfnlaaDoorIf
import Derived.Test.YtohfampfnhfnlaaDoorDd
namespace Go.Proofs.YtohfampfnhfnlaaDoor
open Go.RowKit
set_option linter.unusedVariables false
attribute [local go_sem ↓] Go.wp_at_zero Go.wp_at_succ

/-- What One has to say. -/
def OneTo (c jt jf k left E : Int) (w : World) : Prop := Calls Tryd.prog 16 #[.agg #[.int .u16 c, .int .u8 jt, .int .u8 jf, .int .u32 k], .int .i64 left] w fun e w' => e = .returned (.int .i64 E) ∧ Below w.heap.size w w'
set_option maxRecDepth 100000 in
set_option maxHeartbeats 4000000 in
theorem one_none (c jt jf k left : Int) (w : World) (h : ofL allL c = noOne) : OneTo c jt jf k left 40 w := by
  have HO := Lib.hid (fun W => refOf_any c W)
  rw [h, show noOne = ⟨0, ⟨#[]⟩, 0⟩ from rfl] at HO
  clear h
  by_cases hl : left < 0
  · have hl2 : decide (left < 0) = true := decide_eq_true hl
    go_enter Tryd.func16, Tryd.ntmps16
    go_wp2_with (go_at_call 22; ((with_reducible refine (HO.out _).mono ?_); rintro e w1 ⟨rfl, b1⟩); have B1 := ((Below.refl w.heap.size w).alloc (Nat.le_refl _) (.cells #[.int .u16 c, .int .u8 jt, .int .u8 jf, .int .u32 k] 35)).trans (b1.mono (by simp)))
    go_ret
    exact ⟨rfl, B1.alloc B1.size _⟩
  · have hl2 : decide (left < 0) = false := decide_eq_false hl
    go_enter Tryd.func16, Tryd.ntmps16
    go_wp2_with (go_at_call 22; ((with_reducible refine (HO.out _).mono ?_); rintro e w1 ⟨rfl, b1⟩); have B1 := ((Below.refl w.heap.size w).alloc (Nat.le_refl _) (.cells #[.int .u16 c, .int .u8 jt, .int .u8 jf, .int .u32 k] 35)).trans (b1.mono (by simp)))
    go_ret
    exact ⟨rfl, B1.alloc B1.size _⟩
end Go.Proofs.YtohfampfnhfnlaaDoor
