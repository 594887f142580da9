/- What the calls of the landed package data return: the words in a row (halves, tableOf), as the chapter says. Condition: each number fits its kind. -/
import Derived.Test.YthhfpehngdohhaaDoorDa
import Derived.Test.YthhfpehngdohhaaDoorDd
import Derived.Test.YthhfpehngdohhaaDoorWd
import Derived.Deep.RegionHeld3
import Derived.Deep.DrawnRows
import Derived.BigQuiet
import Derived.Deep.QuietTactic
import Derived.LoopN
namespace Go.Proofs.YthhfpehngdohhaaDoor
open Go.RowKit
set_option linter.unusedVariables false
attribute [local go_sem ↓] Go.wp_at_zero Go.wp_at_succ

/-- The words as cells; as a value they are the same ones. -/
def tblC (d : Dat) : Array Value := ((tblL d).map (Value.int .u32)).toArray
set_option maxRecDepth 100000 in
set_option maxHeartbeats 8000000 in
theorem halves8 (x0 l0 h0 x1 l1 h1 x2 l2 h2 x3 l3 h3 x4 l4 h4 x5 l5 h5 x6 l6 h6 x7 l7 h7 : Int) (g : Nat) (w : World)
    (c0 : w.cell? ⟨g, 0, none⟩ = some (.int .u64 x0)) (c1 : w.cell? ⟨g, 1, none⟩ = some (.int .u64 x1)) (c2 : w.cell? ⟨g, 2, none⟩ = some (.int .u64 x2)) (c3 : w.cell? ⟨g, 3, none⟩ = some (.int .u64 x3)) (c4 : w.cell? ⟨g, 4, none⟩ = some (.int .u64 x4)) (c5 : w.cell? ⟨g, 5, none⟩ = some (.int .u64 x5)) (c6 : w.cell? ⟨g, 6, none⟩ = some (.int .u64 x6)) (c7 : w.cell? ⟨g, 7, none⟩ = some (.int .u64 x7))
    (H0 : Hid (∀ W : World, Calls Tryd.prog 79 #[.int .u64 x0] W fun e w1 => e = .returned (.tuple #[.int .u32 l0, .int .u32 h0]) ∧ W = w1)) (H1 : Hid (∀ W : World, Calls Tryd.prog 79 #[.int .u64 x1] W fun e w1 => e = .returned (.tuple #[.int .u32 l1, .int .u32 h1]) ∧ W = w1)) (H2 : Hid (∀ W : World, Calls Tryd.prog 79 #[.int .u64 x2] W fun e w1 => e = .returned (.tuple #[.int .u32 l2, .int .u32 h2]) ∧ W = w1)) (H3 : Hid (∀ W : World, Calls Tryd.prog 79 #[.int .u64 x3] W fun e w1 => e = .returned (.tuple #[.int .u32 l3, .int .u32 h3]) ∧ W = w1)) (H4 : Hid (∀ W : World, Calls Tryd.prog 79 #[.int .u64 x4] W fun e w1 => e = .returned (.tuple #[.int .u32 l4, .int .u32 h4]) ∧ W = w1)) (H5 : Hid (∀ W : World, Calls Tryd.prog 79 #[.int .u64 x5] W fun e w1 => e = .returned (.tuple #[.int .u32 l5, .int .u32 h5]) ∧ W = w1)) (H6 : Hid (∀ W : World, Calls Tryd.prog 79 #[.int .u64 x6] W fun e w1 => e = .returned (.tuple #[.int .u32 l6, .int .u32 h6]) ∧ W = w1)) (H7 : Hid (∀ W : World, Calls Tryd.prog 79 #[.int .u64 x7] W fun e w1 => e = .returned (.tuple #[.int .u32 l7, .int .u32 h7]) ∧ W = w1)) :
    Calls Tryd.prog 76 #[.slice (some ⟨g, 0, none⟩) 8 8] w fun e w' => e = .returned (.agg #[.int .u32 l0, .int .u32 h0, .int .u32 l1, .int .u32 h1, .int .u32 l2, .int .u32 h2, .int .u32 l3, .int .u32 h3, .int .u32 l4, .int .u32 h4, .int .u32 l5, .int .u32 h5, .int .u32 l6, .int .u32 h6, .int .u32 l7, .int .u32 h7]) ∧ Below w.heap.size w w' := by
  have hg : g < w.heap.size := World.block_lt_of_cell? w _ c0
  go_enter Tryd.func76, Tryd.ntmps76
  go_wp2_with fail
  refine wp_loop_rounds 9 ?_
  rw [rounds_succ]
  go_wp2_with (go_at_call 79; ((with_reducible refine (H0.out _).mono ?_); rintro e w1 ⟨rfl, rfl⟩))
  rw [rounds_succ]
  go_wp2_with (go_at_call 79; ((with_reducible refine (H1.out _).mono ?_); rintro e w1 ⟨rfl, rfl⟩))
  rw [rounds_succ]
  go_wp2_with (go_at_call 79; ((with_reducible refine (H2.out _).mono ?_); rintro e w1 ⟨rfl, rfl⟩))
  rw [rounds_succ]
  go_wp2_with (go_at_call 79; ((with_reducible refine (H3.out _).mono ?_); rintro e w1 ⟨rfl, rfl⟩))
  rw [rounds_succ]
  go_wp2_with (go_at_call 79; ((with_reducible refine (H4.out _).mono ?_); rintro e w1 ⟨rfl, rfl⟩))
  rw [rounds_succ]
  go_wp2_with (go_at_call 79; ((with_reducible refine (H5.out _).mono ?_); rintro e w1 ⟨rfl, rfl⟩))
  rw [rounds_succ]
  go_wp2_with (go_at_call 79; ((with_reducible refine (H6.out _).mono ?_); rintro e w1 ⟨rfl, rfl⟩))
  rw [rounds_succ]
  go_wp2_with (go_at_call 79; ((with_reducible refine (H7.out _).mono ?_); rintro e w1 ⟨rfl, rfl⟩))
  rw [rounds_succ]
  go_wp2
  refine bodyPost_ret (v := .agg #[.int .u32 l0, .int .u32 h0, .int .u32 l1, .int .u32 h1, .int .u32 l2, .int .u32 h2, .int .u32 l3, .int .u32 h3, .int .u32 l4, .int .u32 h4, .int .u32 l5, .int .u32 h5, .int .u32 l6, .int .u32 h6, .int .u32 l7, .int .u32 h7]) (by simp [results, Tryd.results76, go_sem]) rfl ⟨rfl, ?_⟩
  exact ((Below.refl _ _).alloc (Nat.le_refl _) _).alloc (by simp) _
end Go.Proofs.YthhfpehngdohhaaDoor
