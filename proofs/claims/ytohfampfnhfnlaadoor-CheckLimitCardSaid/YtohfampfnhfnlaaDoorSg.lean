/- What the document's own One says of an instruction: code by code. Condition: numbers of their kinds. -/
import Derived.Test.YtohfampfnhfnlaaDoorSc
namespace Go.Proofs.YtohfampfnhfnlaaDoor
open Go.RowKit
set_option linter.unusedVariables false
attribute [local go_sem ↓] Go.wp_at_zero Go.wp_at_succ

set_option maxRecDepth 100000 in
set_option maxHeartbeats 4000000 in
theorem one_128_okn (jt jf k left : Int) (w : World) (hl : left < 0)  : OneTo 128 jt jf k left (0) w := by
  have HO := Lib.hid (fun W => refOf_any 128 W)
  rw [show ofL allL 128 = ⟨128, ⟨#[108, 100, 108, 101, 110]⟩, 1⟩ by kernel_rfl] at HO
  have hl2 : decide (left < 0) = true := decide_eq_true hl
  go_enter Tryd.func16, Tryd.ntmps16
  go_wp2_with (go_at_call 22; ((with_reducible refine (HO.out _).mono ?_); rintro e w1 ⟨rfl, b1⟩); have B1 := ((Below.refl w.heap.size w).alloc (Nat.le_refl _) (.cells #[.int .u16 128, .int .u8 jt, .int .u8 jf, .int .u32 k] 35)).trans (b1.mono (by simp)); have z1 : w.heap.size < w1.heap.size := (by have h := b1.size; rw [World.size_alloc] at h; omega); have s0 := box_cells b1 0 (.int .u16 128) rfl; have s1 := box_cells b1 1 (.int .u8 jt) rfl; have s2 := box_cells b1 2 (.int .u8 jf) rfl; have s3 := box_cells b1 3 (.int .u32 k) rfl)
  go_ret
  exact ⟨rfl, B1.alloc B1.size _⟩
set_option maxRecDepth 100000 in
set_option maxHeartbeats 4000000 in
theorem one_128_okp (jt jf k left : Int) (w : World) (hl : 0 ≤ left)  : OneTo 128 jt jf k left (0) w := by
  have HO := Lib.hid (fun W => refOf_any 128 W)
  rw [show ofL allL 128 = ⟨128, ⟨#[108, 100, 108, 101, 110]⟩, 1⟩ by kernel_rfl] at HO
  have hl2 : decide (left < 0) = false := decide_eq_false (by omega)
  go_enter Tryd.func16, Tryd.ntmps16
  go_wp2_with (go_at_call 22; ((with_reducible refine (HO.out _).mono ?_); rintro e w1 ⟨rfl, b1⟩); have B1 := ((Below.refl w.heap.size w).alloc (Nat.le_refl _) (.cells #[.int .u16 128, .int .u8 jt, .int .u8 jf, .int .u32 k] 35)).trans (b1.mono (by simp)); have z1 : w.heap.size < w1.heap.size := (by have h := b1.size; rw [World.size_alloc] at h; omega); have s0 := box_cells b1 0 (.int .u16 128) rfl; have s1 := box_cells b1 1 (.int .u8 jt) rfl; have s2 := box_cells b1 2 (.int .u8 jf) rfl; have s3 := box_cells b1 3 (.int .u32 k) rfl)
  go_ret
  exact ⟨rfl, B1.alloc B1.size _⟩
set_option maxRecDepth 100000 in
set_option maxHeartbeats 4000000 in
theorem one_0_okn (jt jf k left : Int) (w : World) (hl : left < 0)  : OneTo 0 jt jf k left (0) w := by
  have HO := Lib.hid (fun W => refOf_any 0 W)
  rw [show ofL allL 0 = ⟨0, ⟨#[108, 100, 105]⟩, 1⟩ by kernel_rfl] at HO
  have hl2 : decide (left < 0) = true := decide_eq_true hl
  go_enter Tryd.func16, Tryd.ntmps16
  go_wp2_with (go_at_call 22; ((with_reducible refine (HO.out _).mono ?_); rintro e w1 ⟨rfl, b1⟩); have B1 := ((Below.refl w.heap.size w).alloc (Nat.le_refl _) (.cells #[.int .u16 0, .int .u8 jt, .int .u8 jf, .int .u32 k] 35)).trans (b1.mono (by simp)); have z1 : w.heap.size < w1.heap.size := (by have h := b1.size; rw [World.size_alloc] at h; omega); have s0 := box_cells b1 0 (.int .u16 0) rfl; have s1 := box_cells b1 1 (.int .u8 jt) rfl; have s2 := box_cells b1 2 (.int .u8 jf) rfl; have s3 := box_cells b1 3 (.int .u32 k) rfl)
  go_ret
  exact ⟨rfl, B1.alloc B1.size _⟩
set_option maxRecDepth 100000 in
set_option maxHeartbeats 4000000 in
theorem one_0_okp (jt jf k left : Int) (w : World) (hl : 0 ≤ left)  : OneTo 0 jt jf k left (0) w := by
  have HO := Lib.hid (fun W => refOf_any 0 W)
  rw [show ofL allL 0 = ⟨0, ⟨#[108, 100, 105]⟩, 1⟩ by kernel_rfl] at HO
  have hl2 : decide (left < 0) = false := decide_eq_false (by omega)
  go_enter Tryd.func16, Tryd.ntmps16
  go_wp2_with (go_at_call 22; ((with_reducible refine (HO.out _).mono ?_); rintro e w1 ⟨rfl, b1⟩); have B1 := ((Below.refl w.heap.size w).alloc (Nat.le_refl _) (.cells #[.int .u16 0, .int .u8 jt, .int .u8 jf, .int .u32 k] 35)).trans (b1.mono (by simp)); have z1 : w.heap.size < w1.heap.size := (by have h := b1.size; rw [World.size_alloc] at h; omega); have s0 := box_cells b1 0 (.int .u16 0) rfl; have s1 := box_cells b1 1 (.int .u8 jt) rfl; have s2 := box_cells b1 2 (.int .u8 jf) rfl; have s3 := box_cells b1 3 (.int .u32 k) rfl)
  go_ret
  exact ⟨rfl, B1.alloc B1.size _⟩
set_option maxRecDepth 100000 in
set_option maxHeartbeats 4000000 in
theorem one_129_okn (jt jf k left : Int) (w : World) (hl : left < 0)  : OneTo 129 jt jf k left (0) w := by
  have HO := Lib.hid (fun W => refOf_any 129 W)
  rw [show ofL allL 129 = ⟨129, ⟨#[108, 100, 120, 108, 101, 110]⟩, 1⟩ by kernel_rfl] at HO
  have hl2 : decide (left < 0) = true := decide_eq_true hl
  go_enter Tryd.func16, Tryd.ntmps16
  go_wp2_with (go_at_call 22; ((with_reducible refine (HO.out _).mono ?_); rintro e w1 ⟨rfl, b1⟩); have B1 := ((Below.refl w.heap.size w).alloc (Nat.le_refl _) (.cells #[.int .u16 129, .int .u8 jt, .int .u8 jf, .int .u32 k] 35)).trans (b1.mono (by simp)); have z1 : w.heap.size < w1.heap.size := (by have h := b1.size; rw [World.size_alloc] at h; omega); have s0 := box_cells b1 0 (.int .u16 129) rfl; have s1 := box_cells b1 1 (.int .u8 jt) rfl; have s2 := box_cells b1 2 (.int .u8 jf) rfl; have s3 := box_cells b1 3 (.int .u32 k) rfl)
  go_ret
  exact ⟨rfl, B1.alloc B1.size _⟩
set_option maxRecDepth 100000 in
set_option maxHeartbeats 4000000 in
theorem one_129_okp (jt jf k left : Int) (w : World) (hl : 0 ≤ left)  : OneTo 129 jt jf k left (0) w := by
  have HO := Lib.hid (fun W => refOf_any 129 W)
  rw [show ofL allL 129 = ⟨129, ⟨#[108, 100, 120, 108, 101, 110]⟩, 1⟩ by kernel_rfl] at HO
  have hl2 : decide (left < 0) = false := decide_eq_false (by omega)
  go_enter Tryd.func16, Tryd.ntmps16
  go_wp2_with (go_at_call 22; ((with_reducible refine (HO.out _).mono ?_); rintro e w1 ⟨rfl, b1⟩); have B1 := ((Below.refl w.heap.size w).alloc (Nat.le_refl _) (.cells #[.int .u16 129, .int .u8 jt, .int .u8 jf, .int .u32 k] 35)).trans (b1.mono (by simp)); have z1 : w.heap.size < w1.heap.size := (by have h := b1.size; rw [World.size_alloc] at h; omega); have s0 := box_cells b1 0 (.int .u16 129) rfl; have s1 := box_cells b1 1 (.int .u8 jt) rfl; have s2 := box_cells b1 2 (.int .u8 jf) rfl; have s3 := box_cells b1 3 (.int .u32 k) rfl)
  go_ret
  exact ⟨rfl, B1.alloc B1.size _⟩
set_option maxRecDepth 100000 in
set_option maxHeartbeats 4000000 in
theorem one_1_okn (jt jf k left : Int) (w : World) (hl : left < 0)  : OneTo 1 jt jf k left (0) w := by
  have HO := Lib.hid (fun W => refOf_any 1 W)
  rw [show ofL allL 1 = ⟨1, ⟨#[108, 100, 120, 105]⟩, 1⟩ by kernel_rfl] at HO
  have hl2 : decide (left < 0) = true := decide_eq_true hl
  go_enter Tryd.func16, Tryd.ntmps16
  go_wp2_with (go_at_call 22; ((with_reducible refine (HO.out _).mono ?_); rintro e w1 ⟨rfl, b1⟩); have B1 := ((Below.refl w.heap.size w).alloc (Nat.le_refl _) (.cells #[.int .u16 1, .int .u8 jt, .int .u8 jf, .int .u32 k] 35)).trans (b1.mono (by simp)); have z1 : w.heap.size < w1.heap.size := (by have h := b1.size; rw [World.size_alloc] at h; omega); have s0 := box_cells b1 0 (.int .u16 1) rfl; have s1 := box_cells b1 1 (.int .u8 jt) rfl; have s2 := box_cells b1 2 (.int .u8 jf) rfl; have s3 := box_cells b1 3 (.int .u32 k) rfl)
  go_ret
  exact ⟨rfl, B1.alloc B1.size _⟩
set_option maxRecDepth 100000 in
set_option maxHeartbeats 4000000 in
theorem one_1_okp (jt jf k left : Int) (w : World) (hl : 0 ≤ left)  : OneTo 1 jt jf k left (0) w := by
  have HO := Lib.hid (fun W => refOf_any 1 W)
  rw [show ofL allL 1 = ⟨1, ⟨#[108, 100, 120, 105]⟩, 1⟩ by kernel_rfl] at HO
  have hl2 : decide (left < 0) = false := decide_eq_false (by omega)
  go_enter Tryd.func16, Tryd.ntmps16
  go_wp2_with (go_at_call 22; ((with_reducible refine (HO.out _).mono ?_); rintro e w1 ⟨rfl, b1⟩); have B1 := ((Below.refl w.heap.size w).alloc (Nat.le_refl _) (.cells #[.int .u16 1, .int .u8 jt, .int .u8 jf, .int .u32 k] 35)).trans (b1.mono (by simp)); have z1 : w.heap.size < w1.heap.size := (by have h := b1.size; rw [World.size_alloc] at h; omega); have s0 := box_cells b1 0 (.int .u16 1) rfl; have s1 := box_cells b1 1 (.int .u8 jt) rfl; have s2 := box_cells b1 2 (.int .u8 jf) rfl; have s3 := box_cells b1 3 (.int .u32 k) rfl)
  go_ret
  exact ⟨rfl, B1.alloc B1.size _⟩
set_option maxRecDepth 100000 in
set_option maxHeartbeats 4000000 in
theorem one_4_okn (jt jf k left : Int) (w : World) (hl : left < 0)  : OneTo 4 jt jf k left (0) w := by
  have HO := Lib.hid (fun W => refOf_any 4 W)
  rw [show ofL allL 4 = ⟨4, ⟨#[97, 100, 100]⟩, 3⟩ by kernel_rfl] at HO
  have hl2 : decide (left < 0) = true := decide_eq_true hl
  go_enter Tryd.func16, Tryd.ntmps16
  go_wp2_with (go_at_call 22; ((with_reducible refine (HO.out _).mono ?_); rintro e w1 ⟨rfl, b1⟩); have B1 := ((Below.refl w.heap.size w).alloc (Nat.le_refl _) (.cells #[.int .u16 4, .int .u8 jt, .int .u8 jf, .int .u32 k] 35)).trans (b1.mono (by simp)); have z1 : w.heap.size < w1.heap.size := (by have h := b1.size; rw [World.size_alloc] at h; omega); have s0 := box_cells b1 0 (.int .u16 4) rfl; have s1 := box_cells b1 1 (.int .u8 jt) rfl; have s2 := box_cells b1 2 (.int .u8 jf) rfl; have s3 := box_cells b1 3 (.int .u32 k) rfl)
  go_ret
  exact ⟨rfl, B1.alloc B1.size _⟩
set_option maxRecDepth 100000 in
set_option maxHeartbeats 4000000 in
theorem one_4_okp (jt jf k left : Int) (w : World) (hl : 0 ≤ left)  : OneTo 4 jt jf k left (0) w := by
  have HO := Lib.hid (fun W => refOf_any 4 W)
  rw [show ofL allL 4 = ⟨4, ⟨#[97, 100, 100]⟩, 3⟩ by kernel_rfl] at HO
  have hl2 : decide (left < 0) = false := decide_eq_false (by omega)
  go_enter Tryd.func16, Tryd.ntmps16
  go_wp2_with (go_at_call 22; ((with_reducible refine (HO.out _).mono ?_); rintro e w1 ⟨rfl, b1⟩); have B1 := ((Below.refl w.heap.size w).alloc (Nat.le_refl _) (.cells #[.int .u16 4, .int .u8 jt, .int .u8 jf, .int .u32 k] 35)).trans (b1.mono (by simp)); have z1 : w.heap.size < w1.heap.size := (by have h := b1.size; rw [World.size_alloc] at h; omega); have s0 := box_cells b1 0 (.int .u16 4) rfl; have s1 := box_cells b1 1 (.int .u8 jt) rfl; have s2 := box_cells b1 2 (.int .u8 jf) rfl; have s3 := box_cells b1 3 (.int .u32 k) rfl)
  go_ret
  exact ⟨rfl, B1.alloc B1.size _⟩
set_option maxRecDepth 100000 in
set_option maxHeartbeats 4000000 in
theorem one_20_okn (jt jf k left : Int) (w : World) (hl : left < 0)  : OneTo 20 jt jf k left (0) w := by
  have HO := Lib.hid (fun W => refOf_any 20 W)
  rw [show ofL allL 20 = ⟨20, ⟨#[115, 117, 98]⟩, 3⟩ by kernel_rfl] at HO
  have hl2 : decide (left < 0) = true := decide_eq_true hl
  go_enter Tryd.func16, Tryd.ntmps16
  go_wp2_with (go_at_call 22; ((with_reducible refine (HO.out _).mono ?_); rintro e w1 ⟨rfl, b1⟩); have B1 := ((Below.refl w.heap.size w).alloc (Nat.le_refl _) (.cells #[.int .u16 20, .int .u8 jt, .int .u8 jf, .int .u32 k] 35)).trans (b1.mono (by simp)); have z1 : w.heap.size < w1.heap.size := (by have h := b1.size; rw [World.size_alloc] at h; omega); have s0 := box_cells b1 0 (.int .u16 20) rfl; have s1 := box_cells b1 1 (.int .u8 jt) rfl; have s2 := box_cells b1 2 (.int .u8 jf) rfl; have s3 := box_cells b1 3 (.int .u32 k) rfl)
  go_ret
  exact ⟨rfl, B1.alloc B1.size _⟩
set_option maxRecDepth 100000 in
set_option maxHeartbeats 4000000 in
theorem one_20_okp (jt jf k left : Int) (w : World) (hl : 0 ≤ left)  : OneTo 20 jt jf k left (0) w := by
  have HO := Lib.hid (fun W => refOf_any 20 W)
  rw [show ofL allL 20 = ⟨20, ⟨#[115, 117, 98]⟩, 3⟩ by kernel_rfl] at HO
  have hl2 : decide (left < 0) = false := decide_eq_false (by omega)
  go_enter Tryd.func16, Tryd.ntmps16
  go_wp2_with (go_at_call 22; ((with_reducible refine (HO.out _).mono ?_); rintro e w1 ⟨rfl, b1⟩); have B1 := ((Below.refl w.heap.size w).alloc (Nat.le_refl _) (.cells #[.int .u16 20, .int .u8 jt, .int .u8 jf, .int .u32 k] 35)).trans (b1.mono (by simp)); have z1 : w.heap.size < w1.heap.size := (by have h := b1.size; rw [World.size_alloc] at h; omega); have s0 := box_cells b1 0 (.int .u16 20) rfl; have s1 := box_cells b1 1 (.int .u8 jt) rfl; have s2 := box_cells b1 2 (.int .u8 jf) rfl; have s3 := box_cells b1 3 (.int .u32 k) rfl)
  go_ret
  exact ⟨rfl, B1.alloc B1.size _⟩
set_option maxRecDepth 100000 in
set_option maxHeartbeats 4000000 in
theorem one_36_okn (jt jf k left : Int) (w : World) (hl : left < 0)  : OneTo 36 jt jf k left (0) w := by
  have HO := Lib.hid (fun W => refOf_any 36 W)
  rw [show ofL allL 36 = ⟨36, ⟨#[109, 117, 108]⟩, 3⟩ by kernel_rfl] at HO
  have hl2 : decide (left < 0) = true := decide_eq_true hl
  go_enter Tryd.func16, Tryd.ntmps16
  go_wp2_with (go_at_call 22; ((with_reducible refine (HO.out _).mono ?_); rintro e w1 ⟨rfl, b1⟩); have B1 := ((Below.refl w.heap.size w).alloc (Nat.le_refl _) (.cells #[.int .u16 36, .int .u8 jt, .int .u8 jf, .int .u32 k] 35)).trans (b1.mono (by simp)); have z1 : w.heap.size < w1.heap.size := (by have h := b1.size; rw [World.size_alloc] at h; omega); have s0 := box_cells b1 0 (.int .u16 36) rfl; have s1 := box_cells b1 1 (.int .u8 jt) rfl; have s2 := box_cells b1 2 (.int .u8 jf) rfl; have s3 := box_cells b1 3 (.int .u32 k) rfl)
  go_ret
  exact ⟨rfl, B1.alloc B1.size _⟩
set_option maxRecDepth 100000 in
set_option maxHeartbeats 4000000 in
theorem one_36_okp (jt jf k left : Int) (w : World) (hl : 0 ≤ left)  : OneTo 36 jt jf k left (0) w := by
  have HO := Lib.hid (fun W => refOf_any 36 W)
  rw [show ofL allL 36 = ⟨36, ⟨#[109, 117, 108]⟩, 3⟩ by kernel_rfl] at HO
  have hl2 : decide (left < 0) = false := decide_eq_false (by omega)
  go_enter Tryd.func16, Tryd.ntmps16
  go_wp2_with (go_at_call 22; ((with_reducible refine (HO.out _).mono ?_); rintro e w1 ⟨rfl, b1⟩); have B1 := ((Below.refl w.heap.size w).alloc (Nat.le_refl _) (.cells #[.int .u16 36, .int .u8 jt, .int .u8 jf, .int .u32 k] 35)).trans (b1.mono (by simp)); have z1 : w.heap.size < w1.heap.size := (by have h := b1.size; rw [World.size_alloc] at h; omega); have s0 := box_cells b1 0 (.int .u16 36) rfl; have s1 := box_cells b1 1 (.int .u8 jt) rfl; have s2 := box_cells b1 2 (.int .u8 jf) rfl; have s3 := box_cells b1 3 (.int .u32 k) rfl)
  go_ret
  exact ⟨rfl, B1.alloc B1.size _⟩
set_option maxRecDepth 100000 in
set_option maxHeartbeats 4000000 in
theorem one_68_okn (jt jf k left : Int) (w : World) (hl : left < 0)  : OneTo 68 jt jf k left (0) w := by
  have HO := Lib.hid (fun W => refOf_any 68 W)
  rw [show ofL allL 68 = ⟨68, ⟨#[111, 114]⟩, 3⟩ by kernel_rfl] at HO
  have hl2 : decide (left < 0) = true := decide_eq_true hl
  go_enter Tryd.func16, Tryd.ntmps16
  go_wp2_with (go_at_call 22; ((with_reducible refine (HO.out _).mono ?_); rintro e w1 ⟨rfl, b1⟩); have B1 := ((Below.refl w.heap.size w).alloc (Nat.le_refl _) (.cells #[.int .u16 68, .int .u8 jt, .int .u8 jf, .int .u32 k] 35)).trans (b1.mono (by simp)); have z1 : w.heap.size < w1.heap.size := (by have h := b1.size; rw [World.size_alloc] at h; omega); have s0 := box_cells b1 0 (.int .u16 68) rfl; have s1 := box_cells b1 1 (.int .u8 jt) rfl; have s2 := box_cells b1 2 (.int .u8 jf) rfl; have s3 := box_cells b1 3 (.int .u32 k) rfl)
  go_ret
  exact ⟨rfl, B1.alloc B1.size _⟩
set_option maxRecDepth 100000 in
set_option maxHeartbeats 4000000 in
theorem one_68_okp (jt jf k left : Int) (w : World) (hl : 0 ≤ left)  : OneTo 68 jt jf k left (0) w := by
  have HO := Lib.hid (fun W => refOf_any 68 W)
  rw [show ofL allL 68 = ⟨68, ⟨#[111, 114]⟩, 3⟩ by kernel_rfl] at HO
  have hl2 : decide (left < 0) = false := decide_eq_false (by omega)
  go_enter Tryd.func16, Tryd.ntmps16
  go_wp2_with (go_at_call 22; ((with_reducible refine (HO.out _).mono ?_); rintro e w1 ⟨rfl, b1⟩); have B1 := ((Below.refl w.heap.size w).alloc (Nat.le_refl _) (.cells #[.int .u16 68, .int .u8 jt, .int .u8 jf, .int .u32 k] 35)).trans (b1.mono (by simp)); have z1 : w.heap.size < w1.heap.size := (by have h := b1.size; rw [World.size_alloc] at h; omega); have s0 := box_cells b1 0 (.int .u16 68) rfl; have s1 := box_cells b1 1 (.int .u8 jt) rfl; have s2 := box_cells b1 2 (.int .u8 jf) rfl; have s3 := box_cells b1 3 (.int .u32 k) rfl)
  go_ret
  exact ⟨rfl, B1.alloc B1.size _⟩
set_option maxRecDepth 100000 in
set_option maxHeartbeats 4000000 in
theorem one_84_okn (jt jf k left : Int) (w : World) (hl : left < 0)  : OneTo 84 jt jf k left (0) w := by
  have HO := Lib.hid (fun W => refOf_any 84 W)
  rw [show ofL allL 84 = ⟨84, ⟨#[97, 110, 100]⟩, 3⟩ by kernel_rfl] at HO
  have hl2 : decide (left < 0) = true := decide_eq_true hl
  go_enter Tryd.func16, Tryd.ntmps16
  go_wp2_with (go_at_call 22; ((with_reducible refine (HO.out _).mono ?_); rintro e w1 ⟨rfl, b1⟩); have B1 := ((Below.refl w.heap.size w).alloc (Nat.le_refl _) (.cells #[.int .u16 84, .int .u8 jt, .int .u8 jf, .int .u32 k] 35)).trans (b1.mono (by simp)); have z1 : w.heap.size < w1.heap.size := (by have h := b1.size; rw [World.size_alloc] at h; omega); have s0 := box_cells b1 0 (.int .u16 84) rfl; have s1 := box_cells b1 1 (.int .u8 jt) rfl; have s2 := box_cells b1 2 (.int .u8 jf) rfl; have s3 := box_cells b1 3 (.int .u32 k) rfl)
  go_ret
  exact ⟨rfl, B1.alloc B1.size _⟩
set_option maxRecDepth 100000 in
set_option maxHeartbeats 4000000 in
theorem one_84_okp (jt jf k left : Int) (w : World) (hl : 0 ≤ left)  : OneTo 84 jt jf k left (0) w := by
  have HO := Lib.hid (fun W => refOf_any 84 W)
  rw [show ofL allL 84 = ⟨84, ⟨#[97, 110, 100]⟩, 3⟩ by kernel_rfl] at HO
  have hl2 : decide (left < 0) = false := decide_eq_false (by omega)
  go_enter Tryd.func16, Tryd.ntmps16
  go_wp2_with (go_at_call 22; ((with_reducible refine (HO.out _).mono ?_); rintro e w1 ⟨rfl, b1⟩); have B1 := ((Below.refl w.heap.size w).alloc (Nat.le_refl _) (.cells #[.int .u16 84, .int .u8 jt, .int .u8 jf, .int .u32 k] 35)).trans (b1.mono (by simp)); have z1 : w.heap.size < w1.heap.size := (by have h := b1.size; rw [World.size_alloc] at h; omega); have s0 := box_cells b1 0 (.int .u16 84) rfl; have s1 := box_cells b1 1 (.int .u8 jt) rfl; have s2 := box_cells b1 2 (.int .u8 jf) rfl; have s3 := box_cells b1 3 (.int .u32 k) rfl)
  go_ret
  exact ⟨rfl, B1.alloc B1.size _⟩
set_option maxRecDepth 100000 in
set_option maxHeartbeats 4000000 in
theorem one_164_okn (jt jf k left : Int) (w : World) (hl : left < 0)  : OneTo 164 jt jf k left (0) w := by
  have HO := Lib.hid (fun W => refOf_any 164 W)
  rw [show ofL allL 164 = ⟨164, ⟨#[120, 111, 114]⟩, 3⟩ by kernel_rfl] at HO
  have hl2 : decide (left < 0) = true := decide_eq_true hl
  go_enter Tryd.func16, Tryd.ntmps16
  go_wp2_with (go_at_call 22; ((with_reducible refine (HO.out _).mono ?_); rintro e w1 ⟨rfl, b1⟩); have B1 := ((Below.refl w.heap.size w).alloc (Nat.le_refl _) (.cells #[.int .u16 164, .int .u8 jt, .int .u8 jf, .int .u32 k] 35)).trans (b1.mono (by simp)); have z1 : w.heap.size < w1.heap.size := (by have h := b1.size; rw [World.size_alloc] at h; omega); have s0 := box_cells b1 0 (.int .u16 164) rfl; have s1 := box_cells b1 1 (.int .u8 jt) rfl; have s2 := box_cells b1 2 (.int .u8 jf) rfl; have s3 := box_cells b1 3 (.int .u32 k) rfl)
  go_ret
  exact ⟨rfl, B1.alloc B1.size _⟩
set_option maxRecDepth 100000 in
set_option maxHeartbeats 4000000 in
theorem one_164_okp (jt jf k left : Int) (w : World) (hl : 0 ≤ left)  : OneTo 164 jt jf k left (0) w := by
  have HO := Lib.hid (fun W => refOf_any 164 W)
  rw [show ofL allL 164 = ⟨164, ⟨#[120, 111, 114]⟩, 3⟩ by kernel_rfl] at HO
  have hl2 : decide (left < 0) = false := decide_eq_false (by omega)
  go_enter Tryd.func16, Tryd.ntmps16
  go_wp2_with (go_at_call 22; ((with_reducible refine (HO.out _).mono ?_); rintro e w1 ⟨rfl, b1⟩); have B1 := ((Below.refl w.heap.size w).alloc (Nat.le_refl _) (.cells #[.int .u16 164, .int .u8 jt, .int .u8 jf, .int .u32 k] 35)).trans (b1.mono (by simp)); have z1 : w.heap.size < w1.heap.size := (by have h := b1.size; rw [World.size_alloc] at h; omega); have s0 := box_cells b1 0 (.int .u16 164) rfl; have s1 := box_cells b1 1 (.int .u8 jt) rfl; have s2 := box_cells b1 2 (.int .u8 jf) rfl; have s3 := box_cells b1 3 (.int .u32 k) rfl)
  go_ret
  exact ⟨rfl, B1.alloc B1.size _⟩
set_option maxRecDepth 100000 in
set_option maxHeartbeats 4000000 in
theorem one_12_okn (jt jf k left : Int) (w : World) (hl : left < 0)  : OneTo 12 jt jf k left (0) w := by
  have HO := Lib.hid (fun W => refOf_any 12 W)
  rw [show ofL allL 12 = ⟨12, ⟨#[97, 100, 100, 120]⟩, 3⟩ by kernel_rfl] at HO
  have hl2 : decide (left < 0) = true := decide_eq_true hl
  go_enter Tryd.func16, Tryd.ntmps16
  go_wp2_with (go_at_call 22; ((with_reducible refine (HO.out _).mono ?_); rintro e w1 ⟨rfl, b1⟩); have B1 := ((Below.refl w.heap.size w).alloc (Nat.le_refl _) (.cells #[.int .u16 12, .int .u8 jt, .int .u8 jf, .int .u32 k] 35)).trans (b1.mono (by simp)); have z1 : w.heap.size < w1.heap.size := (by have h := b1.size; rw [World.size_alloc] at h; omega); have s0 := box_cells b1 0 (.int .u16 12) rfl; have s1 := box_cells b1 1 (.int .u8 jt) rfl; have s2 := box_cells b1 2 (.int .u8 jf) rfl; have s3 := box_cells b1 3 (.int .u32 k) rfl)
  go_ret
  exact ⟨rfl, B1.alloc B1.size _⟩
set_option maxRecDepth 100000 in
set_option maxHeartbeats 4000000 in
theorem one_12_okp (jt jf k left : Int) (w : World) (hl : 0 ≤ left)  : OneTo 12 jt jf k left (0) w := by
  have HO := Lib.hid (fun W => refOf_any 12 W)
  rw [show ofL allL 12 = ⟨12, ⟨#[97, 100, 100, 120]⟩, 3⟩ by kernel_rfl] at HO
  have hl2 : decide (left < 0) = false := decide_eq_false (by omega)
  go_enter Tryd.func16, Tryd.ntmps16
  go_wp2_with (go_at_call 22; ((with_reducible refine (HO.out _).mono ?_); rintro e w1 ⟨rfl, b1⟩); have B1 := ((Below.refl w.heap.size w).alloc (Nat.le_refl _) (.cells #[.int .u16 12, .int .u8 jt, .int .u8 jf, .int .u32 k] 35)).trans (b1.mono (by simp)); have z1 : w.heap.size < w1.heap.size := (by have h := b1.size; rw [World.size_alloc] at h; omega); have s0 := box_cells b1 0 (.int .u16 12) rfl; have s1 := box_cells b1 1 (.int .u8 jt) rfl; have s2 := box_cells b1 2 (.int .u8 jf) rfl; have s3 := box_cells b1 3 (.int .u32 k) rfl)
  go_ret
  exact ⟨rfl, B1.alloc B1.size _⟩
set_option maxRecDepth 100000 in
set_option maxHeartbeats 4000000 in
theorem one_28_okn (jt jf k left : Int) (w : World) (hl : left < 0)  : OneTo 28 jt jf k left (0) w := by
  have HO := Lib.hid (fun W => refOf_any 28 W)
  rw [show ofL allL 28 = ⟨28, ⟨#[115, 117, 98, 120]⟩, 3⟩ by kernel_rfl] at HO
  have hl2 : decide (left < 0) = true := decide_eq_true hl
  go_enter Tryd.func16, Tryd.ntmps16
  go_wp2_with (go_at_call 22; ((with_reducible refine (HO.out _).mono ?_); rintro e w1 ⟨rfl, b1⟩); have B1 := ((Below.refl w.heap.size w).alloc (Nat.le_refl _) (.cells #[.int .u16 28, .int .u8 jt, .int .u8 jf, .int .u32 k] 35)).trans (b1.mono (by simp)); have z1 : w.heap.size < w1.heap.size := (by have h := b1.size; rw [World.size_alloc] at h; omega); have s0 := box_cells b1 0 (.int .u16 28) rfl; have s1 := box_cells b1 1 (.int .u8 jt) rfl; have s2 := box_cells b1 2 (.int .u8 jf) rfl; have s3 := box_cells b1 3 (.int .u32 k) rfl)
  go_ret
  exact ⟨rfl, B1.alloc B1.size _⟩
set_option maxRecDepth 100000 in
set_option maxHeartbeats 4000000 in
theorem one_28_okp (jt jf k left : Int) (w : World) (hl : 0 ≤ left)  : OneTo 28 jt jf k left (0) w := by
  have HO := Lib.hid (fun W => refOf_any 28 W)
  rw [show ofL allL 28 = ⟨28, ⟨#[115, 117, 98, 120]⟩, 3⟩ by kernel_rfl] at HO
  have hl2 : decide (left < 0) = false := decide_eq_false (by omega)
  go_enter Tryd.func16, Tryd.ntmps16
  go_wp2_with (go_at_call 22; ((with_reducible refine (HO.out _).mono ?_); rintro e w1 ⟨rfl, b1⟩); have B1 := ((Below.refl w.heap.size w).alloc (Nat.le_refl _) (.cells #[.int .u16 28, .int .u8 jt, .int .u8 jf, .int .u32 k] 35)).trans (b1.mono (by simp)); have z1 : w.heap.size < w1.heap.size := (by have h := b1.size; rw [World.size_alloc] at h; omega); have s0 := box_cells b1 0 (.int .u16 28) rfl; have s1 := box_cells b1 1 (.int .u8 jt) rfl; have s2 := box_cells b1 2 (.int .u8 jf) rfl; have s3 := box_cells b1 3 (.int .u32 k) rfl)
  go_ret
  exact ⟨rfl, B1.alloc B1.size _⟩
end Go.Proofs.YtohfampfnhfnlaaDoor
