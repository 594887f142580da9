/- What the document's own One says of an instruction: code by code. Condition: numbers of their kinds. -/
import Derived.Test.YtohfampfnhfnlaaDoorSc
namespace Go.Proofs.YtohfampfnhfnlaaDoor
open Go.RowKit
set_option linter.unusedVariables false
attribute [local go_sem ↓] Go.wp_at_zero Go.wp_at_succ

set_option maxRecDepth 100000 in
set_option maxHeartbeats 4000000 in
theorem one_44_okn (jt jf k left : Int) (w : World) (hl : left < 0)  : OneTo 44 jt jf k left (0) w := by
  have HO := Lib.hid (fun W => refOf_any 44 W)
  rw [show ofL allL 44 = ⟨44, ⟨#[109, 117, 108, 120]⟩, 3⟩ by kernel_rfl] at HO
  have hl2 : decide (left < 0) = true := decide_eq_true hl
  go_enter Tryd.func16, Tryd.ntmps16
  go_wp2_with (go_at_call 22; ((with_reducible refine (HO.out _).mono ?_); rintro e w1 ⟨rfl, b1⟩); have B1 := ((Below.refl w.heap.size w).alloc (Nat.le_refl _) (.cells #[.int .u16 44, .int .u8 jt, .int .u8 jf, .int .u32 k] 35)).trans (b1.mono (by simp)); have z1 : w.heap.size < w1.heap.size := (by have h := b1.size; rw [World.size_alloc] at h; omega); have s0 := box_cells b1 0 (.int .u16 44) rfl; have s1 := box_cells b1 1 (.int .u8 jt) rfl; have s2 := box_cells b1 2 (.int .u8 jf) rfl; have s3 := box_cells b1 3 (.int .u32 k) rfl)
  go_ret
  exact ⟨rfl, B1.alloc B1.size _⟩
set_option maxRecDepth 100000 in
set_option maxHeartbeats 4000000 in
theorem one_44_okp (jt jf k left : Int) (w : World) (hl : 0 ≤ left)  : OneTo 44 jt jf k left (0) w := by
  have HO := Lib.hid (fun W => refOf_any 44 W)
  rw [show ofL allL 44 = ⟨44, ⟨#[109, 117, 108, 120]⟩, 3⟩ by kernel_rfl] at HO
  have hl2 : decide (left < 0) = false := decide_eq_false (by omega)
  go_enter Tryd.func16, Tryd.ntmps16
  go_wp2_with (go_at_call 22; ((with_reducible refine (HO.out _).mono ?_); rintro e w1 ⟨rfl, b1⟩); have B1 := ((Below.refl w.heap.size w).alloc (Nat.le_refl _) (.cells #[.int .u16 44, .int .u8 jt, .int .u8 jf, .int .u32 k] 35)).trans (b1.mono (by simp)); have z1 : w.heap.size < w1.heap.size := (by have h := b1.size; rw [World.size_alloc] at h; omega); have s0 := box_cells b1 0 (.int .u16 44) rfl; have s1 := box_cells b1 1 (.int .u8 jt) rfl; have s2 := box_cells b1 2 (.int .u8 jf) rfl; have s3 := box_cells b1 3 (.int .u32 k) rfl)
  go_ret
  exact ⟨rfl, B1.alloc B1.size _⟩
set_option maxRecDepth 100000 in
set_option maxHeartbeats 4000000 in
theorem one_60_okn (jt jf k left : Int) (w : World) (hl : left < 0)  : OneTo 60 jt jf k left (0) w := by
  have HO := Lib.hid (fun W => refOf_any 60 W)
  rw [show ofL allL 60 = ⟨60, ⟨#[100, 105, 118, 120]⟩, 3⟩ by kernel_rfl] at HO
  have hl2 : decide (left < 0) = true := decide_eq_true hl
  go_enter Tryd.func16, Tryd.ntmps16
  go_wp2_with (go_at_call 22; ((with_reducible refine (HO.out _).mono ?_); rintro e w1 ⟨rfl, b1⟩); have B1 := ((Below.refl w.heap.size w).alloc (Nat.le_refl _) (.cells #[.int .u16 60, .int .u8 jt, .int .u8 jf, .int .u32 k] 35)).trans (b1.mono (by simp)); have z1 : w.heap.size < w1.heap.size := (by have h := b1.size; rw [World.size_alloc] at h; omega); have s0 := box_cells b1 0 (.int .u16 60) rfl; have s1 := box_cells b1 1 (.int .u8 jt) rfl; have s2 := box_cells b1 2 (.int .u8 jf) rfl; have s3 := box_cells b1 3 (.int .u32 k) rfl)
  go_ret
  exact ⟨rfl, B1.alloc B1.size _⟩
set_option maxRecDepth 100000 in
set_option maxHeartbeats 4000000 in
theorem one_60_okp (jt jf k left : Int) (w : World) (hl : 0 ≤ left)  : OneTo 60 jt jf k left (0) w := by
  have HO := Lib.hid (fun W => refOf_any 60 W)
  rw [show ofL allL 60 = ⟨60, ⟨#[100, 105, 118, 120]⟩, 3⟩ by kernel_rfl] at HO
  have hl2 : decide (left < 0) = false := decide_eq_false (by omega)
  go_enter Tryd.func16, Tryd.ntmps16
  go_wp2_with (go_at_call 22; ((with_reducible refine (HO.out _).mono ?_); rintro e w1 ⟨rfl, b1⟩); have B1 := ((Below.refl w.heap.size w).alloc (Nat.le_refl _) (.cells #[.int .u16 60, .int .u8 jt, .int .u8 jf, .int .u32 k] 35)).trans (b1.mono (by simp)); have z1 : w.heap.size < w1.heap.size := (by have h := b1.size; rw [World.size_alloc] at h; omega); have s0 := box_cells b1 0 (.int .u16 60) rfl; have s1 := box_cells b1 1 (.int .u8 jt) rfl; have s2 := box_cells b1 2 (.int .u8 jf) rfl; have s3 := box_cells b1 3 (.int .u32 k) rfl)
  go_ret
  exact ⟨rfl, B1.alloc B1.size _⟩
set_option maxRecDepth 100000 in
set_option maxHeartbeats 4000000 in
theorem one_76_okn (jt jf k left : Int) (w : World) (hl : left < 0)  : OneTo 76 jt jf k left (0) w := by
  have HO := Lib.hid (fun W => refOf_any 76 W)
  rw [show ofL allL 76 = ⟨76, ⟨#[111, 114, 120]⟩, 3⟩ by kernel_rfl] at HO
  have hl2 : decide (left < 0) = true := decide_eq_true hl
  go_enter Tryd.func16, Tryd.ntmps16
  go_wp2_with (go_at_call 22; ((with_reducible refine (HO.out _).mono ?_); rintro e w1 ⟨rfl, b1⟩); have B1 := ((Below.refl w.heap.size w).alloc (Nat.le_refl _) (.cells #[.int .u16 76, .int .u8 jt, .int .u8 jf, .int .u32 k] 35)).trans (b1.mono (by simp)); have z1 : w.heap.size < w1.heap.size := (by have h := b1.size; rw [World.size_alloc] at h; omega); have s0 := box_cells b1 0 (.int .u16 76) rfl; have s1 := box_cells b1 1 (.int .u8 jt) rfl; have s2 := box_cells b1 2 (.int .u8 jf) rfl; have s3 := box_cells b1 3 (.int .u32 k) rfl)
  go_ret
  exact ⟨rfl, B1.alloc B1.size _⟩
set_option maxRecDepth 100000 in
set_option maxHeartbeats 4000000 in
theorem one_76_okp (jt jf k left : Int) (w : World) (hl : 0 ≤ left)  : OneTo 76 jt jf k left (0) w := by
  have HO := Lib.hid (fun W => refOf_any 76 W)
  rw [show ofL allL 76 = ⟨76, ⟨#[111, 114, 120]⟩, 3⟩ by kernel_rfl] at HO
  have hl2 : decide (left < 0) = false := decide_eq_false (by omega)
  go_enter Tryd.func16, Tryd.ntmps16
  go_wp2_with (go_at_call 22; ((with_reducible refine (HO.out _).mono ?_); rintro e w1 ⟨rfl, b1⟩); have B1 := ((Below.refl w.heap.size w).alloc (Nat.le_refl _) (.cells #[.int .u16 76, .int .u8 jt, .int .u8 jf, .int .u32 k] 35)).trans (b1.mono (by simp)); have z1 : w.heap.size < w1.heap.size := (by have h := b1.size; rw [World.size_alloc] at h; omega); have s0 := box_cells b1 0 (.int .u16 76) rfl; have s1 := box_cells b1 1 (.int .u8 jt) rfl; have s2 := box_cells b1 2 (.int .u8 jf) rfl; have s3 := box_cells b1 3 (.int .u32 k) rfl)
  go_ret
  exact ⟨rfl, B1.alloc B1.size _⟩
set_option maxRecDepth 100000 in
set_option maxHeartbeats 4000000 in
theorem one_92_okn (jt jf k left : Int) (w : World) (hl : left < 0)  : OneTo 92 jt jf k left (0) w := by
  have HO := Lib.hid (fun W => refOf_any 92 W)
  rw [show ofL allL 92 = ⟨92, ⟨#[97, 110, 100, 120]⟩, 3⟩ by kernel_rfl] at HO
  have hl2 : decide (left < 0) = true := decide_eq_true hl
  go_enter Tryd.func16, Tryd.ntmps16
  go_wp2_with (go_at_call 22; ((with_reducible refine (HO.out _).mono ?_); rintro e w1 ⟨rfl, b1⟩); have B1 := ((Below.refl w.heap.size w).alloc (Nat.le_refl _) (.cells #[.int .u16 92, .int .u8 jt, .int .u8 jf, .int .u32 k] 35)).trans (b1.mono (by simp)); have z1 : w.heap.size < w1.heap.size := (by have h := b1.size; rw [World.size_alloc] at h; omega); have s0 := box_cells b1 0 (.int .u16 92) rfl; have s1 := box_cells b1 1 (.int .u8 jt) rfl; have s2 := box_cells b1 2 (.int .u8 jf) rfl; have s3 := box_cells b1 3 (.int .u32 k) rfl)
  go_ret
  exact ⟨rfl, B1.alloc B1.size _⟩
set_option maxRecDepth 100000 in
set_option maxHeartbeats 4000000 in
theorem one_92_okp (jt jf k left : Int) (w : World) (hl : 0 ≤ left)  : OneTo 92 jt jf k left (0) w := by
  have HO := Lib.hid (fun W => refOf_any 92 W)
  rw [show ofL allL 92 = ⟨92, ⟨#[97, 110, 100, 120]⟩, 3⟩ by kernel_rfl] at HO
  have hl2 : decide (left < 0) = false := decide_eq_false (by omega)
  go_enter Tryd.func16, Tryd.ntmps16
  go_wp2_with (go_at_call 22; ((with_reducible refine (HO.out _).mono ?_); rintro e w1 ⟨rfl, b1⟩); have B1 := ((Below.refl w.heap.size w).alloc (Nat.le_refl _) (.cells #[.int .u16 92, .int .u8 jt, .int .u8 jf, .int .u32 k] 35)).trans (b1.mono (by simp)); have z1 : w.heap.size < w1.heap.size := (by have h := b1.size; rw [World.size_alloc] at h; omega); have s0 := box_cells b1 0 (.int .u16 92) rfl; have s1 := box_cells b1 1 (.int .u8 jt) rfl; have s2 := box_cells b1 2 (.int .u8 jf) rfl; have s3 := box_cells b1 3 (.int .u32 k) rfl)
  go_ret
  exact ⟨rfl, B1.alloc B1.size _⟩
set_option maxRecDepth 100000 in
set_option maxHeartbeats 4000000 in
theorem one_108_okn (jt jf k left : Int) (w : World) (hl : left < 0)  : OneTo 108 jt jf k left (0) w := by
  have HO := Lib.hid (fun W => refOf_any 108 W)
  rw [show ofL allL 108 = ⟨108, ⟨#[108, 115, 104, 120]⟩, 3⟩ by kernel_rfl] at HO
  have hl2 : decide (left < 0) = true := decide_eq_true hl
  go_enter Tryd.func16, Tryd.ntmps16
  go_wp2_with (go_at_call 22; ((with_reducible refine (HO.out _).mono ?_); rintro e w1 ⟨rfl, b1⟩); have B1 := ((Below.refl w.heap.size w).alloc (Nat.le_refl _) (.cells #[.int .u16 108, .int .u8 jt, .int .u8 jf, .int .u32 k] 35)).trans (b1.mono (by simp)); have z1 : w.heap.size < w1.heap.size := (by have h := b1.size; rw [World.size_alloc] at h; omega); have s0 := box_cells b1 0 (.int .u16 108) rfl; have s1 := box_cells b1 1 (.int .u8 jt) rfl; have s2 := box_cells b1 2 (.int .u8 jf) rfl; have s3 := box_cells b1 3 (.int .u32 k) rfl)
  go_ret
  exact ⟨rfl, B1.alloc B1.size _⟩
set_option maxRecDepth 100000 in
set_option maxHeartbeats 4000000 in
theorem one_108_okp (jt jf k left : Int) (w : World) (hl : 0 ≤ left)  : OneTo 108 jt jf k left (0) w := by
  have HO := Lib.hid (fun W => refOf_any 108 W)
  rw [show ofL allL 108 = ⟨108, ⟨#[108, 115, 104, 120]⟩, 3⟩ by kernel_rfl] at HO
  have hl2 : decide (left < 0) = false := decide_eq_false (by omega)
  go_enter Tryd.func16, Tryd.ntmps16
  go_wp2_with (go_at_call 22; ((with_reducible refine (HO.out _).mono ?_); rintro e w1 ⟨rfl, b1⟩); have B1 := ((Below.refl w.heap.size w).alloc (Nat.le_refl _) (.cells #[.int .u16 108, .int .u8 jt, .int .u8 jf, .int .u32 k] 35)).trans (b1.mono (by simp)); have z1 : w.heap.size < w1.heap.size := (by have h := b1.size; rw [World.size_alloc] at h; omega); have s0 := box_cells b1 0 (.int .u16 108) rfl; have s1 := box_cells b1 1 (.int .u8 jt) rfl; have s2 := box_cells b1 2 (.int .u8 jf) rfl; have s3 := box_cells b1 3 (.int .u32 k) rfl)
  go_ret
  exact ⟨rfl, B1.alloc B1.size _⟩
set_option maxRecDepth 100000 in
set_option maxHeartbeats 4000000 in
theorem one_124_okn (jt jf k left : Int) (w : World) (hl : left < 0)  : OneTo 124 jt jf k left (0) w := by
  have HO := Lib.hid (fun W => refOf_any 124 W)
  rw [show ofL allL 124 = ⟨124, ⟨#[114, 115, 104, 120]⟩, 3⟩ by kernel_rfl] at HO
  have hl2 : decide (left < 0) = true := decide_eq_true hl
  go_enter Tryd.func16, Tryd.ntmps16
  go_wp2_with (go_at_call 22; ((with_reducible refine (HO.out _).mono ?_); rintro e w1 ⟨rfl, b1⟩); have B1 := ((Below.refl w.heap.size w).alloc (Nat.le_refl _) (.cells #[.int .u16 124, .int .u8 jt, .int .u8 jf, .int .u32 k] 35)).trans (b1.mono (by simp)); have z1 : w.heap.size < w1.heap.size := (by have h := b1.size; rw [World.size_alloc] at h; omega); have s0 := box_cells b1 0 (.int .u16 124) rfl; have s1 := box_cells b1 1 (.int .u8 jt) rfl; have s2 := box_cells b1 2 (.int .u8 jf) rfl; have s3 := box_cells b1 3 (.int .u32 k) rfl)
  go_ret
  exact ⟨rfl, B1.alloc B1.size _⟩
set_option maxRecDepth 100000 in
set_option maxHeartbeats 4000000 in
theorem one_124_okp (jt jf k left : Int) (w : World) (hl : 0 ≤ left)  : OneTo 124 jt jf k left (0) w := by
  have HO := Lib.hid (fun W => refOf_any 124 W)
  rw [show ofL allL 124 = ⟨124, ⟨#[114, 115, 104, 120]⟩, 3⟩ by kernel_rfl] at HO
  have hl2 : decide (left < 0) = false := decide_eq_false (by omega)
  go_enter Tryd.func16, Tryd.ntmps16
  go_wp2_with (go_at_call 22; ((with_reducible refine (HO.out _).mono ?_); rintro e w1 ⟨rfl, b1⟩); have B1 := ((Below.refl w.heap.size w).alloc (Nat.le_refl _) (.cells #[.int .u16 124, .int .u8 jt, .int .u8 jf, .int .u32 k] 35)).trans (b1.mono (by simp)); have z1 : w.heap.size < w1.heap.size := (by have h := b1.size; rw [World.size_alloc] at h; omega); have s0 := box_cells b1 0 (.int .u16 124) rfl; have s1 := box_cells b1 1 (.int .u8 jt) rfl; have s2 := box_cells b1 2 (.int .u8 jf) rfl; have s3 := box_cells b1 3 (.int .u32 k) rfl)
  go_ret
  exact ⟨rfl, B1.alloc B1.size _⟩
set_option maxRecDepth 100000 in
set_option maxHeartbeats 4000000 in
theorem one_172_okn (jt jf k left : Int) (w : World) (hl : left < 0)  : OneTo 172 jt jf k left (0) w := by
  have HO := Lib.hid (fun W => refOf_any 172 W)
  rw [show ofL allL 172 = ⟨172, ⟨#[120, 111, 114, 120]⟩, 3⟩ by kernel_rfl] at HO
  have hl2 : decide (left < 0) = true := decide_eq_true hl
  go_enter Tryd.func16, Tryd.ntmps16
  go_wp2_with (go_at_call 22; ((with_reducible refine (HO.out _).mono ?_); rintro e w1 ⟨rfl, b1⟩); have B1 := ((Below.refl w.heap.size w).alloc (Nat.le_refl _) (.cells #[.int .u16 172, .int .u8 jt, .int .u8 jf, .int .u32 k] 35)).trans (b1.mono (by simp)); have z1 : w.heap.size < w1.heap.size := (by have h := b1.size; rw [World.size_alloc] at h; omega); have s0 := box_cells b1 0 (.int .u16 172) rfl; have s1 := box_cells b1 1 (.int .u8 jt) rfl; have s2 := box_cells b1 2 (.int .u8 jf) rfl; have s3 := box_cells b1 3 (.int .u32 k) rfl)
  go_ret
  exact ⟨rfl, B1.alloc B1.size _⟩
set_option maxRecDepth 100000 in
set_option maxHeartbeats 4000000 in
theorem one_172_okp (jt jf k left : Int) (w : World) (hl : 0 ≤ left)  : OneTo 172 jt jf k left (0) w := by
  have HO := Lib.hid (fun W => refOf_any 172 W)
  rw [show ofL allL 172 = ⟨172, ⟨#[120, 111, 114, 120]⟩, 3⟩ by kernel_rfl] at HO
  have hl2 : decide (left < 0) = false := decide_eq_false (by omega)
  go_enter Tryd.func16, Tryd.ntmps16
  go_wp2_with (go_at_call 22; ((with_reducible refine (HO.out _).mono ?_); rintro e w1 ⟨rfl, b1⟩); have B1 := ((Below.refl w.heap.size w).alloc (Nat.le_refl _) (.cells #[.int .u16 172, .int .u8 jt, .int .u8 jf, .int .u32 k] 35)).trans (b1.mono (by simp)); have z1 : w.heap.size < w1.heap.size := (by have h := b1.size; rw [World.size_alloc] at h; omega); have s0 := box_cells b1 0 (.int .u16 172) rfl; have s1 := box_cells b1 1 (.int .u8 jt) rfl; have s2 := box_cells b1 2 (.int .u8 jf) rfl; have s3 := box_cells b1 3 (.int .u32 k) rfl)
  go_ret
  exact ⟨rfl, B1.alloc B1.size _⟩
set_option maxRecDepth 100000 in
set_option maxHeartbeats 4000000 in
theorem one_132_okn (jt jf k left : Int) (w : World) (hl : left < 0)  : OneTo 132 jt jf k left (0) w := by
  have HO := Lib.hid (fun W => refOf_any 132 W)
  rw [show ofL allL 132 = ⟨132, ⟨#[110, 101, 103]⟩, 3⟩ by kernel_rfl] at HO
  have hl2 : decide (left < 0) = true := decide_eq_true hl
  go_enter Tryd.func16, Tryd.ntmps16
  go_wp2_with (go_at_call 22; ((with_reducible refine (HO.out _).mono ?_); rintro e w1 ⟨rfl, b1⟩); have B1 := ((Below.refl w.heap.size w).alloc (Nat.le_refl _) (.cells #[.int .u16 132, .int .u8 jt, .int .u8 jf, .int .u32 k] 35)).trans (b1.mono (by simp)); have z1 : w.heap.size < w1.heap.size := (by have h := b1.size; rw [World.size_alloc] at h; omega); have s0 := box_cells b1 0 (.int .u16 132) rfl; have s1 := box_cells b1 1 (.int .u8 jt) rfl; have s2 := box_cells b1 2 (.int .u8 jf) rfl; have s3 := box_cells b1 3 (.int .u32 k) rfl)
  go_ret
  exact ⟨rfl, B1.alloc B1.size _⟩
set_option maxRecDepth 100000 in
set_option maxHeartbeats 4000000 in
theorem one_132_okp (jt jf k left : Int) (w : World) (hl : 0 ≤ left)  : OneTo 132 jt jf k left (0) w := by
  have HO := Lib.hid (fun W => refOf_any 132 W)
  rw [show ofL allL 132 = ⟨132, ⟨#[110, 101, 103]⟩, 3⟩ by kernel_rfl] at HO
  have hl2 : decide (left < 0) = false := decide_eq_false (by omega)
  go_enter Tryd.func16, Tryd.ntmps16
  go_wp2_with (go_at_call 22; ((with_reducible refine (HO.out _).mono ?_); rintro e w1 ⟨rfl, b1⟩); have B1 := ((Below.refl w.heap.size w).alloc (Nat.le_refl _) (.cells #[.int .u16 132, .int .u8 jt, .int .u8 jf, .int .u32 k] 35)).trans (b1.mono (by simp)); have z1 : w.heap.size < w1.heap.size := (by have h := b1.size; rw [World.size_alloc] at h; omega); have s0 := box_cells b1 0 (.int .u16 132) rfl; have s1 := box_cells b1 1 (.int .u8 jt) rfl; have s2 := box_cells b1 2 (.int .u8 jf) rfl; have s3 := box_cells b1 3 (.int .u32 k) rfl)
  go_ret
  exact ⟨rfl, B1.alloc B1.size _⟩
set_option maxRecDepth 100000 in
set_option maxHeartbeats 4000000 in
theorem one_6_okn (jt jf k left : Int) (w : World) (hl : left < 0)  : OneTo 6 jt jf k left (0) w := by
  have HO := Lib.hid (fun W => refOf_any 6 W)
  rw [show ofL allL 6 = ⟨6, ⟨#[114, 101, 116]⟩, 5⟩ by kernel_rfl] at HO
  have hl2 : decide (left < 0) = true := decide_eq_true hl
  go_enter Tryd.func16, Tryd.ntmps16
  go_wp2_with (go_at_call 22; ((with_reducible refine (HO.out _).mono ?_); rintro e w1 ⟨rfl, b1⟩); have B1 := ((Below.refl w.heap.size w).alloc (Nat.le_refl _) (.cells #[.int .u16 6, .int .u8 jt, .int .u8 jf, .int .u32 k] 35)).trans (b1.mono (by simp)); have z1 : w.heap.size < w1.heap.size := (by have h := b1.size; rw [World.size_alloc] at h; omega); have s0 := box_cells b1 0 (.int .u16 6) rfl; have s1 := box_cells b1 1 (.int .u8 jt) rfl; have s2 := box_cells b1 2 (.int .u8 jf) rfl; have s3 := box_cells b1 3 (.int .u32 k) rfl)
  go_ret
  exact ⟨rfl, B1.alloc B1.size _⟩
set_option maxRecDepth 100000 in
set_option maxHeartbeats 4000000 in
theorem one_6_okp (jt jf k left : Int) (w : World) (hl : 0 ≤ left)  : OneTo 6 jt jf k left (0) w := by
  have HO := Lib.hid (fun W => refOf_any 6 W)
  rw [show ofL allL 6 = ⟨6, ⟨#[114, 101, 116]⟩, 5⟩ by kernel_rfl] at HO
  have hl2 : decide (left < 0) = false := decide_eq_false (by omega)
  go_enter Tryd.func16, Tryd.ntmps16
  go_wp2_with (go_at_call 22; ((with_reducible refine (HO.out _).mono ?_); rintro e w1 ⟨rfl, b1⟩); have B1 := ((Below.refl w.heap.size w).alloc (Nat.le_refl _) (.cells #[.int .u16 6, .int .u8 jt, .int .u8 jf, .int .u32 k] 35)).trans (b1.mono (by simp)); have z1 : w.heap.size < w1.heap.size := (by have h := b1.size; rw [World.size_alloc] at h; omega); have s0 := box_cells b1 0 (.int .u16 6) rfl; have s1 := box_cells b1 1 (.int .u8 jt) rfl; have s2 := box_cells b1 2 (.int .u8 jf) rfl; have s3 := box_cells b1 3 (.int .u32 k) rfl)
  go_ret
  exact ⟨rfl, B1.alloc B1.size _⟩
set_option maxRecDepth 100000 in
set_option maxHeartbeats 4000000 in
theorem one_22_okn (jt jf k left : Int) (w : World) (hl : left < 0)  : OneTo 22 jt jf k left (0) w := by
  have HO := Lib.hid (fun W => refOf_any 22 W)
  rw [show ofL allL 22 = ⟨22, ⟨#[114, 101, 116, 97]⟩, 5⟩ by kernel_rfl] at HO
  have hl2 : decide (left < 0) = true := decide_eq_true hl
  go_enter Tryd.func16, Tryd.ntmps16
  go_wp2_with (go_at_call 22; ((with_reducible refine (HO.out _).mono ?_); rintro e w1 ⟨rfl, b1⟩); have B1 := ((Below.refl w.heap.size w).alloc (Nat.le_refl _) (.cells #[.int .u16 22, .int .u8 jt, .int .u8 jf, .int .u32 k] 35)).trans (b1.mono (by simp)); have z1 : w.heap.size < w1.heap.size := (by have h := b1.size; rw [World.size_alloc] at h; omega); have s0 := box_cells b1 0 (.int .u16 22) rfl; have s1 := box_cells b1 1 (.int .u8 jt) rfl; have s2 := box_cells b1 2 (.int .u8 jf) rfl; have s3 := box_cells b1 3 (.int .u32 k) rfl)
  go_ret
  exact ⟨rfl, B1.alloc B1.size _⟩
set_option maxRecDepth 100000 in
set_option maxHeartbeats 4000000 in
theorem one_22_okp (jt jf k left : Int) (w : World) (hl : 0 ≤ left)  : OneTo 22 jt jf k left (0) w := by
  have HO := Lib.hid (fun W => refOf_any 22 W)
  rw [show ofL allL 22 = ⟨22, ⟨#[114, 101, 116, 97]⟩, 5⟩ by kernel_rfl] at HO
  have hl2 : decide (left < 0) = false := decide_eq_false (by omega)
  go_enter Tryd.func16, Tryd.ntmps16
  go_wp2_with (go_at_call 22; ((with_reducible refine (HO.out _).mono ?_); rintro e w1 ⟨rfl, b1⟩); have B1 := ((Below.refl w.heap.size w).alloc (Nat.le_refl _) (.cells #[.int .u16 22, .int .u8 jt, .int .u8 jf, .int .u32 k] 35)).trans (b1.mono (by simp)); have z1 : w.heap.size < w1.heap.size := (by have h := b1.size; rw [World.size_alloc] at h; omega); have s0 := box_cells b1 0 (.int .u16 22) rfl; have s1 := box_cells b1 1 (.int .u8 jt) rfl; have s2 := box_cells b1 2 (.int .u8 jf) rfl; have s3 := box_cells b1 3 (.int .u32 k) rfl)
  go_ret
  exact ⟨rfl, B1.alloc B1.size _⟩
set_option maxRecDepth 100000 in
set_option maxHeartbeats 4000000 in
theorem one_7_okn (jt jf k left : Int) (w : World) (hl : left < 0)  : OneTo 7 jt jf k left (0) w := by
  have HO := Lib.hid (fun W => refOf_any 7 W)
  rw [show ofL allL 7 = ⟨7, ⟨#[116, 97, 120]⟩, 6⟩ by kernel_rfl] at HO
  have hl2 : decide (left < 0) = true := decide_eq_true hl
  go_enter Tryd.func16, Tryd.ntmps16
  go_wp2_with (go_at_call 22; ((with_reducible refine (HO.out _).mono ?_); rintro e w1 ⟨rfl, b1⟩); have B1 := ((Below.refl w.heap.size w).alloc (Nat.le_refl _) (.cells #[.int .u16 7, .int .u8 jt, .int .u8 jf, .int .u32 k] 35)).trans (b1.mono (by simp)); have z1 : w.heap.size < w1.heap.size := (by have h := b1.size; rw [World.size_alloc] at h; omega); have s0 := box_cells b1 0 (.int .u16 7) rfl; have s1 := box_cells b1 1 (.int .u8 jt) rfl; have s2 := box_cells b1 2 (.int .u8 jf) rfl; have s3 := box_cells b1 3 (.int .u32 k) rfl)
  go_ret
  exact ⟨rfl, B1.alloc B1.size _⟩
set_option maxRecDepth 100000 in
set_option maxHeartbeats 4000000 in
theorem one_7_okp (jt jf k left : Int) (w : World) (hl : 0 ≤ left)  : OneTo 7 jt jf k left (0) w := by
  have HO := Lib.hid (fun W => refOf_any 7 W)
  rw [show ofL allL 7 = ⟨7, ⟨#[116, 97, 120]⟩, 6⟩ by kernel_rfl] at HO
  have hl2 : decide (left < 0) = false := decide_eq_false (by omega)
  go_enter Tryd.func16, Tryd.ntmps16
  go_wp2_with (go_at_call 22; ((with_reducible refine (HO.out _).mono ?_); rintro e w1 ⟨rfl, b1⟩); have B1 := ((Below.refl w.heap.size w).alloc (Nat.le_refl _) (.cells #[.int .u16 7, .int .u8 jt, .int .u8 jf, .int .u32 k] 35)).trans (b1.mono (by simp)); have z1 : w.heap.size < w1.heap.size := (by have h := b1.size; rw [World.size_alloc] at h; omega); have s0 := box_cells b1 0 (.int .u16 7) rfl; have s1 := box_cells b1 1 (.int .u8 jt) rfl; have s2 := box_cells b1 2 (.int .u8 jf) rfl; have s3 := box_cells b1 3 (.int .u32 k) rfl)
  go_ret
  exact ⟨rfl, B1.alloc B1.size _⟩
set_option maxRecDepth 100000 in
set_option maxHeartbeats 4000000 in
theorem one_135_okn (jt jf k left : Int) (w : World) (hl : left < 0)  : OneTo 135 jt jf k left (0) w := by
  have HO := Lib.hid (fun W => refOf_any 135 W)
  rw [show ofL allL 135 = ⟨135, ⟨#[116, 120, 97]⟩, 6⟩ by kernel_rfl] at HO
  have hl2 : decide (left < 0) = true := decide_eq_true hl
  go_enter Tryd.func16, Tryd.ntmps16
  go_wp2_with (go_at_call 22; ((with_reducible refine (HO.out _).mono ?_); rintro e w1 ⟨rfl, b1⟩); have B1 := ((Below.refl w.heap.size w).alloc (Nat.le_refl _) (.cells #[.int .u16 135, .int .u8 jt, .int .u8 jf, .int .u32 k] 35)).trans (b1.mono (by simp)); have z1 : w.heap.size < w1.heap.size := (by have h := b1.size; rw [World.size_alloc] at h; omega); have s0 := box_cells b1 0 (.int .u16 135) rfl; have s1 := box_cells b1 1 (.int .u8 jt) rfl; have s2 := box_cells b1 2 (.int .u8 jf) rfl; have s3 := box_cells b1 3 (.int .u32 k) rfl)
  go_ret
  exact ⟨rfl, B1.alloc B1.size _⟩
set_option maxRecDepth 100000 in
set_option maxHeartbeats 4000000 in
theorem one_135_okp (jt jf k left : Int) (w : World) (hl : 0 ≤ left)  : OneTo 135 jt jf k left (0) w := by
  have HO := Lib.hid (fun W => refOf_any 135 W)
  rw [show ofL allL 135 = ⟨135, ⟨#[116, 120, 97]⟩, 6⟩ by kernel_rfl] at HO
  have hl2 : decide (left < 0) = false := decide_eq_false (by omega)
  go_enter Tryd.func16, Tryd.ntmps16
  go_wp2_with (go_at_call 22; ((with_reducible refine (HO.out _).mono ?_); rintro e w1 ⟨rfl, b1⟩); have B1 := ((Below.refl w.heap.size w).alloc (Nat.le_refl _) (.cells #[.int .u16 135, .int .u8 jt, .int .u8 jf, .int .u32 k] 35)).trans (b1.mono (by simp)); have z1 : w.heap.size < w1.heap.size := (by have h := b1.size; rw [World.size_alloc] at h; omega); have s0 := box_cells b1 0 (.int .u16 135) rfl; have s1 := box_cells b1 1 (.int .u8 jt) rfl; have s2 := box_cells b1 2 (.int .u8 jf) rfl; have s3 := box_cells b1 3 (.int .u32 k) rfl)
  go_ret
  exact ⟨rfl, B1.alloc B1.size _⟩
end Go.Proofs.YtohfampfnhfnlaaDoor
