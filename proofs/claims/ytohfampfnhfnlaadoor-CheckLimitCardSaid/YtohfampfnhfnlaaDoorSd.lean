/- What the document's own One says of an instruction: code by code. Condition: numbers of their kinds. -/
import Derived.Test.YtohfampfnhfnlaaDoorSc
namespace Go.Proofs.YtohfampfnhfnlaaDoor
open Go.RowKit
set_option linter.unusedVariables false
attribute [local go_sem ↓] Go.wp_at_zero Go.wp_at_succ

set_option maxRecDepth 100000 in
set_option maxHeartbeats 4000000 in
theorem one_32_okn (jt jf k left : Int) (w : World) (hl : left < 0) (y0 : ¬ (60 : Int) < k) (y1 : k % 4 = 0) (y2 : 0 ≤ k) (y3 : k < 4294967296) : OneTo 32 jt jf k left (0) w := by
  have HO := Lib.hid (fun W => refOf_any 32 W)
  rw [show ofL allL 32 = ⟨32, ⟨#[108, 100, 97, 98, 115]⟩, 1⟩ by kernel_rfl] at HO
  have hl2 : decide (left < 0) = true := decide_eq_true hl
  go_enter Tryd.func16, Tryd.ntmps16
  go_wp2_with (go_at_call 22; ((with_reducible refine (HO.out _).mono ?_); rintro e w1 ⟨rfl, b1⟩); have B1 := ((Below.refl w.heap.size w).alloc (Nat.le_refl _) (.cells #[.int .u16 32, .int .u8 jt, .int .u8 jf, .int .u32 k] 35)).trans (b1.mono (by simp)); have z1 : w.heap.size < w1.heap.size := (by have h := b1.size; rw [World.size_alloc] at h; omega); have s0 := box_cells b1 0 (.int .u16 32) rfl; have s1 := box_cells b1 1 (.int .u8 jt) rfl; have s2 := box_cells b1 2 (.int .u8 jf) rfl; have s3 := box_cells b1 3 (.int .u32 k) rfl)
  go_ret
  exact ⟨rfl, B1.alloc B1.size _⟩
set_option maxRecDepth 100000 in
set_option maxHeartbeats 4000000 in
theorem one_32_okp (jt jf k left : Int) (w : World) (hl : 0 ≤ left) (y0 : ¬ (60 : Int) < k) (y1 : k % 4 = 0) (y2 : 0 ≤ k) (y3 : k < 4294967296) : OneTo 32 jt jf k left (0) w := by
  have HO := Lib.hid (fun W => refOf_any 32 W)
  rw [show ofL allL 32 = ⟨32, ⟨#[108, 100, 97, 98, 115]⟩, 1⟩ by kernel_rfl] at HO
  have hl2 : decide (left < 0) = false := decide_eq_false (by omega)
  go_enter Tryd.func16, Tryd.ntmps16
  go_wp2_with (go_at_call 22; ((with_reducible refine (HO.out _).mono ?_); rintro e w1 ⟨rfl, b1⟩); have B1 := ((Below.refl w.heap.size w).alloc (Nat.le_refl _) (.cells #[.int .u16 32, .int .u8 jt, .int .u8 jf, .int .u32 k] 35)).trans (b1.mono (by simp)); have z1 : w.heap.size < w1.heap.size := (by have h := b1.size; rw [World.size_alloc] at h; omega); have s0 := box_cells b1 0 (.int .u16 32) rfl; have s1 := box_cells b1 1 (.int .u8 jt) rfl; have s2 := box_cells b1 2 (.int .u8 jf) rfl; have s3 := box_cells b1 3 (.int .u32 k) rfl)
  go_ret
  exact ⟨rfl, B1.alloc B1.size _⟩
set_option maxRecDepth 100000 in
set_option maxHeartbeats 4000000 in
theorem one_32_bign (jt jf k left : Int) (w : World) (hl : left < 0) (y0 : (60 : Int) < k) : OneTo 32 jt jf k left (41) w := by
  have HO := Lib.hid (fun W => refOf_any 32 W)
  rw [show ofL allL 32 = ⟨32, ⟨#[108, 100, 97, 98, 115]⟩, 1⟩ by kernel_rfl] at HO
  have hl2 : decide (left < 0) = true := decide_eq_true hl
  go_enter Tryd.func16, Tryd.ntmps16
  go_wp2_with (go_at_call 22; ((with_reducible refine (HO.out _).mono ?_); rintro e w1 ⟨rfl, b1⟩); have B1 := ((Below.refl w.heap.size w).alloc (Nat.le_refl _) (.cells #[.int .u16 32, .int .u8 jt, .int .u8 jf, .int .u32 k] 35)).trans (b1.mono (by simp)); have z1 : w.heap.size < w1.heap.size := (by have h := b1.size; rw [World.size_alloc] at h; omega); have s0 := box_cells b1 0 (.int .u16 32) rfl; have s1 := box_cells b1 1 (.int .u8 jt) rfl; have s2 := box_cells b1 2 (.int .u8 jf) rfl; have s3 := box_cells b1 3 (.int .u32 k) rfl)
  go_ret
  exact ⟨rfl, B1.alloc B1.size _⟩
set_option maxRecDepth 100000 in
set_option maxHeartbeats 4000000 in
theorem one_32_bigp (jt jf k left : Int) (w : World) (hl : 0 ≤ left) (y0 : (60 : Int) < k) : OneTo 32 jt jf k left (41) w := by
  have HO := Lib.hid (fun W => refOf_any 32 W)
  rw [show ofL allL 32 = ⟨32, ⟨#[108, 100, 97, 98, 115]⟩, 1⟩ by kernel_rfl] at HO
  have hl2 : decide (left < 0) = false := decide_eq_false (by omega)
  go_enter Tryd.func16, Tryd.ntmps16
  go_wp2_with (go_at_call 22; ((with_reducible refine (HO.out _).mono ?_); rintro e w1 ⟨rfl, b1⟩); have B1 := ((Below.refl w.heap.size w).alloc (Nat.le_refl _) (.cells #[.int .u16 32, .int .u8 jt, .int .u8 jf, .int .u32 k] 35)).trans (b1.mono (by simp)); have z1 : w.heap.size < w1.heap.size := (by have h := b1.size; rw [World.size_alloc] at h; omega); have s0 := box_cells b1 0 (.int .u16 32) rfl; have s1 := box_cells b1 1 (.int .u8 jt) rfl; have s2 := box_cells b1 2 (.int .u8 jf) rfl; have s3 := box_cells b1 3 (.int .u32 k) rfl)
  go_ret
  exact ⟨rfl, B1.alloc B1.size _⟩
set_option maxRecDepth 100000 in
set_option maxHeartbeats 4000000 in
theorem one_32_oddn (jt jf k left : Int) (w : World) (hl : left < 0) (y0 : ¬ (60 : Int) < k) (y1 : ¬ k % 4 = 0) (y2 : 0 ≤ k) (y3 : k < 4294967296) : OneTo 32 jt jf k left (41) w := by
  have HO := Lib.hid (fun W => refOf_any 32 W)
  rw [show ofL allL 32 = ⟨32, ⟨#[108, 100, 97, 98, 115]⟩, 1⟩ by kernel_rfl] at HO
  have hl2 : decide (left < 0) = true := decide_eq_true hl
  go_enter Tryd.func16, Tryd.ntmps16
  go_wp2_with (go_at_call 22; ((with_reducible refine (HO.out _).mono ?_); rintro e w1 ⟨rfl, b1⟩); have B1 := ((Below.refl w.heap.size w).alloc (Nat.le_refl _) (.cells #[.int .u16 32, .int .u8 jt, .int .u8 jf, .int .u32 k] 35)).trans (b1.mono (by simp)); have z1 : w.heap.size < w1.heap.size := (by have h := b1.size; rw [World.size_alloc] at h; omega); have s0 := box_cells b1 0 (.int .u16 32) rfl; have s1 := box_cells b1 1 (.int .u8 jt) rfl; have s2 := box_cells b1 2 (.int .u8 jf) rfl; have s3 := box_cells b1 3 (.int .u32 k) rfl)
  go_ret
  exact ⟨rfl, B1.alloc B1.size _⟩
set_option maxRecDepth 100000 in
set_option maxHeartbeats 4000000 in
theorem one_32_oddp (jt jf k left : Int) (w : World) (hl : 0 ≤ left) (y0 : ¬ (60 : Int) < k) (y1 : ¬ k % 4 = 0) (y2 : 0 ≤ k) (y3 : k < 4294967296) : OneTo 32 jt jf k left (41) w := by
  have HO := Lib.hid (fun W => refOf_any 32 W)
  rw [show ofL allL 32 = ⟨32, ⟨#[108, 100, 97, 98, 115]⟩, 1⟩ by kernel_rfl] at HO
  have hl2 : decide (left < 0) = false := decide_eq_false (by omega)
  go_enter Tryd.func16, Tryd.ntmps16
  go_wp2_with (go_at_call 22; ((with_reducible refine (HO.out _).mono ?_); rintro e w1 ⟨rfl, b1⟩); have B1 := ((Below.refl w.heap.size w).alloc (Nat.le_refl _) (.cells #[.int .u16 32, .int .u8 jt, .int .u8 jf, .int .u32 k] 35)).trans (b1.mono (by simp)); have z1 : w.heap.size < w1.heap.size := (by have h := b1.size; rw [World.size_alloc] at h; omega); have s0 := box_cells b1 0 (.int .u16 32) rfl; have s1 := box_cells b1 1 (.int .u8 jt) rfl; have s2 := box_cells b1 2 (.int .u8 jf) rfl; have s3 := box_cells b1 3 (.int .u32 k) rfl)
  go_ret
  exact ⟨rfl, B1.alloc B1.size _⟩
set_option maxRecDepth 100000 in
set_option maxHeartbeats 4000000 in
theorem one_96_okn (jt jf k left : Int) (w : World) (hl : left < 0) (y0 : ¬ (15 : Int) < k) : OneTo 96 jt jf k left (0) w := by
  have HO := Lib.hid (fun W => refOf_any 96 W)
  rw [show ofL allL 96 = ⟨96, ⟨#[108, 100, 109]⟩, 1⟩ by kernel_rfl] at HO
  have hl2 : decide (left < 0) = true := decide_eq_true hl
  go_enter Tryd.func16, Tryd.ntmps16
  go_wp2_with (go_at_call 22; ((with_reducible refine (HO.out _).mono ?_); rintro e w1 ⟨rfl, b1⟩); have B1 := ((Below.refl w.heap.size w).alloc (Nat.le_refl _) (.cells #[.int .u16 96, .int .u8 jt, .int .u8 jf, .int .u32 k] 35)).trans (b1.mono (by simp)); have z1 : w.heap.size < w1.heap.size := (by have h := b1.size; rw [World.size_alloc] at h; omega); have s0 := box_cells b1 0 (.int .u16 96) rfl; have s1 := box_cells b1 1 (.int .u8 jt) rfl; have s2 := box_cells b1 2 (.int .u8 jf) rfl; have s3 := box_cells b1 3 (.int .u32 k) rfl)
  go_ret
  exact ⟨rfl, B1.alloc B1.size _⟩
set_option maxRecDepth 100000 in
set_option maxHeartbeats 4000000 in
theorem one_96_okp (jt jf k left : Int) (w : World) (hl : 0 ≤ left) (y0 : ¬ (15 : Int) < k) : OneTo 96 jt jf k left (0) w := by
  have HO := Lib.hid (fun W => refOf_any 96 W)
  rw [show ofL allL 96 = ⟨96, ⟨#[108, 100, 109]⟩, 1⟩ by kernel_rfl] at HO
  have hl2 : decide (left < 0) = false := decide_eq_false (by omega)
  go_enter Tryd.func16, Tryd.ntmps16
  go_wp2_with (go_at_call 22; ((with_reducible refine (HO.out _).mono ?_); rintro e w1 ⟨rfl, b1⟩); have B1 := ((Below.refl w.heap.size w).alloc (Nat.le_refl _) (.cells #[.int .u16 96, .int .u8 jt, .int .u8 jf, .int .u32 k] 35)).trans (b1.mono (by simp)); have z1 : w.heap.size < w1.heap.size := (by have h := b1.size; rw [World.size_alloc] at h; omega); have s0 := box_cells b1 0 (.int .u16 96) rfl; have s1 := box_cells b1 1 (.int .u8 jt) rfl; have s2 := box_cells b1 2 (.int .u8 jf) rfl; have s3 := box_cells b1 3 (.int .u32 k) rfl)
  go_ret
  exact ⟨rfl, B1.alloc B1.size _⟩
set_option maxRecDepth 100000 in
set_option maxHeartbeats 4000000 in
theorem one_96_badn (jt jf k left : Int) (w : World) (hl : left < 0) (y0 : (15 : Int) < k) : OneTo 96 jt jf k left (43) w := by
  have HO := Lib.hid (fun W => refOf_any 96 W)
  rw [show ofL allL 96 = ⟨96, ⟨#[108, 100, 109]⟩, 1⟩ by kernel_rfl] at HO
  have hl2 : decide (left < 0) = true := decide_eq_true hl
  go_enter Tryd.func16, Tryd.ntmps16
  go_wp2_with (go_at_call 22; ((with_reducible refine (HO.out _).mono ?_); rintro e w1 ⟨rfl, b1⟩); have B1 := ((Below.refl w.heap.size w).alloc (Nat.le_refl _) (.cells #[.int .u16 96, .int .u8 jt, .int .u8 jf, .int .u32 k] 35)).trans (b1.mono (by simp)); have z1 : w.heap.size < w1.heap.size := (by have h := b1.size; rw [World.size_alloc] at h; omega); have s0 := box_cells b1 0 (.int .u16 96) rfl; have s1 := box_cells b1 1 (.int .u8 jt) rfl; have s2 := box_cells b1 2 (.int .u8 jf) rfl; have s3 := box_cells b1 3 (.int .u32 k) rfl)
  go_ret
  exact ⟨rfl, B1.alloc B1.size _⟩
set_option maxRecDepth 100000 in
set_option maxHeartbeats 4000000 in
theorem one_96_badp (jt jf k left : Int) (w : World) (hl : 0 ≤ left) (y0 : (15 : Int) < k) : OneTo 96 jt jf k left (43) w := by
  have HO := Lib.hid (fun W => refOf_any 96 W)
  rw [show ofL allL 96 = ⟨96, ⟨#[108, 100, 109]⟩, 1⟩ by kernel_rfl] at HO
  have hl2 : decide (left < 0) = false := decide_eq_false (by omega)
  go_enter Tryd.func16, Tryd.ntmps16
  go_wp2_with (go_at_call 22; ((with_reducible refine (HO.out _).mono ?_); rintro e w1 ⟨rfl, b1⟩); have B1 := ((Below.refl w.heap.size w).alloc (Nat.le_refl _) (.cells #[.int .u16 96, .int .u8 jt, .int .u8 jf, .int .u32 k] 35)).trans (b1.mono (by simp)); have z1 : w.heap.size < w1.heap.size := (by have h := b1.size; rw [World.size_alloc] at h; omega); have s0 := box_cells b1 0 (.int .u16 96) rfl; have s1 := box_cells b1 1 (.int .u8 jt) rfl; have s2 := box_cells b1 2 (.int .u8 jf) rfl; have s3 := box_cells b1 3 (.int .u32 k) rfl)
  go_ret
  exact ⟨rfl, B1.alloc B1.size _⟩
set_option maxRecDepth 100000 in
set_option maxHeartbeats 4000000 in
theorem one_97_okn (jt jf k left : Int) (w : World) (hl : left < 0) (y0 : ¬ (15 : Int) < k) : OneTo 97 jt jf k left (0) w := by
  have HO := Lib.hid (fun W => refOf_any 97 W)
  rw [show ofL allL 97 = ⟨97, ⟨#[108, 100, 120, 109]⟩, 1⟩ by kernel_rfl] at HO
  have hl2 : decide (left < 0) = true := decide_eq_true hl
  go_enter Tryd.func16, Tryd.ntmps16
  go_wp2_with (go_at_call 22; ((with_reducible refine (HO.out _).mono ?_); rintro e w1 ⟨rfl, b1⟩); have B1 := ((Below.refl w.heap.size w).alloc (Nat.le_refl _) (.cells #[.int .u16 97, .int .u8 jt, .int .u8 jf, .int .u32 k] 35)).trans (b1.mono (by simp)); have z1 : w.heap.size < w1.heap.size := (by have h := b1.size; rw [World.size_alloc] at h; omega); have s0 := box_cells b1 0 (.int .u16 97) rfl; have s1 := box_cells b1 1 (.int .u8 jt) rfl; have s2 := box_cells b1 2 (.int .u8 jf) rfl; have s3 := box_cells b1 3 (.int .u32 k) rfl)
  go_ret
  exact ⟨rfl, B1.alloc B1.size _⟩
set_option maxRecDepth 100000 in
set_option maxHeartbeats 4000000 in
theorem one_97_okp (jt jf k left : Int) (w : World) (hl : 0 ≤ left) (y0 : ¬ (15 : Int) < k) : OneTo 97 jt jf k left (0) w := by
  have HO := Lib.hid (fun W => refOf_any 97 W)
  rw [show ofL allL 97 = ⟨97, ⟨#[108, 100, 120, 109]⟩, 1⟩ by kernel_rfl] at HO
  have hl2 : decide (left < 0) = false := decide_eq_false (by omega)
  go_enter Tryd.func16, Tryd.ntmps16
  go_wp2_with (go_at_call 22; ((with_reducible refine (HO.out _).mono ?_); rintro e w1 ⟨rfl, b1⟩); have B1 := ((Below.refl w.heap.size w).alloc (Nat.le_refl _) (.cells #[.int .u16 97, .int .u8 jt, .int .u8 jf, .int .u32 k] 35)).trans (b1.mono (by simp)); have z1 : w.heap.size < w1.heap.size := (by have h := b1.size; rw [World.size_alloc] at h; omega); have s0 := box_cells b1 0 (.int .u16 97) rfl; have s1 := box_cells b1 1 (.int .u8 jt) rfl; have s2 := box_cells b1 2 (.int .u8 jf) rfl; have s3 := box_cells b1 3 (.int .u32 k) rfl)
  go_ret
  exact ⟨rfl, B1.alloc B1.size _⟩
set_option maxRecDepth 100000 in
set_option maxHeartbeats 4000000 in
theorem one_97_badn (jt jf k left : Int) (w : World) (hl : left < 0) (y0 : (15 : Int) < k) : OneTo 97 jt jf k left (43) w := by
  have HO := Lib.hid (fun W => refOf_any 97 W)
  rw [show ofL allL 97 = ⟨97, ⟨#[108, 100, 120, 109]⟩, 1⟩ by kernel_rfl] at HO
  have hl2 : decide (left < 0) = true := decide_eq_true hl
  go_enter Tryd.func16, Tryd.ntmps16
  go_wp2_with (go_at_call 22; ((with_reducible refine (HO.out _).mono ?_); rintro e w1 ⟨rfl, b1⟩); have B1 := ((Below.refl w.heap.size w).alloc (Nat.le_refl _) (.cells #[.int .u16 97, .int .u8 jt, .int .u8 jf, .int .u32 k] 35)).trans (b1.mono (by simp)); have z1 : w.heap.size < w1.heap.size := (by have h := b1.size; rw [World.size_alloc] at h; omega); have s0 := box_cells b1 0 (.int .u16 97) rfl; have s1 := box_cells b1 1 (.int .u8 jt) rfl; have s2 := box_cells b1 2 (.int .u8 jf) rfl; have s3 := box_cells b1 3 (.int .u32 k) rfl)
  go_ret
  exact ⟨rfl, B1.alloc B1.size _⟩
set_option maxRecDepth 100000 in
set_option maxHeartbeats 4000000 in
theorem one_97_badp (jt jf k left : Int) (w : World) (hl : 0 ≤ left) (y0 : (15 : Int) < k) : OneTo 97 jt jf k left (43) w := by
  have HO := Lib.hid (fun W => refOf_any 97 W)
  rw [show ofL allL 97 = ⟨97, ⟨#[108, 100, 120, 109]⟩, 1⟩ by kernel_rfl] at HO
  have hl2 : decide (left < 0) = false := decide_eq_false (by omega)
  go_enter Tryd.func16, Tryd.ntmps16
  go_wp2_with (go_at_call 22; ((with_reducible refine (HO.out _).mono ?_); rintro e w1 ⟨rfl, b1⟩); have B1 := ((Below.refl w.heap.size w).alloc (Nat.le_refl _) (.cells #[.int .u16 97, .int .u8 jt, .int .u8 jf, .int .u32 k] 35)).trans (b1.mono (by simp)); have z1 : w.heap.size < w1.heap.size := (by have h := b1.size; rw [World.size_alloc] at h; omega); have s0 := box_cells b1 0 (.int .u16 97) rfl; have s1 := box_cells b1 1 (.int .u8 jt) rfl; have s2 := box_cells b1 2 (.int .u8 jf) rfl; have s3 := box_cells b1 3 (.int .u32 k) rfl)
  go_ret
  exact ⟨rfl, B1.alloc B1.size _⟩
set_option maxRecDepth 100000 in
set_option maxHeartbeats 4000000 in
theorem one_2_okn (jt jf k left : Int) (w : World) (hl : left < 0) (y0 : ¬ (15 : Int) < k) : OneTo 2 jt jf k left (0) w := by
  have HO := Lib.hid (fun W => refOf_any 2 W)
  rw [show ofL allL 2 = ⟨2, ⟨#[115, 116]⟩, 2⟩ by kernel_rfl] at HO
  have hl2 : decide (left < 0) = true := decide_eq_true hl
  go_enter Tryd.func16, Tryd.ntmps16
  go_wp2_with (go_at_call 22; ((with_reducible refine (HO.out _).mono ?_); rintro e w1 ⟨rfl, b1⟩); have B1 := ((Below.refl w.heap.size w).alloc (Nat.le_refl _) (.cells #[.int .u16 2, .int .u8 jt, .int .u8 jf, .int .u32 k] 35)).trans (b1.mono (by simp)); have z1 : w.heap.size < w1.heap.size := (by have h := b1.size; rw [World.size_alloc] at h; omega); have s0 := box_cells b1 0 (.int .u16 2) rfl; have s1 := box_cells b1 1 (.int .u8 jt) rfl; have s2 := box_cells b1 2 (.int .u8 jf) rfl; have s3 := box_cells b1 3 (.int .u32 k) rfl)
  go_ret
  exact ⟨rfl, B1.alloc B1.size _⟩
set_option maxRecDepth 100000 in
set_option maxHeartbeats 4000000 in
theorem one_2_okp (jt jf k left : Int) (w : World) (hl : 0 ≤ left) (y0 : ¬ (15 : Int) < k) : OneTo 2 jt jf k left (0) w := by
  have HO := Lib.hid (fun W => refOf_any 2 W)
  rw [show ofL allL 2 = ⟨2, ⟨#[115, 116]⟩, 2⟩ by kernel_rfl] at HO
  have hl2 : decide (left < 0) = false := decide_eq_false (by omega)
  go_enter Tryd.func16, Tryd.ntmps16
  go_wp2_with (go_at_call 22; ((with_reducible refine (HO.out _).mono ?_); rintro e w1 ⟨rfl, b1⟩); have B1 := ((Below.refl w.heap.size w).alloc (Nat.le_refl _) (.cells #[.int .u16 2, .int .u8 jt, .int .u8 jf, .int .u32 k] 35)).trans (b1.mono (by simp)); have z1 : w.heap.size < w1.heap.size := (by have h := b1.size; rw [World.size_alloc] at h; omega); have s0 := box_cells b1 0 (.int .u16 2) rfl; have s1 := box_cells b1 1 (.int .u8 jt) rfl; have s2 := box_cells b1 2 (.int .u8 jf) rfl; have s3 := box_cells b1 3 (.int .u32 k) rfl)
  go_ret
  exact ⟨rfl, B1.alloc B1.size _⟩
set_option maxRecDepth 100000 in
set_option maxHeartbeats 4000000 in
theorem one_2_badn (jt jf k left : Int) (w : World) (hl : left < 0) (y0 : (15 : Int) < k) : OneTo 2 jt jf k left (43) w := by
  have HO := Lib.hid (fun W => refOf_any 2 W)
  rw [show ofL allL 2 = ⟨2, ⟨#[115, 116]⟩, 2⟩ by kernel_rfl] at HO
  have hl2 : decide (left < 0) = true := decide_eq_true hl
  go_enter Tryd.func16, Tryd.ntmps16
  go_wp2_with (go_at_call 22; ((with_reducible refine (HO.out _).mono ?_); rintro e w1 ⟨rfl, b1⟩); have B1 := ((Below.refl w.heap.size w).alloc (Nat.le_refl _) (.cells #[.int .u16 2, .int .u8 jt, .int .u8 jf, .int .u32 k] 35)).trans (b1.mono (by simp)); have z1 : w.heap.size < w1.heap.size := (by have h := b1.size; rw [World.size_alloc] at h; omega); have s0 := box_cells b1 0 (.int .u16 2) rfl; have s1 := box_cells b1 1 (.int .u8 jt) rfl; have s2 := box_cells b1 2 (.int .u8 jf) rfl; have s3 := box_cells b1 3 (.int .u32 k) rfl)
  go_ret
  exact ⟨rfl, B1.alloc B1.size _⟩
set_option maxRecDepth 100000 in
set_option maxHeartbeats 4000000 in
theorem one_2_badp (jt jf k left : Int) (w : World) (hl : 0 ≤ left) (y0 : (15 : Int) < k) : OneTo 2 jt jf k left (43) w := by
  have HO := Lib.hid (fun W => refOf_any 2 W)
  rw [show ofL allL 2 = ⟨2, ⟨#[115, 116]⟩, 2⟩ by kernel_rfl] at HO
  have hl2 : decide (left < 0) = false := decide_eq_false (by omega)
  go_enter Tryd.func16, Tryd.ntmps16
  go_wp2_with (go_at_call 22; ((with_reducible refine (HO.out _).mono ?_); rintro e w1 ⟨rfl, b1⟩); have B1 := ((Below.refl w.heap.size w).alloc (Nat.le_refl _) (.cells #[.int .u16 2, .int .u8 jt, .int .u8 jf, .int .u32 k] 35)).trans (b1.mono (by simp)); have z1 : w.heap.size < w1.heap.size := (by have h := b1.size; rw [World.size_alloc] at h; omega); have s0 := box_cells b1 0 (.int .u16 2) rfl; have s1 := box_cells b1 1 (.int .u8 jt) rfl; have s2 := box_cells b1 2 (.int .u8 jf) rfl; have s3 := box_cells b1 3 (.int .u32 k) rfl)
  go_ret
  exact ⟨rfl, B1.alloc B1.size _⟩
set_option maxRecDepth 100000 in
set_option maxHeartbeats 4000000 in
theorem one_3_okn (jt jf k left : Int) (w : World) (hl : left < 0) (y0 : ¬ (15 : Int) < k) : OneTo 3 jt jf k left (0) w := by
  have HO := Lib.hid (fun W => refOf_any 3 W)
  rw [show ofL allL 3 = ⟨3, ⟨#[115, 116, 120]⟩, 2⟩ by kernel_rfl] at HO
  have hl2 : decide (left < 0) = true := decide_eq_true hl
  go_enter Tryd.func16, Tryd.ntmps16
  go_wp2_with (go_at_call 22; ((with_reducible refine (HO.out _).mono ?_); rintro e w1 ⟨rfl, b1⟩); have B1 := ((Below.refl w.heap.size w).alloc (Nat.le_refl _) (.cells #[.int .u16 3, .int .u8 jt, .int .u8 jf, .int .u32 k] 35)).trans (b1.mono (by simp)); have z1 : w.heap.size < w1.heap.size := (by have h := b1.size; rw [World.size_alloc] at h; omega); have s0 := box_cells b1 0 (.int .u16 3) rfl; have s1 := box_cells b1 1 (.int .u8 jt) rfl; have s2 := box_cells b1 2 (.int .u8 jf) rfl; have s3 := box_cells b1 3 (.int .u32 k) rfl)
  go_ret
  exact ⟨rfl, B1.alloc B1.size _⟩
set_option maxRecDepth 100000 in
set_option maxHeartbeats 4000000 in
theorem one_3_okp (jt jf k left : Int) (w : World) (hl : 0 ≤ left) (y0 : ¬ (15 : Int) < k) : OneTo 3 jt jf k left (0) w := by
  have HO := Lib.hid (fun W => refOf_any 3 W)
  rw [show ofL allL 3 = ⟨3, ⟨#[115, 116, 120]⟩, 2⟩ by kernel_rfl] at HO
  have hl2 : decide (left < 0) = false := decide_eq_false (by omega)
  go_enter Tryd.func16, Tryd.ntmps16
  go_wp2_with (go_at_call 22; ((with_reducible refine (HO.out _).mono ?_); rintro e w1 ⟨rfl, b1⟩); have B1 := ((Below.refl w.heap.size w).alloc (Nat.le_refl _) (.cells #[.int .u16 3, .int .u8 jt, .int .u8 jf, .int .u32 k] 35)).trans (b1.mono (by simp)); have z1 : w.heap.size < w1.heap.size := (by have h := b1.size; rw [World.size_alloc] at h; omega); have s0 := box_cells b1 0 (.int .u16 3) rfl; have s1 := box_cells b1 1 (.int .u8 jt) rfl; have s2 := box_cells b1 2 (.int .u8 jf) rfl; have s3 := box_cells b1 3 (.int .u32 k) rfl)
  go_ret
  exact ⟨rfl, B1.alloc B1.size _⟩
set_option maxRecDepth 100000 in
set_option maxHeartbeats 4000000 in
theorem one_3_badn (jt jf k left : Int) (w : World) (hl : left < 0) (y0 : (15 : Int) < k) : OneTo 3 jt jf k left (43) w := by
  have HO := Lib.hid (fun W => refOf_any 3 W)
  rw [show ofL allL 3 = ⟨3, ⟨#[115, 116, 120]⟩, 2⟩ by kernel_rfl] at HO
  have hl2 : decide (left < 0) = true := decide_eq_true hl
  go_enter Tryd.func16, Tryd.ntmps16
  go_wp2_with (go_at_call 22; ((with_reducible refine (HO.out _).mono ?_); rintro e w1 ⟨rfl, b1⟩); have B1 := ((Below.refl w.heap.size w).alloc (Nat.le_refl _) (.cells #[.int .u16 3, .int .u8 jt, .int .u8 jf, .int .u32 k] 35)).trans (b1.mono (by simp)); have z1 : w.heap.size < w1.heap.size := (by have h := b1.size; rw [World.size_alloc] at h; omega); have s0 := box_cells b1 0 (.int .u16 3) rfl; have s1 := box_cells b1 1 (.int .u8 jt) rfl; have s2 := box_cells b1 2 (.int .u8 jf) rfl; have s3 := box_cells b1 3 (.int .u32 k) rfl)
  go_ret
  exact ⟨rfl, B1.alloc B1.size _⟩
set_option maxRecDepth 100000 in
set_option maxHeartbeats 4000000 in
theorem one_3_badp (jt jf k left : Int) (w : World) (hl : 0 ≤ left) (y0 : (15 : Int) < k) : OneTo 3 jt jf k left (43) w := by
  have HO := Lib.hid (fun W => refOf_any 3 W)
  rw [show ofL allL 3 = ⟨3, ⟨#[115, 116, 120]⟩, 2⟩ by kernel_rfl] at HO
  have hl2 : decide (left < 0) = false := decide_eq_false (by omega)
  go_enter Tryd.func16, Tryd.ntmps16
  go_wp2_with (go_at_call 22; ((with_reducible refine (HO.out _).mono ?_); rintro e w1 ⟨rfl, b1⟩); have B1 := ((Below.refl w.heap.size w).alloc (Nat.le_refl _) (.cells #[.int .u16 3, .int .u8 jt, .int .u8 jf, .int .u32 k] 35)).trans (b1.mono (by simp)); have z1 : w.heap.size < w1.heap.size := (by have h := b1.size; rw [World.size_alloc] at h; omega); have s0 := box_cells b1 0 (.int .u16 3) rfl; have s1 := box_cells b1 1 (.int .u8 jt) rfl; have s2 := box_cells b1 2 (.int .u8 jf) rfl; have s3 := box_cells b1 3 (.int .u32 k) rfl)
  go_ret
  exact ⟨rfl, B1.alloc B1.size _⟩
set_option maxRecDepth 100000 in
set_option maxHeartbeats 4000000 in
theorem one_52_okn (jt jf k left : Int) (w : World) (hl : left < 0) (y0 : (k == 0) = false) (y1 : ¬ k = 0) : OneTo 52 jt jf k left (0) w := by
  have HO := Lib.hid (fun W => refOf_any 52 W)
  rw [show ofL allL 52 = ⟨52, ⟨#[100, 105, 118]⟩, 3⟩ by kernel_rfl] at HO
  have hl2 : decide (left < 0) = true := decide_eq_true hl
  go_enter Tryd.func16, Tryd.ntmps16
  go_wp2_with (go_at_call 22; ((with_reducible refine (HO.out _).mono ?_); rintro e w1 ⟨rfl, b1⟩); have B1 := ((Below.refl w.heap.size w).alloc (Nat.le_refl _) (.cells #[.int .u16 52, .int .u8 jt, .int .u8 jf, .int .u32 k] 35)).trans (b1.mono (by simp)); have z1 : w.heap.size < w1.heap.size := (by have h := b1.size; rw [World.size_alloc] at h; omega); have s0 := box_cells b1 0 (.int .u16 52) rfl; have s1 := box_cells b1 1 (.int .u8 jt) rfl; have s2 := box_cells b1 2 (.int .u8 jf) rfl; have s3 := box_cells b1 3 (.int .u32 k) rfl)
  go_ret
  exact ⟨rfl, B1.alloc B1.size _⟩
set_option maxRecDepth 100000 in
set_option maxHeartbeats 4000000 in
theorem one_52_okp (jt jf k left : Int) (w : World) (hl : 0 ≤ left) (y0 : (k == 0) = false) (y1 : ¬ k = 0) : OneTo 52 jt jf k left (0) w := by
  have HO := Lib.hid (fun W => refOf_any 52 W)
  rw [show ofL allL 52 = ⟨52, ⟨#[100, 105, 118]⟩, 3⟩ by kernel_rfl] at HO
  have hl2 : decide (left < 0) = false := decide_eq_false (by omega)
  go_enter Tryd.func16, Tryd.ntmps16
  go_wp2_with (go_at_call 22; ((with_reducible refine (HO.out _).mono ?_); rintro e w1 ⟨rfl, b1⟩); have B1 := ((Below.refl w.heap.size w).alloc (Nat.le_refl _) (.cells #[.int .u16 52, .int .u8 jt, .int .u8 jf, .int .u32 k] 35)).trans (b1.mono (by simp)); have z1 : w.heap.size < w1.heap.size := (by have h := b1.size; rw [World.size_alloc] at h; omega); have s0 := box_cells b1 0 (.int .u16 52) rfl; have s1 := box_cells b1 1 (.int .u8 jt) rfl; have s2 := box_cells b1 2 (.int .u8 jf) rfl; have s3 := box_cells b1 3 (.int .u32 k) rfl)
  go_ret
  exact ⟨rfl, B1.alloc B1.size _⟩
set_option maxRecDepth 100000 in
set_option maxHeartbeats 4000000 in
theorem one_52_badn (jt jf k left : Int) (w : World) (hl : left < 0) (y0 : k = 0) : OneTo 52 jt jf k left (44) w := by
  subst y0
  have HO := Lib.hid (fun W => refOf_any 52 W)
  rw [show ofL allL 52 = ⟨52, ⟨#[100, 105, 118]⟩, 3⟩ by kernel_rfl] at HO
  have hl2 : decide (left < 0) = true := decide_eq_true hl
  go_enter Tryd.func16, Tryd.ntmps16
  go_wp2_with (go_at_call 22; ((with_reducible refine (HO.out _).mono ?_); rintro e w1 ⟨rfl, b1⟩); have B1 := ((Below.refl w.heap.size w).alloc (Nat.le_refl _) (.cells #[.int .u16 52, .int .u8 jt, .int .u8 jf, .int .u32 0] 35)).trans (b1.mono (by simp)); have z1 : w.heap.size < w1.heap.size := (by have h := b1.size; rw [World.size_alloc] at h; omega); have s0 := box_cells b1 0 (.int .u16 52) rfl; have s1 := box_cells b1 1 (.int .u8 jt) rfl; have s2 := box_cells b1 2 (.int .u8 jf) rfl; have s3 := box_cells b1 3 (.int .u32 0) rfl)
  go_ret
  exact ⟨rfl, B1.alloc B1.size _⟩
set_option maxRecDepth 100000 in
set_option maxHeartbeats 4000000 in
theorem one_52_badp (jt jf k left : Int) (w : World) (hl : 0 ≤ left) (y0 : k = 0) : OneTo 52 jt jf k left (44) w := by
  subst y0
  have HO := Lib.hid (fun W => refOf_any 52 W)
  rw [show ofL allL 52 = ⟨52, ⟨#[100, 105, 118]⟩, 3⟩ by kernel_rfl] at HO
  have hl2 : decide (left < 0) = false := decide_eq_false (by omega)
  go_enter Tryd.func16, Tryd.ntmps16
  go_wp2_with (go_at_call 22; ((with_reducible refine (HO.out _).mono ?_); rintro e w1 ⟨rfl, b1⟩); have B1 := ((Below.refl w.heap.size w).alloc (Nat.le_refl _) (.cells #[.int .u16 52, .int .u8 jt, .int .u8 jf, .int .u32 0] 35)).trans (b1.mono (by simp)); have z1 : w.heap.size < w1.heap.size := (by have h := b1.size; rw [World.size_alloc] at h; omega); have s0 := box_cells b1 0 (.int .u16 52) rfl; have s1 := box_cells b1 1 (.int .u8 jt) rfl; have s2 := box_cells b1 2 (.int .u8 jf) rfl; have s3 := box_cells b1 3 (.int .u32 0) rfl)
  go_ret
  exact ⟨rfl, B1.alloc B1.size _⟩
set_option maxRecDepth 100000 in
set_option maxHeartbeats 4000000 in
theorem one_100_okn (jt jf k left : Int) (w : World) (hl : left < 0) (y0 : ¬ (31 : Int) < k) : OneTo 100 jt jf k left (0) w := by
  have HO := Lib.hid (fun W => refOf_any 100 W)
  rw [show ofL allL 100 = ⟨100, ⟨#[108, 115, 104]⟩, 3⟩ by kernel_rfl] at HO
  have hl2 : decide (left < 0) = true := decide_eq_true hl
  go_enter Tryd.func16, Tryd.ntmps16
  go_wp2_with (go_at_call 22; ((with_reducible refine (HO.out _).mono ?_); rintro e w1 ⟨rfl, b1⟩); have B1 := ((Below.refl w.heap.size w).alloc (Nat.le_refl _) (.cells #[.int .u16 100, .int .u8 jt, .int .u8 jf, .int .u32 k] 35)).trans (b1.mono (by simp)); have z1 : w.heap.size < w1.heap.size := (by have h := b1.size; rw [World.size_alloc] at h; omega); have s0 := box_cells b1 0 (.int .u16 100) rfl; have s1 := box_cells b1 1 (.int .u8 jt) rfl; have s2 := box_cells b1 2 (.int .u8 jf) rfl; have s3 := box_cells b1 3 (.int .u32 k) rfl)
  go_ret
  exact ⟨rfl, B1.alloc B1.size _⟩
set_option maxRecDepth 100000 in
set_option maxHeartbeats 4000000 in
theorem one_100_okp (jt jf k left : Int) (w : World) (hl : 0 ≤ left) (y0 : ¬ (31 : Int) < k) : OneTo 100 jt jf k left (0) w := by
  have HO := Lib.hid (fun W => refOf_any 100 W)
  rw [show ofL allL 100 = ⟨100, ⟨#[108, 115, 104]⟩, 3⟩ by kernel_rfl] at HO
  have hl2 : decide (left < 0) = false := decide_eq_false (by omega)
  go_enter Tryd.func16, Tryd.ntmps16
  go_wp2_with (go_at_call 22; ((with_reducible refine (HO.out _).mono ?_); rintro e w1 ⟨rfl, b1⟩); have B1 := ((Below.refl w.heap.size w).alloc (Nat.le_refl _) (.cells #[.int .u16 100, .int .u8 jt, .int .u8 jf, .int .u32 k] 35)).trans (b1.mono (by simp)); have z1 : w.heap.size < w1.heap.size := (by have h := b1.size; rw [World.size_alloc] at h; omega); have s0 := box_cells b1 0 (.int .u16 100) rfl; have s1 := box_cells b1 1 (.int .u8 jt) rfl; have s2 := box_cells b1 2 (.int .u8 jf) rfl; have s3 := box_cells b1 3 (.int .u32 k) rfl)
  go_ret
  exact ⟨rfl, B1.alloc B1.size _⟩
set_option maxRecDepth 100000 in
set_option maxHeartbeats 4000000 in
theorem one_100_badn (jt jf k left : Int) (w : World) (hl : left < 0) (y0 : (31 : Int) < k) : OneTo 100 jt jf k left (45) w := by
  have HO := Lib.hid (fun W => refOf_any 100 W)
  rw [show ofL allL 100 = ⟨100, ⟨#[108, 115, 104]⟩, 3⟩ by kernel_rfl] at HO
  have hl2 : decide (left < 0) = true := decide_eq_true hl
  go_enter Tryd.func16, Tryd.ntmps16
  go_wp2_with (go_at_call 22; ((with_reducible refine (HO.out _).mono ?_); rintro e w1 ⟨rfl, b1⟩); have B1 := ((Below.refl w.heap.size w).alloc (Nat.le_refl _) (.cells #[.int .u16 100, .int .u8 jt, .int .u8 jf, .int .u32 k] 35)).trans (b1.mono (by simp)); have z1 : w.heap.size < w1.heap.size := (by have h := b1.size; rw [World.size_alloc] at h; omega); have s0 := box_cells b1 0 (.int .u16 100) rfl; have s1 := box_cells b1 1 (.int .u8 jt) rfl; have s2 := box_cells b1 2 (.int .u8 jf) rfl; have s3 := box_cells b1 3 (.int .u32 k) rfl)
  go_ret
  exact ⟨rfl, B1.alloc B1.size _⟩
set_option maxRecDepth 100000 in
set_option maxHeartbeats 4000000 in
theorem one_100_badp (jt jf k left : Int) (w : World) (hl : 0 ≤ left) (y0 : (31 : Int) < k) : OneTo 100 jt jf k left (45) w := by
  have HO := Lib.hid (fun W => refOf_any 100 W)
  rw [show ofL allL 100 = ⟨100, ⟨#[108, 115, 104]⟩, 3⟩ by kernel_rfl] at HO
  have hl2 : decide (left < 0) = false := decide_eq_false (by omega)
  go_enter Tryd.func16, Tryd.ntmps16
  go_wp2_with (go_at_call 22; ((with_reducible refine (HO.out _).mono ?_); rintro e w1 ⟨rfl, b1⟩); have B1 := ((Below.refl w.heap.size w).alloc (Nat.le_refl _) (.cells #[.int .u16 100, .int .u8 jt, .int .u8 jf, .int .u32 k] 35)).trans (b1.mono (by simp)); have z1 : w.heap.size < w1.heap.size := (by have h := b1.size; rw [World.size_alloc] at h; omega); have s0 := box_cells b1 0 (.int .u16 100) rfl; have s1 := box_cells b1 1 (.int .u8 jt) rfl; have s2 := box_cells b1 2 (.int .u8 jf) rfl; have s3 := box_cells b1 3 (.int .u32 k) rfl)
  go_ret
  exact ⟨rfl, B1.alloc B1.size _⟩
set_option maxRecDepth 100000 in
set_option maxHeartbeats 4000000 in
theorem one_116_okn (jt jf k left : Int) (w : World) (hl : left < 0) (y0 : ¬ (31 : Int) < k) : OneTo 116 jt jf k left (0) w := by
  have HO := Lib.hid (fun W => refOf_any 116 W)
  rw [show ofL allL 116 = ⟨116, ⟨#[114, 115, 104]⟩, 3⟩ by kernel_rfl] at HO
  have hl2 : decide (left < 0) = true := decide_eq_true hl
  go_enter Tryd.func16, Tryd.ntmps16
  go_wp2_with (go_at_call 22; ((with_reducible refine (HO.out _).mono ?_); rintro e w1 ⟨rfl, b1⟩); have B1 := ((Below.refl w.heap.size w).alloc (Nat.le_refl _) (.cells #[.int .u16 116, .int .u8 jt, .int .u8 jf, .int .u32 k] 35)).trans (b1.mono (by simp)); have z1 : w.heap.size < w1.heap.size := (by have h := b1.size; rw [World.size_alloc] at h; omega); have s0 := box_cells b1 0 (.int .u16 116) rfl; have s1 := box_cells b1 1 (.int .u8 jt) rfl; have s2 := box_cells b1 2 (.int .u8 jf) rfl; have s3 := box_cells b1 3 (.int .u32 k) rfl)
  go_ret
  exact ⟨rfl, B1.alloc B1.size _⟩
set_option maxRecDepth 100000 in
set_option maxHeartbeats 4000000 in
theorem one_116_okp (jt jf k left : Int) (w : World) (hl : 0 ≤ left) (y0 : ¬ (31 : Int) < k) : OneTo 116 jt jf k left (0) w := by
  have HO := Lib.hid (fun W => refOf_any 116 W)
  rw [show ofL allL 116 = ⟨116, ⟨#[114, 115, 104]⟩, 3⟩ by kernel_rfl] at HO
  have hl2 : decide (left < 0) = false := decide_eq_false (by omega)
  go_enter Tryd.func16, Tryd.ntmps16
  go_wp2_with (go_at_call 22; ((with_reducible refine (HO.out _).mono ?_); rintro e w1 ⟨rfl, b1⟩); have B1 := ((Below.refl w.heap.size w).alloc (Nat.le_refl _) (.cells #[.int .u16 116, .int .u8 jt, .int .u8 jf, .int .u32 k] 35)).trans (b1.mono (by simp)); have z1 : w.heap.size < w1.heap.size := (by have h := b1.size; rw [World.size_alloc] at h; omega); have s0 := box_cells b1 0 (.int .u16 116) rfl; have s1 := box_cells b1 1 (.int .u8 jt) rfl; have s2 := box_cells b1 2 (.int .u8 jf) rfl; have s3 := box_cells b1 3 (.int .u32 k) rfl)
  go_ret
  exact ⟨rfl, B1.alloc B1.size _⟩
set_option maxRecDepth 100000 in
set_option maxHeartbeats 4000000 in
theorem one_116_badn (jt jf k left : Int) (w : World) (hl : left < 0) (y0 : (31 : Int) < k) : OneTo 116 jt jf k left (45) w := by
  have HO := Lib.hid (fun W => refOf_any 116 W)
  rw [show ofL allL 116 = ⟨116, ⟨#[114, 115, 104]⟩, 3⟩ by kernel_rfl] at HO
  have hl2 : decide (left < 0) = true := decide_eq_true hl
  go_enter Tryd.func16, Tryd.ntmps16
  go_wp2_with (go_at_call 22; ((with_reducible refine (HO.out _).mono ?_); rintro e w1 ⟨rfl, b1⟩); have B1 := ((Below.refl w.heap.size w).alloc (Nat.le_refl _) (.cells #[.int .u16 116, .int .u8 jt, .int .u8 jf, .int .u32 k] 35)).trans (b1.mono (by simp)); have z1 : w.heap.size < w1.heap.size := (by have h := b1.size; rw [World.size_alloc] at h; omega); have s0 := box_cells b1 0 (.int .u16 116) rfl; have s1 := box_cells b1 1 (.int .u8 jt) rfl; have s2 := box_cells b1 2 (.int .u8 jf) rfl; have s3 := box_cells b1 3 (.int .u32 k) rfl)
  go_ret
  exact ⟨rfl, B1.alloc B1.size _⟩
set_option maxRecDepth 100000 in
set_option maxHeartbeats 4000000 in
theorem one_116_badp (jt jf k left : Int) (w : World) (hl : 0 ≤ left) (y0 : (31 : Int) < k) : OneTo 116 jt jf k left (45) w := by
  have HO := Lib.hid (fun W => refOf_any 116 W)
  rw [show ofL allL 116 = ⟨116, ⟨#[114, 115, 104]⟩, 3⟩ by kernel_rfl] at HO
  have hl2 : decide (left < 0) = false := decide_eq_false (by omega)
  go_enter Tryd.func16, Tryd.ntmps16
  go_wp2_with (go_at_call 22; ((with_reducible refine (HO.out _).mono ?_); rintro e w1 ⟨rfl, b1⟩); have B1 := ((Below.refl w.heap.size w).alloc (Nat.le_refl _) (.cells #[.int .u16 116, .int .u8 jt, .int .u8 jf, .int .u32 k] 35)).trans (b1.mono (by simp)); have z1 : w.heap.size < w1.heap.size := (by have h := b1.size; rw [World.size_alloc] at h; omega); have s0 := box_cells b1 0 (.int .u16 116) rfl; have s1 := box_cells b1 1 (.int .u8 jt) rfl; have s2 := box_cells b1 2 (.int .u8 jf) rfl; have s3 := box_cells b1 3 (.int .u32 k) rfl)
  go_ret
  exact ⟨rfl, B1.alloc B1.size _⟩
set_option maxRecDepth 100000 in
set_option maxHeartbeats 4000000 in
theorem one_5_okn (jt jf k left : Int) (w : World) (hl : left < 0) (y0 : ¬ 0 ≤ k) (y1 : IntKind.i64.wrap k = k) (y2 : decide (0 ≤ k) = false) : OneTo 5 jt jf k left (0) w := by
  have HO := Lib.hid (fun W => refOf_any 5 W)
  rw [show ofL allL 5 = ⟨5, ⟨#[106, 97]⟩, 4⟩ by kernel_rfl] at HO
  have hl2 : decide (left < 0) = true := decide_eq_true hl
  go_enter Tryd.func16, Tryd.ntmps16
  go_wp2_with (go_at_call 22; ((with_reducible refine (HO.out _).mono ?_); rintro e w1 ⟨rfl, b1⟩); have B1 := ((Below.refl w.heap.size w).alloc (Nat.le_refl _) (.cells #[.int .u16 5, .int .u8 jt, .int .u8 jf, .int .u32 k] 35)).trans (b1.mono (by simp)); have z1 : w.heap.size < w1.heap.size := (by have h := b1.size; rw [World.size_alloc] at h; omega); have s0 := box_cells b1 0 (.int .u16 5) rfl; have s1 := box_cells b1 1 (.int .u8 jt) rfl; have s2 := box_cells b1 2 (.int .u8 jf) rfl; have s3 := box_cells b1 3 (.int .u32 k) rfl)
  go_ret
  exact ⟨rfl, B1.alloc B1.size _⟩
set_option maxRecDepth 100000 in
set_option maxHeartbeats 4000000 in
theorem one_5_okp (jt jf k left : Int) (w : World) (hl : 0 ≤ left) (y0 : ¬ left ≤ k) (y1 : IntKind.i64.wrap k = k) (y2 : decide (left ≤ k) = false) : OneTo 5 jt jf k left (0) w := by
  have HO := Lib.hid (fun W => refOf_any 5 W)
  rw [show ofL allL 5 = ⟨5, ⟨#[106, 97]⟩, 4⟩ by kernel_rfl] at HO
  have hl2 : decide (left < 0) = false := decide_eq_false (by omega)
  go_enter Tryd.func16, Tryd.ntmps16
  go_wp2_with (go_at_call 22; ((with_reducible refine (HO.out _).mono ?_); rintro e w1 ⟨rfl, b1⟩); have B1 := ((Below.refl w.heap.size w).alloc (Nat.le_refl _) (.cells #[.int .u16 5, .int .u8 jt, .int .u8 jf, .int .u32 k] 35)).trans (b1.mono (by simp)); have z1 : w.heap.size < w1.heap.size := (by have h := b1.size; rw [World.size_alloc] at h; omega); have s0 := box_cells b1 0 (.int .u16 5) rfl; have s1 := box_cells b1 1 (.int .u8 jt) rfl; have s2 := box_cells b1 2 (.int .u8 jf) rfl; have s3 := box_cells b1 3 (.int .u32 k) rfl)
  go_ret
  exact ⟨rfl, B1.alloc B1.size _⟩
set_option maxRecDepth 100000 in
set_option maxHeartbeats 4000000 in
theorem one_5_badn (jt jf k left : Int) (w : World) (hl : left < 0) (y0 : 0 ≤ k) (y1 : IntKind.i64.wrap k = k) (y2 : decide (0 ≤ k) = true) : OneTo 5 jt jf k left (42) w := by
  have HO := Lib.hid (fun W => refOf_any 5 W)
  rw [show ofL allL 5 = ⟨5, ⟨#[106, 97]⟩, 4⟩ by kernel_rfl] at HO
  have hl2 : decide (left < 0) = true := decide_eq_true hl
  go_enter Tryd.func16, Tryd.ntmps16
  go_wp2_with (go_at_call 22; ((with_reducible refine (HO.out _).mono ?_); rintro e w1 ⟨rfl, b1⟩); have B1 := ((Below.refl w.heap.size w).alloc (Nat.le_refl _) (.cells #[.int .u16 5, .int .u8 jt, .int .u8 jf, .int .u32 k] 35)).trans (b1.mono (by simp)); have z1 : w.heap.size < w1.heap.size := (by have h := b1.size; rw [World.size_alloc] at h; omega); have s0 := box_cells b1 0 (.int .u16 5) rfl; have s1 := box_cells b1 1 (.int .u8 jt) rfl; have s2 := box_cells b1 2 (.int .u8 jf) rfl; have s3 := box_cells b1 3 (.int .u32 k) rfl)
  go_ret
  exact ⟨rfl, B1.alloc B1.size _⟩
set_option maxRecDepth 100000 in
set_option maxHeartbeats 4000000 in
theorem one_5_badp (jt jf k left : Int) (w : World) (hl : 0 ≤ left) (y0 : left ≤ k) (y1 : IntKind.i64.wrap k = k) (y2 : decide (left ≤ k) = true) : OneTo 5 jt jf k left (42) w := by
  have HO := Lib.hid (fun W => refOf_any 5 W)
  rw [show ofL allL 5 = ⟨5, ⟨#[106, 97]⟩, 4⟩ by kernel_rfl] at HO
  have hl2 : decide (left < 0) = false := decide_eq_false (by omega)
  go_enter Tryd.func16, Tryd.ntmps16
  go_wp2_with (go_at_call 22; ((with_reducible refine (HO.out _).mono ?_); rintro e w1 ⟨rfl, b1⟩); have B1 := ((Below.refl w.heap.size w).alloc (Nat.le_refl _) (.cells #[.int .u16 5, .int .u8 jt, .int .u8 jf, .int .u32 k] 35)).trans (b1.mono (by simp)); have z1 : w.heap.size < w1.heap.size := (by have h := b1.size; rw [World.size_alloc] at h; omega); have s0 := box_cells b1 0 (.int .u16 5) rfl; have s1 := box_cells b1 1 (.int .u8 jt) rfl; have s2 := box_cells b1 2 (.int .u8 jf) rfl; have s3 := box_cells b1 3 (.int .u32 k) rfl)
  go_ret
  exact ⟨rfl, B1.alloc B1.size _⟩
end Go.Proofs.YtohfampfnhfnlaaDoor
