/- What the document's own One says of an instruction: code by code. Condition: numbers of their kinds. -/
import Derived.Test.YtohfampfnhfnlaaDoorSc
namespace Go.Proofs.YtohfampfnhfnlaaDoor
open Go.RowKit
set_option linter.unusedVariables false
attribute [local go_sem ↓] Go.wp_at_zero Go.wp_at_succ

set_option maxRecDepth 100000 in
set_option maxHeartbeats 4000000 in
theorem one_29_okn (jt jf k left : Int) (w : World) (hl : left < 0) (y0 : decide (0 ≤ jt) = false) (y1 : decide (0 ≤ jf) = false) (y2 : ¬ 0 ≤ jt) (y3 : ¬ 0 ≤ jf) (y4 : IntKind.i64.wrap jt = jt) (y5 : IntKind.i64.wrap jf = jf) : OneTo 29 jt jf k left (0) w := by
  have HO := Lib.hid (fun W => refOf_any 29 W)
  rw [show ofL allL 29 = ⟨29, ⟨#[106, 101, 113, 120]⟩, 4⟩ by kernel_rfl] at HO
  have hl2 : decide (left < 0) = true := decide_eq_true hl
  go_enter Tryd.func16, Tryd.ntmps16
  go_wp2_with (go_at_call 22; ((with_reducible refine (HO.out _).mono ?_); rintro e w1 ⟨rfl, b1⟩); have B1 := ((Below.refl w.heap.size w).alloc (Nat.le_refl _) (.cells #[.int .u16 29, .int .u8 jt, .int .u8 jf, .int .u32 k] 35)).trans (b1.mono (by simp)); have z1 : w.heap.size < w1.heap.size := (by have h := b1.size; rw [World.size_alloc] at h; omega); have s0 := box_cells b1 0 (.int .u16 29) rfl; have s1 := box_cells b1 1 (.int .u8 jt) rfl; have s2 := box_cells b1 2 (.int .u8 jf) rfl; have s3 := box_cells b1 3 (.int .u32 k) rfl)
  go_ret
  exact ⟨rfl, B1.alloc B1.size _⟩
set_option maxRecDepth 100000 in
set_option maxHeartbeats 4000000 in
theorem one_29_okp (jt jf k left : Int) (w : World) (hl : 0 ≤ left) (y0 : decide (left ≤ jt) = false) (y1 : decide (left ≤ jf) = false) (y2 : ¬ left ≤ jt) (y3 : ¬ left ≤ jf) (y4 : IntKind.i64.wrap jt = jt) (y5 : IntKind.i64.wrap jf = jf) : OneTo 29 jt jf k left (0) w := by
  have HO := Lib.hid (fun W => refOf_any 29 W)
  rw [show ofL allL 29 = ⟨29, ⟨#[106, 101, 113, 120]⟩, 4⟩ by kernel_rfl] at HO
  have hl2 : decide (left < 0) = false := decide_eq_false (by omega)
  go_enter Tryd.func16, Tryd.ntmps16
  go_wp2_with (go_at_call 22; ((with_reducible refine (HO.out _).mono ?_); rintro e w1 ⟨rfl, b1⟩); have B1 := ((Below.refl w.heap.size w).alloc (Nat.le_refl _) (.cells #[.int .u16 29, .int .u8 jt, .int .u8 jf, .int .u32 k] 35)).trans (b1.mono (by simp)); have z1 : w.heap.size < w1.heap.size := (by have h := b1.size; rw [World.size_alloc] at h; omega); have s0 := box_cells b1 0 (.int .u16 29) rfl; have s1 := box_cells b1 1 (.int .u8 jt) rfl; have s2 := box_cells b1 2 (.int .u8 jf) rfl; have s3 := box_cells b1 3 (.int .u32 k) rfl)
  go_ret
  exact ⟨rfl, B1.alloc B1.size _⟩
set_option maxRecDepth 100000 in
set_option maxHeartbeats 4000000 in
theorem one_29_tn (jt jf k left : Int) (w : World) (hl : left < 0) (y0 : decide (0 ≤ jt) = true) (y1 : 0 ≤ jt) (y2 : IntKind.i64.wrap jt = jt) (y3 : IntKind.i64.wrap jf = jf) : OneTo 29 jt jf k left (42) w := by
  have HO := Lib.hid (fun W => refOf_any 29 W)
  rw [show ofL allL 29 = ⟨29, ⟨#[106, 101, 113, 120]⟩, 4⟩ by kernel_rfl] at HO
  have hl2 : decide (left < 0) = true := decide_eq_true hl
  go_enter Tryd.func16, Tryd.ntmps16
  go_wp2_with (go_at_call 22; ((with_reducible refine (HO.out _).mono ?_); rintro e w1 ⟨rfl, b1⟩); have B1 := ((Below.refl w.heap.size w).alloc (Nat.le_refl _) (.cells #[.int .u16 29, .int .u8 jt, .int .u8 jf, .int .u32 k] 35)).trans (b1.mono (by simp)); have z1 : w.heap.size < w1.heap.size := (by have h := b1.size; rw [World.size_alloc] at h; omega); have s0 := box_cells b1 0 (.int .u16 29) rfl; have s1 := box_cells b1 1 (.int .u8 jt) rfl; have s2 := box_cells b1 2 (.int .u8 jf) rfl; have s3 := box_cells b1 3 (.int .u32 k) rfl)
  go_ret
  exact ⟨rfl, B1.alloc B1.size _⟩
set_option maxRecDepth 100000 in
set_option maxHeartbeats 4000000 in
theorem one_29_tp (jt jf k left : Int) (w : World) (hl : 0 ≤ left) (y0 : decide (left ≤ jt) = true) (y1 : left ≤ jt) (y2 : IntKind.i64.wrap jt = jt) (y3 : IntKind.i64.wrap jf = jf) : OneTo 29 jt jf k left (42) w := by
  have HO := Lib.hid (fun W => refOf_any 29 W)
  rw [show ofL allL 29 = ⟨29, ⟨#[106, 101, 113, 120]⟩, 4⟩ by kernel_rfl] at HO
  have hl2 : decide (left < 0) = false := decide_eq_false (by omega)
  go_enter Tryd.func16, Tryd.ntmps16
  go_wp2_with (go_at_call 22; ((with_reducible refine (HO.out _).mono ?_); rintro e w1 ⟨rfl, b1⟩); have B1 := ((Below.refl w.heap.size w).alloc (Nat.le_refl _) (.cells #[.int .u16 29, .int .u8 jt, .int .u8 jf, .int .u32 k] 35)).trans (b1.mono (by simp)); have z1 : w.heap.size < w1.heap.size := (by have h := b1.size; rw [World.size_alloc] at h; omega); have s0 := box_cells b1 0 (.int .u16 29) rfl; have s1 := box_cells b1 1 (.int .u8 jt) rfl; have s2 := box_cells b1 2 (.int .u8 jf) rfl; have s3 := box_cells b1 3 (.int .u32 k) rfl)
  go_ret
  exact ⟨rfl, B1.alloc B1.size _⟩
set_option maxRecDepth 100000 in
set_option maxHeartbeats 4000000 in
theorem one_29_fn (jt jf k left : Int) (w : World) (hl : left < 0) (y0 : decide (0 ≤ jt) = false) (y1 : decide (0 ≤ jf) = true) (y2 : ¬ 0 ≤ jt) (y3 : 0 ≤ jf) (y4 : IntKind.i64.wrap jt = jt) (y5 : IntKind.i64.wrap jf = jf) : OneTo 29 jt jf k left (42) w := by
  have HO := Lib.hid (fun W => refOf_any 29 W)
  rw [show ofL allL 29 = ⟨29, ⟨#[106, 101, 113, 120]⟩, 4⟩ by kernel_rfl] at HO
  have hl2 : decide (left < 0) = true := decide_eq_true hl
  go_enter Tryd.func16, Tryd.ntmps16
  go_wp2_with (go_at_call 22; ((with_reducible refine (HO.out _).mono ?_); rintro e w1 ⟨rfl, b1⟩); have B1 := ((Below.refl w.heap.size w).alloc (Nat.le_refl _) (.cells #[.int .u16 29, .int .u8 jt, .int .u8 jf, .int .u32 k] 35)).trans (b1.mono (by simp)); have z1 : w.heap.size < w1.heap.size := (by have h := b1.size; rw [World.size_alloc] at h; omega); have s0 := box_cells b1 0 (.int .u16 29) rfl; have s1 := box_cells b1 1 (.int .u8 jt) rfl; have s2 := box_cells b1 2 (.int .u8 jf) rfl; have s3 := box_cells b1 3 (.int .u32 k) rfl)
  go_ret
  exact ⟨rfl, B1.alloc B1.size _⟩
set_option maxRecDepth 100000 in
set_option maxHeartbeats 4000000 in
theorem one_29_fp (jt jf k left : Int) (w : World) (hl : 0 ≤ left) (y0 : decide (left ≤ jt) = false) (y1 : decide (left ≤ jf) = true) (y2 : ¬ left ≤ jt) (y3 : left ≤ jf) (y4 : IntKind.i64.wrap jt = jt) (y5 : IntKind.i64.wrap jf = jf) : OneTo 29 jt jf k left (42) w := by
  have HO := Lib.hid (fun W => refOf_any 29 W)
  rw [show ofL allL 29 = ⟨29, ⟨#[106, 101, 113, 120]⟩, 4⟩ by kernel_rfl] at HO
  have hl2 : decide (left < 0) = false := decide_eq_false (by omega)
  go_enter Tryd.func16, Tryd.ntmps16
  go_wp2_with (go_at_call 22; ((with_reducible refine (HO.out _).mono ?_); rintro e w1 ⟨rfl, b1⟩); have B1 := ((Below.refl w.heap.size w).alloc (Nat.le_refl _) (.cells #[.int .u16 29, .int .u8 jt, .int .u8 jf, .int .u32 k] 35)).trans (b1.mono (by simp)); have z1 : w.heap.size < w1.heap.size := (by have h := b1.size; rw [World.size_alloc] at h; omega); have s0 := box_cells b1 0 (.int .u16 29) rfl; have s1 := box_cells b1 1 (.int .u8 jt) rfl; have s2 := box_cells b1 2 (.int .u8 jf) rfl; have s3 := box_cells b1 3 (.int .u32 k) rfl)
  go_ret
  exact ⟨rfl, B1.alloc B1.size _⟩
set_option maxRecDepth 100000 in
set_option maxHeartbeats 4000000 in
theorem one_45_okn (jt jf k left : Int) (w : World) (hl : left < 0) (y0 : decide (0 ≤ jt) = false) (y1 : decide (0 ≤ jf) = false) (y2 : ¬ 0 ≤ jt) (y3 : ¬ 0 ≤ jf) (y4 : IntKind.i64.wrap jt = jt) (y5 : IntKind.i64.wrap jf = jf) : OneTo 45 jt jf k left (0) w := by
  have HO := Lib.hid (fun W => refOf_any 45 W)
  rw [show ofL allL 45 = ⟨45, ⟨#[106, 103, 116, 120]⟩, 4⟩ by kernel_rfl] at HO
  have hl2 : decide (left < 0) = true := decide_eq_true hl
  go_enter Tryd.func16, Tryd.ntmps16
  go_wp2_with (go_at_call 22; ((with_reducible refine (HO.out _).mono ?_); rintro e w1 ⟨rfl, b1⟩); have B1 := ((Below.refl w.heap.size w).alloc (Nat.le_refl _) (.cells #[.int .u16 45, .int .u8 jt, .int .u8 jf, .int .u32 k] 35)).trans (b1.mono (by simp)); have z1 : w.heap.size < w1.heap.size := (by have h := b1.size; rw [World.size_alloc] at h; omega); have s0 := box_cells b1 0 (.int .u16 45) rfl; have s1 := box_cells b1 1 (.int .u8 jt) rfl; have s2 := box_cells b1 2 (.int .u8 jf) rfl; have s3 := box_cells b1 3 (.int .u32 k) rfl)
  go_ret
  exact ⟨rfl, B1.alloc B1.size _⟩
set_option maxRecDepth 100000 in
set_option maxHeartbeats 4000000 in
theorem one_45_okp (jt jf k left : Int) (w : World) (hl : 0 ≤ left) (y0 : decide (left ≤ jt) = false) (y1 : decide (left ≤ jf) = false) (y2 : ¬ left ≤ jt) (y3 : ¬ left ≤ jf) (y4 : IntKind.i64.wrap jt = jt) (y5 : IntKind.i64.wrap jf = jf) : OneTo 45 jt jf k left (0) w := by
  have HO := Lib.hid (fun W => refOf_any 45 W)
  rw [show ofL allL 45 = ⟨45, ⟨#[106, 103, 116, 120]⟩, 4⟩ by kernel_rfl] at HO
  have hl2 : decide (left < 0) = false := decide_eq_false (by omega)
  go_enter Tryd.func16, Tryd.ntmps16
  go_wp2_with (go_at_call 22; ((with_reducible refine (HO.out _).mono ?_); rintro e w1 ⟨rfl, b1⟩); have B1 := ((Below.refl w.heap.size w).alloc (Nat.le_refl _) (.cells #[.int .u16 45, .int .u8 jt, .int .u8 jf, .int .u32 k] 35)).trans (b1.mono (by simp)); have z1 : w.heap.size < w1.heap.size := (by have h := b1.size; rw [World.size_alloc] at h; omega); have s0 := box_cells b1 0 (.int .u16 45) rfl; have s1 := box_cells b1 1 (.int .u8 jt) rfl; have s2 := box_cells b1 2 (.int .u8 jf) rfl; have s3 := box_cells b1 3 (.int .u32 k) rfl)
  go_ret
  exact ⟨rfl, B1.alloc B1.size _⟩
set_option maxRecDepth 100000 in
set_option maxHeartbeats 4000000 in
theorem one_45_tn (jt jf k left : Int) (w : World) (hl : left < 0) (y0 : decide (0 ≤ jt) = true) (y1 : 0 ≤ jt) (y2 : IntKind.i64.wrap jt = jt) (y3 : IntKind.i64.wrap jf = jf) : OneTo 45 jt jf k left (42) w := by
  have HO := Lib.hid (fun W => refOf_any 45 W)
  rw [show ofL allL 45 = ⟨45, ⟨#[106, 103, 116, 120]⟩, 4⟩ by kernel_rfl] at HO
  have hl2 : decide (left < 0) = true := decide_eq_true hl
  go_enter Tryd.func16, Tryd.ntmps16
  go_wp2_with (go_at_call 22; ((with_reducible refine (HO.out _).mono ?_); rintro e w1 ⟨rfl, b1⟩); have B1 := ((Below.refl w.heap.size w).alloc (Nat.le_refl _) (.cells #[.int .u16 45, .int .u8 jt, .int .u8 jf, .int .u32 k] 35)).trans (b1.mono (by simp)); have z1 : w.heap.size < w1.heap.size := (by have h := b1.size; rw [World.size_alloc] at h; omega); have s0 := box_cells b1 0 (.int .u16 45) rfl; have s1 := box_cells b1 1 (.int .u8 jt) rfl; have s2 := box_cells b1 2 (.int .u8 jf) rfl; have s3 := box_cells b1 3 (.int .u32 k) rfl)
  go_ret
  exact ⟨rfl, B1.alloc B1.size _⟩
set_option maxRecDepth 100000 in
set_option maxHeartbeats 4000000 in
theorem one_45_tp (jt jf k left : Int) (w : World) (hl : 0 ≤ left) (y0 : decide (left ≤ jt) = true) (y1 : left ≤ jt) (y2 : IntKind.i64.wrap jt = jt) (y3 : IntKind.i64.wrap jf = jf) : OneTo 45 jt jf k left (42) w := by
  have HO := Lib.hid (fun W => refOf_any 45 W)
  rw [show ofL allL 45 = ⟨45, ⟨#[106, 103, 116, 120]⟩, 4⟩ by kernel_rfl] at HO
  have hl2 : decide (left < 0) = false := decide_eq_false (by omega)
  go_enter Tryd.func16, Tryd.ntmps16
  go_wp2_with (go_at_call 22; ((with_reducible refine (HO.out _).mono ?_); rintro e w1 ⟨rfl, b1⟩); have B1 := ((Below.refl w.heap.size w).alloc (Nat.le_refl _) (.cells #[.int .u16 45, .int .u8 jt, .int .u8 jf, .int .u32 k] 35)).trans (b1.mono (by simp)); have z1 : w.heap.size < w1.heap.size := (by have h := b1.size; rw [World.size_alloc] at h; omega); have s0 := box_cells b1 0 (.int .u16 45) rfl; have s1 := box_cells b1 1 (.int .u8 jt) rfl; have s2 := box_cells b1 2 (.int .u8 jf) rfl; have s3 := box_cells b1 3 (.int .u32 k) rfl)
  go_ret
  exact ⟨rfl, B1.alloc B1.size _⟩
set_option maxRecDepth 100000 in
set_option maxHeartbeats 4000000 in
theorem one_45_fn (jt jf k left : Int) (w : World) (hl : left < 0) (y0 : decide (0 ≤ jt) = false) (y1 : decide (0 ≤ jf) = true) (y2 : ¬ 0 ≤ jt) (y3 : 0 ≤ jf) (y4 : IntKind.i64.wrap jt = jt) (y5 : IntKind.i64.wrap jf = jf) : OneTo 45 jt jf k left (42) w := by
  have HO := Lib.hid (fun W => refOf_any 45 W)
  rw [show ofL allL 45 = ⟨45, ⟨#[106, 103, 116, 120]⟩, 4⟩ by kernel_rfl] at HO
  have hl2 : decide (left < 0) = true := decide_eq_true hl
  go_enter Tryd.func16, Tryd.ntmps16
  go_wp2_with (go_at_call 22; ((with_reducible refine (HO.out _).mono ?_); rintro e w1 ⟨rfl, b1⟩); have B1 := ((Below.refl w.heap.size w).alloc (Nat.le_refl _) (.cells #[.int .u16 45, .int .u8 jt, .int .u8 jf, .int .u32 k] 35)).trans (b1.mono (by simp)); have z1 : w.heap.size < w1.heap.size := (by have h := b1.size; rw [World.size_alloc] at h; omega); have s0 := box_cells b1 0 (.int .u16 45) rfl; have s1 := box_cells b1 1 (.int .u8 jt) rfl; have s2 := box_cells b1 2 (.int .u8 jf) rfl; have s3 := box_cells b1 3 (.int .u32 k) rfl)
  go_ret
  exact ⟨rfl, B1.alloc B1.size _⟩
set_option maxRecDepth 100000 in
set_option maxHeartbeats 4000000 in
theorem one_45_fp (jt jf k left : Int) (w : World) (hl : 0 ≤ left) (y0 : decide (left ≤ jt) = false) (y1 : decide (left ≤ jf) = true) (y2 : ¬ left ≤ jt) (y3 : left ≤ jf) (y4 : IntKind.i64.wrap jt = jt) (y5 : IntKind.i64.wrap jf = jf) : OneTo 45 jt jf k left (42) w := by
  have HO := Lib.hid (fun W => refOf_any 45 W)
  rw [show ofL allL 45 = ⟨45, ⟨#[106, 103, 116, 120]⟩, 4⟩ by kernel_rfl] at HO
  have hl2 : decide (left < 0) = false := decide_eq_false (by omega)
  go_enter Tryd.func16, Tryd.ntmps16
  go_wp2_with (go_at_call 22; ((with_reducible refine (HO.out _).mono ?_); rintro e w1 ⟨rfl, b1⟩); have B1 := ((Below.refl w.heap.size w).alloc (Nat.le_refl _) (.cells #[.int .u16 45, .int .u8 jt, .int .u8 jf, .int .u32 k] 35)).trans (b1.mono (by simp)); have z1 : w.heap.size < w1.heap.size := (by have h := b1.size; rw [World.size_alloc] at h; omega); have s0 := box_cells b1 0 (.int .u16 45) rfl; have s1 := box_cells b1 1 (.int .u8 jt) rfl; have s2 := box_cells b1 2 (.int .u8 jf) rfl; have s3 := box_cells b1 3 (.int .u32 k) rfl)
  go_ret
  exact ⟨rfl, B1.alloc B1.size _⟩
set_option maxRecDepth 100000 in
set_option maxHeartbeats 4000000 in
theorem one_61_okn (jt jf k left : Int) (w : World) (hl : left < 0) (y0 : decide (0 ≤ jt) = false) (y1 : decide (0 ≤ jf) = false) (y2 : ¬ 0 ≤ jt) (y3 : ¬ 0 ≤ jf) (y4 : IntKind.i64.wrap jt = jt) (y5 : IntKind.i64.wrap jf = jf) : OneTo 61 jt jf k left (0) w := by
  have HO := Lib.hid (fun W => refOf_any 61 W)
  rw [show ofL allL 61 = ⟨61, ⟨#[106, 103, 101, 120]⟩, 4⟩ by kernel_rfl] at HO
  have hl2 : decide (left < 0) = true := decide_eq_true hl
  go_enter Tryd.func16, Tryd.ntmps16
  go_wp2_with (go_at_call 22; ((with_reducible refine (HO.out _).mono ?_); rintro e w1 ⟨rfl, b1⟩); have B1 := ((Below.refl w.heap.size w).alloc (Nat.le_refl _) (.cells #[.int .u16 61, .int .u8 jt, .int .u8 jf, .int .u32 k] 35)).trans (b1.mono (by simp)); have z1 : w.heap.size < w1.heap.size := (by have h := b1.size; rw [World.size_alloc] at h; omega); have s0 := box_cells b1 0 (.int .u16 61) rfl; have s1 := box_cells b1 1 (.int .u8 jt) rfl; have s2 := box_cells b1 2 (.int .u8 jf) rfl; have s3 := box_cells b1 3 (.int .u32 k) rfl)
  go_ret
  exact ⟨rfl, B1.alloc B1.size _⟩
set_option maxRecDepth 100000 in
set_option maxHeartbeats 4000000 in
theorem one_61_okp (jt jf k left : Int) (w : World) (hl : 0 ≤ left) (y0 : decide (left ≤ jt) = false) (y1 : decide (left ≤ jf) = false) (y2 : ¬ left ≤ jt) (y3 : ¬ left ≤ jf) (y4 : IntKind.i64.wrap jt = jt) (y5 : IntKind.i64.wrap jf = jf) : OneTo 61 jt jf k left (0) w := by
  have HO := Lib.hid (fun W => refOf_any 61 W)
  rw [show ofL allL 61 = ⟨61, ⟨#[106, 103, 101, 120]⟩, 4⟩ by kernel_rfl] at HO
  have hl2 : decide (left < 0) = false := decide_eq_false (by omega)
  go_enter Tryd.func16, Tryd.ntmps16
  go_wp2_with (go_at_call 22; ((with_reducible refine (HO.out _).mono ?_); rintro e w1 ⟨rfl, b1⟩); have B1 := ((Below.refl w.heap.size w).alloc (Nat.le_refl _) (.cells #[.int .u16 61, .int .u8 jt, .int .u8 jf, .int .u32 k] 35)).trans (b1.mono (by simp)); have z1 : w.heap.size < w1.heap.size := (by have h := b1.size; rw [World.size_alloc] at h; omega); have s0 := box_cells b1 0 (.int .u16 61) rfl; have s1 := box_cells b1 1 (.int .u8 jt) rfl; have s2 := box_cells b1 2 (.int .u8 jf) rfl; have s3 := box_cells b1 3 (.int .u32 k) rfl)
  go_ret
  exact ⟨rfl, B1.alloc B1.size _⟩
set_option maxRecDepth 100000 in
set_option maxHeartbeats 4000000 in
theorem one_61_tn (jt jf k left : Int) (w : World) (hl : left < 0) (y0 : decide (0 ≤ jt) = true) (y1 : 0 ≤ jt) (y2 : IntKind.i64.wrap jt = jt) (y3 : IntKind.i64.wrap jf = jf) : OneTo 61 jt jf k left (42) w := by
  have HO := Lib.hid (fun W => refOf_any 61 W)
  rw [show ofL allL 61 = ⟨61, ⟨#[106, 103, 101, 120]⟩, 4⟩ by kernel_rfl] at HO
  have hl2 : decide (left < 0) = true := decide_eq_true hl
  go_enter Tryd.func16, Tryd.ntmps16
  go_wp2_with (go_at_call 22; ((with_reducible refine (HO.out _).mono ?_); rintro e w1 ⟨rfl, b1⟩); have B1 := ((Below.refl w.heap.size w).alloc (Nat.le_refl _) (.cells #[.int .u16 61, .int .u8 jt, .int .u8 jf, .int .u32 k] 35)).trans (b1.mono (by simp)); have z1 : w.heap.size < w1.heap.size := (by have h := b1.size; rw [World.size_alloc] at h; omega); have s0 := box_cells b1 0 (.int .u16 61) rfl; have s1 := box_cells b1 1 (.int .u8 jt) rfl; have s2 := box_cells b1 2 (.int .u8 jf) rfl; have s3 := box_cells b1 3 (.int .u32 k) rfl)
  go_ret
  exact ⟨rfl, B1.alloc B1.size _⟩
set_option maxRecDepth 100000 in
set_option maxHeartbeats 4000000 in
theorem one_61_tp (jt jf k left : Int) (w : World) (hl : 0 ≤ left) (y0 : decide (left ≤ jt) = true) (y1 : left ≤ jt) (y2 : IntKind.i64.wrap jt = jt) (y3 : IntKind.i64.wrap jf = jf) : OneTo 61 jt jf k left (42) w := by
  have HO := Lib.hid (fun W => refOf_any 61 W)
  rw [show ofL allL 61 = ⟨61, ⟨#[106, 103, 101, 120]⟩, 4⟩ by kernel_rfl] at HO
  have hl2 : decide (left < 0) = false := decide_eq_false (by omega)
  go_enter Tryd.func16, Tryd.ntmps16
  go_wp2_with (go_at_call 22; ((with_reducible refine (HO.out _).mono ?_); rintro e w1 ⟨rfl, b1⟩); have B1 := ((Below.refl w.heap.size w).alloc (Nat.le_refl _) (.cells #[.int .u16 61, .int .u8 jt, .int .u8 jf, .int .u32 k] 35)).trans (b1.mono (by simp)); have z1 : w.heap.size < w1.heap.size := (by have h := b1.size; rw [World.size_alloc] at h; omega); have s0 := box_cells b1 0 (.int .u16 61) rfl; have s1 := box_cells b1 1 (.int .u8 jt) rfl; have s2 := box_cells b1 2 (.int .u8 jf) rfl; have s3 := box_cells b1 3 (.int .u32 k) rfl)
  go_ret
  exact ⟨rfl, B1.alloc B1.size _⟩
set_option maxRecDepth 100000 in
set_option maxHeartbeats 4000000 in
theorem one_61_fn (jt jf k left : Int) (w : World) (hl : left < 0) (y0 : decide (0 ≤ jt) = false) (y1 : decide (0 ≤ jf) = true) (y2 : ¬ 0 ≤ jt) (y3 : 0 ≤ jf) (y4 : IntKind.i64.wrap jt = jt) (y5 : IntKind.i64.wrap jf = jf) : OneTo 61 jt jf k left (42) w := by
  have HO := Lib.hid (fun W => refOf_any 61 W)
  rw [show ofL allL 61 = ⟨61, ⟨#[106, 103, 101, 120]⟩, 4⟩ by kernel_rfl] at HO
  have hl2 : decide (left < 0) = true := decide_eq_true hl
  go_enter Tryd.func16, Tryd.ntmps16
  go_wp2_with (go_at_call 22; ((with_reducible refine (HO.out _).mono ?_); rintro e w1 ⟨rfl, b1⟩); have B1 := ((Below.refl w.heap.size w).alloc (Nat.le_refl _) (.cells #[.int .u16 61, .int .u8 jt, .int .u8 jf, .int .u32 k] 35)).trans (b1.mono (by simp)); have z1 : w.heap.size < w1.heap.size := (by have h := b1.size; rw [World.size_alloc] at h; omega); have s0 := box_cells b1 0 (.int .u16 61) rfl; have s1 := box_cells b1 1 (.int .u8 jt) rfl; have s2 := box_cells b1 2 (.int .u8 jf) rfl; have s3 := box_cells b1 3 (.int .u32 k) rfl)
  go_ret
  exact ⟨rfl, B1.alloc B1.size _⟩
set_option maxRecDepth 100000 in
set_option maxHeartbeats 4000000 in
theorem one_61_fp (jt jf k left : Int) (w : World) (hl : 0 ≤ left) (y0 : decide (left ≤ jt) = false) (y1 : decide (left ≤ jf) = true) (y2 : ¬ left ≤ jt) (y3 : left ≤ jf) (y4 : IntKind.i64.wrap jt = jt) (y5 : IntKind.i64.wrap jf = jf) : OneTo 61 jt jf k left (42) w := by
  have HO := Lib.hid (fun W => refOf_any 61 W)
  rw [show ofL allL 61 = ⟨61, ⟨#[106, 103, 101, 120]⟩, 4⟩ by kernel_rfl] at HO
  have hl2 : decide (left < 0) = false := decide_eq_false (by omega)
  go_enter Tryd.func16, Tryd.ntmps16
  go_wp2_with (go_at_call 22; ((with_reducible refine (HO.out _).mono ?_); rintro e w1 ⟨rfl, b1⟩); have B1 := ((Below.refl w.heap.size w).alloc (Nat.le_refl _) (.cells #[.int .u16 61, .int .u8 jt, .int .u8 jf, .int .u32 k] 35)).trans (b1.mono (by simp)); have z1 : w.heap.size < w1.heap.size := (by have h := b1.size; rw [World.size_alloc] at h; omega); have s0 := box_cells b1 0 (.int .u16 61) rfl; have s1 := box_cells b1 1 (.int .u8 jt) rfl; have s2 := box_cells b1 2 (.int .u8 jf) rfl; have s3 := box_cells b1 3 (.int .u32 k) rfl)
  go_ret
  exact ⟨rfl, B1.alloc B1.size _⟩
set_option maxRecDepth 100000 in
set_option maxHeartbeats 4000000 in
theorem one_77_okn (jt jf k left : Int) (w : World) (hl : left < 0) (y0 : decide (0 ≤ jt) = false) (y1 : decide (0 ≤ jf) = false) (y2 : ¬ 0 ≤ jt) (y3 : ¬ 0 ≤ jf) (y4 : IntKind.i64.wrap jt = jt) (y5 : IntKind.i64.wrap jf = jf) : OneTo 77 jt jf k left (0) w := by
  have HO := Lib.hid (fun W => refOf_any 77 W)
  rw [show ofL allL 77 = ⟨77, ⟨#[106, 115, 101, 116, 120]⟩, 4⟩ by kernel_rfl] at HO
  have hl2 : decide (left < 0) = true := decide_eq_true hl
  go_enter Tryd.func16, Tryd.ntmps16
  go_wp2_with (go_at_call 22; ((with_reducible refine (HO.out _).mono ?_); rintro e w1 ⟨rfl, b1⟩); have B1 := ((Below.refl w.heap.size w).alloc (Nat.le_refl _) (.cells #[.int .u16 77, .int .u8 jt, .int .u8 jf, .int .u32 k] 35)).trans (b1.mono (by simp)); have z1 : w.heap.size < w1.heap.size := (by have h := b1.size; rw [World.size_alloc] at h; omega); have s0 := box_cells b1 0 (.int .u16 77) rfl; have s1 := box_cells b1 1 (.int .u8 jt) rfl; have s2 := box_cells b1 2 (.int .u8 jf) rfl; have s3 := box_cells b1 3 (.int .u32 k) rfl)
  go_ret
  exact ⟨rfl, B1.alloc B1.size _⟩
set_option maxRecDepth 100000 in
set_option maxHeartbeats 4000000 in
theorem one_77_okp (jt jf k left : Int) (w : World) (hl : 0 ≤ left) (y0 : decide (left ≤ jt) = false) (y1 : decide (left ≤ jf) = false) (y2 : ¬ left ≤ jt) (y3 : ¬ left ≤ jf) (y4 : IntKind.i64.wrap jt = jt) (y5 : IntKind.i64.wrap jf = jf) : OneTo 77 jt jf k left (0) w := by
  have HO := Lib.hid (fun W => refOf_any 77 W)
  rw [show ofL allL 77 = ⟨77, ⟨#[106, 115, 101, 116, 120]⟩, 4⟩ by kernel_rfl] at HO
  have hl2 : decide (left < 0) = false := decide_eq_false (by omega)
  go_enter Tryd.func16, Tryd.ntmps16
  go_wp2_with (go_at_call 22; ((with_reducible refine (HO.out _).mono ?_); rintro e w1 ⟨rfl, b1⟩); have B1 := ((Below.refl w.heap.size w).alloc (Nat.le_refl _) (.cells #[.int .u16 77, .int .u8 jt, .int .u8 jf, .int .u32 k] 35)).trans (b1.mono (by simp)); have z1 : w.heap.size < w1.heap.size := (by have h := b1.size; rw [World.size_alloc] at h; omega); have s0 := box_cells b1 0 (.int .u16 77) rfl; have s1 := box_cells b1 1 (.int .u8 jt) rfl; have s2 := box_cells b1 2 (.int .u8 jf) rfl; have s3 := box_cells b1 3 (.int .u32 k) rfl)
  go_ret
  exact ⟨rfl, B1.alloc B1.size _⟩
set_option maxRecDepth 100000 in
set_option maxHeartbeats 4000000 in
theorem one_77_tn (jt jf k left : Int) (w : World) (hl : left < 0) (y0 : decide (0 ≤ jt) = true) (y1 : 0 ≤ jt) (y2 : IntKind.i64.wrap jt = jt) (y3 : IntKind.i64.wrap jf = jf) : OneTo 77 jt jf k left (42) w := by
  have HO := Lib.hid (fun W => refOf_any 77 W)
  rw [show ofL allL 77 = ⟨77, ⟨#[106, 115, 101, 116, 120]⟩, 4⟩ by kernel_rfl] at HO
  have hl2 : decide (left < 0) = true := decide_eq_true hl
  go_enter Tryd.func16, Tryd.ntmps16
  go_wp2_with (go_at_call 22; ((with_reducible refine (HO.out _).mono ?_); rintro e w1 ⟨rfl, b1⟩); have B1 := ((Below.refl w.heap.size w).alloc (Nat.le_refl _) (.cells #[.int .u16 77, .int .u8 jt, .int .u8 jf, .int .u32 k] 35)).trans (b1.mono (by simp)); have z1 : w.heap.size < w1.heap.size := (by have h := b1.size; rw [World.size_alloc] at h; omega); have s0 := box_cells b1 0 (.int .u16 77) rfl; have s1 := box_cells b1 1 (.int .u8 jt) rfl; have s2 := box_cells b1 2 (.int .u8 jf) rfl; have s3 := box_cells b1 3 (.int .u32 k) rfl)
  go_ret
  exact ⟨rfl, B1.alloc B1.size _⟩
set_option maxRecDepth 100000 in
set_option maxHeartbeats 4000000 in
theorem one_77_tp (jt jf k left : Int) (w : World) (hl : 0 ≤ left) (y0 : decide (left ≤ jt) = true) (y1 : left ≤ jt) (y2 : IntKind.i64.wrap jt = jt) (y3 : IntKind.i64.wrap jf = jf) : OneTo 77 jt jf k left (42) w := by
  have HO := Lib.hid (fun W => refOf_any 77 W)
  rw [show ofL allL 77 = ⟨77, ⟨#[106, 115, 101, 116, 120]⟩, 4⟩ by kernel_rfl] at HO
  have hl2 : decide (left < 0) = false := decide_eq_false (by omega)
  go_enter Tryd.func16, Tryd.ntmps16
  go_wp2_with (go_at_call 22; ((with_reducible refine (HO.out _).mono ?_); rintro e w1 ⟨rfl, b1⟩); have B1 := ((Below.refl w.heap.size w).alloc (Nat.le_refl _) (.cells #[.int .u16 77, .int .u8 jt, .int .u8 jf, .int .u32 k] 35)).trans (b1.mono (by simp)); have z1 : w.heap.size < w1.heap.size := (by have h := b1.size; rw [World.size_alloc] at h; omega); have s0 := box_cells b1 0 (.int .u16 77) rfl; have s1 := box_cells b1 1 (.int .u8 jt) rfl; have s2 := box_cells b1 2 (.int .u8 jf) rfl; have s3 := box_cells b1 3 (.int .u32 k) rfl)
  go_ret
  exact ⟨rfl, B1.alloc B1.size _⟩
set_option maxRecDepth 100000 in
set_option maxHeartbeats 4000000 in
theorem one_77_fn (jt jf k left : Int) (w : World) (hl : left < 0) (y0 : decide (0 ≤ jt) = false) (y1 : decide (0 ≤ jf) = true) (y2 : ¬ 0 ≤ jt) (y3 : 0 ≤ jf) (y4 : IntKind.i64.wrap jt = jt) (y5 : IntKind.i64.wrap jf = jf) : OneTo 77 jt jf k left (42) w := by
  have HO := Lib.hid (fun W => refOf_any 77 W)
  rw [show ofL allL 77 = ⟨77, ⟨#[106, 115, 101, 116, 120]⟩, 4⟩ by kernel_rfl] at HO
  have hl2 : decide (left < 0) = true := decide_eq_true hl
  go_enter Tryd.func16, Tryd.ntmps16
  go_wp2_with (go_at_call 22; ((with_reducible refine (HO.out _).mono ?_); rintro e w1 ⟨rfl, b1⟩); have B1 := ((Below.refl w.heap.size w).alloc (Nat.le_refl _) (.cells #[.int .u16 77, .int .u8 jt, .int .u8 jf, .int .u32 k] 35)).trans (b1.mono (by simp)); have z1 : w.heap.size < w1.heap.size := (by have h := b1.size; rw [World.size_alloc] at h; omega); have s0 := box_cells b1 0 (.int .u16 77) rfl; have s1 := box_cells b1 1 (.int .u8 jt) rfl; have s2 := box_cells b1 2 (.int .u8 jf) rfl; have s3 := box_cells b1 3 (.int .u32 k) rfl)
  go_ret
  exact ⟨rfl, B1.alloc B1.size _⟩
set_option maxRecDepth 100000 in
set_option maxHeartbeats 4000000 in
theorem one_77_fp (jt jf k left : Int) (w : World) (hl : 0 ≤ left) (y0 : decide (left ≤ jt) = false) (y1 : decide (left ≤ jf) = true) (y2 : ¬ left ≤ jt) (y3 : left ≤ jf) (y4 : IntKind.i64.wrap jt = jt) (y5 : IntKind.i64.wrap jf = jf) : OneTo 77 jt jf k left (42) w := by
  have HO := Lib.hid (fun W => refOf_any 77 W)
  rw [show ofL allL 77 = ⟨77, ⟨#[106, 115, 101, 116, 120]⟩, 4⟩ by kernel_rfl] at HO
  have hl2 : decide (left < 0) = false := decide_eq_false (by omega)
  go_enter Tryd.func16, Tryd.ntmps16
  go_wp2_with (go_at_call 22; ((with_reducible refine (HO.out _).mono ?_); rintro e w1 ⟨rfl, b1⟩); have B1 := ((Below.refl w.heap.size w).alloc (Nat.le_refl _) (.cells #[.int .u16 77, .int .u8 jt, .int .u8 jf, .int .u32 k] 35)).trans (b1.mono (by simp)); have z1 : w.heap.size < w1.heap.size := (by have h := b1.size; rw [World.size_alloc] at h; omega); have s0 := box_cells b1 0 (.int .u16 77) rfl; have s1 := box_cells b1 1 (.int .u8 jt) rfl; have s2 := box_cells b1 2 (.int .u8 jf) rfl; have s3 := box_cells b1 3 (.int .u32 k) rfl)
  go_ret
  exact ⟨rfl, B1.alloc B1.size _⟩
end Go.Proofs.YtohfampfnhfnlaaDoor
