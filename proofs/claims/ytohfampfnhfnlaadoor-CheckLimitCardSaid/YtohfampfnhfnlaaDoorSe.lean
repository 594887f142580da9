/- What the document's own One says of an instruction: code by code. Condition: numbers of their kinds. -/
import Derived.Test.YtohfampfnhfnlaaDoorSc
namespace Go.Proofs.YtohfampfnhfnlaaDoor
open Go.RowKit
set_option linter.unusedVariables false
attribute [local go_sem ↓] Go.wp_at_zero Go.wp_at_succ

set_option maxRecDepth 100000 in
set_option maxHeartbeats 4000000 in
theorem one_21_okn (jt jf k left : Int) (w : World) (hl : left < 0) (y0 : decide (0 ≤ jt) = false) (y1 : decide (0 ≤ jf) = false) (y2 : ¬ 0 ≤ jt) (y3 : ¬ 0 ≤ jf) (y4 : IntKind.i64.wrap jt = jt) (y5 : IntKind.i64.wrap jf = jf) : OneTo 21 jt jf k left (0) w := by
  have HO := Lib.hid (fun W => refOf_any 21 W)
  rw [show ofL allL 21 = ⟨21, ⟨#[106, 101, 113]⟩, 4⟩ by kernel_rfl] at HO
  have hl2 : decide (left < 0) = true := decide_eq_true hl
  go_enter Tryd.func16, Tryd.ntmps16
  go_wp2_with (go_at_call 22; ((with_reducible refine (HO.out _).mono ?_); rintro e w1 ⟨rfl, b1⟩); have B1 := ((Below.refl w.heap.size w).alloc (Nat.le_refl _) (.cells #[.int .u16 21, .int .u8 jt, .int .u8 jf, .int .u32 k] 35)).trans (b1.mono (by simp)); have z1 : w.heap.size < w1.heap.size := (by have h := b1.size; rw [World.size_alloc] at h; omega); have s0 := box_cells b1 0 (.int .u16 21) rfl; have s1 := box_cells b1 1 (.int .u8 jt) rfl; have s2 := box_cells b1 2 (.int .u8 jf) rfl; have s3 := box_cells b1 3 (.int .u32 k) rfl)
  go_ret
  exact ⟨rfl, B1.alloc B1.size _⟩
set_option maxRecDepth 100000 in
set_option maxHeartbeats 4000000 in
theorem one_21_okp (jt jf k left : Int) (w : World) (hl : 0 ≤ left) (y0 : decide (left ≤ jt) = false) (y1 : decide (left ≤ jf) = false) (y2 : ¬ left ≤ jt) (y3 : ¬ left ≤ jf) (y4 : IntKind.i64.wrap jt = jt) (y5 : IntKind.i64.wrap jf = jf) : OneTo 21 jt jf k left (0) w := by
  have HO := Lib.hid (fun W => refOf_any 21 W)
  rw [show ofL allL 21 = ⟨21, ⟨#[106, 101, 113]⟩, 4⟩ by kernel_rfl] at HO
  have hl2 : decide (left < 0) = false := decide_eq_false (by omega)
  go_enter Tryd.func16, Tryd.ntmps16
  go_wp2_with (go_at_call 22; ((with_reducible refine (HO.out _).mono ?_); rintro e w1 ⟨rfl, b1⟩); have B1 := ((Below.refl w.heap.size w).alloc (Nat.le_refl _) (.cells #[.int .u16 21, .int .u8 jt, .int .u8 jf, .int .u32 k] 35)).trans (b1.mono (by simp)); have z1 : w.heap.size < w1.heap.size := (by have h := b1.size; rw [World.size_alloc] at h; omega); have s0 := box_cells b1 0 (.int .u16 21) rfl; have s1 := box_cells b1 1 (.int .u8 jt) rfl; have s2 := box_cells b1 2 (.int .u8 jf) rfl; have s3 := box_cells b1 3 (.int .u32 k) rfl)
  go_ret
  exact ⟨rfl, B1.alloc B1.size _⟩
set_option maxRecDepth 100000 in
set_option maxHeartbeats 4000000 in
theorem one_21_tn (jt jf k left : Int) (w : World) (hl : left < 0) (y0 : decide (0 ≤ jt) = true) (y1 : 0 ≤ jt) (y2 : IntKind.i64.wrap jt = jt) (y3 : IntKind.i64.wrap jf = jf) : OneTo 21 jt jf k left (42) w := by
  have HO := Lib.hid (fun W => refOf_any 21 W)
  rw [show ofL allL 21 = ⟨21, ⟨#[106, 101, 113]⟩, 4⟩ by kernel_rfl] at HO
  have hl2 : decide (left < 0) = true := decide_eq_true hl
  go_enter Tryd.func16, Tryd.ntmps16
  go_wp2_with (go_at_call 22; ((with_reducible refine (HO.out _).mono ?_); rintro e w1 ⟨rfl, b1⟩); have B1 := ((Below.refl w.heap.size w).alloc (Nat.le_refl _) (.cells #[.int .u16 21, .int .u8 jt, .int .u8 jf, .int .u32 k] 35)).trans (b1.mono (by simp)); have z1 : w.heap.size < w1.heap.size := (by have h := b1.size; rw [World.size_alloc] at h; omega); have s0 := box_cells b1 0 (.int .u16 21) rfl; have s1 := box_cells b1 1 (.int .u8 jt) rfl; have s2 := box_cells b1 2 (.int .u8 jf) rfl; have s3 := box_cells b1 3 (.int .u32 k) rfl)
  go_ret
  exact ⟨rfl, B1.alloc B1.size _⟩
set_option maxRecDepth 100000 in
set_option maxHeartbeats 4000000 in
theorem one_21_tp (jt jf k left : Int) (w : World) (hl : 0 ≤ left) (y0 : decide (left ≤ jt) = true) (y1 : left ≤ jt) (y2 : IntKind.i64.wrap jt = jt) (y3 : IntKind.i64.wrap jf = jf) : OneTo 21 jt jf k left (42) w := by
  have HO := Lib.hid (fun W => refOf_any 21 W)
  rw [show ofL allL 21 = ⟨21, ⟨#[106, 101, 113]⟩, 4⟩ by kernel_rfl] at HO
  have hl2 : decide (left < 0) = false := decide_eq_false (by omega)
  go_enter Tryd.func16, Tryd.ntmps16
  go_wp2_with (go_at_call 22; ((with_reducible refine (HO.out _).mono ?_); rintro e w1 ⟨rfl, b1⟩); have B1 := ((Below.refl w.heap.size w).alloc (Nat.le_refl _) (.cells #[.int .u16 21, .int .u8 jt, .int .u8 jf, .int .u32 k] 35)).trans (b1.mono (by simp)); have z1 : w.heap.size < w1.heap.size := (by have h := b1.size; rw [World.size_alloc] at h; omega); have s0 := box_cells b1 0 (.int .u16 21) rfl; have s1 := box_cells b1 1 (.int .u8 jt) rfl; have s2 := box_cells b1 2 (.int .u8 jf) rfl; have s3 := box_cells b1 3 (.int .u32 k) rfl)
  go_ret
  exact ⟨rfl, B1.alloc B1.size _⟩
set_option maxRecDepth 100000 in
set_option maxHeartbeats 4000000 in
theorem one_21_fn (jt jf k left : Int) (w : World) (hl : left < 0) (y0 : decide (0 ≤ jt) = false) (y1 : decide (0 ≤ jf) = true) (y2 : ¬ 0 ≤ jt) (y3 : 0 ≤ jf) (y4 : IntKind.i64.wrap jt = jt) (y5 : IntKind.i64.wrap jf = jf) : OneTo 21 jt jf k left (42) w := by
  have HO := Lib.hid (fun W => refOf_any 21 W)
  rw [show ofL allL 21 = ⟨21, ⟨#[106, 101, 113]⟩, 4⟩ by kernel_rfl] at HO
  have hl2 : decide (left < 0) = true := decide_eq_true hl
  go_enter Tryd.func16, Tryd.ntmps16
  go_wp2_with (go_at_call 22; ((with_reducible refine (HO.out _).mono ?_); rintro e w1 ⟨rfl, b1⟩); have B1 := ((Below.refl w.heap.size w).alloc (Nat.le_refl _) (.cells #[.int .u16 21, .int .u8 jt, .int .u8 jf, .int .u32 k] 35)).trans (b1.mono (by simp)); have z1 : w.heap.size < w1.heap.size := (by have h := b1.size; rw [World.size_alloc] at h; omega); have s0 := box_cells b1 0 (.int .u16 21) rfl; have s1 := box_cells b1 1 (.int .u8 jt) rfl; have s2 := box_cells b1 2 (.int .u8 jf) rfl; have s3 := box_cells b1 3 (.int .u32 k) rfl)
  go_ret
  exact ⟨rfl, B1.alloc B1.size _⟩
set_option maxRecDepth 100000 in
set_option maxHeartbeats 4000000 in
theorem one_21_fp (jt jf k left : Int) (w : World) (hl : 0 ≤ left) (y0 : decide (left ≤ jt) = false) (y1 : decide (left ≤ jf) = true) (y2 : ¬ left ≤ jt) (y3 : left ≤ jf) (y4 : IntKind.i64.wrap jt = jt) (y5 : IntKind.i64.wrap jf = jf) : OneTo 21 jt jf k left (42) w := by
  have HO := Lib.hid (fun W => refOf_any 21 W)
  rw [show ofL allL 21 = ⟨21, ⟨#[106, 101, 113]⟩, 4⟩ by kernel_rfl] at HO
  have hl2 : decide (left < 0) = false := decide_eq_false (by omega)
  go_enter Tryd.func16, Tryd.ntmps16
  go_wp2_with (go_at_call 22; ((with_reducible refine (HO.out _).mono ?_); rintro e w1 ⟨rfl, b1⟩); have B1 := ((Below.refl w.heap.size w).alloc (Nat.le_refl _) (.cells #[.int .u16 21, .int .u8 jt, .int .u8 jf, .int .u32 k] 35)).trans (b1.mono (by simp)); have z1 : w.heap.size < w1.heap.size := (by have h := b1.size; rw [World.size_alloc] at h; omega); have s0 := box_cells b1 0 (.int .u16 21) rfl; have s1 := box_cells b1 1 (.int .u8 jt) rfl; have s2 := box_cells b1 2 (.int .u8 jf) rfl; have s3 := box_cells b1 3 (.int .u32 k) rfl)
  go_ret
  exact ⟨rfl, B1.alloc B1.size _⟩
set_option maxRecDepth 100000 in
set_option maxHeartbeats 4000000 in
theorem one_37_okn (jt jf k left : Int) (w : World) (hl : left < 0) (y0 : decide (0 ≤ jt) = false) (y1 : decide (0 ≤ jf) = false) (y2 : ¬ 0 ≤ jt) (y3 : ¬ 0 ≤ jf) (y4 : IntKind.i64.wrap jt = jt) (y5 : IntKind.i64.wrap jf = jf) : OneTo 37 jt jf k left (0) w := by
  have HO := Lib.hid (fun W => refOf_any 37 W)
  rw [show ofL allL 37 = ⟨37, ⟨#[106, 103, 116]⟩, 4⟩ by kernel_rfl] at HO
  have hl2 : decide (left < 0) = true := decide_eq_true hl
  go_enter Tryd.func16, Tryd.ntmps16
  go_wp2_with (go_at_call 22; ((with_reducible refine (HO.out _).mono ?_); rintro e w1 ⟨rfl, b1⟩); have B1 := ((Below.refl w.heap.size w).alloc (Nat.le_refl _) (.cells #[.int .u16 37, .int .u8 jt, .int .u8 jf, .int .u32 k] 35)).trans (b1.mono (by simp)); have z1 : w.heap.size < w1.heap.size := (by have h := b1.size; rw [World.size_alloc] at h; omega); have s0 := box_cells b1 0 (.int .u16 37) rfl; have s1 := box_cells b1 1 (.int .u8 jt) rfl; have s2 := box_cells b1 2 (.int .u8 jf) rfl; have s3 := box_cells b1 3 (.int .u32 k) rfl)
  go_ret
  exact ⟨rfl, B1.alloc B1.size _⟩
set_option maxRecDepth 100000 in
set_option maxHeartbeats 4000000 in
theorem one_37_okp (jt jf k left : Int) (w : World) (hl : 0 ≤ left) (y0 : decide (left ≤ jt) = false) (y1 : decide (left ≤ jf) = false) (y2 : ¬ left ≤ jt) (y3 : ¬ left ≤ jf) (y4 : IntKind.i64.wrap jt = jt) (y5 : IntKind.i64.wrap jf = jf) : OneTo 37 jt jf k left (0) w := by
  have HO := Lib.hid (fun W => refOf_any 37 W)
  rw [show ofL allL 37 = ⟨37, ⟨#[106, 103, 116]⟩, 4⟩ by kernel_rfl] at HO
  have hl2 : decide (left < 0) = false := decide_eq_false (by omega)
  go_enter Tryd.func16, Tryd.ntmps16
  go_wp2_with (go_at_call 22; ((with_reducible refine (HO.out _).mono ?_); rintro e w1 ⟨rfl, b1⟩); have B1 := ((Below.refl w.heap.size w).alloc (Nat.le_refl _) (.cells #[.int .u16 37, .int .u8 jt, .int .u8 jf, .int .u32 k] 35)).trans (b1.mono (by simp)); have z1 : w.heap.size < w1.heap.size := (by have h := b1.size; rw [World.size_alloc] at h; omega); have s0 := box_cells b1 0 (.int .u16 37) rfl; have s1 := box_cells b1 1 (.int .u8 jt) rfl; have s2 := box_cells b1 2 (.int .u8 jf) rfl; have s3 := box_cells b1 3 (.int .u32 k) rfl)
  go_ret
  exact ⟨rfl, B1.alloc B1.size _⟩
set_option maxRecDepth 100000 in
set_option maxHeartbeats 4000000 in
theorem one_37_tn (jt jf k left : Int) (w : World) (hl : left < 0) (y0 : decide (0 ≤ jt) = true) (y1 : 0 ≤ jt) (y2 : IntKind.i64.wrap jt = jt) (y3 : IntKind.i64.wrap jf = jf) : OneTo 37 jt jf k left (42) w := by
  have HO := Lib.hid (fun W => refOf_any 37 W)
  rw [show ofL allL 37 = ⟨37, ⟨#[106, 103, 116]⟩, 4⟩ by kernel_rfl] at HO
  have hl2 : decide (left < 0) = true := decide_eq_true hl
  go_enter Tryd.func16, Tryd.ntmps16
  go_wp2_with (go_at_call 22; ((with_reducible refine (HO.out _).mono ?_); rintro e w1 ⟨rfl, b1⟩); have B1 := ((Below.refl w.heap.size w).alloc (Nat.le_refl _) (.cells #[.int .u16 37, .int .u8 jt, .int .u8 jf, .int .u32 k] 35)).trans (b1.mono (by simp)); have z1 : w.heap.size < w1.heap.size := (by have h := b1.size; rw [World.size_alloc] at h; omega); have s0 := box_cells b1 0 (.int .u16 37) rfl; have s1 := box_cells b1 1 (.int .u8 jt) rfl; have s2 := box_cells b1 2 (.int .u8 jf) rfl; have s3 := box_cells b1 3 (.int .u32 k) rfl)
  go_ret
  exact ⟨rfl, B1.alloc B1.size _⟩
set_option maxRecDepth 100000 in
set_option maxHeartbeats 4000000 in
theorem one_37_tp (jt jf k left : Int) (w : World) (hl : 0 ≤ left) (y0 : decide (left ≤ jt) = true) (y1 : left ≤ jt) (y2 : IntKind.i64.wrap jt = jt) (y3 : IntKind.i64.wrap jf = jf) : OneTo 37 jt jf k left (42) w := by
  have HO := Lib.hid (fun W => refOf_any 37 W)
  rw [show ofL allL 37 = ⟨37, ⟨#[106, 103, 116]⟩, 4⟩ by kernel_rfl] at HO
  have hl2 : decide (left < 0) = false := decide_eq_false (by omega)
  go_enter Tryd.func16, Tryd.ntmps16
  go_wp2_with (go_at_call 22; ((with_reducible refine (HO.out _).mono ?_); rintro e w1 ⟨rfl, b1⟩); have B1 := ((Below.refl w.heap.size w).alloc (Nat.le_refl _) (.cells #[.int .u16 37, .int .u8 jt, .int .u8 jf, .int .u32 k] 35)).trans (b1.mono (by simp)); have z1 : w.heap.size < w1.heap.size := (by have h := b1.size; rw [World.size_alloc] at h; omega); have s0 := box_cells b1 0 (.int .u16 37) rfl; have s1 := box_cells b1 1 (.int .u8 jt) rfl; have s2 := box_cells b1 2 (.int .u8 jf) rfl; have s3 := box_cells b1 3 (.int .u32 k) rfl)
  go_ret
  exact ⟨rfl, B1.alloc B1.size _⟩
set_option maxRecDepth 100000 in
set_option maxHeartbeats 4000000 in
theorem one_37_fn (jt jf k left : Int) (w : World) (hl : left < 0) (y0 : decide (0 ≤ jt) = false) (y1 : decide (0 ≤ jf) = true) (y2 : ¬ 0 ≤ jt) (y3 : 0 ≤ jf) (y4 : IntKind.i64.wrap jt = jt) (y5 : IntKind.i64.wrap jf = jf) : OneTo 37 jt jf k left (42) w := by
  have HO := Lib.hid (fun W => refOf_any 37 W)
  rw [show ofL allL 37 = ⟨37, ⟨#[106, 103, 116]⟩, 4⟩ by kernel_rfl] at HO
  have hl2 : decide (left < 0) = true := decide_eq_true hl
  go_enter Tryd.func16, Tryd.ntmps16
  go_wp2_with (go_at_call 22; ((with_reducible refine (HO.out _).mono ?_); rintro e w1 ⟨rfl, b1⟩); have B1 := ((Below.refl w.heap.size w).alloc (Nat.le_refl _) (.cells #[.int .u16 37, .int .u8 jt, .int .u8 jf, .int .u32 k] 35)).trans (b1.mono (by simp)); have z1 : w.heap.size < w1.heap.size := (by have h := b1.size; rw [World.size_alloc] at h; omega); have s0 := box_cells b1 0 (.int .u16 37) rfl; have s1 := box_cells b1 1 (.int .u8 jt) rfl; have s2 := box_cells b1 2 (.int .u8 jf) rfl; have s3 := box_cells b1 3 (.int .u32 k) rfl)
  go_ret
  exact ⟨rfl, B1.alloc B1.size _⟩
set_option maxRecDepth 100000 in
set_option maxHeartbeats 4000000 in
theorem one_37_fp (jt jf k left : Int) (w : World) (hl : 0 ≤ left) (y0 : decide (left ≤ jt) = false) (y1 : decide (left ≤ jf) = true) (y2 : ¬ left ≤ jt) (y3 : left ≤ jf) (y4 : IntKind.i64.wrap jt = jt) (y5 : IntKind.i64.wrap jf = jf) : OneTo 37 jt jf k left (42) w := by
  have HO := Lib.hid (fun W => refOf_any 37 W)
  rw [show ofL allL 37 = ⟨37, ⟨#[106, 103, 116]⟩, 4⟩ by kernel_rfl] at HO
  have hl2 : decide (left < 0) = false := decide_eq_false (by omega)
  go_enter Tryd.func16, Tryd.ntmps16
  go_wp2_with (go_at_call 22; ((with_reducible refine (HO.out _).mono ?_); rintro e w1 ⟨rfl, b1⟩); have B1 := ((Below.refl w.heap.size w).alloc (Nat.le_refl _) (.cells #[.int .u16 37, .int .u8 jt, .int .u8 jf, .int .u32 k] 35)).trans (b1.mono (by simp)); have z1 : w.heap.size < w1.heap.size := (by have h := b1.size; rw [World.size_alloc] at h; omega); have s0 := box_cells b1 0 (.int .u16 37) rfl; have s1 := box_cells b1 1 (.int .u8 jt) rfl; have s2 := box_cells b1 2 (.int .u8 jf) rfl; have s3 := box_cells b1 3 (.int .u32 k) rfl)
  go_ret
  exact ⟨rfl, B1.alloc B1.size _⟩
set_option maxRecDepth 100000 in
set_option maxHeartbeats 4000000 in
theorem one_53_okn (jt jf k left : Int) (w : World) (hl : left < 0) (y0 : decide (0 ≤ jt) = false) (y1 : decide (0 ≤ jf) = false) (y2 : ¬ 0 ≤ jt) (y3 : ¬ 0 ≤ jf) (y4 : IntKind.i64.wrap jt = jt) (y5 : IntKind.i64.wrap jf = jf) : OneTo 53 jt jf k left (0) w := by
  have HO := Lib.hid (fun W => refOf_any 53 W)
  rw [show ofL allL 53 = ⟨53, ⟨#[106, 103, 101]⟩, 4⟩ by kernel_rfl] at HO
  have hl2 : decide (left < 0) = true := decide_eq_true hl
  go_enter Tryd.func16, Tryd.ntmps16
  go_wp2_with (go_at_call 22; ((with_reducible refine (HO.out _).mono ?_); rintro e w1 ⟨rfl, b1⟩); have B1 := ((Below.refl w.heap.size w).alloc (Nat.le_refl _) (.cells #[.int .u16 53, .int .u8 jt, .int .u8 jf, .int .u32 k] 35)).trans (b1.mono (by simp)); have z1 : w.heap.size < w1.heap.size := (by have h := b1.size; rw [World.size_alloc] at h; omega); have s0 := box_cells b1 0 (.int .u16 53) rfl; have s1 := box_cells b1 1 (.int .u8 jt) rfl; have s2 := box_cells b1 2 (.int .u8 jf) rfl; have s3 := box_cells b1 3 (.int .u32 k) rfl)
  go_ret
  exact ⟨rfl, B1.alloc B1.size _⟩
set_option maxRecDepth 100000 in
set_option maxHeartbeats 4000000 in
theorem one_53_okp (jt jf k left : Int) (w : World) (hl : 0 ≤ left) (y0 : decide (left ≤ jt) = false) (y1 : decide (left ≤ jf) = false) (y2 : ¬ left ≤ jt) (y3 : ¬ left ≤ jf) (y4 : IntKind.i64.wrap jt = jt) (y5 : IntKind.i64.wrap jf = jf) : OneTo 53 jt jf k left (0) w := by
  have HO := Lib.hid (fun W => refOf_any 53 W)
  rw [show ofL allL 53 = ⟨53, ⟨#[106, 103, 101]⟩, 4⟩ by kernel_rfl] at HO
  have hl2 : decide (left < 0) = false := decide_eq_false (by omega)
  go_enter Tryd.func16, Tryd.ntmps16
  go_wp2_with (go_at_call 22; ((with_reducible refine (HO.out _).mono ?_); rintro e w1 ⟨rfl, b1⟩); have B1 := ((Below.refl w.heap.size w).alloc (Nat.le_refl _) (.cells #[.int .u16 53, .int .u8 jt, .int .u8 jf, .int .u32 k] 35)).trans (b1.mono (by simp)); have z1 : w.heap.size < w1.heap.size := (by have h := b1.size; rw [World.size_alloc] at h; omega); have s0 := box_cells b1 0 (.int .u16 53) rfl; have s1 := box_cells b1 1 (.int .u8 jt) rfl; have s2 := box_cells b1 2 (.int .u8 jf) rfl; have s3 := box_cells b1 3 (.int .u32 k) rfl)
  go_ret
  exact ⟨rfl, B1.alloc B1.size _⟩
set_option maxRecDepth 100000 in
set_option maxHeartbeats 4000000 in
theorem one_53_tn (jt jf k left : Int) (w : World) (hl : left < 0) (y0 : decide (0 ≤ jt) = true) (y1 : 0 ≤ jt) (y2 : IntKind.i64.wrap jt = jt) (y3 : IntKind.i64.wrap jf = jf) : OneTo 53 jt jf k left (42) w := by
  have HO := Lib.hid (fun W => refOf_any 53 W)
  rw [show ofL allL 53 = ⟨53, ⟨#[106, 103, 101]⟩, 4⟩ by kernel_rfl] at HO
  have hl2 : decide (left < 0) = true := decide_eq_true hl
  go_enter Tryd.func16, Tryd.ntmps16
  go_wp2_with (go_at_call 22; ((with_reducible refine (HO.out _).mono ?_); rintro e w1 ⟨rfl, b1⟩); have B1 := ((Below.refl w.heap.size w).alloc (Nat.le_refl _) (.cells #[.int .u16 53, .int .u8 jt, .int .u8 jf, .int .u32 k] 35)).trans (b1.mono (by simp)); have z1 : w.heap.size < w1.heap.size := (by have h := b1.size; rw [World.size_alloc] at h; omega); have s0 := box_cells b1 0 (.int .u16 53) rfl; have s1 := box_cells b1 1 (.int .u8 jt) rfl; have s2 := box_cells b1 2 (.int .u8 jf) rfl; have s3 := box_cells b1 3 (.int .u32 k) rfl)
  go_ret
  exact ⟨rfl, B1.alloc B1.size _⟩
set_option maxRecDepth 100000 in
set_option maxHeartbeats 4000000 in
theorem one_53_tp (jt jf k left : Int) (w : World) (hl : 0 ≤ left) (y0 : decide (left ≤ jt) = true) (y1 : left ≤ jt) (y2 : IntKind.i64.wrap jt = jt) (y3 : IntKind.i64.wrap jf = jf) : OneTo 53 jt jf k left (42) w := by
  have HO := Lib.hid (fun W => refOf_any 53 W)
  rw [show ofL allL 53 = ⟨53, ⟨#[106, 103, 101]⟩, 4⟩ by kernel_rfl] at HO
  have hl2 : decide (left < 0) = false := decide_eq_false (by omega)
  go_enter Tryd.func16, Tryd.ntmps16
  go_wp2_with (go_at_call 22; ((with_reducible refine (HO.out _).mono ?_); rintro e w1 ⟨rfl, b1⟩); have B1 := ((Below.refl w.heap.size w).alloc (Nat.le_refl _) (.cells #[.int .u16 53, .int .u8 jt, .int .u8 jf, .int .u32 k] 35)).trans (b1.mono (by simp)); have z1 : w.heap.size < w1.heap.size := (by have h := b1.size; rw [World.size_alloc] at h; omega); have s0 := box_cells b1 0 (.int .u16 53) rfl; have s1 := box_cells b1 1 (.int .u8 jt) rfl; have s2 := box_cells b1 2 (.int .u8 jf) rfl; have s3 := box_cells b1 3 (.int .u32 k) rfl)
  go_ret
  exact ⟨rfl, B1.alloc B1.size _⟩
set_option maxRecDepth 100000 in
set_option maxHeartbeats 4000000 in
theorem one_53_fn (jt jf k left : Int) (w : World) (hl : left < 0) (y0 : decide (0 ≤ jt) = false) (y1 : decide (0 ≤ jf) = true) (y2 : ¬ 0 ≤ jt) (y3 : 0 ≤ jf) (y4 : IntKind.i64.wrap jt = jt) (y5 : IntKind.i64.wrap jf = jf) : OneTo 53 jt jf k left (42) w := by
  have HO := Lib.hid (fun W => refOf_any 53 W)
  rw [show ofL allL 53 = ⟨53, ⟨#[106, 103, 101]⟩, 4⟩ by kernel_rfl] at HO
  have hl2 : decide (left < 0) = true := decide_eq_true hl
  go_enter Tryd.func16, Tryd.ntmps16
  go_wp2_with (go_at_call 22; ((with_reducible refine (HO.out _).mono ?_); rintro e w1 ⟨rfl, b1⟩); have B1 := ((Below.refl w.heap.size w).alloc (Nat.le_refl _) (.cells #[.int .u16 53, .int .u8 jt, .int .u8 jf, .int .u32 k] 35)).trans (b1.mono (by simp)); have z1 : w.heap.size < w1.heap.size := (by have h := b1.size; rw [World.size_alloc] at h; omega); have s0 := box_cells b1 0 (.int .u16 53) rfl; have s1 := box_cells b1 1 (.int .u8 jt) rfl; have s2 := box_cells b1 2 (.int .u8 jf) rfl; have s3 := box_cells b1 3 (.int .u32 k) rfl)
  go_ret
  exact ⟨rfl, B1.alloc B1.size _⟩
set_option maxRecDepth 100000 in
set_option maxHeartbeats 4000000 in
theorem one_53_fp (jt jf k left : Int) (w : World) (hl : 0 ≤ left) (y0 : decide (left ≤ jt) = false) (y1 : decide (left ≤ jf) = true) (y2 : ¬ left ≤ jt) (y3 : left ≤ jf) (y4 : IntKind.i64.wrap jt = jt) (y5 : IntKind.i64.wrap jf = jf) : OneTo 53 jt jf k left (42) w := by
  have HO := Lib.hid (fun W => refOf_any 53 W)
  rw [show ofL allL 53 = ⟨53, ⟨#[106, 103, 101]⟩, 4⟩ by kernel_rfl] at HO
  have hl2 : decide (left < 0) = false := decide_eq_false (by omega)
  go_enter Tryd.func16, Tryd.ntmps16
  go_wp2_with (go_at_call 22; ((with_reducible refine (HO.out _).mono ?_); rintro e w1 ⟨rfl, b1⟩); have B1 := ((Below.refl w.heap.size w).alloc (Nat.le_refl _) (.cells #[.int .u16 53, .int .u8 jt, .int .u8 jf, .int .u32 k] 35)).trans (b1.mono (by simp)); have z1 : w.heap.size < w1.heap.size := (by have h := b1.size; rw [World.size_alloc] at h; omega); have s0 := box_cells b1 0 (.int .u16 53) rfl; have s1 := box_cells b1 1 (.int .u8 jt) rfl; have s2 := box_cells b1 2 (.int .u8 jf) rfl; have s3 := box_cells b1 3 (.int .u32 k) rfl)
  go_ret
  exact ⟨rfl, B1.alloc B1.size _⟩
set_option maxRecDepth 100000 in
set_option maxHeartbeats 4000000 in
theorem one_69_okn (jt jf k left : Int) (w : World) (hl : left < 0) (y0 : decide (0 ≤ jt) = false) (y1 : decide (0 ≤ jf) = false) (y2 : ¬ 0 ≤ jt) (y3 : ¬ 0 ≤ jf) (y4 : IntKind.i64.wrap jt = jt) (y5 : IntKind.i64.wrap jf = jf) : OneTo 69 jt jf k left (0) w := by
  have HO := Lib.hid (fun W => refOf_any 69 W)
  rw [show ofL allL 69 = ⟨69, ⟨#[106, 115, 101, 116]⟩, 4⟩ by kernel_rfl] at HO
  have hl2 : decide (left < 0) = true := decide_eq_true hl
  go_enter Tryd.func16, Tryd.ntmps16
  go_wp2_with (go_at_call 22; ((with_reducible refine (HO.out _).mono ?_); rintro e w1 ⟨rfl, b1⟩); have B1 := ((Below.refl w.heap.size w).alloc (Nat.le_refl _) (.cells #[.int .u16 69, .int .u8 jt, .int .u8 jf, .int .u32 k] 35)).trans (b1.mono (by simp)); have z1 : w.heap.size < w1.heap.size := (by have h := b1.size; rw [World.size_alloc] at h; omega); have s0 := box_cells b1 0 (.int .u16 69) rfl; have s1 := box_cells b1 1 (.int .u8 jt) rfl; have s2 := box_cells b1 2 (.int .u8 jf) rfl; have s3 := box_cells b1 3 (.int .u32 k) rfl)
  go_ret
  exact ⟨rfl, B1.alloc B1.size _⟩
set_option maxRecDepth 100000 in
set_option maxHeartbeats 4000000 in
theorem one_69_okp (jt jf k left : Int) (w : World) (hl : 0 ≤ left) (y0 : decide (left ≤ jt) = false) (y1 : decide (left ≤ jf) = false) (y2 : ¬ left ≤ jt) (y3 : ¬ left ≤ jf) (y4 : IntKind.i64.wrap jt = jt) (y5 : IntKind.i64.wrap jf = jf) : OneTo 69 jt jf k left (0) w := by
  have HO := Lib.hid (fun W => refOf_any 69 W)
  rw [show ofL allL 69 = ⟨69, ⟨#[106, 115, 101, 116]⟩, 4⟩ by kernel_rfl] at HO
  have hl2 : decide (left < 0) = false := decide_eq_false (by omega)
  go_enter Tryd.func16, Tryd.ntmps16
  go_wp2_with (go_at_call 22; ((with_reducible refine (HO.out _).mono ?_); rintro e w1 ⟨rfl, b1⟩); have B1 := ((Below.refl w.heap.size w).alloc (Nat.le_refl _) (.cells #[.int .u16 69, .int .u8 jt, .int .u8 jf, .int .u32 k] 35)).trans (b1.mono (by simp)); have z1 : w.heap.size < w1.heap.size := (by have h := b1.size; rw [World.size_alloc] at h; omega); have s0 := box_cells b1 0 (.int .u16 69) rfl; have s1 := box_cells b1 1 (.int .u8 jt) rfl; have s2 := box_cells b1 2 (.int .u8 jf) rfl; have s3 := box_cells b1 3 (.int .u32 k) rfl)
  go_ret
  exact ⟨rfl, B1.alloc B1.size _⟩
set_option maxRecDepth 100000 in
set_option maxHeartbeats 4000000 in
theorem one_69_tn (jt jf k left : Int) (w : World) (hl : left < 0) (y0 : decide (0 ≤ jt) = true) (y1 : 0 ≤ jt) (y2 : IntKind.i64.wrap jt = jt) (y3 : IntKind.i64.wrap jf = jf) : OneTo 69 jt jf k left (42) w := by
  have HO := Lib.hid (fun W => refOf_any 69 W)
  rw [show ofL allL 69 = ⟨69, ⟨#[106, 115, 101, 116]⟩, 4⟩ by kernel_rfl] at HO
  have hl2 : decide (left < 0) = true := decide_eq_true hl
  go_enter Tryd.func16, Tryd.ntmps16
  go_wp2_with (go_at_call 22; ((with_reducible refine (HO.out _).mono ?_); rintro e w1 ⟨rfl, b1⟩); have B1 := ((Below.refl w.heap.size w).alloc (Nat.le_refl _) (.cells #[.int .u16 69, .int .u8 jt, .int .u8 jf, .int .u32 k] 35)).trans (b1.mono (by simp)); have z1 : w.heap.size < w1.heap.size := (by have h := b1.size; rw [World.size_alloc] at h; omega); have s0 := box_cells b1 0 (.int .u16 69) rfl; have s1 := box_cells b1 1 (.int .u8 jt) rfl; have s2 := box_cells b1 2 (.int .u8 jf) rfl; have s3 := box_cells b1 3 (.int .u32 k) rfl)
  go_ret
  exact ⟨rfl, B1.alloc B1.size _⟩
set_option maxRecDepth 100000 in
set_option maxHeartbeats 4000000 in
theorem one_69_tp (jt jf k left : Int) (w : World) (hl : 0 ≤ left) (y0 : decide (left ≤ jt) = true) (y1 : left ≤ jt) (y2 : IntKind.i64.wrap jt = jt) (y3 : IntKind.i64.wrap jf = jf) : OneTo 69 jt jf k left (42) w := by
  have HO := Lib.hid (fun W => refOf_any 69 W)
  rw [show ofL allL 69 = ⟨69, ⟨#[106, 115, 101, 116]⟩, 4⟩ by kernel_rfl] at HO
  have hl2 : decide (left < 0) = false := decide_eq_false (by omega)
  go_enter Tryd.func16, Tryd.ntmps16
  go_wp2_with (go_at_call 22; ((with_reducible refine (HO.out _).mono ?_); rintro e w1 ⟨rfl, b1⟩); have B1 := ((Below.refl w.heap.size w).alloc (Nat.le_refl _) (.cells #[.int .u16 69, .int .u8 jt, .int .u8 jf, .int .u32 k] 35)).trans (b1.mono (by simp)); have z1 : w.heap.size < w1.heap.size := (by have h := b1.size; rw [World.size_alloc] at h; omega); have s0 := box_cells b1 0 (.int .u16 69) rfl; have s1 := box_cells b1 1 (.int .u8 jt) rfl; have s2 := box_cells b1 2 (.int .u8 jf) rfl; have s3 := box_cells b1 3 (.int .u32 k) rfl)
  go_ret
  exact ⟨rfl, B1.alloc B1.size _⟩
set_option maxRecDepth 100000 in
set_option maxHeartbeats 4000000 in
theorem one_69_fn (jt jf k left : Int) (w : World) (hl : left < 0) (y0 : decide (0 ≤ jt) = false) (y1 : decide (0 ≤ jf) = true) (y2 : ¬ 0 ≤ jt) (y3 : 0 ≤ jf) (y4 : IntKind.i64.wrap jt = jt) (y5 : IntKind.i64.wrap jf = jf) : OneTo 69 jt jf k left (42) w := by
  have HO := Lib.hid (fun W => refOf_any 69 W)
  rw [show ofL allL 69 = ⟨69, ⟨#[106, 115, 101, 116]⟩, 4⟩ by kernel_rfl] at HO
  have hl2 : decide (left < 0) = true := decide_eq_true hl
  go_enter Tryd.func16, Tryd.ntmps16
  go_wp2_with (go_at_call 22; ((with_reducible refine (HO.out _).mono ?_); rintro e w1 ⟨rfl, b1⟩); have B1 := ((Below.refl w.heap.size w).alloc (Nat.le_refl _) (.cells #[.int .u16 69, .int .u8 jt, .int .u8 jf, .int .u32 k] 35)).trans (b1.mono (by simp)); have z1 : w.heap.size < w1.heap.size := (by have h := b1.size; rw [World.size_alloc] at h; omega); have s0 := box_cells b1 0 (.int .u16 69) rfl; have s1 := box_cells b1 1 (.int .u8 jt) rfl; have s2 := box_cells b1 2 (.int .u8 jf) rfl; have s3 := box_cells b1 3 (.int .u32 k) rfl)
  go_ret
  exact ⟨rfl, B1.alloc B1.size _⟩
set_option maxRecDepth 100000 in
set_option maxHeartbeats 4000000 in
theorem one_69_fp (jt jf k left : Int) (w : World) (hl : 0 ≤ left) (y0 : decide (left ≤ jt) = false) (y1 : decide (left ≤ jf) = true) (y2 : ¬ left ≤ jt) (y3 : left ≤ jf) (y4 : IntKind.i64.wrap jt = jt) (y5 : IntKind.i64.wrap jf = jf) : OneTo 69 jt jf k left (42) w := by
  have HO := Lib.hid (fun W => refOf_any 69 W)
  rw [show ofL allL 69 = ⟨69, ⟨#[106, 115, 101, 116]⟩, 4⟩ by kernel_rfl] at HO
  have hl2 : decide (left < 0) = false := decide_eq_false (by omega)
  go_enter Tryd.func16, Tryd.ntmps16
  go_wp2_with (go_at_call 22; ((with_reducible refine (HO.out _).mono ?_); rintro e w1 ⟨rfl, b1⟩); have B1 := ((Below.refl w.heap.size w).alloc (Nat.le_refl _) (.cells #[.int .u16 69, .int .u8 jt, .int .u8 jf, .int .u32 k] 35)).trans (b1.mono (by simp)); have z1 : w.heap.size < w1.heap.size := (by have h := b1.size; rw [World.size_alloc] at h; omega); have s0 := box_cells b1 0 (.int .u16 69) rfl; have s1 := box_cells b1 1 (.int .u8 jt) rfl; have s2 := box_cells b1 2 (.int .u8 jf) rfl; have s3 := box_cells b1 3 (.int .u32 k) rfl)
  go_ret
  exact ⟨rfl, B1.alloc B1.size _⟩
end Go.Proofs.YtohfampfnhfnlaaDoor
