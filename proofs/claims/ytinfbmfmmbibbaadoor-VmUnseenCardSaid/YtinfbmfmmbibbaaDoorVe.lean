/- What the document's machine makes of the codes of the class Number. Condition: numbers below 2 to the 32nd. -/
import Derived.Test.YtinfbmfmmbibbaaDoorVd
namespace Go.Proofs.YtinfbmfmmbibbaaDoor
open Go.RowKit
set_option linter.unusedVariables false
attribute [local go_sem ↓] Go.wp_at_zero Go.wp_at_succ

def NumTo (M : Nat) (r a x t : Int) (c : Nat → Int) (ov : Bool) (w : World) (e : Ending) (w' : World) : Prop := e = .returned (.int .i64 r) ∧ MachAt w' M a x t c ov ∧ w.grownBy w' (some M)
set_option maxRecDepth 100000 in
set_option maxHeartbeats 4000000 in
theorem num_add (jt jf k a x t : Int) (c : Nat → Int) (M : Nat) (w : World) (hm : MachAt w M a x t c false) (a0 : 0 ≤ a) (a1 : a < 4294967296) (x0 : 0 ≤ x) (x1 : x < 4294967296) (k0 : 0 ≤ k) (k1 : k < 4294967296)  :
    Calls Tryd.prog 29 #[.pointer (some ⟨M, 0, none⟩), .agg #[.int .u16 4, .int .u8 jt, .int .u8 jf, .int .u32 k]] w (NumTo M 0 ((a + k) % 4294967296) x t c false w) := by
  have HO := Lib.hid (fun W => refOf_any 4 W)
  rw [show ofL allL 4 = ⟨4, ⟨#[97, 100, 100]⟩, 3⟩ by kernel_rfl] at HO
  have HX := Lib.hid (fun W => refWithX_any 4 W)
  rw [show withXB 4 = false by decide +kernel] at HX
  have hfd := one_field1
  have HM := Lib.hid hm
  have hl := hm.lt
  clear hm
  go_enter Tryd.func29, Tryd.ntmps29
  go_wp2_with (first
    | (go_at_call 19; ((with_reducible refine (HO.out _).mono ?_); rintro e w1 ⟨rfl, b1⟩); have HM1 := Lib.hid ((HM.out.al _).on b1); have s0 := box_cells b1 0 (.int .u16 4) rfl; have s3 := box_cells b1 3 _ rfl)
    | (go_at_call 54; ((with_reducible refine (HX.out _).mono ?_); rintro e w2 ⟨rfl, b2⟩); have HM2 := Lib.hid (HM1.out.on b2); have p0 := HM2.out.cell 0 _ rfl; have p1 := HM2.out.cell 1 _ rfl; have p4 := HM2.out.cell 19 _ rfl; have pf := HM2.out.free; have pl := HM2.out.lt))
  go_ret
  exact ⟨rfl, (HM2.out.set_ 0 _ rfl), (((of_alloc w _ _).trans (of_below b1)).trans (of_below b2)).trans (of_set _ M 0 _)⟩
set_option maxRecDepth 100000 in
set_option maxHeartbeats 4000000 in
theorem num_addx (jt jf k a x t : Int) (c : Nat → Int) (M : Nat) (w : World) (hm : MachAt w M a x t c false) (a0 : 0 ≤ a) (a1 : a < 4294967296) (x0 : 0 ≤ x) (x1 : x < 4294967296) (k0 : 0 ≤ k) (k1 : k < 4294967296)  :
    Calls Tryd.prog 29 #[.pointer (some ⟨M, 0, none⟩), .agg #[.int .u16 12, .int .u8 jt, .int .u8 jf, .int .u32 k]] w (NumTo M 0 ((a + x) % 4294967296) x t c false w) := by
  have HO := Lib.hid (fun W => refOf_any 12 W)
  rw [show ofL allL 12 = ⟨12, ⟨#[97, 100, 100, 120]⟩, 3⟩ by kernel_rfl] at HO
  have HX := Lib.hid (fun W => refWithX_any 12 W)
  rw [show withXB 12 = true by decide +kernel] at HX
  have hfd := one_field1
  have hx : ((⟨#[97, 100, 100, 120]⟩ : ByteArray).extract 0 3) = ⟨#[97, 100, 100]⟩ := rfl
  have HM := Lib.hid hm
  have hl := hm.lt
  clear hm
  go_enter Tryd.func29, Tryd.ntmps29
  go_wp2_with (first
    | (go_at_call 19; ((with_reducible refine (HO.out _).mono ?_); rintro e w1 ⟨rfl, b1⟩); have HM1 := Lib.hid ((HM.out.al _).on b1); have s0 := box_cells b1 0 (.int .u16 12) rfl; have s3 := box_cells b1 3 _ rfl)
    | (go_at_call 54; ((with_reducible refine (HX.out _).mono ?_); rintro e w2 ⟨rfl, b2⟩); have HM2 := Lib.hid (HM1.out.on b2); have p0 := HM2.out.cell 0 _ rfl; have p1 := HM2.out.cell 1 _ rfl; have p4 := HM2.out.cell 19 _ rfl; have pf := HM2.out.free; have pl := HM2.out.lt))
  go_ret
  exact ⟨rfl, (HM2.out.set_ 0 _ rfl), (((of_alloc w _ _).trans (of_below b1)).trans (of_below b2)).trans (of_set _ M 0 _)⟩
set_option maxRecDepth 100000 in
set_option maxHeartbeats 4000000 in
theorem num_sub (jt jf k a x t : Int) (c : Nat → Int) (M : Nat) (w : World) (hm : MachAt w M a x t c false) (a0 : 0 ≤ a) (a1 : a < 4294967296) (x0 : 0 ≤ x) (x1 : x < 4294967296) (k0 : 0 ≤ k) (k1 : k < 4294967296)  :
    Calls Tryd.prog 29 #[.pointer (some ⟨M, 0, none⟩), .agg #[.int .u16 20, .int .u8 jt, .int .u8 jf, .int .u32 k]] w (NumTo M 0 ((a - k) % 4294967296) x t c false w) := by
  have HO := Lib.hid (fun W => refOf_any 20 W)
  rw [show ofL allL 20 = ⟨20, ⟨#[115, 117, 98]⟩, 3⟩ by kernel_rfl] at HO
  have HX := Lib.hid (fun W => refWithX_any 20 W)
  rw [show withXB 20 = false by decide +kernel] at HX
  have hfd := one_field1
  have HM := Lib.hid hm
  have hl := hm.lt
  clear hm
  go_enter Tryd.func29, Tryd.ntmps29
  go_wp2_with (first
    | (go_at_call 19; ((with_reducible refine (HO.out _).mono ?_); rintro e w1 ⟨rfl, b1⟩); have HM1 := Lib.hid ((HM.out.al _).on b1); have s0 := box_cells b1 0 (.int .u16 20) rfl; have s3 := box_cells b1 3 _ rfl)
    | (go_at_call 54; ((with_reducible refine (HX.out _).mono ?_); rintro e w2 ⟨rfl, b2⟩); have HM2 := Lib.hid (HM1.out.on b2); have p0 := HM2.out.cell 0 _ rfl; have p1 := HM2.out.cell 1 _ rfl; have p4 := HM2.out.cell 19 _ rfl; have pf := HM2.out.free; have pl := HM2.out.lt))
  go_ret
  exact ⟨rfl, (HM2.out.set_ 0 _ rfl), (((of_alloc w _ _).trans (of_below b1)).trans (of_below b2)).trans (of_set _ M 0 _)⟩
set_option maxRecDepth 100000 in
set_option maxHeartbeats 4000000 in
theorem num_subx (jt jf k a x t : Int) (c : Nat → Int) (M : Nat) (w : World) (hm : MachAt w M a x t c false) (a0 : 0 ≤ a) (a1 : a < 4294967296) (x0 : 0 ≤ x) (x1 : x < 4294967296) (k0 : 0 ≤ k) (k1 : k < 4294967296)  :
    Calls Tryd.prog 29 #[.pointer (some ⟨M, 0, none⟩), .agg #[.int .u16 28, .int .u8 jt, .int .u8 jf, .int .u32 k]] w (NumTo M 0 ((a - x) % 4294967296) x t c false w) := by
  have HO := Lib.hid (fun W => refOf_any 28 W)
  rw [show ofL allL 28 = ⟨28, ⟨#[115, 117, 98, 120]⟩, 3⟩ by kernel_rfl] at HO
  have HX := Lib.hid (fun W => refWithX_any 28 W)
  rw [show withXB 28 = true by decide +kernel] at HX
  have hfd := one_field1
  have hx : ((⟨#[115, 117, 98, 120]⟩ : ByteArray).extract 0 3) = ⟨#[115, 117, 98]⟩ := rfl
  have HM := Lib.hid hm
  have hl := hm.lt
  clear hm
  go_enter Tryd.func29, Tryd.ntmps29
  go_wp2_with (first
    | (go_at_call 19; ((with_reducible refine (HO.out _).mono ?_); rintro e w1 ⟨rfl, b1⟩); have HM1 := Lib.hid ((HM.out.al _).on b1); have s0 := box_cells b1 0 (.int .u16 28) rfl; have s3 := box_cells b1 3 _ rfl)
    | (go_at_call 54; ((with_reducible refine (HX.out _).mono ?_); rintro e w2 ⟨rfl, b2⟩); have HM2 := Lib.hid (HM1.out.on b2); have p0 := HM2.out.cell 0 _ rfl; have p1 := HM2.out.cell 1 _ rfl; have p4 := HM2.out.cell 19 _ rfl; have pf := HM2.out.free; have pl := HM2.out.lt))
  go_ret
  exact ⟨rfl, (HM2.out.set_ 0 _ rfl), (((of_alloc w _ _).trans (of_below b1)).trans (of_below b2)).trans (of_set _ M 0 _)⟩
set_option maxRecDepth 100000 in
set_option maxHeartbeats 4000000 in
theorem num_mul (jt jf k a x t : Int) (c : Nat → Int) (M : Nat) (w : World) (hm : MachAt w M a x t c false) (a0 : 0 ≤ a) (a1 : a < 4294967296) (x0 : 0 ≤ x) (x1 : x < 4294967296) (k0 : 0 ≤ k) (k1 : k < 4294967296)  :
    Calls Tryd.prog 29 #[.pointer (some ⟨M, 0, none⟩), .agg #[.int .u16 36, .int .u8 jt, .int .u8 jf, .int .u32 k]] w (NumTo M 0 ((a * k) % 4294967296) x t c false w) := by
  have HO := Lib.hid (fun W => refOf_any 36 W)
  rw [show ofL allL 36 = ⟨36, ⟨#[109, 117, 108]⟩, 3⟩ by kernel_rfl] at HO
  have HX := Lib.hid (fun W => refWithX_any 36 W)
  rw [show withXB 36 = false by decide +kernel] at HX
  have hfd := one_field1
  have HM := Lib.hid hm
  have hl := hm.lt
  clear hm
  go_enter Tryd.func29, Tryd.ntmps29
  go_wp2_with (first
    | (go_at_call 19; ((with_reducible refine (HO.out _).mono ?_); rintro e w1 ⟨rfl, b1⟩); have HM1 := Lib.hid ((HM.out.al _).on b1); have s0 := box_cells b1 0 (.int .u16 36) rfl; have s3 := box_cells b1 3 _ rfl)
    | (go_at_call 54; ((with_reducible refine (HX.out _).mono ?_); rintro e w2 ⟨rfl, b2⟩); have HM2 := Lib.hid (HM1.out.on b2); have p0 := HM2.out.cell 0 _ rfl; have p1 := HM2.out.cell 1 _ rfl; have p4 := HM2.out.cell 19 _ rfl; have pf := HM2.out.free; have pl := HM2.out.lt))
  go_ret
  exact ⟨rfl, (HM2.out.set_ 0 _ rfl), (((of_alloc w _ _).trans (of_below b1)).trans (of_below b2)).trans (of_set _ M 0 _)⟩
set_option maxRecDepth 100000 in
set_option maxHeartbeats 4000000 in
theorem num_mulx (jt jf k a x t : Int) (c : Nat → Int) (M : Nat) (w : World) (hm : MachAt w M a x t c false) (a0 : 0 ≤ a) (a1 : a < 4294967296) (x0 : 0 ≤ x) (x1 : x < 4294967296) (k0 : 0 ≤ k) (k1 : k < 4294967296)  :
    Calls Tryd.prog 29 #[.pointer (some ⟨M, 0, none⟩), .agg #[.int .u16 44, .int .u8 jt, .int .u8 jf, .int .u32 k]] w (NumTo M 0 ((a * x) % 4294967296) x t c false w) := by
  have HO := Lib.hid (fun W => refOf_any 44 W)
  rw [show ofL allL 44 = ⟨44, ⟨#[109, 117, 108, 120]⟩, 3⟩ by kernel_rfl] at HO
  have HX := Lib.hid (fun W => refWithX_any 44 W)
  rw [show withXB 44 = true by decide +kernel] at HX
  have hfd := one_field1
  have hx : ((⟨#[109, 117, 108, 120]⟩ : ByteArray).extract 0 3) = ⟨#[109, 117, 108]⟩ := rfl
  have HM := Lib.hid hm
  have hl := hm.lt
  clear hm
  go_enter Tryd.func29, Tryd.ntmps29
  go_wp2_with (first
    | (go_at_call 19; ((with_reducible refine (HO.out _).mono ?_); rintro e w1 ⟨rfl, b1⟩); have HM1 := Lib.hid ((HM.out.al _).on b1); have s0 := box_cells b1 0 (.int .u16 44) rfl; have s3 := box_cells b1 3 _ rfl)
    | (go_at_call 54; ((with_reducible refine (HX.out _).mono ?_); rintro e w2 ⟨rfl, b2⟩); have HM2 := Lib.hid (HM1.out.on b2); have p0 := HM2.out.cell 0 _ rfl; have p1 := HM2.out.cell 1 _ rfl; have p4 := HM2.out.cell 19 _ rfl; have pf := HM2.out.free; have pl := HM2.out.lt))
  go_ret
  exact ⟨rfl, (HM2.out.set_ 0 _ rfl), (((of_alloc w _ _).trans (of_below b1)).trans (of_below b2)).trans (of_set _ M 0 _)⟩
set_option maxRecDepth 100000 in
set_option maxHeartbeats 4000000 in
theorem num_div (jt jf k a x t : Int) (c : Nat → Int) (M : Nat) (w : World) (hm : MachAt w M a x t c false) (a0 : 0 ≤ a) (a1 : a < 4294967296) (x0 : 0 ≤ x) (x1 : x < 4294967296) (k0 : 0 ≤ k) (k1 : k < 4294967296) (hb : 0 < k) :
    Calls Tryd.prog 29 #[.pointer (some ⟨M, 0, none⟩), .agg #[.int .u16 52, .int .u8 jt, .int .u8 jf, .int .u32 k]] w (NumTo M 0 (a / k) x t c false w) := by
  have HO := Lib.hid (fun W => refOf_any 52 W)
  rw [show ofL allL 52 = ⟨52, ⟨#[100, 105, 118]⟩, 3⟩ by kernel_rfl] at HO
  have HX := Lib.hid (fun W => refWithX_any 52 W)
  rw [show withXB 52 = false by decide +kernel] at HX
  have hfd := one_field1
  have HM := Lib.hid hm
  have hl := hm.lt
  clear hm
  go_enter Tryd.func29, Tryd.ntmps29
  go_wp2_with (first
    | (go_at_call 19; ((with_reducible refine (HO.out _).mono ?_); rintro e w1 ⟨rfl, b1⟩); have HM1 := Lib.hid ((HM.out.al _).on b1); have s0 := box_cells b1 0 (.int .u16 52) rfl; have s3 := box_cells b1 3 _ rfl)
    | (go_at_call 54; ((with_reducible refine (HX.out _).mono ?_); rintro e w2 ⟨rfl, b2⟩); have HM2 := Lib.hid (HM1.out.on b2); have p0 := HM2.out.cell 0 _ rfl; have p1 := HM2.out.cell 1 _ rfl; have p4 := HM2.out.cell 19 _ rfl; have pf := HM2.out.free; have pl := HM2.out.lt))
  go_ret
  exact ⟨rfl, (HM2.out.set_ 0 _ rfl), (((of_alloc w _ _).trans (of_below b1)).trans (of_below b2)).trans (of_set _ M 0 _)⟩
set_option maxRecDepth 100000 in
set_option maxHeartbeats 4000000 in
theorem num_div_0 (jt jf k a x t : Int) (c : Nat → Int) (M : Nat) (w : World) (hm : MachAt w M a x t c false) (a0 : 0 ≤ a) (a1 : a < 4294967296) (x0 : 0 ≤ x) (x1 : x < 4294967296) (k0 : 0 ≤ k) (k1 : k < 4294967296) (hb : k = 0) :
    Calls Tryd.prog 29 #[.pointer (some ⟨M, 0, none⟩), .agg #[.int .u16 52, .int .u8 jt, .int .u8 jf, .int .u32 k]] w (NumTo M 44 a x t c false w) := by
  have HO := Lib.hid (fun W => refOf_any 52 W)
  rw [show ofL allL 52 = ⟨52, ⟨#[100, 105, 118]⟩, 3⟩ by kernel_rfl] at HO
  have HX := Lib.hid (fun W => refWithX_any 52 W)
  rw [show withXB 52 = false by decide +kernel] at HX
  have hfd := one_field1
  subst hb
  have HM := Lib.hid hm
  have hl := hm.lt
  clear hm
  go_enter Tryd.func29, Tryd.ntmps29
  go_wp2_with (first
    | (go_at_call 19; ((with_reducible refine (HO.out _).mono ?_); rintro e w1 ⟨rfl, b1⟩); have HM1 := Lib.hid ((HM.out.al _).on b1); have s0 := box_cells b1 0 (.int .u16 52) rfl; have s3 := box_cells b1 3 _ rfl)
    | (go_at_call 54; ((with_reducible refine (HX.out _).mono ?_); rintro e w2 ⟨rfl, b2⟩); have HM2 := Lib.hid (HM1.out.on b2); have p0 := HM2.out.cell 0 _ rfl; have p1 := HM2.out.cell 1 _ rfl; have p4 := HM2.out.cell 19 _ rfl; have pf := HM2.out.free; have pl := HM2.out.lt))
  go_ret
  exact ⟨rfl, HM2.out, (((of_alloc w _ _).trans (of_below b1)).trans (of_below b2))⟩
set_option maxRecDepth 100000 in
set_option maxHeartbeats 4000000 in
theorem num_divx (jt jf k a x t : Int) (c : Nat → Int) (M : Nat) (w : World) (hm : MachAt w M a x t c false) (a0 : 0 ≤ a) (a1 : a < 4294967296) (x0 : 0 ≤ x) (x1 : x < 4294967296) (k0 : 0 ≤ k) (k1 : k < 4294967296) (hb : 0 < x) :
    Calls Tryd.prog 29 #[.pointer (some ⟨M, 0, none⟩), .agg #[.int .u16 60, .int .u8 jt, .int .u8 jf, .int .u32 k]] w (NumTo M 0 (a / x) x t c false w) := by
  have HO := Lib.hid (fun W => refOf_any 60 W)
  rw [show ofL allL 60 = ⟨60, ⟨#[100, 105, 118, 120]⟩, 3⟩ by kernel_rfl] at HO
  have HX := Lib.hid (fun W => refWithX_any 60 W)
  rw [show withXB 60 = true by decide +kernel] at HX
  have hfd := one_field1
  have hx : ((⟨#[100, 105, 118, 120]⟩ : ByteArray).extract 0 3) = ⟨#[100, 105, 118]⟩ := rfl
  have HM := Lib.hid hm
  have hl := hm.lt
  clear hm
  go_enter Tryd.func29, Tryd.ntmps29
  go_wp2_with (first
    | (go_at_call 19; ((with_reducible refine (HO.out _).mono ?_); rintro e w1 ⟨rfl, b1⟩); have HM1 := Lib.hid ((HM.out.al _).on b1); have s0 := box_cells b1 0 (.int .u16 60) rfl; have s3 := box_cells b1 3 _ rfl)
    | (go_at_call 54; ((with_reducible refine (HX.out _).mono ?_); rintro e w2 ⟨rfl, b2⟩); have HM2 := Lib.hid (HM1.out.on b2); have p0 := HM2.out.cell 0 _ rfl; have p1 := HM2.out.cell 1 _ rfl; have p4 := HM2.out.cell 19 _ rfl; have pf := HM2.out.free; have pl := HM2.out.lt))
  go_ret
  exact ⟨rfl, (HM2.out.set_ 0 _ rfl), (((of_alloc w _ _).trans (of_below b1)).trans (of_below b2)).trans (of_set _ M 0 _)⟩
set_option maxRecDepth 100000 in
set_option maxHeartbeats 4000000 in
theorem num_divx_0 (jt jf k a x t : Int) (c : Nat → Int) (M : Nat) (w : World) (hm : MachAt w M a x t c false) (a0 : 0 ≤ a) (a1 : a < 4294967296) (x0 : 0 ≤ x) (x1 : x < 4294967296) (k0 : 0 ≤ k) (k1 : k < 4294967296) (hb : x = 0) :
    Calls Tryd.prog 29 #[.pointer (some ⟨M, 0, none⟩), .agg #[.int .u16 60, .int .u8 jt, .int .u8 jf, .int .u32 k]] w (NumTo M 0 a 0 t c true w) := by
  have HO := Lib.hid (fun W => refOf_any 60 W)
  rw [show ofL allL 60 = ⟨60, ⟨#[100, 105, 118, 120]⟩, 3⟩ by kernel_rfl] at HO
  have HX := Lib.hid (fun W => refWithX_any 60 W)
  rw [show withXB 60 = true by decide +kernel] at HX
  have hfd := one_field1
  have hx : ((⟨#[100, 105, 118, 120]⟩ : ByteArray).extract 0 3) = ⟨#[100, 105, 118]⟩ := rfl
  subst hb
  have HM := Lib.hid hm
  have hl := hm.lt
  clear hm
  go_enter Tryd.func29, Tryd.ntmps29
  go_wp2_with (first
    | (go_at_call 19; ((with_reducible refine (HO.out _).mono ?_); rintro e w1 ⟨rfl, b1⟩); have HM1 := Lib.hid ((HM.out.al _).on b1); have s0 := box_cells b1 0 (.int .u16 60) rfl; have s3 := box_cells b1 3 _ rfl)
    | (go_at_call 54; ((with_reducible refine (HX.out _).mono ?_); rintro e w2 ⟨rfl, b2⟩); have HM2 := Lib.hid (HM1.out.on b2); have p0 := HM2.out.cell 0 _ rfl; have p1 := HM2.out.cell 1 _ rfl; have p4 := HM2.out.cell 19 _ rfl; have pf := HM2.out.free; have pl := HM2.out.lt))
  go_ret
  exact ⟨rfl, (HM2.out.set_ 19 _ rfl), (((of_alloc w _ _).trans (of_below b1)).trans (of_below b2)).trans (of_set _ M 19 _)⟩
set_option maxRecDepth 100000 in
set_option maxHeartbeats 4000000 in
theorem num_or (jt jf k a x t : Int) (c : Nat → Int) (M : Nat) (w : World) (hm : MachAt w M a x t c false) (a0 : 0 ≤ a) (a1 : a < 4294967296) (x0 : 0 ≤ x) (x1 : x < 4294967296) (k0 : 0 ≤ k) (k1 : k < 4294967296)  :
    Calls Tryd.prog 29 #[.pointer (some ⟨M, 0, none⟩), .agg #[.int .u16 68, .int .u8 jt, .int .u8 jf, .int .u32 k]] w (NumTo M 0 (bitsV (· ||| ·) a k) x t c false w) := by
  have HO := Lib.hid (fun W => refOf_any 68 W)
  rw [show ofL allL 68 = ⟨68, ⟨#[111, 114]⟩, 3⟩ by kernel_rfl] at HO
  have HX := Lib.hid (fun W => refWithX_any 68 W)
  rw [show withXB 68 = false by decide +kernel] at HX
  have hfd := one_field1
  have t0 := u32_or a k a0 a1 k0 k1
  obtain ⟨v, hv⟩ : ∃ v : Int, v = bitsV (· ||| ·) a k := ⟨_, rfl⟩
  have t2 : bits BinOp.or IntKind.u32 a k = v := by rw [t0, hv]; rfl
  rw [← hv]
  clear t0 hv
  have HM := Lib.hid hm
  have hl := hm.lt
  clear hm
  go_enter Tryd.func29, Tryd.ntmps29
  go_wp2_with (first
    | (go_at_call 19; ((with_reducible refine (HO.out _).mono ?_); rintro e w1 ⟨rfl, b1⟩); have HM1 := Lib.hid ((HM.out.al _).on b1); have s0 := box_cells b1 0 (.int .u16 68) rfl; have s3 := box_cells b1 3 _ rfl)
    | (go_at_call 54; ((with_reducible refine (HX.out _).mono ?_); rintro e w2 ⟨rfl, b2⟩); have HM2 := Lib.hid (HM1.out.on b2); have p0 := HM2.out.cell 0 _ rfl; have p1 := HM2.out.cell 1 _ rfl; have p4 := HM2.out.cell 19 _ rfl; have pf := HM2.out.free; have pl := HM2.out.lt))
  go_ret
  exact ⟨rfl, (HM2.out.set_ 0 _ rfl), (((of_alloc w _ _).trans (of_below b1)).trans (of_below b2)).trans (of_set _ M 0 _)⟩
set_option maxRecDepth 100000 in
set_option maxHeartbeats 4000000 in
theorem num_orx (jt jf k a x t : Int) (c : Nat → Int) (M : Nat) (w : World) (hm : MachAt w M a x t c false) (a0 : 0 ≤ a) (a1 : a < 4294967296) (x0 : 0 ≤ x) (x1 : x < 4294967296) (k0 : 0 ≤ k) (k1 : k < 4294967296)  :
    Calls Tryd.prog 29 #[.pointer (some ⟨M, 0, none⟩), .agg #[.int .u16 76, .int .u8 jt, .int .u8 jf, .int .u32 k]] w (NumTo M 0 (bitsV (· ||| ·) a x) x t c false w) := by
  have HO := Lib.hid (fun W => refOf_any 76 W)
  rw [show ofL allL 76 = ⟨76, ⟨#[111, 114, 120]⟩, 3⟩ by kernel_rfl] at HO
  have HX := Lib.hid (fun W => refWithX_any 76 W)
  rw [show withXB 76 = true by decide +kernel] at HX
  have hfd := one_field1
  have hx : ((⟨#[111, 114, 120]⟩ : ByteArray).extract 0 2) = ⟨#[111, 114]⟩ := rfl
  have t0 := u32_or a x a0 a1 x0 x1
  obtain ⟨v, hv⟩ : ∃ v : Int, v = bitsV (· ||| ·) a x := ⟨_, rfl⟩
  have t2 : bits BinOp.or IntKind.u32 a x = v := by rw [t0, hv]; rfl
  rw [← hv]
  clear t0 hv
  have HM := Lib.hid hm
  have hl := hm.lt
  clear hm
  go_enter Tryd.func29, Tryd.ntmps29
  go_wp2_with (first
    | (go_at_call 19; ((with_reducible refine (HO.out _).mono ?_); rintro e w1 ⟨rfl, b1⟩); have HM1 := Lib.hid ((HM.out.al _).on b1); have s0 := box_cells b1 0 (.int .u16 76) rfl; have s3 := box_cells b1 3 _ rfl)
    | (go_at_call 54; ((with_reducible refine (HX.out _).mono ?_); rintro e w2 ⟨rfl, b2⟩); have HM2 := Lib.hid (HM1.out.on b2); have p0 := HM2.out.cell 0 _ rfl; have p1 := HM2.out.cell 1 _ rfl; have p4 := HM2.out.cell 19 _ rfl; have pf := HM2.out.free; have pl := HM2.out.lt))
  go_ret
  exact ⟨rfl, (HM2.out.set_ 0 _ rfl), (((of_alloc w _ _).trans (of_below b1)).trans (of_below b2)).trans (of_set _ M 0 _)⟩
set_option maxRecDepth 100000 in
set_option maxHeartbeats 4000000 in
theorem num_and (jt jf k a x t : Int) (c : Nat → Int) (M : Nat) (w : World) (hm : MachAt w M a x t c false) (a0 : 0 ≤ a) (a1 : a < 4294967296) (x0 : 0 ≤ x) (x1 : x < 4294967296) (k0 : 0 ≤ k) (k1 : k < 4294967296)  :
    Calls Tryd.prog 29 #[.pointer (some ⟨M, 0, none⟩), .agg #[.int .u16 84, .int .u8 jt, .int .u8 jf, .int .u32 k]] w (NumTo M 0 (bitsV (· &&& ·) a k) x t c false w) := by
  have HO := Lib.hid (fun W => refOf_any 84 W)
  rw [show ofL allL 84 = ⟨84, ⟨#[97, 110, 100]⟩, 3⟩ by kernel_rfl] at HO
  have HX := Lib.hid (fun W => refWithX_any 84 W)
  rw [show withXB 84 = false by decide +kernel] at HX
  have hfd := one_field1
  have t0 := u32_and a k a0 a1 k0 k1
  obtain ⟨v, hv⟩ : ∃ v : Int, v = bitsV (· &&& ·) a k := ⟨_, rfl⟩
  have t2 : bits BinOp.and IntKind.u32 a k = v := by rw [t0, hv]; rfl
  rw [← hv]
  clear t0 hv
  have HM := Lib.hid hm
  have hl := hm.lt
  clear hm
  go_enter Tryd.func29, Tryd.ntmps29
  go_wp2_with (first
    | (go_at_call 19; ((with_reducible refine (HO.out _).mono ?_); rintro e w1 ⟨rfl, b1⟩); have HM1 := Lib.hid ((HM.out.al _).on b1); have s0 := box_cells b1 0 (.int .u16 84) rfl; have s3 := box_cells b1 3 _ rfl)
    | (go_at_call 54; ((with_reducible refine (HX.out _).mono ?_); rintro e w2 ⟨rfl, b2⟩); have HM2 := Lib.hid (HM1.out.on b2); have p0 := HM2.out.cell 0 _ rfl; have p1 := HM2.out.cell 1 _ rfl; have p4 := HM2.out.cell 19 _ rfl; have pf := HM2.out.free; have pl := HM2.out.lt))
  go_ret
  exact ⟨rfl, (HM2.out.set_ 0 _ rfl), (((of_alloc w _ _).trans (of_below b1)).trans (of_below b2)).trans (of_set _ M 0 _)⟩
set_option maxRecDepth 100000 in
set_option maxHeartbeats 4000000 in
theorem num_andx (jt jf k a x t : Int) (c : Nat → Int) (M : Nat) (w : World) (hm : MachAt w M a x t c false) (a0 : 0 ≤ a) (a1 : a < 4294967296) (x0 : 0 ≤ x) (x1 : x < 4294967296) (k0 : 0 ≤ k) (k1 : k < 4294967296)  :
    Calls Tryd.prog 29 #[.pointer (some ⟨M, 0, none⟩), .agg #[.int .u16 92, .int .u8 jt, .int .u8 jf, .int .u32 k]] w (NumTo M 0 (bitsV (· &&& ·) a x) x t c false w) := by
  have HO := Lib.hid (fun W => refOf_any 92 W)
  rw [show ofL allL 92 = ⟨92, ⟨#[97, 110, 100, 120]⟩, 3⟩ by kernel_rfl] at HO
  have HX := Lib.hid (fun W => refWithX_any 92 W)
  rw [show withXB 92 = true by decide +kernel] at HX
  have hfd := one_field1
  have hx : ((⟨#[97, 110, 100, 120]⟩ : ByteArray).extract 0 3) = ⟨#[97, 110, 100]⟩ := rfl
  have t0 := u32_and a x a0 a1 x0 x1
  obtain ⟨v, hv⟩ : ∃ v : Int, v = bitsV (· &&& ·) a x := ⟨_, rfl⟩
  have t2 : bits BinOp.and IntKind.u32 a x = v := by rw [t0, hv]; rfl
  rw [← hv]
  clear t0 hv
  have HM := Lib.hid hm
  have hl := hm.lt
  clear hm
  go_enter Tryd.func29, Tryd.ntmps29
  go_wp2_with (first
    | (go_at_call 19; ((with_reducible refine (HO.out _).mono ?_); rintro e w1 ⟨rfl, b1⟩); have HM1 := Lib.hid ((HM.out.al _).on b1); have s0 := box_cells b1 0 (.int .u16 92) rfl; have s3 := box_cells b1 3 _ rfl)
    | (go_at_call 54; ((with_reducible refine (HX.out _).mono ?_); rintro e w2 ⟨rfl, b2⟩); have HM2 := Lib.hid (HM1.out.on b2); have p0 := HM2.out.cell 0 _ rfl; have p1 := HM2.out.cell 1 _ rfl; have p4 := HM2.out.cell 19 _ rfl; have pf := HM2.out.free; have pl := HM2.out.lt))
  go_ret
  exact ⟨rfl, (HM2.out.set_ 0 _ rfl), (((of_alloc w _ _).trans (of_below b1)).trans (of_below b2)).trans (of_set _ M 0 _)⟩
set_option maxRecDepth 100000 in
set_option maxHeartbeats 4000000 in
theorem num_lsh (jt jf k a x t : Int) (c : Nat → Int) (M : Nat) (w : World) (hm : MachAt w M a x t c false) (a0 : 0 ≤ a) (a1 : a < 4294967296) (x0 : 0 ≤ x) (x1 : x < 4294967296) (k0 : 0 ≤ k) (k1 : k < 4294967296) (hb : ¬ 31 < k) :
    Calls Tryd.prog 29 #[.pointer (some ⟨M, 0, none⟩), .agg #[.int .u16 100, .int .u8 jt, .int .u8 jf, .int .u32 k]] w (NumTo M 0 ((a * 2 ^ (k % 32).toNat) % 4294967296) x t c false w) := by
  have HO := Lib.hid (fun W => refOf_any 100 W)
  rw [show ofL allL 100 = ⟨100, ⟨#[108, 115, 104]⟩, 3⟩ by kernel_rfl] at HO
  have HX := Lib.hid (fun W => refWithX_any 100 W)
  rw [show withXB 100 = false by decide +kernel] at HX
  have hfd := one_field1
  have m0 : 0 ≤ k % 32 := by omega
  have m1 : k % 32 < 32 := by omega
  have HS := Lib.hid (fun W => shifted_l a (k % 32).toNat W a0 a1 (by omega))
  rw [show (((k % 32).toNat : Nat) : Int) = k % 32 by omega] at HS
  obtain ⟨v, hv⟩ : ∃ v : Int, v = (a * 2 ^ (k % 32).toNat) % 4294967296 := ⟨_, rfl⟩
  rw [← hv] at HS ⊢
  clear hv
  have HM := Lib.hid hm
  have hl := hm.lt
  clear hm
  go_enter Tryd.func29, Tryd.ntmps29
  go_wp2_with (first
    | (go_at_call 19; ((with_reducible refine (HO.out _).mono ?_); rintro e w1 ⟨rfl, b1⟩); have HM1 := Lib.hid ((HM.out.al _).on b1); have s0 := box_cells b1 0 (.int .u16 100) rfl; have s3 := box_cells b1 3 _ rfl)
    | (go_at_call 54; ((with_reducible refine (HX.out _).mono ?_); rintro e w2 ⟨rfl, b2⟩); have HM2 := Lib.hid (HM1.out.on b2); have p0 := HM2.out.cell 0 _ rfl; have p1 := HM2.out.cell 1 _ rfl; have p4 := HM2.out.cell 19 _ rfl; have pf := HM2.out.free; have pl := HM2.out.lt)
    | (go_at_call 55; ((with_reducible refine (HS.out _).mono ?_); rintro e w3 ⟨rfl, rfl⟩)))
  go_ret
  exact ⟨rfl, (HM2.out.set_ 0 _ rfl), (((of_alloc w _ _).trans (of_below b1)).trans (of_below b2)).trans (of_set _ M 0 _)⟩
set_option maxRecDepth 100000 in
set_option maxHeartbeats 4000000 in
theorem num_lsh_bad (jt jf k a x t : Int) (c : Nat → Int) (M : Nat) (w : World) (hm : MachAt w M a x t c false) (a0 : 0 ≤ a) (a1 : a < 4294967296) (x0 : 0 ≤ x) (x1 : x < 4294967296) (k0 : 0 ≤ k) (k1 : k < 4294967296) (hb : 31 < k) :
    Calls Tryd.prog 29 #[.pointer (some ⟨M, 0, none⟩), .agg #[.int .u16 100, .int .u8 jt, .int .u8 jf, .int .u32 k]] w (NumTo M 45 a x t c false w) := by
  have HO := Lib.hid (fun W => refOf_any 100 W)
  rw [show ofL allL 100 = ⟨100, ⟨#[108, 115, 104]⟩, 3⟩ by kernel_rfl] at HO
  have HX := Lib.hid (fun W => refWithX_any 100 W)
  rw [show withXB 100 = false by decide +kernel] at HX
  have hfd := one_field1
  have HM := Lib.hid hm
  have hl := hm.lt
  clear hm
  go_enter Tryd.func29, Tryd.ntmps29
  go_wp2_with (first
    | (go_at_call 19; ((with_reducible refine (HO.out _).mono ?_); rintro e w1 ⟨rfl, b1⟩); have HM1 := Lib.hid ((HM.out.al _).on b1); have s0 := box_cells b1 0 (.int .u16 100) rfl; have s3 := box_cells b1 3 _ rfl)
    | (go_at_call 54; ((with_reducible refine (HX.out _).mono ?_); rintro e w2 ⟨rfl, b2⟩); have HM2 := Lib.hid (HM1.out.on b2); have p0 := HM2.out.cell 0 _ rfl; have p1 := HM2.out.cell 1 _ rfl; have p4 := HM2.out.cell 19 _ rfl; have pf := HM2.out.free; have pl := HM2.out.lt))
  go_ret
  exact ⟨rfl, HM2.out, (((of_alloc w _ _).trans (of_below b1)).trans (of_below b2))⟩
set_option maxRecDepth 100000 in
set_option maxHeartbeats 4000000 in
theorem num_lshx (jt jf k a x t : Int) (c : Nat → Int) (M : Nat) (w : World) (hm : MachAt w M a x t c false) (a0 : 0 ≤ a) (a1 : a < 4294967296) (x0 : 0 ≤ x) (x1 : x < 4294967296) (k0 : 0 ≤ k) (k1 : k < 4294967296)  :
    Calls Tryd.prog 29 #[.pointer (some ⟨M, 0, none⟩), .agg #[.int .u16 108, .int .u8 jt, .int .u8 jf, .int .u32 k]] w (NumTo M 0 ((a * 2 ^ (x % 32).toNat) % 4294967296) x t c false w) := by
  have HO := Lib.hid (fun W => refOf_any 108 W)
  rw [show ofL allL 108 = ⟨108, ⟨#[108, 115, 104, 120]⟩, 3⟩ by kernel_rfl] at HO
  have HX := Lib.hid (fun W => refWithX_any 108 W)
  rw [show withXB 108 = true by decide +kernel] at HX
  have hfd := one_field1
  have hx : ((⟨#[108, 115, 104, 120]⟩ : ByteArray).extract 0 3) = ⟨#[108, 115, 104]⟩ := rfl
  have m0 : 0 ≤ x % 32 := by omega
  have m1 : x % 32 < 32 := by omega
  have HS := Lib.hid (fun W => shifted_l a (x % 32).toNat W a0 a1 (by omega))
  rw [show (((x % 32).toNat : Nat) : Int) = x % 32 by omega] at HS
  obtain ⟨v, hv⟩ : ∃ v : Int, v = (a * 2 ^ (x % 32).toNat) % 4294967296 := ⟨_, rfl⟩
  rw [← hv] at HS ⊢
  clear hv
  have HM := Lib.hid hm
  have hl := hm.lt
  clear hm
  go_enter Tryd.func29, Tryd.ntmps29
  go_wp2_with (first
    | (go_at_call 19; ((with_reducible refine (HO.out _).mono ?_); rintro e w1 ⟨rfl, b1⟩); have HM1 := Lib.hid ((HM.out.al _).on b1); have s0 := box_cells b1 0 (.int .u16 108) rfl; have s3 := box_cells b1 3 _ rfl)
    | (go_at_call 54; ((with_reducible refine (HX.out _).mono ?_); rintro e w2 ⟨rfl, b2⟩); have HM2 := Lib.hid (HM1.out.on b2); have p0 := HM2.out.cell 0 _ rfl; have p1 := HM2.out.cell 1 _ rfl; have p4 := HM2.out.cell 19 _ rfl; have pf := HM2.out.free; have pl := HM2.out.lt)
    | (go_at_call 55; ((with_reducible refine (HS.out _).mono ?_); rintro e w3 ⟨rfl, rfl⟩)))
  go_ret
  exact ⟨rfl, (HM2.out.set_ 0 _ rfl), (((of_alloc w _ _).trans (of_below b1)).trans (of_below b2)).trans (of_set _ M 0 _)⟩
set_option maxRecDepth 100000 in
set_option maxHeartbeats 4000000 in
theorem num_rsh (jt jf k a x t : Int) (c : Nat → Int) (M : Nat) (w : World) (hm : MachAt w M a x t c false) (a0 : 0 ≤ a) (a1 : a < 4294967296) (x0 : 0 ≤ x) (x1 : x < 4294967296) (k0 : 0 ≤ k) (k1 : k < 4294967296) (hb : ¬ 31 < k) :
    Calls Tryd.prog 29 #[.pointer (some ⟨M, 0, none⟩), .agg #[.int .u16 116, .int .u8 jt, .int .u8 jf, .int .u32 k]] w (NumTo M 0 (a / 2 ^ (k % 32).toNat) x t c false w) := by
  have HO := Lib.hid (fun W => refOf_any 116 W)
  rw [show ofL allL 116 = ⟨116, ⟨#[114, 115, 104]⟩, 3⟩ by kernel_rfl] at HO
  have HX := Lib.hid (fun W => refWithX_any 116 W)
  rw [show withXB 116 = false by decide +kernel] at HX
  have hfd := one_field1
  have m0 : 0 ≤ k % 32 := by omega
  have m1 : k % 32 < 32 := by omega
  have HS := Lib.hid (fun W => shifted_r a (k % 32).toNat W a0 a1 (by omega))
  rw [show (((k % 32).toNat : Nat) : Int) = k % 32 by omega] at HS
  obtain ⟨v, hv⟩ : ∃ v : Int, v = a / 2 ^ (k % 32).toNat := ⟨_, rfl⟩
  rw [← hv] at HS ⊢
  clear hv
  have HM := Lib.hid hm
  have hl := hm.lt
  clear hm
  go_enter Tryd.func29, Tryd.ntmps29
  go_wp2_with (first
    | (go_at_call 19; ((with_reducible refine (HO.out _).mono ?_); rintro e w1 ⟨rfl, b1⟩); have HM1 := Lib.hid ((HM.out.al _).on b1); have s0 := box_cells b1 0 (.int .u16 116) rfl; have s3 := box_cells b1 3 _ rfl)
    | (go_at_call 54; ((with_reducible refine (HX.out _).mono ?_); rintro e w2 ⟨rfl, b2⟩); have HM2 := Lib.hid (HM1.out.on b2); have p0 := HM2.out.cell 0 _ rfl; have p1 := HM2.out.cell 1 _ rfl; have p4 := HM2.out.cell 19 _ rfl; have pf := HM2.out.free; have pl := HM2.out.lt)
    | (go_at_call 55; ((with_reducible refine (HS.out _).mono ?_); rintro e w3 ⟨rfl, rfl⟩)))
  go_ret
  exact ⟨rfl, (HM2.out.set_ 0 _ rfl), (((of_alloc w _ _).trans (of_below b1)).trans (of_below b2)).trans (of_set _ M 0 _)⟩
set_option maxRecDepth 100000 in
set_option maxHeartbeats 4000000 in
theorem num_rsh_bad (jt jf k a x t : Int) (c : Nat → Int) (M : Nat) (w : World) (hm : MachAt w M a x t c false) (a0 : 0 ≤ a) (a1 : a < 4294967296) (x0 : 0 ≤ x) (x1 : x < 4294967296) (k0 : 0 ≤ k) (k1 : k < 4294967296) (hb : 31 < k) :
    Calls Tryd.prog 29 #[.pointer (some ⟨M, 0, none⟩), .agg #[.int .u16 116, .int .u8 jt, .int .u8 jf, .int .u32 k]] w (NumTo M 45 a x t c false w) := by
  have HO := Lib.hid (fun W => refOf_any 116 W)
  rw [show ofL allL 116 = ⟨116, ⟨#[114, 115, 104]⟩, 3⟩ by kernel_rfl] at HO
  have HX := Lib.hid (fun W => refWithX_any 116 W)
  rw [show withXB 116 = false by decide +kernel] at HX
  have hfd := one_field1
  have HM := Lib.hid hm
  have hl := hm.lt
  clear hm
  go_enter Tryd.func29, Tryd.ntmps29
  go_wp2_with (first
    | (go_at_call 19; ((with_reducible refine (HO.out _).mono ?_); rintro e w1 ⟨rfl, b1⟩); have HM1 := Lib.hid ((HM.out.al _).on b1); have s0 := box_cells b1 0 (.int .u16 116) rfl; have s3 := box_cells b1 3 _ rfl)
    | (go_at_call 54; ((with_reducible refine (HX.out _).mono ?_); rintro e w2 ⟨rfl, b2⟩); have HM2 := Lib.hid (HM1.out.on b2); have p0 := HM2.out.cell 0 _ rfl; have p1 := HM2.out.cell 1 _ rfl; have p4 := HM2.out.cell 19 _ rfl; have pf := HM2.out.free; have pl := HM2.out.lt))
  go_ret
  exact ⟨rfl, HM2.out, (((of_alloc w _ _).trans (of_below b1)).trans (of_below b2))⟩
set_option maxRecDepth 100000 in
set_option maxHeartbeats 4000000 in
theorem num_rshx (jt jf k a x t : Int) (c : Nat → Int) (M : Nat) (w : World) (hm : MachAt w M a x t c false) (a0 : 0 ≤ a) (a1 : a < 4294967296) (x0 : 0 ≤ x) (x1 : x < 4294967296) (k0 : 0 ≤ k) (k1 : k < 4294967296)  :
    Calls Tryd.prog 29 #[.pointer (some ⟨M, 0, none⟩), .agg #[.int .u16 124, .int .u8 jt, .int .u8 jf, .int .u32 k]] w (NumTo M 0 (a / 2 ^ (x % 32).toNat) x t c false w) := by
  have HO := Lib.hid (fun W => refOf_any 124 W)
  rw [show ofL allL 124 = ⟨124, ⟨#[114, 115, 104, 120]⟩, 3⟩ by kernel_rfl] at HO
  have HX := Lib.hid (fun W => refWithX_any 124 W)
  rw [show withXB 124 = true by decide +kernel] at HX
  have hfd := one_field1
  have hx : ((⟨#[114, 115, 104, 120]⟩ : ByteArray).extract 0 3) = ⟨#[114, 115, 104]⟩ := rfl
  have m0 : 0 ≤ x % 32 := by omega
  have m1 : x % 32 < 32 := by omega
  have HS := Lib.hid (fun W => shifted_r a (x % 32).toNat W a0 a1 (by omega))
  rw [show (((x % 32).toNat : Nat) : Int) = x % 32 by omega] at HS
  obtain ⟨v, hv⟩ : ∃ v : Int, v = a / 2 ^ (x % 32).toNat := ⟨_, rfl⟩
  rw [← hv] at HS ⊢
  clear hv
  have HM := Lib.hid hm
  have hl := hm.lt
  clear hm
  go_enter Tryd.func29, Tryd.ntmps29
  go_wp2_with (first
    | (go_at_call 19; ((with_reducible refine (HO.out _).mono ?_); rintro e w1 ⟨rfl, b1⟩); have HM1 := Lib.hid ((HM.out.al _).on b1); have s0 := box_cells b1 0 (.int .u16 124) rfl; have s3 := box_cells b1 3 _ rfl)
    | (go_at_call 54; ((with_reducible refine (HX.out _).mono ?_); rintro e w2 ⟨rfl, b2⟩); have HM2 := Lib.hid (HM1.out.on b2); have p0 := HM2.out.cell 0 _ rfl; have p1 := HM2.out.cell 1 _ rfl; have p4 := HM2.out.cell 19 _ rfl; have pf := HM2.out.free; have pl := HM2.out.lt)
    | (go_at_call 55; ((with_reducible refine (HS.out _).mono ?_); rintro e w3 ⟨rfl, rfl⟩)))
  go_ret
  exact ⟨rfl, (HM2.out.set_ 0 _ rfl), (((of_alloc w _ _).trans (of_below b1)).trans (of_below b2)).trans (of_set _ M 0 _)⟩
set_option maxRecDepth 100000 in
set_option maxHeartbeats 4000000 in
theorem num_xor (jt jf k a x t : Int) (c : Nat → Int) (M : Nat) (w : World) (hm : MachAt w M a x t c false) (a0 : 0 ≤ a) (a1 : a < 4294967296) (x0 : 0 ≤ x) (x1 : x < 4294967296) (k0 : 0 ≤ k) (k1 : k < 4294967296)  :
    Calls Tryd.prog 29 #[.pointer (some ⟨M, 0, none⟩), .agg #[.int .u16 164, .int .u8 jt, .int .u8 jf, .int .u32 k]] w (NumTo M 0 (bitsV (· ^^^ ·) a k) x t c false w) := by
  have HO := Lib.hid (fun W => refOf_any 164 W)
  rw [show ofL allL 164 = ⟨164, ⟨#[120, 111, 114]⟩, 3⟩ by kernel_rfl] at HO
  have HX := Lib.hid (fun W => refWithX_any 164 W)
  rw [show withXB 164 = false by decide +kernel] at HX
  have hfd := one_field1
  have t0 := u32_xor a k a0 a1 k0 k1
  obtain ⟨v, hv⟩ : ∃ v : Int, v = bitsV (· ^^^ ·) a k := ⟨_, rfl⟩
  have t2 : bits BinOp.xor IntKind.u32 a k = v := by rw [t0, hv]; rfl
  rw [← hv]
  clear t0 hv
  have HM := Lib.hid hm
  have hl := hm.lt
  clear hm
  go_enter Tryd.func29, Tryd.ntmps29
  go_wp2_with (first
    | (go_at_call 19; ((with_reducible refine (HO.out _).mono ?_); rintro e w1 ⟨rfl, b1⟩); have HM1 := Lib.hid ((HM.out.al _).on b1); have s0 := box_cells b1 0 (.int .u16 164) rfl; have s3 := box_cells b1 3 _ rfl)
    | (go_at_call 54; ((with_reducible refine (HX.out _).mono ?_); rintro e w2 ⟨rfl, b2⟩); have HM2 := Lib.hid (HM1.out.on b2); have p0 := HM2.out.cell 0 _ rfl; have p1 := HM2.out.cell 1 _ rfl; have p4 := HM2.out.cell 19 _ rfl; have pf := HM2.out.free; have pl := HM2.out.lt))
  go_ret
  exact ⟨rfl, (HM2.out.set_ 0 _ rfl), (((of_alloc w _ _).trans (of_below b1)).trans (of_below b2)).trans (of_set _ M 0 _)⟩
set_option maxRecDepth 100000 in
set_option maxHeartbeats 4000000 in
theorem num_xorx (jt jf k a x t : Int) (c : Nat → Int) (M : Nat) (w : World) (hm : MachAt w M a x t c false) (a0 : 0 ≤ a) (a1 : a < 4294967296) (x0 : 0 ≤ x) (x1 : x < 4294967296) (k0 : 0 ≤ k) (k1 : k < 4294967296)  :
    Calls Tryd.prog 29 #[.pointer (some ⟨M, 0, none⟩), .agg #[.int .u16 172, .int .u8 jt, .int .u8 jf, .int .u32 k]] w (NumTo M 0 (bitsV (· ^^^ ·) a x) x t c false w) := by
  have HO := Lib.hid (fun W => refOf_any 172 W)
  rw [show ofL allL 172 = ⟨172, ⟨#[120, 111, 114, 120]⟩, 3⟩ by kernel_rfl] at HO
  have HX := Lib.hid (fun W => refWithX_any 172 W)
  rw [show withXB 172 = true by decide +kernel] at HX
  have hfd := one_field1
  have hx : ((⟨#[120, 111, 114, 120]⟩ : ByteArray).extract 0 3) = ⟨#[120, 111, 114]⟩ := rfl
  have t0 := u32_xor a x a0 a1 x0 x1
  obtain ⟨v, hv⟩ : ∃ v : Int, v = bitsV (· ^^^ ·) a x := ⟨_, rfl⟩
  have t2 : bits BinOp.xor IntKind.u32 a x = v := by rw [t0, hv]; rfl
  rw [← hv]
  clear t0 hv
  have HM := Lib.hid hm
  have hl := hm.lt
  clear hm
  go_enter Tryd.func29, Tryd.ntmps29
  go_wp2_with (first
    | (go_at_call 19; ((with_reducible refine (HO.out _).mono ?_); rintro e w1 ⟨rfl, b1⟩); have HM1 := Lib.hid ((HM.out.al _).on b1); have s0 := box_cells b1 0 (.int .u16 172) rfl; have s3 := box_cells b1 3 _ rfl)
    | (go_at_call 54; ((with_reducible refine (HX.out _).mono ?_); rintro e w2 ⟨rfl, b2⟩); have HM2 := Lib.hid (HM1.out.on b2); have p0 := HM2.out.cell 0 _ rfl; have p1 := HM2.out.cell 1 _ rfl; have p4 := HM2.out.cell 19 _ rfl; have pf := HM2.out.free; have pl := HM2.out.lt))
  go_ret
  exact ⟨rfl, (HM2.out.set_ 0 _ rfl), (((of_alloc w _ _).trans (of_below b1)).trans (of_below b2)).trans (of_set _ M 0 _)⟩
set_option maxRecDepth 100000 in
set_option maxHeartbeats 4000000 in
theorem num_neg (jt jf k a x t : Int) (c : Nat → Int) (M : Nat) (w : World) (hm : MachAt w M a x t c false) (a0 : 0 ≤ a) (a1 : a < 4294967296) (x0 : 0 ≤ x) (x1 : x < 4294967296) (k0 : 0 ≤ k) (k1 : k < 4294967296)  :
    Calls Tryd.prog 29 #[.pointer (some ⟨M, 0, none⟩), .agg #[.int .u16 132, .int .u8 jt, .int .u8 jf, .int .u32 k]] w (NumTo M 0 ((0 - a) % 4294967296) x t c false w) := by
  have HO := Lib.hid (fun W => refOf_any 132 W)
  rw [show ofL allL 132 = ⟨132, ⟨#[110, 101, 103]⟩, 3⟩ by kernel_rfl] at HO
  have HX := Lib.hid (fun W => refWithX_any 132 W)
  rw [show withXB 132 = false by decide +kernel] at HX
  have hfd := one_field1
  rw [Int.zero_sub]
  have HM := Lib.hid hm
  have hl := hm.lt
  clear hm
  go_enter Tryd.func29, Tryd.ntmps29
  go_wp2_with (first
    | (go_at_call 19; ((with_reducible refine (HO.out _).mono ?_); rintro e w1 ⟨rfl, b1⟩); have HM1 := Lib.hid ((HM.out.al _).on b1); have s0 := box_cells b1 0 (.int .u16 132) rfl; have s3 := box_cells b1 3 _ rfl)
    | (go_at_call 54; ((with_reducible refine (HX.out _).mono ?_); rintro e w2 ⟨rfl, b2⟩); have HM2 := Lib.hid (HM1.out.on b2); have p0 := HM2.out.cell 0 _ rfl; have p1 := HM2.out.cell 1 _ rfl; have p4 := HM2.out.cell 19 _ rfl; have pf := HM2.out.free; have pl := HM2.out.lt))
  go_ret
  exact ⟨rfl, (HM2.out.set_ 0 _ rfl), (((of_alloc w _ _).trans (of_below b1)).trans (of_below b2)).trans (of_set _ M 0 _)⟩
end Go.Proofs.YtinfbmfmmbibbaaDoor
