/- What the document's machine makes of the codes that jump: how many instructions are left out. Condition: numbers below 2 to the 32nd. -/
import Derived.Test.YtinfbmfmmbibbaaDoorVc
import Derived.Laws.BitsAllLaws
namespace Go.Proofs.YtinfbmfmmbibbaaDoor
open Go.RowKit
set_option linter.unusedVariables false
attribute [local go_sem ↓] Go.wp_at_zero Go.wp_at_succ

def JumpTo (n : Nat) (w : World) (e : Ending) (w' : World) : Prop := e = .returned (.int .i64 n) ∧ Below w.heap.size w w'
theorem ja_ (jt jf a x t : Int) (k : Nat) (c : Nat → Int) (M : Nat) (w : World) (k1 : k < 4294967296) :
    Calls Tryd.prog 30 #[.pointer (some ⟨M, 0, none⟩), .agg #[.int .u16 5, .int .u8 jt, .int .u8 jf, .int .u32 k]] w (JumpTo k w) := by
  have k2 : (k : Int) < 4294967296 := by omega
  clear k1
  go_enter Tryd.func30, Tryd.ntmps30
  go_wp2
  go_ret
  exact ⟨rfl, (Below.refl _ _).alloc (Nat.le_refl _) _⟩
set_option maxRecDepth 100000 in
set_option maxHeartbeats 4000000 in
theorem jeq_y (jt jf k a x t : Int) (c : Nat → Int) (M : Nat) (w : World) (hm : MachAt w M a x t c false) (a0 : 0 ≤ a) (a1 : a < 4294967296) (x0 : 0 ≤ x) (x1 : x < 4294967296) (k0 : 0 ≤ k) (k1 : k < 4294967296) (j0 : 0 ≤ jt) (j1 : jt < 256) (f0 : 0 ≤ jf) (f1 : jf < 256) (h : a = k) (n : Nat) (hn : (n : Int) = jt) :
    Calls Tryd.prog 30 #[.pointer (some ⟨M, 0, none⟩), .agg #[.int .u16 21, .int .u8 jt, .int .u8 jf, .int .u32 k]] w (JumpTo n w) := by
  unfold JumpTo
  rw [hn]
  clear hn
  have HX := Lib.hid (fun W => refWithX_any 21 W)
  rw [show withXB 21 = false by decide +kernel] at HX
  have t1 : (a == k) = true := by simpa using h
  clear h
  have HM := Lib.hid hm
  have hl := hm.lt
  have m0 := hm.cell 0 _ rfl
  have m1 := hm.cell 1 _ rfl
  clear hm
  go_enter Tryd.func30, Tryd.ntmps30
  go_wp2_with (go_at_call 54; ((with_reducible refine (HX.out _).mono ?_); rintro e w1 ⟨rfl, b1⟩); have HM1 := Lib.hid ((HM.out.al _).on b1); have p0 := HM1.out.cell 0 _ rfl; have p1 := HM1.out.cell 1 _ rfl; have s0 := box_cells b1 0 (.int .u16 21) rfl; have s1 := box_cells b1 1 (.int .u8 jt) rfl; have s2 := box_cells b1 2 (.int .u8 jf) rfl; have s3 := box_cells b1 3 (.int .u32 k) rfl)
  go_ret
  exact ⟨rfl, ((Below.refl _ _).alloc (Nat.le_refl _) _).trans (b1.mono (by simp))⟩
set_option maxRecDepth 100000 in
set_option maxHeartbeats 4000000 in
theorem jeq_n (jt jf k a x t : Int) (c : Nat → Int) (M : Nat) (w : World) (hm : MachAt w M a x t c false) (a0 : 0 ≤ a) (a1 : a < 4294967296) (x0 : 0 ≤ x) (x1 : x < 4294967296) (k0 : 0 ≤ k) (k1 : k < 4294967296) (j0 : 0 ≤ jt) (j1 : jt < 256) (f0 : 0 ≤ jf) (f1 : jf < 256) (h : ¬ a = k) (n : Nat) (hn : (n : Int) = jf) :
    Calls Tryd.prog 30 #[.pointer (some ⟨M, 0, none⟩), .agg #[.int .u16 21, .int .u8 jt, .int .u8 jf, .int .u32 k]] w (JumpTo n w) := by
  unfold JumpTo
  rw [hn]
  clear hn
  have HX := Lib.hid (fun W => refWithX_any 21 W)
  rw [show withXB 21 = false by decide +kernel] at HX
  have t1 : (a == k) = false := by simpa using h
  have t2 : ¬ a = k := by simpa using h
  clear h
  have HM := Lib.hid hm
  have hl := hm.lt
  have m0 := hm.cell 0 _ rfl
  have m1 := hm.cell 1 _ rfl
  clear hm
  go_enter Tryd.func30, Tryd.ntmps30
  go_wp2_with (go_at_call 54; ((with_reducible refine (HX.out _).mono ?_); rintro e w1 ⟨rfl, b1⟩); have HM1 := Lib.hid ((HM.out.al _).on b1); have p0 := HM1.out.cell 0 _ rfl; have p1 := HM1.out.cell 1 _ rfl; have s0 := box_cells b1 0 (.int .u16 21) rfl; have s1 := box_cells b1 1 (.int .u8 jt) rfl; have s2 := box_cells b1 2 (.int .u8 jf) rfl; have s3 := box_cells b1 3 (.int .u32 k) rfl)
  go_ret
  exact ⟨rfl, ((Below.refl _ _).alloc (Nat.le_refl _) _).trans (b1.mono (by simp))⟩
set_option maxRecDepth 100000 in
set_option maxHeartbeats 4000000 in
theorem jeqx_y (jt jf k a x t : Int) (c : Nat → Int) (M : Nat) (w : World) (hm : MachAt w M a x t c false) (a0 : 0 ≤ a) (a1 : a < 4294967296) (x0 : 0 ≤ x) (x1 : x < 4294967296) (k0 : 0 ≤ k) (k1 : k < 4294967296) (j0 : 0 ≤ jt) (j1 : jt < 256) (f0 : 0 ≤ jf) (f1 : jf < 256) (h : a = x) (n : Nat) (hn : (n : Int) = jt) :
    Calls Tryd.prog 30 #[.pointer (some ⟨M, 0, none⟩), .agg #[.int .u16 29, .int .u8 jt, .int .u8 jf, .int .u32 k]] w (JumpTo n w) := by
  unfold JumpTo
  rw [hn]
  clear hn
  have HX := Lib.hid (fun W => refWithX_any 29 W)
  rw [show withXB 29 = true by decide +kernel] at HX
  have t1 : (a == x) = true := by simpa using h
  clear h
  have HM := Lib.hid hm
  have hl := hm.lt
  have m0 := hm.cell 0 _ rfl
  have m1 := hm.cell 1 _ rfl
  clear hm
  go_enter Tryd.func30, Tryd.ntmps30
  go_wp2_with (go_at_call 54; ((with_reducible refine (HX.out _).mono ?_); rintro e w1 ⟨rfl, b1⟩); have HM1 := Lib.hid ((HM.out.al _).on b1); have p0 := HM1.out.cell 0 _ rfl; have p1 := HM1.out.cell 1 _ rfl; have s0 := box_cells b1 0 (.int .u16 29) rfl; have s1 := box_cells b1 1 (.int .u8 jt) rfl; have s2 := box_cells b1 2 (.int .u8 jf) rfl; have s3 := box_cells b1 3 (.int .u32 k) rfl)
  go_ret
  exact ⟨rfl, ((Below.refl _ _).alloc (Nat.le_refl _) _).trans (b1.mono (by simp))⟩
set_option maxRecDepth 100000 in
set_option maxHeartbeats 4000000 in
theorem jeqx_n (jt jf k a x t : Int) (c : Nat → Int) (M : Nat) (w : World) (hm : MachAt w M a x t c false) (a0 : 0 ≤ a) (a1 : a < 4294967296) (x0 : 0 ≤ x) (x1 : x < 4294967296) (k0 : 0 ≤ k) (k1 : k < 4294967296) (j0 : 0 ≤ jt) (j1 : jt < 256) (f0 : 0 ≤ jf) (f1 : jf < 256) (h : ¬ a = x) (n : Nat) (hn : (n : Int) = jf) :
    Calls Tryd.prog 30 #[.pointer (some ⟨M, 0, none⟩), .agg #[.int .u16 29, .int .u8 jt, .int .u8 jf, .int .u32 k]] w (JumpTo n w) := by
  unfold JumpTo
  rw [hn]
  clear hn
  have HX := Lib.hid (fun W => refWithX_any 29 W)
  rw [show withXB 29 = true by decide +kernel] at HX
  have t1 : (a == x) = false := by simpa using h
  have t2 : ¬ a = x := by simpa using h
  clear h
  have HM := Lib.hid hm
  have hl := hm.lt
  have m0 := hm.cell 0 _ rfl
  have m1 := hm.cell 1 _ rfl
  clear hm
  go_enter Tryd.func30, Tryd.ntmps30
  go_wp2_with (go_at_call 54; ((with_reducible refine (HX.out _).mono ?_); rintro e w1 ⟨rfl, b1⟩); have HM1 := Lib.hid ((HM.out.al _).on b1); have p0 := HM1.out.cell 0 _ rfl; have p1 := HM1.out.cell 1 _ rfl; have s0 := box_cells b1 0 (.int .u16 29) rfl; have s1 := box_cells b1 1 (.int .u8 jt) rfl; have s2 := box_cells b1 2 (.int .u8 jf) rfl; have s3 := box_cells b1 3 (.int .u32 k) rfl)
  go_ret
  exact ⟨rfl, ((Below.refl _ _).alloc (Nat.le_refl _) _).trans (b1.mono (by simp))⟩
set_option maxRecDepth 100000 in
set_option maxHeartbeats 4000000 in
theorem jgt_y (jt jf k a x t : Int) (c : Nat → Int) (M : Nat) (w : World) (hm : MachAt w M a x t c false) (a0 : 0 ≤ a) (a1 : a < 4294967296) (x0 : 0 ≤ x) (x1 : x < 4294967296) (k0 : 0 ≤ k) (k1 : k < 4294967296) (j0 : 0 ≤ jt) (j1 : jt < 256) (f0 : 0 ≤ jf) (f1 : jf < 256) (h : k < a) (n : Nat) (hn : (n : Int) = jt) :
    Calls Tryd.prog 30 #[.pointer (some ⟨M, 0, none⟩), .agg #[.int .u16 37, .int .u8 jt, .int .u8 jf, .int .u32 k]] w (JumpTo n w) := by
  unfold JumpTo
  rw [hn]
  clear hn
  have HX := Lib.hid (fun W => refWithX_any 37 W)
  rw [show withXB 37 = false by decide +kernel] at HX
  have t1 : k < a := h
  clear h
  have HM := Lib.hid hm
  have hl := hm.lt
  have m0 := hm.cell 0 _ rfl
  have m1 := hm.cell 1 _ rfl
  clear hm
  go_enter Tryd.func30, Tryd.ntmps30
  go_wp2_with (go_at_call 54; ((with_reducible refine (HX.out _).mono ?_); rintro e w1 ⟨rfl, b1⟩); have HM1 := Lib.hid ((HM.out.al _).on b1); have p0 := HM1.out.cell 0 _ rfl; have p1 := HM1.out.cell 1 _ rfl; have s0 := box_cells b1 0 (.int .u16 37) rfl; have s1 := box_cells b1 1 (.int .u8 jt) rfl; have s2 := box_cells b1 2 (.int .u8 jf) rfl; have s3 := box_cells b1 3 (.int .u32 k) rfl)
  go_ret
  exact ⟨rfl, ((Below.refl _ _).alloc (Nat.le_refl _) _).trans (b1.mono (by simp))⟩
set_option maxRecDepth 100000 in
set_option maxHeartbeats 4000000 in
theorem jgt_n (jt jf k a x t : Int) (c : Nat → Int) (M : Nat) (w : World) (hm : MachAt w M a x t c false) (a0 : 0 ≤ a) (a1 : a < 4294967296) (x0 : 0 ≤ x) (x1 : x < 4294967296) (k0 : 0 ≤ k) (k1 : k < 4294967296) (j0 : 0 ≤ jt) (j1 : jt < 256) (f0 : 0 ≤ jf) (f1 : jf < 256) (h : ¬ k < a) (n : Nat) (hn : (n : Int) = jf) :
    Calls Tryd.prog 30 #[.pointer (some ⟨M, 0, none⟩), .agg #[.int .u16 37, .int .u8 jt, .int .u8 jf, .int .u32 k]] w (JumpTo n w) := by
  unfold JumpTo
  rw [hn]
  clear hn
  have HX := Lib.hid (fun W => refWithX_any 37 W)
  rw [show withXB 37 = false by decide +kernel] at HX
  have t1 : ¬ k < a := h
  clear h
  have HM := Lib.hid hm
  have hl := hm.lt
  have m0 := hm.cell 0 _ rfl
  have m1 := hm.cell 1 _ rfl
  clear hm
  go_enter Tryd.func30, Tryd.ntmps30
  go_wp2_with (go_at_call 54; ((with_reducible refine (HX.out _).mono ?_); rintro e w1 ⟨rfl, b1⟩); have HM1 := Lib.hid ((HM.out.al _).on b1); have p0 := HM1.out.cell 0 _ rfl; have p1 := HM1.out.cell 1 _ rfl; have s0 := box_cells b1 0 (.int .u16 37) rfl; have s1 := box_cells b1 1 (.int .u8 jt) rfl; have s2 := box_cells b1 2 (.int .u8 jf) rfl; have s3 := box_cells b1 3 (.int .u32 k) rfl)
  go_ret
  exact ⟨rfl, ((Below.refl _ _).alloc (Nat.le_refl _) _).trans (b1.mono (by simp))⟩
set_option maxRecDepth 100000 in
set_option maxHeartbeats 4000000 in
theorem jgtx_y (jt jf k a x t : Int) (c : Nat → Int) (M : Nat) (w : World) (hm : MachAt w M a x t c false) (a0 : 0 ≤ a) (a1 : a < 4294967296) (x0 : 0 ≤ x) (x1 : x < 4294967296) (k0 : 0 ≤ k) (k1 : k < 4294967296) (j0 : 0 ≤ jt) (j1 : jt < 256) (f0 : 0 ≤ jf) (f1 : jf < 256) (h : x < a) (n : Nat) (hn : (n : Int) = jt) :
    Calls Tryd.prog 30 #[.pointer (some ⟨M, 0, none⟩), .agg #[.int .u16 45, .int .u8 jt, .int .u8 jf, .int .u32 k]] w (JumpTo n w) := by
  unfold JumpTo
  rw [hn]
  clear hn
  have HX := Lib.hid (fun W => refWithX_any 45 W)
  rw [show withXB 45 = true by decide +kernel] at HX
  have t1 : x < a := h
  clear h
  have HM := Lib.hid hm
  have hl := hm.lt
  have m0 := hm.cell 0 _ rfl
  have m1 := hm.cell 1 _ rfl
  clear hm
  go_enter Tryd.func30, Tryd.ntmps30
  go_wp2_with (go_at_call 54; ((with_reducible refine (HX.out _).mono ?_); rintro e w1 ⟨rfl, b1⟩); have HM1 := Lib.hid ((HM.out.al _).on b1); have p0 := HM1.out.cell 0 _ rfl; have p1 := HM1.out.cell 1 _ rfl; have s0 := box_cells b1 0 (.int .u16 45) rfl; have s1 := box_cells b1 1 (.int .u8 jt) rfl; have s2 := box_cells b1 2 (.int .u8 jf) rfl; have s3 := box_cells b1 3 (.int .u32 k) rfl)
  go_ret
  exact ⟨rfl, ((Below.refl _ _).alloc (Nat.le_refl _) _).trans (b1.mono (by simp))⟩
set_option maxRecDepth 100000 in
set_option maxHeartbeats 4000000 in
theorem jgtx_n (jt jf k a x t : Int) (c : Nat → Int) (M : Nat) (w : World) (hm : MachAt w M a x t c false) (a0 : 0 ≤ a) (a1 : a < 4294967296) (x0 : 0 ≤ x) (x1 : x < 4294967296) (k0 : 0 ≤ k) (k1 : k < 4294967296) (j0 : 0 ≤ jt) (j1 : jt < 256) (f0 : 0 ≤ jf) (f1 : jf < 256) (h : ¬ x < a) (n : Nat) (hn : (n : Int) = jf) :
    Calls Tryd.prog 30 #[.pointer (some ⟨M, 0, none⟩), .agg #[.int .u16 45, .int .u8 jt, .int .u8 jf, .int .u32 k]] w (JumpTo n w) := by
  unfold JumpTo
  rw [hn]
  clear hn
  have HX := Lib.hid (fun W => refWithX_any 45 W)
  rw [show withXB 45 = true by decide +kernel] at HX
  have t1 : ¬ x < a := h
  clear h
  have HM := Lib.hid hm
  have hl := hm.lt
  have m0 := hm.cell 0 _ rfl
  have m1 := hm.cell 1 _ rfl
  clear hm
  go_enter Tryd.func30, Tryd.ntmps30
  go_wp2_with (go_at_call 54; ((with_reducible refine (HX.out _).mono ?_); rintro e w1 ⟨rfl, b1⟩); have HM1 := Lib.hid ((HM.out.al _).on b1); have p0 := HM1.out.cell 0 _ rfl; have p1 := HM1.out.cell 1 _ rfl; have s0 := box_cells b1 0 (.int .u16 45) rfl; have s1 := box_cells b1 1 (.int .u8 jt) rfl; have s2 := box_cells b1 2 (.int .u8 jf) rfl; have s3 := box_cells b1 3 (.int .u32 k) rfl)
  go_ret
  exact ⟨rfl, ((Below.refl _ _).alloc (Nat.le_refl _) _).trans (b1.mono (by simp))⟩
set_option maxRecDepth 100000 in
set_option maxHeartbeats 4000000 in
theorem jge_y (jt jf k a x t : Int) (c : Nat → Int) (M : Nat) (w : World) (hm : MachAt w M a x t c false) (a0 : 0 ≤ a) (a1 : a < 4294967296) (x0 : 0 ≤ x) (x1 : x < 4294967296) (k0 : 0 ≤ k) (k1 : k < 4294967296) (j0 : 0 ≤ jt) (j1 : jt < 256) (f0 : 0 ≤ jf) (f1 : jf < 256) (h : k ≤ a) (n : Nat) (hn : (n : Int) = jt) :
    Calls Tryd.prog 30 #[.pointer (some ⟨M, 0, none⟩), .agg #[.int .u16 53, .int .u8 jt, .int .u8 jf, .int .u32 k]] w (JumpTo n w) := by
  unfold JumpTo
  rw [hn]
  clear hn
  have HX := Lib.hid (fun W => refWithX_any 53 W)
  rw [show withXB 53 = false by decide +kernel] at HX
  have t1 : k ≤ a := h
  have t2 : ¬ a < k := by omega
  clear h
  have HM := Lib.hid hm
  have hl := hm.lt
  have m0 := hm.cell 0 _ rfl
  have m1 := hm.cell 1 _ rfl
  clear hm
  go_enter Tryd.func30, Tryd.ntmps30
  go_wp2_with (go_at_call 54; ((with_reducible refine (HX.out _).mono ?_); rintro e w1 ⟨rfl, b1⟩); have HM1 := Lib.hid ((HM.out.al _).on b1); have p0 := HM1.out.cell 0 _ rfl; have p1 := HM1.out.cell 1 _ rfl; have s0 := box_cells b1 0 (.int .u16 53) rfl; have s1 := box_cells b1 1 (.int .u8 jt) rfl; have s2 := box_cells b1 2 (.int .u8 jf) rfl; have s3 := box_cells b1 3 (.int .u32 k) rfl)
  go_ret
  exact ⟨rfl, ((Below.refl _ _).alloc (Nat.le_refl _) _).trans (b1.mono (by simp))⟩
set_option maxRecDepth 100000 in
set_option maxHeartbeats 4000000 in
theorem jge_n (jt jf k a x t : Int) (c : Nat → Int) (M : Nat) (w : World) (hm : MachAt w M a x t c false) (a0 : 0 ≤ a) (a1 : a < 4294967296) (x0 : 0 ≤ x) (x1 : x < 4294967296) (k0 : 0 ≤ k) (k1 : k < 4294967296) (j0 : 0 ≤ jt) (j1 : jt < 256) (f0 : 0 ≤ jf) (f1 : jf < 256) (h : ¬ k ≤ a) (n : Nat) (hn : (n : Int) = jf) :
    Calls Tryd.prog 30 #[.pointer (some ⟨M, 0, none⟩), .agg #[.int .u16 53, .int .u8 jt, .int .u8 jf, .int .u32 k]] w (JumpTo n w) := by
  unfold JumpTo
  rw [hn]
  clear hn
  have HX := Lib.hid (fun W => refWithX_any 53 W)
  rw [show withXB 53 = false by decide +kernel] at HX
  have t1 : ¬ k ≤ a := h
  have t2 : a < k := by omega
  clear h
  have HM := Lib.hid hm
  have hl := hm.lt
  have m0 := hm.cell 0 _ rfl
  have m1 := hm.cell 1 _ rfl
  clear hm
  go_enter Tryd.func30, Tryd.ntmps30
  go_wp2_with (go_at_call 54; ((with_reducible refine (HX.out _).mono ?_); rintro e w1 ⟨rfl, b1⟩); have HM1 := Lib.hid ((HM.out.al _).on b1); have p0 := HM1.out.cell 0 _ rfl; have p1 := HM1.out.cell 1 _ rfl; have s0 := box_cells b1 0 (.int .u16 53) rfl; have s1 := box_cells b1 1 (.int .u8 jt) rfl; have s2 := box_cells b1 2 (.int .u8 jf) rfl; have s3 := box_cells b1 3 (.int .u32 k) rfl)
  go_ret
  exact ⟨rfl, ((Below.refl _ _).alloc (Nat.le_refl _) _).trans (b1.mono (by simp))⟩
set_option maxRecDepth 100000 in
set_option maxHeartbeats 4000000 in
theorem jgex_y (jt jf k a x t : Int) (c : Nat → Int) (M : Nat) (w : World) (hm : MachAt w M a x t c false) (a0 : 0 ≤ a) (a1 : a < 4294967296) (x0 : 0 ≤ x) (x1 : x < 4294967296) (k0 : 0 ≤ k) (k1 : k < 4294967296) (j0 : 0 ≤ jt) (j1 : jt < 256) (f0 : 0 ≤ jf) (f1 : jf < 256) (h : x ≤ a) (n : Nat) (hn : (n : Int) = jt) :
    Calls Tryd.prog 30 #[.pointer (some ⟨M, 0, none⟩), .agg #[.int .u16 61, .int .u8 jt, .int .u8 jf, .int .u32 k]] w (JumpTo n w) := by
  unfold JumpTo
  rw [hn]
  clear hn
  have HX := Lib.hid (fun W => refWithX_any 61 W)
  rw [show withXB 61 = true by decide +kernel] at HX
  have t1 : x ≤ a := h
  have t2 : ¬ a < x := by omega
  clear h
  have HM := Lib.hid hm
  have hl := hm.lt
  have m0 := hm.cell 0 _ rfl
  have m1 := hm.cell 1 _ rfl
  clear hm
  go_enter Tryd.func30, Tryd.ntmps30
  go_wp2_with (go_at_call 54; ((with_reducible refine (HX.out _).mono ?_); rintro e w1 ⟨rfl, b1⟩); have HM1 := Lib.hid ((HM.out.al _).on b1); have p0 := HM1.out.cell 0 _ rfl; have p1 := HM1.out.cell 1 _ rfl; have s0 := box_cells b1 0 (.int .u16 61) rfl; have s1 := box_cells b1 1 (.int .u8 jt) rfl; have s2 := box_cells b1 2 (.int .u8 jf) rfl; have s3 := box_cells b1 3 (.int .u32 k) rfl)
  go_ret
  exact ⟨rfl, ((Below.refl _ _).alloc (Nat.le_refl _) _).trans (b1.mono (by simp))⟩
set_option maxRecDepth 100000 in
set_option maxHeartbeats 4000000 in
theorem jgex_n (jt jf k a x t : Int) (c : Nat → Int) (M : Nat) (w : World) (hm : MachAt w M a x t c false) (a0 : 0 ≤ a) (a1 : a < 4294967296) (x0 : 0 ≤ x) (x1 : x < 4294967296) (k0 : 0 ≤ k) (k1 : k < 4294967296) (j0 : 0 ≤ jt) (j1 : jt < 256) (f0 : 0 ≤ jf) (f1 : jf < 256) (h : ¬ x ≤ a) (n : Nat) (hn : (n : Int) = jf) :
    Calls Tryd.prog 30 #[.pointer (some ⟨M, 0, none⟩), .agg #[.int .u16 61, .int .u8 jt, .int .u8 jf, .int .u32 k]] w (JumpTo n w) := by
  unfold JumpTo
  rw [hn]
  clear hn
  have HX := Lib.hid (fun W => refWithX_any 61 W)
  rw [show withXB 61 = true by decide +kernel] at HX
  have t1 : ¬ x ≤ a := h
  have t2 : a < x := by omega
  clear h
  have HM := Lib.hid hm
  have hl := hm.lt
  have m0 := hm.cell 0 _ rfl
  have m1 := hm.cell 1 _ rfl
  clear hm
  go_enter Tryd.func30, Tryd.ntmps30
  go_wp2_with (go_at_call 54; ((with_reducible refine (HX.out _).mono ?_); rintro e w1 ⟨rfl, b1⟩); have HM1 := Lib.hid ((HM.out.al _).on b1); have p0 := HM1.out.cell 0 _ rfl; have p1 := HM1.out.cell 1 _ rfl; have s0 := box_cells b1 0 (.int .u16 61) rfl; have s1 := box_cells b1 1 (.int .u8 jt) rfl; have s2 := box_cells b1 2 (.int .u8 jf) rfl; have s3 := box_cells b1 3 (.int .u32 k) rfl)
  go_ret
  exact ⟨rfl, ((Below.refl _ _).alloc (Nat.le_refl _) _).trans (b1.mono (by simp))⟩
set_option maxRecDepth 100000 in
set_option maxHeartbeats 4000000 in
theorem jset_y (jt jf k a x t : Int) (c : Nat → Int) (M : Nat) (w : World) (hm : MachAt w M a x t c false) (a0 : 0 ≤ a) (a1 : a < 4294967296) (x0 : 0 ≤ x) (x1 : x < 4294967296) (k0 : 0 ≤ k) (k1 : k < 4294967296) (j0 : 0 ≤ jt) (j1 : jt < 256) (f0 : 0 ≤ jf) (f1 : jf < 256) (h : 0 < bitsV (· &&& ·) a k) (n : Nat) (hn : (n : Int) = jt) :
    Calls Tryd.prog 30 #[.pointer (some ⟨M, 0, none⟩), .agg #[.int .u16 69, .int .u8 jt, .int .u8 jf, .int .u32 k]] w (JumpTo n w) := by
  unfold JumpTo
  rw [hn]
  clear hn
  have HX := Lib.hid (fun W => refWithX_any 69 W)
  rw [show withXB 69 = false by decide +kernel] at HX
  have t0 := u32_and a k a0 a1 k0 k1
  obtain ⟨v, hv⟩ : ∃ v : Int, v = bitsV (· &&& ·) a k := ⟨_, rfl⟩
  have t2 : bits BinOp.and IntKind.u32 a k = v := by rw [t0, hv]; rfl
  rw [← hv] at h
  have t3 : 0 < v := h
  clear t0 hv h
  
  have HM := Lib.hid hm
  have hl := hm.lt
  have m0 := hm.cell 0 _ rfl
  have m1 := hm.cell 1 _ rfl
  clear hm
  go_enter Tryd.func30, Tryd.ntmps30
  go_wp2_with (go_at_call 54; ((with_reducible refine (HX.out _).mono ?_); rintro e w1 ⟨rfl, b1⟩); have HM1 := Lib.hid ((HM.out.al _).on b1); have p0 := HM1.out.cell 0 _ rfl; have p1 := HM1.out.cell 1 _ rfl; have s0 := box_cells b1 0 (.int .u16 69) rfl; have s1 := box_cells b1 1 (.int .u8 jt) rfl; have s2 := box_cells b1 2 (.int .u8 jf) rfl; have s3 := box_cells b1 3 (.int .u32 k) rfl)
  go_ret
  exact ⟨rfl, ((Below.refl _ _).alloc (Nat.le_refl _) _).trans (b1.mono (by simp))⟩
set_option maxRecDepth 100000 in
set_option maxHeartbeats 4000000 in
theorem jset_n (jt jf k a x t : Int) (c : Nat → Int) (M : Nat) (w : World) (hm : MachAt w M a x t c false) (a0 : 0 ≤ a) (a1 : a < 4294967296) (x0 : 0 ≤ x) (x1 : x < 4294967296) (k0 : 0 ≤ k) (k1 : k < 4294967296) (j0 : 0 ≤ jt) (j1 : jt < 256) (f0 : 0 ≤ jf) (f1 : jf < 256) (h : ¬ 0 < bitsV (· &&& ·) a k) (n : Nat) (hn : (n : Int) = jf) :
    Calls Tryd.prog 30 #[.pointer (some ⟨M, 0, none⟩), .agg #[.int .u16 69, .int .u8 jt, .int .u8 jf, .int .u32 k]] w (JumpTo n w) := by
  unfold JumpTo
  rw [hn]
  clear hn
  have HX := Lib.hid (fun W => refWithX_any 69 W)
  rw [show withXB 69 = false by decide +kernel] at HX
  have t0 := u32_and a k a0 a1 k0 k1
  obtain ⟨v, hv⟩ : ∃ v : Int, v = bitsV (· &&& ·) a k := ⟨_, rfl⟩
  have t2 : bits BinOp.and IntKind.u32 a k = v := by rw [t0, hv]; rfl
  rw [← hv] at h
  have t3 : ¬ 0 < v := h
  clear t0 hv h
  
  have HM := Lib.hid hm
  have hl := hm.lt
  have m0 := hm.cell 0 _ rfl
  have m1 := hm.cell 1 _ rfl
  clear hm
  go_enter Tryd.func30, Tryd.ntmps30
  go_wp2_with (go_at_call 54; ((with_reducible refine (HX.out _).mono ?_); rintro e w1 ⟨rfl, b1⟩); have HM1 := Lib.hid ((HM.out.al _).on b1); have p0 := HM1.out.cell 0 _ rfl; have p1 := HM1.out.cell 1 _ rfl; have s0 := box_cells b1 0 (.int .u16 69) rfl; have s1 := box_cells b1 1 (.int .u8 jt) rfl; have s2 := box_cells b1 2 (.int .u8 jf) rfl; have s3 := box_cells b1 3 (.int .u32 k) rfl)
  go_ret
  exact ⟨rfl, ((Below.refl _ _).alloc (Nat.le_refl _) _).trans (b1.mono (by simp))⟩
set_option maxRecDepth 100000 in
set_option maxHeartbeats 4000000 in
theorem jsetx_y (jt jf k a x t : Int) (c : Nat → Int) (M : Nat) (w : World) (hm : MachAt w M a x t c false) (a0 : 0 ≤ a) (a1 : a < 4294967296) (x0 : 0 ≤ x) (x1 : x < 4294967296) (k0 : 0 ≤ k) (k1 : k < 4294967296) (j0 : 0 ≤ jt) (j1 : jt < 256) (f0 : 0 ≤ jf) (f1 : jf < 256) (h : 0 < bitsV (· &&& ·) a x) (n : Nat) (hn : (n : Int) = jt) :
    Calls Tryd.prog 30 #[.pointer (some ⟨M, 0, none⟩), .agg #[.int .u16 77, .int .u8 jt, .int .u8 jf, .int .u32 k]] w (JumpTo n w) := by
  unfold JumpTo
  rw [hn]
  clear hn
  have HX := Lib.hid (fun W => refWithX_any 77 W)
  rw [show withXB 77 = true by decide +kernel] at HX
  have t0 := u32_and a x a0 a1 x0 x1
  obtain ⟨v, hv⟩ : ∃ v : Int, v = bitsV (· &&& ·) a x := ⟨_, rfl⟩
  have t2 : bits BinOp.and IntKind.u32 a x = v := by rw [t0, hv]; rfl
  rw [← hv] at h
  have t3 : 0 < v := h
  clear t0 hv h
  
  have HM := Lib.hid hm
  have hl := hm.lt
  have m0 := hm.cell 0 _ rfl
  have m1 := hm.cell 1 _ rfl
  clear hm
  go_enter Tryd.func30, Tryd.ntmps30
  go_wp2_with (go_at_call 54; ((with_reducible refine (HX.out _).mono ?_); rintro e w1 ⟨rfl, b1⟩); have HM1 := Lib.hid ((HM.out.al _).on b1); have p0 := HM1.out.cell 0 _ rfl; have p1 := HM1.out.cell 1 _ rfl; have s0 := box_cells b1 0 (.int .u16 77) rfl; have s1 := box_cells b1 1 (.int .u8 jt) rfl; have s2 := box_cells b1 2 (.int .u8 jf) rfl; have s3 := box_cells b1 3 (.int .u32 k) rfl)
  go_ret
  exact ⟨rfl, ((Below.refl _ _).alloc (Nat.le_refl _) _).trans (b1.mono (by simp))⟩
set_option maxRecDepth 100000 in
set_option maxHeartbeats 4000000 in
theorem jsetx_n (jt jf k a x t : Int) (c : Nat → Int) (M : Nat) (w : World) (hm : MachAt w M a x t c false) (a0 : 0 ≤ a) (a1 : a < 4294967296) (x0 : 0 ≤ x) (x1 : x < 4294967296) (k0 : 0 ≤ k) (k1 : k < 4294967296) (j0 : 0 ≤ jt) (j1 : jt < 256) (f0 : 0 ≤ jf) (f1 : jf < 256) (h : ¬ 0 < bitsV (· &&& ·) a x) (n : Nat) (hn : (n : Int) = jf) :
    Calls Tryd.prog 30 #[.pointer (some ⟨M, 0, none⟩), .agg #[.int .u16 77, .int .u8 jt, .int .u8 jf, .int .u32 k]] w (JumpTo n w) := by
  unfold JumpTo
  rw [hn]
  clear hn
  have HX := Lib.hid (fun W => refWithX_any 77 W)
  rw [show withXB 77 = true by decide +kernel] at HX
  have t0 := u32_and a x a0 a1 x0 x1
  obtain ⟨v, hv⟩ : ∃ v : Int, v = bitsV (· &&& ·) a x := ⟨_, rfl⟩
  have t2 : bits BinOp.and IntKind.u32 a x = v := by rw [t0, hv]; rfl
  rw [← hv] at h
  have t3 : ¬ 0 < v := h
  clear t0 hv h
  
  have HM := Lib.hid hm
  have hl := hm.lt
  have m0 := hm.cell 0 _ rfl
  have m1 := hm.cell 1 _ rfl
  clear hm
  go_enter Tryd.func30, Tryd.ntmps30
  go_wp2_with (go_at_call 54; ((with_reducible refine (HX.out _).mono ?_); rintro e w1 ⟨rfl, b1⟩); have HM1 := Lib.hid ((HM.out.al _).on b1); have p0 := HM1.out.cell 0 _ rfl; have p1 := HM1.out.cell 1 _ rfl; have s0 := box_cells b1 0 (.int .u16 77) rfl; have s1 := box_cells b1 1 (.int .u8 jt) rfl; have s2 := box_cells b1 2 (.int .u8 jf) rfl; have s3 := box_cells b1 3 (.int .u32 k) rfl)
  go_ret
  exact ⟨rfl, ((Below.refl _ _).alloc (Nat.le_refl _) _).trans (b1.mono (by simp))⟩
end Go.Proofs.YtinfbmfmmbibbaaDoor
