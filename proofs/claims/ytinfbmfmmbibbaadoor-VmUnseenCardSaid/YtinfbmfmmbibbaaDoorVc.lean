/- What the document's machine makes of the codes that load, store, move. Condition: numbers below 2 to the 32nd. -/
import Derived.Test.YtinfbmfmmbibbaaDoorVb
import Derived.RegionTactic
import Derived.ChangeAlike
import Derived.BigRegion
namespace Go.Proofs.YtinfbmfmmbibbaaDoor
open Go.RowKit
set_option linter.unusedVariables false
attribute [local go_sem ↓] Go.wp_at_zero Go.wp_at_succ

theorem MachAt.al {w : World} {M : Nat} {a x t : Int} {c : Nat → Int} {ov : Bool} (h : MachAt w M a x t c ov) (o : Obj) : MachAt (w.alloc o) M a x t c ov := h.on ((Below.refl _ _).alloc (Nat.le_refl _) o)
theorem MachAt.dr {w : World} {M : Nat} {a x t : Int} {c : Nat → Int} {ov : Bool} (h : MachAt w M a x t c ov) : MachAt w.drew M a x t c ov := h
theorem of_al2 (w : World) (o o' : Obj) (row : Option Nat) : w.grownBy ((w.alloc o).alloc o') row := (of_alloc w o row).trans (of_alloc _ o' row)
theorem of_drew {w w' : World} {row : Option Nat} (h : w.grownBy w' row) : w.grownBy w'.drew row := ⟨h.os, h.tape, h.output, h.size, h.block⟩
def LoadTo (M : Nat) (r a x t : Int) (c : Nat → Int) (w : World) (e : Ending) (w' : World) : Prop := e = .returned (.int .i64 r) ∧ MachAt w' M a x t c false ∧ w.grownBy w' (some M)
set_option maxRecDepth 100000 in
set_option maxHeartbeats 4000000 in
theorem ld_len (d : Dat) (jt jf k a x t : Int) (c : Nat → Int) (M : Nat) (w : World) (hm : MachAt w M a x t c false) (a0 : 0 ≤ a) (a1 : a < 4294967296) (x0 : 0 ≤ x) (x1 : x < 4294967296) (k0 : 0 ≤ k) (k1 : k < 4294967296)  :
    Calls Tryd.prog 28 #[.pointer (some ⟨M, 0, none⟩), .agg #[.int .u16 128, .int .u8 jt, .int .u8 jf, .int .u32 k], datV d] w (LoadTo M 0 64 x t c w) := by
  have HM := Lib.hid hm
  have hl := hm.lt
  have m0 := hm.cell 0 _ rfl
  have m1 := hm.cell 1 _ rfl
  have hf := hm.free
  clear hm
  unfold datV datC at *
  go_enter Tryd.func28, Tryd.ntmps28
  go_wp2
  go_ret
  exact ⟨rfl, ((HM.out.set_ 0 _ rfl).al _).al _, (of_set w M 0 _).trans (of_al2 _ _ _ _)⟩
set_option maxRecDepth 100000 in
set_option maxHeartbeats 4000000 in
theorem ldx_len (d : Dat) (jt jf k a x t : Int) (c : Nat → Int) (M : Nat) (w : World) (hm : MachAt w M a x t c false) (a0 : 0 ≤ a) (a1 : a < 4294967296) (x0 : 0 ≤ x) (x1 : x < 4294967296) (k0 : 0 ≤ k) (k1 : k < 4294967296)  :
    Calls Tryd.prog 28 #[.pointer (some ⟨M, 0, none⟩), .agg #[.int .u16 129, .int .u8 jt, .int .u8 jf, .int .u32 k], datV d] w (LoadTo M 0 a 64 t c w) := by
  have HM := Lib.hid hm
  have hl := hm.lt
  have m0 := hm.cell 0 _ rfl
  have m1 := hm.cell 1 _ rfl
  have hf := hm.free
  clear hm
  unfold datV datC at *
  go_enter Tryd.func28, Tryd.ntmps28
  go_wp2
  go_ret
  exact ⟨rfl, ((HM.out.set_ 1 _ rfl).al _).al _, (of_set w M 1 _).trans (of_al2 _ _ _ _)⟩
set_option maxRecDepth 100000 in
set_option maxHeartbeats 4000000 in
theorem ld_i (d : Dat) (jt jf k a x t : Int) (c : Nat → Int) (M : Nat) (w : World) (hm : MachAt w M a x t c false) (a0 : 0 ≤ a) (a1 : a < 4294967296) (x0 : 0 ≤ x) (x1 : x < 4294967296) (k0 : 0 ≤ k) (k1 : k < 4294967296)  :
    Calls Tryd.prog 28 #[.pointer (some ⟨M, 0, none⟩), .agg #[.int .u16 0, .int .u8 jt, .int .u8 jf, .int .u32 k], datV d] w (LoadTo M 0 k x t c w) := by
  have HM := Lib.hid hm
  have hl := hm.lt
  have m0 := hm.cell 0 _ rfl
  have m1 := hm.cell 1 _ rfl
  have hf := hm.free
  clear hm
  unfold datV datC at *
  go_enter Tryd.func28, Tryd.ntmps28
  go_wp2
  go_ret
  exact ⟨rfl, ((HM.out.set_ 0 _ rfl).al _).al _, (of_set w M 0 _).trans (of_al2 _ _ _ _)⟩
set_option maxRecDepth 100000 in
set_option maxHeartbeats 4000000 in
theorem ldx_i (d : Dat) (jt jf k a x t : Int) (c : Nat → Int) (M : Nat) (w : World) (hm : MachAt w M a x t c false) (a0 : 0 ≤ a) (a1 : a < 4294967296) (x0 : 0 ≤ x) (x1 : x < 4294967296) (k0 : 0 ≤ k) (k1 : k < 4294967296)  :
    Calls Tryd.prog 28 #[.pointer (some ⟨M, 0, none⟩), .agg #[.int .u16 1, .int .u8 jt, .int .u8 jf, .int .u32 k], datV d] w (LoadTo M 0 a k t c w) := by
  have HM := Lib.hid hm
  have hl := hm.lt
  have m0 := hm.cell 0 _ rfl
  have m1 := hm.cell 1 _ rfl
  have hf := hm.free
  clear hm
  unfold datV datC at *
  go_enter Tryd.func28, Tryd.ntmps28
  go_wp2
  go_ret
  exact ⟨rfl, ((HM.out.set_ 1 _ rfl).al _).al _, (of_set w M 1 _).trans (of_al2 _ _ _ _)⟩
set_option maxRecDepth 100000 in
set_option maxHeartbeats 4000000 in
theorem tax_ (d : Dat) (jt jf k a x t : Int) (c : Nat → Int) (M : Nat) (w : World) (hm : MachAt w M a x t c false) (a0 : 0 ≤ a) (a1 : a < 4294967296) (x0 : 0 ≤ x) (x1 : x < 4294967296) (k0 : 0 ≤ k) (k1 : k < 4294967296)  :
    Calls Tryd.prog 28 #[.pointer (some ⟨M, 0, none⟩), .agg #[.int .u16 7, .int .u8 jt, .int .u8 jf, .int .u32 k], datV d] w (LoadTo M 0 a a t c w) := by
  have HM := Lib.hid hm
  have hl := hm.lt
  have m0 := hm.cell 0 _ rfl
  have m1 := hm.cell 1 _ rfl
  have hf := hm.free
  clear hm
  unfold datV datC at *
  go_enter Tryd.func28, Tryd.ntmps28
  go_wp2
  go_ret
  exact ⟨rfl, ((HM.out.set_ 1 _ rfl).al _).al _, (of_set w M 1 _).trans (of_al2 _ _ _ _)⟩
set_option maxRecDepth 100000 in
set_option maxHeartbeats 4000000 in
theorem txa_ (d : Dat) (jt jf k a x t : Int) (c : Nat → Int) (M : Nat) (w : World) (hm : MachAt w M a x t c false) (a0 : 0 ≤ a) (a1 : a < 4294967296) (x0 : 0 ≤ x) (x1 : x < 4294967296) (k0 : 0 ≤ k) (k1 : k < 4294967296)  :
    Calls Tryd.prog 28 #[.pointer (some ⟨M, 0, none⟩), .agg #[.int .u16 135, .int .u8 jt, .int .u8 jf, .int .u32 k], datV d] w (LoadTo M 0 x x t c w) := by
  have HM := Lib.hid hm
  have hl := hm.lt
  have m0 := hm.cell 0 _ rfl
  have m1 := hm.cell 1 _ rfl
  have hf := hm.free
  clear hm
  unfold datV datC at *
  go_enter Tryd.func28, Tryd.ntmps28
  go_wp2
  go_ret
  exact ⟨rfl, ((HM.out.set_ 0 _ rfl).al _).al _, (of_set w M 0 _).trans (of_al2 _ _ _ _)⟩
set_option maxRecDepth 100000 in
set_option maxHeartbeats 4000000 in
theorem ldm_bad (d : Dat) (jt jf k a x t : Int) (c : Nat → Int) (M : Nat) (w : World) (hm : MachAt w M a x t c false) (a0 : 0 ≤ a) (a1 : a < 4294967296) (x0 : 0 ≤ x) (x1 : x < 4294967296) (k0 : 0 ≤ k) (k1 : k < 4294967296) (hk : 15 < k) :
    Calls Tryd.prog 28 #[.pointer (some ⟨M, 0, none⟩), .agg #[.int .u16 96, .int .u8 jt, .int .u8 jf, .int .u32 k], datV d] w (LoadTo M 43 a x t c w) := by
  have HM := Lib.hid hm
  have hl := hm.lt
  have m0 := hm.cell 0 _ rfl
  have m1 := hm.cell 1 _ rfl
  have hf := hm.free
  clear hm
  unfold datV datC at *
  go_enter Tryd.func28, Tryd.ntmps28
  go_wp2
  go_ret
  exact ⟨rfl, (HM.out.al _).al _, of_al2 w _ _ _⟩
set_option maxRecDepth 100000 in
set_option maxHeartbeats 4000000 in
theorem ldxm_bad (d : Dat) (jt jf k a x t : Int) (c : Nat → Int) (M : Nat) (w : World) (hm : MachAt w M a x t c false) (a0 : 0 ≤ a) (a1 : a < 4294967296) (x0 : 0 ≤ x) (x1 : x < 4294967296) (k0 : 0 ≤ k) (k1 : k < 4294967296) (hk : 15 < k) :
    Calls Tryd.prog 28 #[.pointer (some ⟨M, 0, none⟩), .agg #[.int .u16 97, .int .u8 jt, .int .u8 jf, .int .u32 k], datV d] w (LoadTo M 43 a x t c w) := by
  have HM := Lib.hid hm
  have hl := hm.lt
  have m0 := hm.cell 0 _ rfl
  have m1 := hm.cell 1 _ rfl
  have hf := hm.free
  clear hm
  unfold datV datC at *
  go_enter Tryd.func28, Tryd.ntmps28
  go_wp2
  go_ret
  exact ⟨rfl, (HM.out.al _).al _, of_al2 w _ _ _⟩
set_option maxRecDepth 100000 in
set_option maxHeartbeats 4000000 in
theorem st_bad (d : Dat) (jt jf k a x t : Int) (c : Nat → Int) (M : Nat) (w : World) (hm : MachAt w M a x t c false) (a0 : 0 ≤ a) (a1 : a < 4294967296) (x0 : 0 ≤ x) (x1 : x < 4294967296) (k0 : 0 ≤ k) (k1 : k < 4294967296) (hk : 15 < k) :
    Calls Tryd.prog 28 #[.pointer (some ⟨M, 0, none⟩), .agg #[.int .u16 2, .int .u8 jt, .int .u8 jf, .int .u32 k], datV d] w (LoadTo M 43 a x t c w) := by
  have HM := Lib.hid hm
  have hl := hm.lt
  have m0 := hm.cell 0 _ rfl
  have m1 := hm.cell 1 _ rfl
  have hf := hm.free
  clear hm
  unfold datV datC at *
  go_enter Tryd.func28, Tryd.ntmps28
  go_wp2
  go_ret
  exact ⟨rfl, (HM.out.al _).al _, of_al2 w _ _ _⟩
set_option maxRecDepth 100000 in
set_option maxHeartbeats 4000000 in
theorem stx_bad (d : Dat) (jt jf k a x t : Int) (c : Nat → Int) (M : Nat) (w : World) (hm : MachAt w M a x t c false) (a0 : 0 ≤ a) (a1 : a < 4294967296) (x0 : 0 ≤ x) (x1 : x < 4294967296) (k0 : 0 ≤ k) (k1 : k < 4294967296) (hk : 15 < k) :
    Calls Tryd.prog 28 #[.pointer (some ⟨M, 0, none⟩), .agg #[.int .u16 3, .int .u8 jt, .int .u8 jf, .int .u32 k], datV d] w (LoadTo M 43 a x t c w) := by
  have HM := Lib.hid hm
  have hl := hm.lt
  have m0 := hm.cell 0 _ rfl
  have m1 := hm.cell 1 _ rfl
  have hf := hm.free
  clear hm
  unfold datV datC at *
  go_enter Tryd.func28, Tryd.ntmps28
  go_wp2
  go_ret
  exact ⟨rfl, (HM.out.al _).al _, of_al2 w _ _ _⟩
set_option maxRecDepth 100000 in
set_option maxHeartbeats 4000000 in
theorem ldm_ok (d : Dat) (jt jf k a x t : Int) (c : Nat → Int) (M : Nat) (w : World) (hm : MachAt w M a x t c false) (a0 : 0 ≤ a) (a1 : a < 4294967296) (x0 : 0 ≤ x) (x1 : x < 4294967296) (k0 : 0 ≤ k) (k1 : k < 4294967296) (n : Nat) (hn : n < 16) (hk : k = n) :
    Calls Tryd.prog 28 #[.pointer (some ⟨M, 0, none⟩), .agg #[.int .u16 96, .int .u8 jt, .int .u8 jf, .int .u32 k], datV d] w (LoadTo M 0 (c n) x t c w) := by
  subst hk
  have mk := hm.cell (3 + n) _ (mach_get hn)
  have n0 : (0 : Int) ≤ n := by omega
  have n1 : (n : Int) < 16 := by omega
  have n2 : ¬ (15 : Int) < n := by omega
  have HM := Lib.hid hm
  have hl := hm.lt
  have m0 := hm.cell 0 _ rfl
  have m1 := hm.cell 1 _ rfl
  have hf := hm.free
  clear hm
  unfold datV datC at *
  go_enter Tryd.func28, Tryd.ntmps28
  go_wp2
  go_region
  all_goals (go_wp2; go_ret; exact ⟨rfl, (((HM.out.set_ 0 _ rfl).al _).al _).dr, of_drew ((of_set w M 0 _).trans (of_al2 _ _ _ _))⟩)
set_option maxRecDepth 100000 in
set_option maxHeartbeats 4000000 in
theorem ldxm_ok (d : Dat) (jt jf k a x t : Int) (c : Nat → Int) (M : Nat) (w : World) (hm : MachAt w M a x t c false) (a0 : 0 ≤ a) (a1 : a < 4294967296) (x0 : 0 ≤ x) (x1 : x < 4294967296) (k0 : 0 ≤ k) (k1 : k < 4294967296) (n : Nat) (hn : n < 16) (hk : k = n) :
    Calls Tryd.prog 28 #[.pointer (some ⟨M, 0, none⟩), .agg #[.int .u16 97, .int .u8 jt, .int .u8 jf, .int .u32 k], datV d] w (LoadTo M 0 a (c n) t c w) := by
  subst hk
  have mk := hm.cell (3 + n) _ (mach_get hn)
  have n0 : (0 : Int) ≤ n := by omega
  have n1 : (n : Int) < 16 := by omega
  have n2 : ¬ (15 : Int) < n := by omega
  have HM := Lib.hid hm
  have hl := hm.lt
  have m0 := hm.cell 0 _ rfl
  have m1 := hm.cell 1 _ rfl
  have hf := hm.free
  clear hm
  unfold datV datC at *
  go_enter Tryd.func28, Tryd.ntmps28
  go_wp2
  go_region
  all_goals (go_wp2; go_ret; exact ⟨rfl, (((HM.out.set_ 1 _ rfl).al _).al _).dr, of_drew ((of_set w M 1 _).trans (of_al2 _ _ _ _))⟩)
set_option maxRecDepth 100000 in
set_option maxHeartbeats 4000000 in
theorem st_ok (d : Dat) (jt jf k a x t : Int) (c : Nat → Int) (M : Nat) (w : World) (hm : MachAt w M a x t c false) (a0 : 0 ≤ a) (a1 : a < 4294967296) (x0 : 0 ≤ x) (x1 : x < 4294967296) (k0 : 0 ≤ k) (k1 : k < 4294967296) (n : Nat) (hn : n < 16) (hk : k = n) :
    Calls Tryd.prog 28 #[.pointer (some ⟨M, 0, none⟩), .agg #[.int .u16 2, .int .u8 jt, .int .u8 jf, .int .u32 k], datV d] w (LoadTo M 0 a x t (fun j => if j = n then a else c j) w) := by
  subst hk
  have mk := hm.cell (3 + n) _ (mach_get hn)
  have n0 : (0 : Int) ≤ n := by omega
  have n1 : (n : Int) < 16 := by omega
  have n2 : ¬ (15 : Int) < n := by omega
  have HM := Lib.hid hm
  have hl := hm.lt
  have m0 := hm.cell 0 _ rfl
  have m1 := hm.cell 1 _ rfl
  have hf := hm.free
  clear hm
  unfold datV datC at *
  go_enter Tryd.func28, Tryd.ntmps28
  go_wp2
  go_region
  all_goals (go_wp2; go_ret; exact ⟨rfl, (((HM.out.set_ (3 + n) _ (mach_put _ hn)).al _).al _).dr, of_drew ((of_set w M (3 + n) _).trans (of_al2 _ _ _ _))⟩)
set_option maxRecDepth 100000 in
set_option maxHeartbeats 4000000 in
theorem stx_ok (d : Dat) (jt jf k a x t : Int) (c : Nat → Int) (M : Nat) (w : World) (hm : MachAt w M a x t c false) (a0 : 0 ≤ a) (a1 : a < 4294967296) (x0 : 0 ≤ x) (x1 : x < 4294967296) (k0 : 0 ≤ k) (k1 : k < 4294967296) (n : Nat) (hn : n < 16) (hk : k = n) :
    Calls Tryd.prog 28 #[.pointer (some ⟨M, 0, none⟩), .agg #[.int .u16 3, .int .u8 jt, .int .u8 jf, .int .u32 k], datV d] w (LoadTo M 0 a x t (fun j => if j = n then x else c j) w) := by
  subst hk
  have mk := hm.cell (3 + n) _ (mach_get hn)
  have n0 : (0 : Int) ≤ n := by omega
  have n1 : (n : Int) < 16 := by omega
  have n2 : ¬ (15 : Int) < n := by omega
  have HM := Lib.hid hm
  have hl := hm.lt
  have m0 := hm.cell 0 _ rfl
  have m1 := hm.cell 1 _ rfl
  have hf := hm.free
  clear hm
  unfold datV datC at *
  go_enter Tryd.func28, Tryd.ntmps28
  go_wp2
  go_region
  all_goals (go_wp2; go_ret; exact ⟨rfl, (((HM.out.set_ (3 + n) _ (mach_put _ hn)).al _).al _).dr, of_drew ((of_set w M (3 + n) _).trans (of_al2 _ _ _ _))⟩)
set_option maxRecDepth 100000 in
set_option maxHeartbeats 4000000 in
theorem ld_abs (d : Dat) (jt jf k a x t : Int) (c : Nat → Int) (M : Nat) (w : World) (hm : MachAt w M a x t c false) (a0 : 0 ≤ a) (a1 : a < 4294967296) (x0 : 0 ≤ x) (x1 : x < 4294967296) (k0 : 0 ≤ k) (k1 : k < 4294967296) (hd : d.Ok) (hw : wordB k = true) :
    Calls Tryd.prog 28 #[.pointer (some ⟨M, 0, none⟩), .agg #[.int .u16 32, .int .u8 jt, .int .u8 jf, .int .u32 k], datV d] w (LoadTo M 0 (wordV d k) x t c w) := by
  have HW := Lib.hid (fun W => refWord3 d k W hd k0 k1)
  rw [show wordE k = 0 by unfold wordE; rw [hw]; rfl] at HW
  obtain ⟨y, hy⟩ : ∃ y, y = wordV d k := ⟨_, rfl⟩
  rw [← hy] at HW ⊢
  clear hd hw hy
  have HM := Lib.hid hm
  have hl := hm.lt
  have m0 := hm.cell 0 _ rfl
  have m1 := hm.cell 1 _ rfl
  have hf := hm.free
  clear hm
  unfold datV datC at *
  go_enter Tryd.func28, Tryd.ntmps28
  go_wp2_with (go_at_call 53; ((with_reducible refine (HW.out _).mono ?_); rintro e w1 ⟨rfl, b1⟩); have HM1 := Lib.hid (((HM.out.al _).al _).on b1); have hl1 := HM1.out.lt; have p0 := HM1.out.cell 0 _ rfl; have pf := HM1.out.free)
  go_ret
  exact ⟨rfl, HM1.out.set_ 0 _ rfl, ((of_al2 w _ _ _).trans (of_below b1)).trans (of_set _ M 0 _)⟩
set_option maxRecDepth 100000 in
set_option maxHeartbeats 4000000 in
theorem ld_abs_bad (d : Dat) (jt jf k a x t : Int) (c : Nat → Int) (M : Nat) (w : World) (hm : MachAt w M a x t c false) (a0 : 0 ≤ a) (a1 : a < 4294967296) (x0 : 0 ≤ x) (x1 : x < 4294967296) (k0 : 0 ≤ k) (k1 : k < 4294967296) (hd : d.Ok) (hw : wordB k = false) :
    Calls Tryd.prog 28 #[.pointer (some ⟨M, 0, none⟩), .agg #[.int .u16 32, .int .u8 jt, .int .u8 jf, .int .u32 k], datV d] w (LoadTo M 41 a x t c w) := by
  have HW := Lib.hid (fun W => refWord3 d k W hd k0 k1)
  rw [show wordE k = 41 by unfold wordE; rw [hw]; rfl] at HW
  obtain ⟨y, hy⟩ : ∃ y, y = wordV d k := ⟨_, rfl⟩
  rw [← hy] at HW
  clear hd hw hy
  have HM := Lib.hid hm
  have hl := hm.lt
  have m0 := hm.cell 0 _ rfl
  have m1 := hm.cell 1 _ rfl
  have hf := hm.free
  clear hm
  unfold datV datC at *
  go_enter Tryd.func28, Tryd.ntmps28
  go_wp2_with (go_at_call 53; ((with_reducible refine (HW.out _).mono ?_); rintro e w1 ⟨rfl, b1⟩); have HM1 := Lib.hid (((HM.out.al _).al _).on b1))
  go_ret
  exact ⟨rfl, HM1.out, (of_al2 w _ _ _).trans (of_below b1)⟩
end Go.Proofs.YtinfbmfmmbibbaaDoor
