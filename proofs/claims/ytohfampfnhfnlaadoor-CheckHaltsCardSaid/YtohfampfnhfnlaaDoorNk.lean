/- What the landed machine's jump returns: how many instructions are skipped. Condition: numbers below 2 to the 32nd; the table lies in the package's variable. -/
import Derived.Test.YtohfampfnhfnlaaDoorNa
import Derived.Test.YtohfampfnhfnlaaDoorVh
import Derived.Deep.RegionHeld3
namespace Go.Proofs.YtohfampfnhfnlaaDoor
open Go.RowKit
set_option linter.unusedVariables false
attribute [local go_sem ↓] Go.wp_at_zero Go.wp_at_succ

def LJTo (n : Int) (w : World) (e : Ending) (w' : World) : Prop := e = .returned (.int .u32 n) ∧ Below w.heap.size w w'
theorem keep5 {v w' : World} {p0 p1 p2 p3 p4 : Addr} {u0 u1 u2 u3 u4 : Value} (hb : Below v.heap.size v w') (h : v.cell? p0 = some u0 ∧ v.cell? p1 = some u1 ∧ v.cell? p2 = some u2 ∧ v.cell? p3 = some u3 ∧ v.cell? p4 = some u4) : w'.cell? p0 = some u0 ∧ w'.cell? p1 = some u1 ∧ w'.cell? p2 = some u2 ∧ w'.cell? p3 = some u3 ∧ w'.cell? p4 = some u4 :=
  ⟨(hb.cell (World.block_lt_of_cell? v p0 h.1)).trans h.1, (hb.cell (World.block_lt_of_cell? v p1 h.2.1)).trans h.2.1, (hb.cell (World.block_lt_of_cell? v p2 h.2.2.1)).trans h.2.2.1, (hb.cell (World.block_lt_of_cell? v p3 h.2.2.2.1)).trans h.2.2.2.1, (hb.cell (World.block_lt_of_cell? v p4 h.2.2.2.2)).trans h.2.2.2.2⟩
theorem j_start {w : World} {M : Nat} {c0 c1 c2 c3 u : Value} {t : TypeId} (hM : M < w.heap.size) (h1 : w.cell? ⟨M, 0, none⟩ = some u) :
    (w.alloc (.cells #[c0, c1, c2, c3] t)).drew.cell? ⟨w.heap.size, 0, none⟩ = some c0 ∧ (w.alloc (.cells #[c0, c1, c2, c3] t)).drew.cell? ⟨w.heap.size, 1, none⟩ = some c1 ∧ (w.alloc (.cells #[c0, c1, c2, c3] t)).drew.cell? ⟨w.heap.size, 2, none⟩ = some c2 ∧ (w.alloc (.cells #[c0, c1, c2, c3] t)).drew.cell? ⟨w.heap.size, 3, none⟩ = some c3 ∧ (w.alloc (.cells #[c0, c1, c2, c3] t)).drew.cell? ⟨M, 0, none⟩ = some u := by
  refine ⟨?_, ?_, ?_, ?_, ?_⟩
  iterate 4
    · show (w.alloc (.cells #[c0, c1, c2, c3] t)).cell? _ = _
      rw [cell_of_row _ _ _ _ _ (0, 0) (heap_alloc_new w _)]; rfl
  · show (w.alloc (.cells #[c0, c1, c2, c3] t)).cell? _ = _
    exact (World.cell?_alloc_lt w _ _ hM).trans h1
set_option maxHeartbeats 4000000 in
theorem lja (d : Dat) (jt jf k a x : Int) (c : Nat → Int) (st : Int) (ov : Bool) (an : Int) (M : Nat) (w : World) (hm : ML w M a x c d st ov an) : Calls Tryd.prog 75 #[.pointer (some ⟨M, 0, none⟩), .agg #[.int .u16 5, .int .u8 jt, .int .u8 jf, .int .u32 k]] w (LJTo k w) := by
  go_enter Tryd.func75, Tryd.ntmps75
  go_wp2
  go_ret
  exact ⟨rfl, (Below.refl _ _).alloc (Nat.le_refl _) _⟩
set_option maxRecDepth 100000 in
set_option maxHeartbeats 8000000 in
theorem ljeq_y (d : Dat) (jt jf k a x : Int) (c : Nat → Int) (st : Int) (ov : Bool) (an : Int) (M : Nat) (w : World) (hm : ML w M a x c d st ov an) (hG : GW w) (a0 : 0 ≤ a) (a1 : a < 4294967296) (x0 : 0 ≤ x) (x1 : x < 4294967296) (k0 : 0 ≤ k) (k1 : k < 4294967296) (j0 : 0 ≤ jt) (j1 : jt < 256) (f0 : 0 ≤ jf) (f1 : jf < 256) (h : cmpV 1 a k = true) :
    Calls Tryd.prog 75 #[.pointer (some ⟨M, 0, none⟩), .agg #[.int .u16 21, .int .u8 jt, .int .u8 jf, .int .u32 k]] w (LJTo jt w) := by
  have HX := Lib.hid (fun W hG hm => second_any jt jf k a x c d st ov an M W 21 (by decide) (by decide) hG hm)
  rw [show withXB 21 = false by decide +kernel] at HX
  simp only [Bool.false_eq_true, if_false] at HX
  have HF := Lib.hid (fun W hm => find_cmp 21 0 (by decide) (by decide) (by decide) a x c d st ov an M W hm)
  simp only [show (cmpR[0]'(by decide)).2.2 = 68 from rfl] at HF
  have HC := Lib.hid (fun W => cl_jeq a k W a0 a1 k0 k1)
  rw [h] at HC
  have HM := Lib.hid (hm.al (.cells #[.int .u16 21, .int .u8 jt, .int .u8 jf, .int .u32 k] 35))
  have HG := Lib.hid (hG.alloc (.cells #[.int .u16 21, .int .u8 jt, .int .u8 jf, .int .u32 k] 35))
  have HS := Lib.hid (j_start (c0 := .int .u16 21) (c1 := .int .u8 jt) (c2 := .int .u8 jf) (c3 := .int .u32 k) (t := 35) hm.lt (hm.cell 0 _ rfl))
  clear hm hG h a0 a1 x0 x1 k0 k1
  go_enter Tryd.func75, Tryd.ntmps75
  go_wp2_with fail
  go_region_held3 (fun w' => w'.cell? ⟨w.heap.size, 0, none⟩ = some (.int .u16 21) ∧ w'.cell? ⟨w.heap.size, 1, none⟩ = some (.int .u8 jt) ∧ w'.cell? ⟨w.heap.size, 2, none⟩ = some (.int .u8 jf) ∧ w'.cell? ⟨w.heap.size, 3, none⟩ = some (.int .u32 k) ∧ w'.cell? ⟨M, 0, none⟩ = some (.int .u32 a)) (first | with_reducible assumption | exact HS.out | exact keep5 b1 HS.out) (first
    | (go_at_call 85; ((with_reducible refine (HF.out _ HM1.out).mono ?_); rintro e w2 ⟨rfl, rfl⟩))
    | (go_at_call 85; ((with_reducible refine (HF.out _ HM.out.dr).mono ?_); rintro e w2 ⟨rfl, rfl⟩))
    | (go_at_call 82; ((with_reducible refine (HX.out _ HG.out.drew HM.out.dr).mono ?_); rintro e w1 ⟨rfl, b1⟩); have HM1 := Lib.hid (HM.out.dr.on b1); obtain ⟨s0, s1, s2, s3, p0⟩ := keep5 b1 HS.out)
    | (go_at_call 68; ((with_reducible refine (HC.out _).mono ?_); rintro e w3 ⟨rfl, rfl⟩)))
  all_goals (go_wp2; go_ret; exact ⟨rfl, ((Below.refl _ _).alloc (Nat.le_refl _) _).drew.trans (b1.mono (by simp))⟩)
set_option maxRecDepth 100000 in
set_option maxHeartbeats 8000000 in
theorem ljeq_n (d : Dat) (jt jf k a x : Int) (c : Nat → Int) (st : Int) (ov : Bool) (an : Int) (M : Nat) (w : World) (hm : ML w M a x c d st ov an) (hG : GW w) (a0 : 0 ≤ a) (a1 : a < 4294967296) (x0 : 0 ≤ x) (x1 : x < 4294967296) (k0 : 0 ≤ k) (k1 : k < 4294967296) (j0 : 0 ≤ jt) (j1 : jt < 256) (f0 : 0 ≤ jf) (f1 : jf < 256) (h : cmpV 1 a k = false) :
    Calls Tryd.prog 75 #[.pointer (some ⟨M, 0, none⟩), .agg #[.int .u16 21, .int .u8 jt, .int .u8 jf, .int .u32 k]] w (LJTo jf w) := by
  have HX := Lib.hid (fun W hG hm => second_any jt jf k a x c d st ov an M W 21 (by decide) (by decide) hG hm)
  rw [show withXB 21 = false by decide +kernel] at HX
  simp only [Bool.false_eq_true, if_false] at HX
  have HF := Lib.hid (fun W hm => find_cmp 21 0 (by decide) (by decide) (by decide) a x c d st ov an M W hm)
  simp only [show (cmpR[0]'(by decide)).2.2 = 68 from rfl] at HF
  have HC := Lib.hid (fun W => cl_jeq a k W a0 a1 k0 k1)
  rw [h] at HC
  have HM := Lib.hid (hm.al (.cells #[.int .u16 21, .int .u8 jt, .int .u8 jf, .int .u32 k] 35))
  have HG := Lib.hid (hG.alloc (.cells #[.int .u16 21, .int .u8 jt, .int .u8 jf, .int .u32 k] 35))
  have HS := Lib.hid (j_start (c0 := .int .u16 21) (c1 := .int .u8 jt) (c2 := .int .u8 jf) (c3 := .int .u32 k) (t := 35) hm.lt (hm.cell 0 _ rfl))
  clear hm hG h a0 a1 x0 x1 k0 k1
  go_enter Tryd.func75, Tryd.ntmps75
  go_wp2_with fail
  go_region_held3 (fun w' => w'.cell? ⟨w.heap.size, 0, none⟩ = some (.int .u16 21) ∧ w'.cell? ⟨w.heap.size, 1, none⟩ = some (.int .u8 jt) ∧ w'.cell? ⟨w.heap.size, 2, none⟩ = some (.int .u8 jf) ∧ w'.cell? ⟨w.heap.size, 3, none⟩ = some (.int .u32 k) ∧ w'.cell? ⟨M, 0, none⟩ = some (.int .u32 a)) (first | with_reducible assumption | exact HS.out | exact keep5 b1 HS.out) (first
    | (go_at_call 85; ((with_reducible refine (HF.out _ HM1.out).mono ?_); rintro e w2 ⟨rfl, rfl⟩))
    | (go_at_call 85; ((with_reducible refine (HF.out _ HM.out.dr).mono ?_); rintro e w2 ⟨rfl, rfl⟩))
    | (go_at_call 82; ((with_reducible refine (HX.out _ HG.out.drew HM.out.dr).mono ?_); rintro e w1 ⟨rfl, b1⟩); have HM1 := Lib.hid (HM.out.dr.on b1); obtain ⟨s0, s1, s2, s3, p0⟩ := keep5 b1 HS.out)
    | (go_at_call 68; ((with_reducible refine (HC.out _).mono ?_); rintro e w3 ⟨rfl, rfl⟩)))
  all_goals (go_wp2; go_ret; exact ⟨rfl, ((Below.refl _ _).alloc (Nat.le_refl _) _).drew.trans (b1.mono (by simp))⟩)
set_option maxRecDepth 100000 in
set_option maxHeartbeats 8000000 in
theorem ljeqx_y (d : Dat) (jt jf k a x : Int) (c : Nat → Int) (st : Int) (ov : Bool) (an : Int) (M : Nat) (w : World) (hm : ML w M a x c d st ov an) (hG : GW w) (a0 : 0 ≤ a) (a1 : a < 4294967296) (x0 : 0 ≤ x) (x1 : x < 4294967296) (k0 : 0 ≤ k) (k1 : k < 4294967296) (j0 : 0 ≤ jt) (j1 : jt < 256) (f0 : 0 ≤ jf) (f1 : jf < 256) (h : cmpV 1 a x = true) :
    Calls Tryd.prog 75 #[.pointer (some ⟨M, 0, none⟩), .agg #[.int .u16 29, .int .u8 jt, .int .u8 jf, .int .u32 k]] w (LJTo jt w) := by
  have HX := Lib.hid (fun W hG hm => second_any jt jf k a x c d st ov an M W 29 (by decide) (by decide) hG hm)
  rw [show withXB 29 = true by decide +kernel] at HX
  simp only [if_true] at HX
  have HF := Lib.hid (fun W hm => find_cmp 29 0 (by decide) (by decide) (by decide) a x c d st ov an M W hm)
  simp only [show (cmpR[0]'(by decide)).2.2 = 68 from rfl] at HF
  have HC := Lib.hid (fun W => cl_jeq a x W a0 a1 x0 x1)
  rw [h] at HC
  have HM := Lib.hid (hm.al (.cells #[.int .u16 29, .int .u8 jt, .int .u8 jf, .int .u32 k] 35))
  have HG := Lib.hid (hG.alloc (.cells #[.int .u16 29, .int .u8 jt, .int .u8 jf, .int .u32 k] 35))
  have HS := Lib.hid (j_start (c0 := .int .u16 29) (c1 := .int .u8 jt) (c2 := .int .u8 jf) (c3 := .int .u32 k) (t := 35) hm.lt (hm.cell 0 _ rfl))
  clear hm hG h a0 a1 x0 x1 k0 k1
  go_enter Tryd.func75, Tryd.ntmps75
  go_wp2_with fail
  go_region_held3 (fun w' => w'.cell? ⟨w.heap.size, 0, none⟩ = some (.int .u16 29) ∧ w'.cell? ⟨w.heap.size, 1, none⟩ = some (.int .u8 jt) ∧ w'.cell? ⟨w.heap.size, 2, none⟩ = some (.int .u8 jf) ∧ w'.cell? ⟨w.heap.size, 3, none⟩ = some (.int .u32 k) ∧ w'.cell? ⟨M, 0, none⟩ = some (.int .u32 a)) (first | with_reducible assumption | exact HS.out | exact keep5 b1 HS.out) (first
    | (go_at_call 85; ((with_reducible refine (HF.out _ HM1.out).mono ?_); rintro e w2 ⟨rfl, rfl⟩))
    | (go_at_call 85; ((with_reducible refine (HF.out _ HM.out.dr).mono ?_); rintro e w2 ⟨rfl, rfl⟩))
    | (go_at_call 82; ((with_reducible refine (HX.out _ HG.out.drew HM.out.dr).mono ?_); rintro e w1 ⟨rfl, b1⟩); have HM1 := Lib.hid (HM.out.dr.on b1); obtain ⟨s0, s1, s2, s3, p0⟩ := keep5 b1 HS.out)
    | (go_at_call 68; ((with_reducible refine (HC.out _).mono ?_); rintro e w3 ⟨rfl, rfl⟩)))
  all_goals (go_wp2; go_ret; exact ⟨rfl, ((Below.refl _ _).alloc (Nat.le_refl _) _).drew.trans (b1.mono (by simp))⟩)
set_option maxRecDepth 100000 in
set_option maxHeartbeats 8000000 in
theorem ljeqx_n (d : Dat) (jt jf k a x : Int) (c : Nat → Int) (st : Int) (ov : Bool) (an : Int) (M : Nat) (w : World) (hm : ML w M a x c d st ov an) (hG : GW w) (a0 : 0 ≤ a) (a1 : a < 4294967296) (x0 : 0 ≤ x) (x1 : x < 4294967296) (k0 : 0 ≤ k) (k1 : k < 4294967296) (j0 : 0 ≤ jt) (j1 : jt < 256) (f0 : 0 ≤ jf) (f1 : jf < 256) (h : cmpV 1 a x = false) :
    Calls Tryd.prog 75 #[.pointer (some ⟨M, 0, none⟩), .agg #[.int .u16 29, .int .u8 jt, .int .u8 jf, .int .u32 k]] w (LJTo jf w) := by
  have HX := Lib.hid (fun W hG hm => second_any jt jf k a x c d st ov an M W 29 (by decide) (by decide) hG hm)
  rw [show withXB 29 = true by decide +kernel] at HX
  simp only [if_true] at HX
  have HF := Lib.hid (fun W hm => find_cmp 29 0 (by decide) (by decide) (by decide) a x c d st ov an M W hm)
  simp only [show (cmpR[0]'(by decide)).2.2 = 68 from rfl] at HF
  have HC := Lib.hid (fun W => cl_jeq a x W a0 a1 x0 x1)
  rw [h] at HC
  have HM := Lib.hid (hm.al (.cells #[.int .u16 29, .int .u8 jt, .int .u8 jf, .int .u32 k] 35))
  have HG := Lib.hid (hG.alloc (.cells #[.int .u16 29, .int .u8 jt, .int .u8 jf, .int .u32 k] 35))
  have HS := Lib.hid (j_start (c0 := .int .u16 29) (c1 := .int .u8 jt) (c2 := .int .u8 jf) (c3 := .int .u32 k) (t := 35) hm.lt (hm.cell 0 _ rfl))
  clear hm hG h a0 a1 x0 x1 k0 k1
  go_enter Tryd.func75, Tryd.ntmps75
  go_wp2_with fail
  go_region_held3 (fun w' => w'.cell? ⟨w.heap.size, 0, none⟩ = some (.int .u16 29) ∧ w'.cell? ⟨w.heap.size, 1, none⟩ = some (.int .u8 jt) ∧ w'.cell? ⟨w.heap.size, 2, none⟩ = some (.int .u8 jf) ∧ w'.cell? ⟨w.heap.size, 3, none⟩ = some (.int .u32 k) ∧ w'.cell? ⟨M, 0, none⟩ = some (.int .u32 a)) (first | with_reducible assumption | exact HS.out | exact keep5 b1 HS.out) (first
    | (go_at_call 85; ((with_reducible refine (HF.out _ HM1.out).mono ?_); rintro e w2 ⟨rfl, rfl⟩))
    | (go_at_call 85; ((with_reducible refine (HF.out _ HM.out.dr).mono ?_); rintro e w2 ⟨rfl, rfl⟩))
    | (go_at_call 82; ((with_reducible refine (HX.out _ HG.out.drew HM.out.dr).mono ?_); rintro e w1 ⟨rfl, b1⟩); have HM1 := Lib.hid (HM.out.dr.on b1); obtain ⟨s0, s1, s2, s3, p0⟩ := keep5 b1 HS.out)
    | (go_at_call 68; ((with_reducible refine (HC.out _).mono ?_); rintro e w3 ⟨rfl, rfl⟩)))
  all_goals (go_wp2; go_ret; exact ⟨rfl, ((Below.refl _ _).alloc (Nat.le_refl _) _).drew.trans (b1.mono (by simp))⟩)
set_option maxRecDepth 100000 in
set_option maxHeartbeats 8000000 in
theorem ljgt_y (d : Dat) (jt jf k a x : Int) (c : Nat → Int) (st : Int) (ov : Bool) (an : Int) (M : Nat) (w : World) (hm : ML w M a x c d st ov an) (hG : GW w) (a0 : 0 ≤ a) (a1 : a < 4294967296) (x0 : 0 ≤ x) (x1 : x < 4294967296) (k0 : 0 ≤ k) (k1 : k < 4294967296) (j0 : 0 ≤ jt) (j1 : jt < 256) (f0 : 0 ≤ jf) (f1 : jf < 256) (h : cmpV 2 a k = true) :
    Calls Tryd.prog 75 #[.pointer (some ⟨M, 0, none⟩), .agg #[.int .u16 37, .int .u8 jt, .int .u8 jf, .int .u32 k]] w (LJTo jt w) := by
  have HX := Lib.hid (fun W hG hm => second_any jt jf k a x c d st ov an M W 37 (by decide) (by decide) hG hm)
  rw [show withXB 37 = false by decide +kernel] at HX
  simp only [Bool.false_eq_true, if_false] at HX
  have HF := Lib.hid (fun W hm => find_cmp 37 1 (by decide) (by decide) (by decide) a x c d st ov an M W hm)
  simp only [show (cmpR[1]'(by decide)).2.2 = 69 from rfl] at HF
  have HC := Lib.hid (fun W => cl_jgt a k W a0 a1 k0 k1)
  rw [h] at HC
  have HM := Lib.hid (hm.al (.cells #[.int .u16 37, .int .u8 jt, .int .u8 jf, .int .u32 k] 35))
  have HG := Lib.hid (hG.alloc (.cells #[.int .u16 37, .int .u8 jt, .int .u8 jf, .int .u32 k] 35))
  have HS := Lib.hid (j_start (c0 := .int .u16 37) (c1 := .int .u8 jt) (c2 := .int .u8 jf) (c3 := .int .u32 k) (t := 35) hm.lt (hm.cell 0 _ rfl))
  clear hm hG h a0 a1 x0 x1 k0 k1
  go_enter Tryd.func75, Tryd.ntmps75
  go_wp2_with fail
  go_region_held3 (fun w' => w'.cell? ⟨w.heap.size, 0, none⟩ = some (.int .u16 37) ∧ w'.cell? ⟨w.heap.size, 1, none⟩ = some (.int .u8 jt) ∧ w'.cell? ⟨w.heap.size, 2, none⟩ = some (.int .u8 jf) ∧ w'.cell? ⟨w.heap.size, 3, none⟩ = some (.int .u32 k) ∧ w'.cell? ⟨M, 0, none⟩ = some (.int .u32 a)) (first | with_reducible assumption | exact HS.out | exact keep5 b1 HS.out) (first
    | (go_at_call 85; ((with_reducible refine (HF.out _ HM1.out).mono ?_); rintro e w2 ⟨rfl, rfl⟩))
    | (go_at_call 85; ((with_reducible refine (HF.out _ HM.out.dr).mono ?_); rintro e w2 ⟨rfl, rfl⟩))
    | (go_at_call 82; ((with_reducible refine (HX.out _ HG.out.drew HM.out.dr).mono ?_); rintro e w1 ⟨rfl, b1⟩); have HM1 := Lib.hid (HM.out.dr.on b1); obtain ⟨s0, s1, s2, s3, p0⟩ := keep5 b1 HS.out)
    | (go_at_call 69; ((with_reducible refine (HC.out _).mono ?_); rintro e w3 ⟨rfl, rfl⟩)))
  all_goals (go_wp2; go_ret; exact ⟨rfl, ((Below.refl _ _).alloc (Nat.le_refl _) _).drew.trans (b1.mono (by simp))⟩)
set_option maxRecDepth 100000 in
set_option maxHeartbeats 8000000 in
theorem ljgt_n (d : Dat) (jt jf k a x : Int) (c : Nat → Int) (st : Int) (ov : Bool) (an : Int) (M : Nat) (w : World) (hm : ML w M a x c d st ov an) (hG : GW w) (a0 : 0 ≤ a) (a1 : a < 4294967296) (x0 : 0 ≤ x) (x1 : x < 4294967296) (k0 : 0 ≤ k) (k1 : k < 4294967296) (j0 : 0 ≤ jt) (j1 : jt < 256) (f0 : 0 ≤ jf) (f1 : jf < 256) (h : cmpV 2 a k = false) :
    Calls Tryd.prog 75 #[.pointer (some ⟨M, 0, none⟩), .agg #[.int .u16 37, .int .u8 jt, .int .u8 jf, .int .u32 k]] w (LJTo jf w) := by
  have HX := Lib.hid (fun W hG hm => second_any jt jf k a x c d st ov an M W 37 (by decide) (by decide) hG hm)
  rw [show withXB 37 = false by decide +kernel] at HX
  simp only [Bool.false_eq_true, if_false] at HX
  have HF := Lib.hid (fun W hm => find_cmp 37 1 (by decide) (by decide) (by decide) a x c d st ov an M W hm)
  simp only [show (cmpR[1]'(by decide)).2.2 = 69 from rfl] at HF
  have HC := Lib.hid (fun W => cl_jgt a k W a0 a1 k0 k1)
  rw [h] at HC
  have HM := Lib.hid (hm.al (.cells #[.int .u16 37, .int .u8 jt, .int .u8 jf, .int .u32 k] 35))
  have HG := Lib.hid (hG.alloc (.cells #[.int .u16 37, .int .u8 jt, .int .u8 jf, .int .u32 k] 35))
  have HS := Lib.hid (j_start (c0 := .int .u16 37) (c1 := .int .u8 jt) (c2 := .int .u8 jf) (c3 := .int .u32 k) (t := 35) hm.lt (hm.cell 0 _ rfl))
  clear hm hG h a0 a1 x0 x1 k0 k1
  go_enter Tryd.func75, Tryd.ntmps75
  go_wp2_with fail
  go_region_held3 (fun w' => w'.cell? ⟨w.heap.size, 0, none⟩ = some (.int .u16 37) ∧ w'.cell? ⟨w.heap.size, 1, none⟩ = some (.int .u8 jt) ∧ w'.cell? ⟨w.heap.size, 2, none⟩ = some (.int .u8 jf) ∧ w'.cell? ⟨w.heap.size, 3, none⟩ = some (.int .u32 k) ∧ w'.cell? ⟨M, 0, none⟩ = some (.int .u32 a)) (first | with_reducible assumption | exact HS.out | exact keep5 b1 HS.out) (first
    | (go_at_call 85; ((with_reducible refine (HF.out _ HM1.out).mono ?_); rintro e w2 ⟨rfl, rfl⟩))
    | (go_at_call 85; ((with_reducible refine (HF.out _ HM.out.dr).mono ?_); rintro e w2 ⟨rfl, rfl⟩))
    | (go_at_call 82; ((with_reducible refine (HX.out _ HG.out.drew HM.out.dr).mono ?_); rintro e w1 ⟨rfl, b1⟩); have HM1 := Lib.hid (HM.out.dr.on b1); obtain ⟨s0, s1, s2, s3, p0⟩ := keep5 b1 HS.out)
    | (go_at_call 69; ((with_reducible refine (HC.out _).mono ?_); rintro e w3 ⟨rfl, rfl⟩)))
  all_goals (go_wp2; go_ret; exact ⟨rfl, ((Below.refl _ _).alloc (Nat.le_refl _) _).drew.trans (b1.mono (by simp))⟩)
set_option maxRecDepth 100000 in
set_option maxHeartbeats 8000000 in
theorem ljgtx_y (d : Dat) (jt jf k a x : Int) (c : Nat → Int) (st : Int) (ov : Bool) (an : Int) (M : Nat) (w : World) (hm : ML w M a x c d st ov an) (hG : GW w) (a0 : 0 ≤ a) (a1 : a < 4294967296) (x0 : 0 ≤ x) (x1 : x < 4294967296) (k0 : 0 ≤ k) (k1 : k < 4294967296) (j0 : 0 ≤ jt) (j1 : jt < 256) (f0 : 0 ≤ jf) (f1 : jf < 256) (h : cmpV 2 a x = true) :
    Calls Tryd.prog 75 #[.pointer (some ⟨M, 0, none⟩), .agg #[.int .u16 45, .int .u8 jt, .int .u8 jf, .int .u32 k]] w (LJTo jt w) := by
  have HX := Lib.hid (fun W hG hm => second_any jt jf k a x c d st ov an M W 45 (by decide) (by decide) hG hm)
  rw [show withXB 45 = true by decide +kernel] at HX
  simp only [if_true] at HX
  have HF := Lib.hid (fun W hm => find_cmp 45 1 (by decide) (by decide) (by decide) a x c d st ov an M W hm)
  simp only [show (cmpR[1]'(by decide)).2.2 = 69 from rfl] at HF
  have HC := Lib.hid (fun W => cl_jgt a x W a0 a1 x0 x1)
  rw [h] at HC
  have HM := Lib.hid (hm.al (.cells #[.int .u16 45, .int .u8 jt, .int .u8 jf, .int .u32 k] 35))
  have HG := Lib.hid (hG.alloc (.cells #[.int .u16 45, .int .u8 jt, .int .u8 jf, .int .u32 k] 35))
  have HS := Lib.hid (j_start (c0 := .int .u16 45) (c1 := .int .u8 jt) (c2 := .int .u8 jf) (c3 := .int .u32 k) (t := 35) hm.lt (hm.cell 0 _ rfl))
  clear hm hG h a0 a1 x0 x1 k0 k1
  go_enter Tryd.func75, Tryd.ntmps75
  go_wp2_with fail
  go_region_held3 (fun w' => w'.cell? ⟨w.heap.size, 0, none⟩ = some (.int .u16 45) ∧ w'.cell? ⟨w.heap.size, 1, none⟩ = some (.int .u8 jt) ∧ w'.cell? ⟨w.heap.size, 2, none⟩ = some (.int .u8 jf) ∧ w'.cell? ⟨w.heap.size, 3, none⟩ = some (.int .u32 k) ∧ w'.cell? ⟨M, 0, none⟩ = some (.int .u32 a)) (first | with_reducible assumption | exact HS.out | exact keep5 b1 HS.out) (first
    | (go_at_call 85; ((with_reducible refine (HF.out _ HM1.out).mono ?_); rintro e w2 ⟨rfl, rfl⟩))
    | (go_at_call 85; ((with_reducible refine (HF.out _ HM.out.dr).mono ?_); rintro e w2 ⟨rfl, rfl⟩))
    | (go_at_call 82; ((with_reducible refine (HX.out _ HG.out.drew HM.out.dr).mono ?_); rintro e w1 ⟨rfl, b1⟩); have HM1 := Lib.hid (HM.out.dr.on b1); obtain ⟨s0, s1, s2, s3, p0⟩ := keep5 b1 HS.out)
    | (go_at_call 69; ((with_reducible refine (HC.out _).mono ?_); rintro e w3 ⟨rfl, rfl⟩)))
  all_goals (go_wp2; go_ret; exact ⟨rfl, ((Below.refl _ _).alloc (Nat.le_refl _) _).drew.trans (b1.mono (by simp))⟩)
set_option maxRecDepth 100000 in
set_option maxHeartbeats 8000000 in
theorem ljgtx_n (d : Dat) (jt jf k a x : Int) (c : Nat → Int) (st : Int) (ov : Bool) (an : Int) (M : Nat) (w : World) (hm : ML w M a x c d st ov an) (hG : GW w) (a0 : 0 ≤ a) (a1 : a < 4294967296) (x0 : 0 ≤ x) (x1 : x < 4294967296) (k0 : 0 ≤ k) (k1 : k < 4294967296) (j0 : 0 ≤ jt) (j1 : jt < 256) (f0 : 0 ≤ jf) (f1 : jf < 256) (h : cmpV 2 a x = false) :
    Calls Tryd.prog 75 #[.pointer (some ⟨M, 0, none⟩), .agg #[.int .u16 45, .int .u8 jt, .int .u8 jf, .int .u32 k]] w (LJTo jf w) := by
  have HX := Lib.hid (fun W hG hm => second_any jt jf k a x c d st ov an M W 45 (by decide) (by decide) hG hm)
  rw [show withXB 45 = true by decide +kernel] at HX
  simp only [if_true] at HX
  have HF := Lib.hid (fun W hm => find_cmp 45 1 (by decide) (by decide) (by decide) a x c d st ov an M W hm)
  simp only [show (cmpR[1]'(by decide)).2.2 = 69 from rfl] at HF
  have HC := Lib.hid (fun W => cl_jgt a x W a0 a1 x0 x1)
  rw [h] at HC
  have HM := Lib.hid (hm.al (.cells #[.int .u16 45, .int .u8 jt, .int .u8 jf, .int .u32 k] 35))
  have HG := Lib.hid (hG.alloc (.cells #[.int .u16 45, .int .u8 jt, .int .u8 jf, .int .u32 k] 35))
  have HS := Lib.hid (j_start (c0 := .int .u16 45) (c1 := .int .u8 jt) (c2 := .int .u8 jf) (c3 := .int .u32 k) (t := 35) hm.lt (hm.cell 0 _ rfl))
  clear hm hG h a0 a1 x0 x1 k0 k1
  go_enter Tryd.func75, Tryd.ntmps75
  go_wp2_with fail
  go_region_held3 (fun w' => w'.cell? ⟨w.heap.size, 0, none⟩ = some (.int .u16 45) ∧ w'.cell? ⟨w.heap.size, 1, none⟩ = some (.int .u8 jt) ∧ w'.cell? ⟨w.heap.size, 2, none⟩ = some (.int .u8 jf) ∧ w'.cell? ⟨w.heap.size, 3, none⟩ = some (.int .u32 k) ∧ w'.cell? ⟨M, 0, none⟩ = some (.int .u32 a)) (first | with_reducible assumption | exact HS.out | exact keep5 b1 HS.out) (first
    | (go_at_call 85; ((with_reducible refine (HF.out _ HM1.out).mono ?_); rintro e w2 ⟨rfl, rfl⟩))
    | (go_at_call 85; ((with_reducible refine (HF.out _ HM.out.dr).mono ?_); rintro e w2 ⟨rfl, rfl⟩))
    | (go_at_call 82; ((with_reducible refine (HX.out _ HG.out.drew HM.out.dr).mono ?_); rintro e w1 ⟨rfl, b1⟩); have HM1 := Lib.hid (HM.out.dr.on b1); obtain ⟨s0, s1, s2, s3, p0⟩ := keep5 b1 HS.out)
    | (go_at_call 69; ((with_reducible refine (HC.out _).mono ?_); rintro e w3 ⟨rfl, rfl⟩)))
  all_goals (go_wp2; go_ret; exact ⟨rfl, ((Below.refl _ _).alloc (Nat.le_refl _) _).drew.trans (b1.mono (by simp))⟩)
set_option maxRecDepth 100000 in
set_option maxHeartbeats 8000000 in
theorem ljge_y (d : Dat) (jt jf k a x : Int) (c : Nat → Int) (st : Int) (ov : Bool) (an : Int) (M : Nat) (w : World) (hm : ML w M a x c d st ov an) (hG : GW w) (a0 : 0 ≤ a) (a1 : a < 4294967296) (x0 : 0 ≤ x) (x1 : x < 4294967296) (k0 : 0 ≤ k) (k1 : k < 4294967296) (j0 : 0 ≤ jt) (j1 : jt < 256) (f0 : 0 ≤ jf) (f1 : jf < 256) (h : cmpV 3 a k = true) :
    Calls Tryd.prog 75 #[.pointer (some ⟨M, 0, none⟩), .agg #[.int .u16 53, .int .u8 jt, .int .u8 jf, .int .u32 k]] w (LJTo jt w) := by
  have HX := Lib.hid (fun W hG hm => second_any jt jf k a x c d st ov an M W 53 (by decide) (by decide) hG hm)
  rw [show withXB 53 = false by decide +kernel] at HX
  simp only [Bool.false_eq_true, if_false] at HX
  have HF := Lib.hid (fun W hm => find_cmp 53 2 (by decide) (by decide) (by decide) a x c d st ov an M W hm)
  simp only [show (cmpR[2]'(by decide)).2.2 = 70 from rfl] at HF
  have HC := Lib.hid (fun W => cl_jge a k W a0 a1 k0 k1)
  rw [h] at HC
  have HM := Lib.hid (hm.al (.cells #[.int .u16 53, .int .u8 jt, .int .u8 jf, .int .u32 k] 35))
  have HG := Lib.hid (hG.alloc (.cells #[.int .u16 53, .int .u8 jt, .int .u8 jf, .int .u32 k] 35))
  have HS := Lib.hid (j_start (c0 := .int .u16 53) (c1 := .int .u8 jt) (c2 := .int .u8 jf) (c3 := .int .u32 k) (t := 35) hm.lt (hm.cell 0 _ rfl))
  clear hm hG h a0 a1 x0 x1 k0 k1
  go_enter Tryd.func75, Tryd.ntmps75
  go_wp2_with fail
  go_region_held3 (fun w' => w'.cell? ⟨w.heap.size, 0, none⟩ = some (.int .u16 53) ∧ w'.cell? ⟨w.heap.size, 1, none⟩ = some (.int .u8 jt) ∧ w'.cell? ⟨w.heap.size, 2, none⟩ = some (.int .u8 jf) ∧ w'.cell? ⟨w.heap.size, 3, none⟩ = some (.int .u32 k) ∧ w'.cell? ⟨M, 0, none⟩ = some (.int .u32 a)) (first | with_reducible assumption | exact HS.out | exact keep5 b1 HS.out) (first
    | (go_at_call 85; ((with_reducible refine (HF.out _ HM1.out).mono ?_); rintro e w2 ⟨rfl, rfl⟩))
    | (go_at_call 85; ((with_reducible refine (HF.out _ HM.out.dr).mono ?_); rintro e w2 ⟨rfl, rfl⟩))
    | (go_at_call 82; ((with_reducible refine (HX.out _ HG.out.drew HM.out.dr).mono ?_); rintro e w1 ⟨rfl, b1⟩); have HM1 := Lib.hid (HM.out.dr.on b1); obtain ⟨s0, s1, s2, s3, p0⟩ := keep5 b1 HS.out)
    | (go_at_call 70; ((with_reducible refine (HC.out _).mono ?_); rintro e w3 ⟨rfl, rfl⟩)))
  all_goals (go_wp2; go_ret; exact ⟨rfl, ((Below.refl _ _).alloc (Nat.le_refl _) _).drew.trans (b1.mono (by simp))⟩)
set_option maxRecDepth 100000 in
set_option maxHeartbeats 8000000 in
theorem ljge_n (d : Dat) (jt jf k a x : Int) (c : Nat → Int) (st : Int) (ov : Bool) (an : Int) (M : Nat) (w : World) (hm : ML w M a x c d st ov an) (hG : GW w) (a0 : 0 ≤ a) (a1 : a < 4294967296) (x0 : 0 ≤ x) (x1 : x < 4294967296) (k0 : 0 ≤ k) (k1 : k < 4294967296) (j0 : 0 ≤ jt) (j1 : jt < 256) (f0 : 0 ≤ jf) (f1 : jf < 256) (h : cmpV 3 a k = false) :
    Calls Tryd.prog 75 #[.pointer (some ⟨M, 0, none⟩), .agg #[.int .u16 53, .int .u8 jt, .int .u8 jf, .int .u32 k]] w (LJTo jf w) := by
  have HX := Lib.hid (fun W hG hm => second_any jt jf k a x c d st ov an M W 53 (by decide) (by decide) hG hm)
  rw [show withXB 53 = false by decide +kernel] at HX
  simp only [Bool.false_eq_true, if_false] at HX
  have HF := Lib.hid (fun W hm => find_cmp 53 2 (by decide) (by decide) (by decide) a x c d st ov an M W hm)
  simp only [show (cmpR[2]'(by decide)).2.2 = 70 from rfl] at HF
  have HC := Lib.hid (fun W => cl_jge a k W a0 a1 k0 k1)
  rw [h] at HC
  have HM := Lib.hid (hm.al (.cells #[.int .u16 53, .int .u8 jt, .int .u8 jf, .int .u32 k] 35))
  have HG := Lib.hid (hG.alloc (.cells #[.int .u16 53, .int .u8 jt, .int .u8 jf, .int .u32 k] 35))
  have HS := Lib.hid (j_start (c0 := .int .u16 53) (c1 := .int .u8 jt) (c2 := .int .u8 jf) (c3 := .int .u32 k) (t := 35) hm.lt (hm.cell 0 _ rfl))
  clear hm hG h a0 a1 x0 x1 k0 k1
  go_enter Tryd.func75, Tryd.ntmps75
  go_wp2_with fail
  go_region_held3 (fun w' => w'.cell? ⟨w.heap.size, 0, none⟩ = some (.int .u16 53) ∧ w'.cell? ⟨w.heap.size, 1, none⟩ = some (.int .u8 jt) ∧ w'.cell? ⟨w.heap.size, 2, none⟩ = some (.int .u8 jf) ∧ w'.cell? ⟨w.heap.size, 3, none⟩ = some (.int .u32 k) ∧ w'.cell? ⟨M, 0, none⟩ = some (.int .u32 a)) (first | with_reducible assumption | exact HS.out | exact keep5 b1 HS.out) (first
    | (go_at_call 85; ((with_reducible refine (HF.out _ HM1.out).mono ?_); rintro e w2 ⟨rfl, rfl⟩))
    | (go_at_call 85; ((with_reducible refine (HF.out _ HM.out.dr).mono ?_); rintro e w2 ⟨rfl, rfl⟩))
    | (go_at_call 82; ((with_reducible refine (HX.out _ HG.out.drew HM.out.dr).mono ?_); rintro e w1 ⟨rfl, b1⟩); have HM1 := Lib.hid (HM.out.dr.on b1); obtain ⟨s0, s1, s2, s3, p0⟩ := keep5 b1 HS.out)
    | (go_at_call 70; ((with_reducible refine (HC.out _).mono ?_); rintro e w3 ⟨rfl, rfl⟩)))
  all_goals (go_wp2; go_ret; exact ⟨rfl, ((Below.refl _ _).alloc (Nat.le_refl _) _).drew.trans (b1.mono (by simp))⟩)
set_option maxRecDepth 100000 in
set_option maxHeartbeats 8000000 in
theorem ljgex_y (d : Dat) (jt jf k a x : Int) (c : Nat → Int) (st : Int) (ov : Bool) (an : Int) (M : Nat) (w : World) (hm : ML w M a x c d st ov an) (hG : GW w) (a0 : 0 ≤ a) (a1 : a < 4294967296) (x0 : 0 ≤ x) (x1 : x < 4294967296) (k0 : 0 ≤ k) (k1 : k < 4294967296) (j0 : 0 ≤ jt) (j1 : jt < 256) (f0 : 0 ≤ jf) (f1 : jf < 256) (h : cmpV 3 a x = true) :
    Calls Tryd.prog 75 #[.pointer (some ⟨M, 0, none⟩), .agg #[.int .u16 61, .int .u8 jt, .int .u8 jf, .int .u32 k]] w (LJTo jt w) := by
  have HX := Lib.hid (fun W hG hm => second_any jt jf k a x c d st ov an M W 61 (by decide) (by decide) hG hm)
  rw [show withXB 61 = true by decide +kernel] at HX
  simp only [if_true] at HX
  have HF := Lib.hid (fun W hm => find_cmp 61 2 (by decide) (by decide) (by decide) a x c d st ov an M W hm)
  simp only [show (cmpR[2]'(by decide)).2.2 = 70 from rfl] at HF
  have HC := Lib.hid (fun W => cl_jge a x W a0 a1 x0 x1)
  rw [h] at HC
  have HM := Lib.hid (hm.al (.cells #[.int .u16 61, .int .u8 jt, .int .u8 jf, .int .u32 k] 35))
  have HG := Lib.hid (hG.alloc (.cells #[.int .u16 61, .int .u8 jt, .int .u8 jf, .int .u32 k] 35))
  have HS := Lib.hid (j_start (c0 := .int .u16 61) (c1 := .int .u8 jt) (c2 := .int .u8 jf) (c3 := .int .u32 k) (t := 35) hm.lt (hm.cell 0 _ rfl))
  clear hm hG h a0 a1 x0 x1 k0 k1
  go_enter Tryd.func75, Tryd.ntmps75
  go_wp2_with fail
  go_region_held3 (fun w' => w'.cell? ⟨w.heap.size, 0, none⟩ = some (.int .u16 61) ∧ w'.cell? ⟨w.heap.size, 1, none⟩ = some (.int .u8 jt) ∧ w'.cell? ⟨w.heap.size, 2, none⟩ = some (.int .u8 jf) ∧ w'.cell? ⟨w.heap.size, 3, none⟩ = some (.int .u32 k) ∧ w'.cell? ⟨M, 0, none⟩ = some (.int .u32 a)) (first | with_reducible assumption | exact HS.out | exact keep5 b1 HS.out) (first
    | (go_at_call 85; ((with_reducible refine (HF.out _ HM1.out).mono ?_); rintro e w2 ⟨rfl, rfl⟩))
    | (go_at_call 85; ((with_reducible refine (HF.out _ HM.out.dr).mono ?_); rintro e w2 ⟨rfl, rfl⟩))
    | (go_at_call 82; ((with_reducible refine (HX.out _ HG.out.drew HM.out.dr).mono ?_); rintro e w1 ⟨rfl, b1⟩); have HM1 := Lib.hid (HM.out.dr.on b1); obtain ⟨s0, s1, s2, s3, p0⟩ := keep5 b1 HS.out)
    | (go_at_call 70; ((with_reducible refine (HC.out _).mono ?_); rintro e w3 ⟨rfl, rfl⟩)))
  all_goals (go_wp2; go_ret; exact ⟨rfl, ((Below.refl _ _).alloc (Nat.le_refl _) _).drew.trans (b1.mono (by simp))⟩)
set_option maxRecDepth 100000 in
set_option maxHeartbeats 8000000 in
theorem ljgex_n (d : Dat) (jt jf k a x : Int) (c : Nat → Int) (st : Int) (ov : Bool) (an : Int) (M : Nat) (w : World) (hm : ML w M a x c d st ov an) (hG : GW w) (a0 : 0 ≤ a) (a1 : a < 4294967296) (x0 : 0 ≤ x) (x1 : x < 4294967296) (k0 : 0 ≤ k) (k1 : k < 4294967296) (j0 : 0 ≤ jt) (j1 : jt < 256) (f0 : 0 ≤ jf) (f1 : jf < 256) (h : cmpV 3 a x = false) :
    Calls Tryd.prog 75 #[.pointer (some ⟨M, 0, none⟩), .agg #[.int .u16 61, .int .u8 jt, .int .u8 jf, .int .u32 k]] w (LJTo jf w) := by
  have HX := Lib.hid (fun W hG hm => second_any jt jf k a x c d st ov an M W 61 (by decide) (by decide) hG hm)
  rw [show withXB 61 = true by decide +kernel] at HX
  simp only [if_true] at HX
  have HF := Lib.hid (fun W hm => find_cmp 61 2 (by decide) (by decide) (by decide) a x c d st ov an M W hm)
  simp only [show (cmpR[2]'(by decide)).2.2 = 70 from rfl] at HF
  have HC := Lib.hid (fun W => cl_jge a x W a0 a1 x0 x1)
  rw [h] at HC
  have HM := Lib.hid (hm.al (.cells #[.int .u16 61, .int .u8 jt, .int .u8 jf, .int .u32 k] 35))
  have HG := Lib.hid (hG.alloc (.cells #[.int .u16 61, .int .u8 jt, .int .u8 jf, .int .u32 k] 35))
  have HS := Lib.hid (j_start (c0 := .int .u16 61) (c1 := .int .u8 jt) (c2 := .int .u8 jf) (c3 := .int .u32 k) (t := 35) hm.lt (hm.cell 0 _ rfl))
  clear hm hG h a0 a1 x0 x1 k0 k1
  go_enter Tryd.func75, Tryd.ntmps75
  go_wp2_with fail
  go_region_held3 (fun w' => w'.cell? ⟨w.heap.size, 0, none⟩ = some (.int .u16 61) ∧ w'.cell? ⟨w.heap.size, 1, none⟩ = some (.int .u8 jt) ∧ w'.cell? ⟨w.heap.size, 2, none⟩ = some (.int .u8 jf) ∧ w'.cell? ⟨w.heap.size, 3, none⟩ = some (.int .u32 k) ∧ w'.cell? ⟨M, 0, none⟩ = some (.int .u32 a)) (first | with_reducible assumption | exact HS.out | exact keep5 b1 HS.out) (first
    | (go_at_call 85; ((with_reducible refine (HF.out _ HM1.out).mono ?_); rintro e w2 ⟨rfl, rfl⟩))
    | (go_at_call 85; ((with_reducible refine (HF.out _ HM.out.dr).mono ?_); rintro e w2 ⟨rfl, rfl⟩))
    | (go_at_call 82; ((with_reducible refine (HX.out _ HG.out.drew HM.out.dr).mono ?_); rintro e w1 ⟨rfl, b1⟩); have HM1 := Lib.hid (HM.out.dr.on b1); obtain ⟨s0, s1, s2, s3, p0⟩ := keep5 b1 HS.out)
    | (go_at_call 70; ((with_reducible refine (HC.out _).mono ?_); rintro e w3 ⟨rfl, rfl⟩)))
  all_goals (go_wp2; go_ret; exact ⟨rfl, ((Below.refl _ _).alloc (Nat.le_refl _) _).drew.trans (b1.mono (by simp))⟩)
set_option maxRecDepth 100000 in
set_option maxHeartbeats 8000000 in
theorem ljset_y (d : Dat) (jt jf k a x : Int) (c : Nat → Int) (st : Int) (ov : Bool) (an : Int) (M : Nat) (w : World) (hm : ML w M a x c d st ov an) (hG : GW w) (a0 : 0 ≤ a) (a1 : a < 4294967296) (x0 : 0 ≤ x) (x1 : x < 4294967296) (k0 : 0 ≤ k) (k1 : k < 4294967296) (j0 : 0 ≤ jt) (j1 : jt < 256) (f0 : 0 ≤ jf) (f1 : jf < 256) (h : cmpV 4 a k = true) :
    Calls Tryd.prog 75 #[.pointer (some ⟨M, 0, none⟩), .agg #[.int .u16 69, .int .u8 jt, .int .u8 jf, .int .u32 k]] w (LJTo jt w) := by
  have HX := Lib.hid (fun W hG hm => second_any jt jf k a x c d st ov an M W 69 (by decide) (by decide) hG hm)
  rw [show withXB 69 = false by decide +kernel] at HX
  simp only [Bool.false_eq_true, if_false] at HX
  have HF := Lib.hid (fun W hm => find_cmp 69 3 (by decide) (by decide) (by decide) a x c d st ov an M W hm)
  simp only [show (cmpR[3]'(by decide)).2.2 = 71 from rfl] at HF
  have HC := Lib.hid (fun W => cl_jset a k W a0 a1 k0 k1)
  rw [h] at HC
  have HM := Lib.hid (hm.al (.cells #[.int .u16 69, .int .u8 jt, .int .u8 jf, .int .u32 k] 35))
  have HG := Lib.hid (hG.alloc (.cells #[.int .u16 69, .int .u8 jt, .int .u8 jf, .int .u32 k] 35))
  have HS := Lib.hid (j_start (c0 := .int .u16 69) (c1 := .int .u8 jt) (c2 := .int .u8 jf) (c3 := .int .u32 k) (t := 35) hm.lt (hm.cell 0 _ rfl))
  clear hm hG h a0 a1 x0 x1 k0 k1
  go_enter Tryd.func75, Tryd.ntmps75
  go_wp2_with fail
  go_region_held3 (fun w' => w'.cell? ⟨w.heap.size, 0, none⟩ = some (.int .u16 69) ∧ w'.cell? ⟨w.heap.size, 1, none⟩ = some (.int .u8 jt) ∧ w'.cell? ⟨w.heap.size, 2, none⟩ = some (.int .u8 jf) ∧ w'.cell? ⟨w.heap.size, 3, none⟩ = some (.int .u32 k) ∧ w'.cell? ⟨M, 0, none⟩ = some (.int .u32 a)) (first | with_reducible assumption | exact HS.out | exact keep5 b1 HS.out) (first
    | (go_at_call 85; ((with_reducible refine (HF.out _ HM1.out).mono ?_); rintro e w2 ⟨rfl, rfl⟩))
    | (go_at_call 85; ((with_reducible refine (HF.out _ HM.out.dr).mono ?_); rintro e w2 ⟨rfl, rfl⟩))
    | (go_at_call 82; ((with_reducible refine (HX.out _ HG.out.drew HM.out.dr).mono ?_); rintro e w1 ⟨rfl, b1⟩); have HM1 := Lib.hid (HM.out.dr.on b1); obtain ⟨s0, s1, s2, s3, p0⟩ := keep5 b1 HS.out)
    | (go_at_call 71; ((with_reducible refine (HC.out _).mono ?_); rintro e w3 ⟨rfl, rfl⟩)))
  all_goals (go_wp2; go_ret; exact ⟨rfl, ((Below.refl _ _).alloc (Nat.le_refl _) _).drew.trans (b1.mono (by simp))⟩)
set_option maxRecDepth 100000 in
set_option maxHeartbeats 8000000 in
theorem ljset_n (d : Dat) (jt jf k a x : Int) (c : Nat → Int) (st : Int) (ov : Bool) (an : Int) (M : Nat) (w : World) (hm : ML w M a x c d st ov an) (hG : GW w) (a0 : 0 ≤ a) (a1 : a < 4294967296) (x0 : 0 ≤ x) (x1 : x < 4294967296) (k0 : 0 ≤ k) (k1 : k < 4294967296) (j0 : 0 ≤ jt) (j1 : jt < 256) (f0 : 0 ≤ jf) (f1 : jf < 256) (h : cmpV 4 a k = false) :
    Calls Tryd.prog 75 #[.pointer (some ⟨M, 0, none⟩), .agg #[.int .u16 69, .int .u8 jt, .int .u8 jf, .int .u32 k]] w (LJTo jf w) := by
  have HX := Lib.hid (fun W hG hm => second_any jt jf k a x c d st ov an M W 69 (by decide) (by decide) hG hm)
  rw [show withXB 69 = false by decide +kernel] at HX
  simp only [Bool.false_eq_true, if_false] at HX
  have HF := Lib.hid (fun W hm => find_cmp 69 3 (by decide) (by decide) (by decide) a x c d st ov an M W hm)
  simp only [show (cmpR[3]'(by decide)).2.2 = 71 from rfl] at HF
  have HC := Lib.hid (fun W => cl_jset a k W a0 a1 k0 k1)
  rw [h] at HC
  have HM := Lib.hid (hm.al (.cells #[.int .u16 69, .int .u8 jt, .int .u8 jf, .int .u32 k] 35))
  have HG := Lib.hid (hG.alloc (.cells #[.int .u16 69, .int .u8 jt, .int .u8 jf, .int .u32 k] 35))
  have HS := Lib.hid (j_start (c0 := .int .u16 69) (c1 := .int .u8 jt) (c2 := .int .u8 jf) (c3 := .int .u32 k) (t := 35) hm.lt (hm.cell 0 _ rfl))
  clear hm hG h a0 a1 x0 x1 k0 k1
  go_enter Tryd.func75, Tryd.ntmps75
  go_wp2_with fail
  go_region_held3 (fun w' => w'.cell? ⟨w.heap.size, 0, none⟩ = some (.int .u16 69) ∧ w'.cell? ⟨w.heap.size, 1, none⟩ = some (.int .u8 jt) ∧ w'.cell? ⟨w.heap.size, 2, none⟩ = some (.int .u8 jf) ∧ w'.cell? ⟨w.heap.size, 3, none⟩ = some (.int .u32 k) ∧ w'.cell? ⟨M, 0, none⟩ = some (.int .u32 a)) (first | with_reducible assumption | exact HS.out | exact keep5 b1 HS.out) (first
    | (go_at_call 85; ((with_reducible refine (HF.out _ HM1.out).mono ?_); rintro e w2 ⟨rfl, rfl⟩))
    | (go_at_call 85; ((with_reducible refine (HF.out _ HM.out.dr).mono ?_); rintro e w2 ⟨rfl, rfl⟩))
    | (go_at_call 82; ((with_reducible refine (HX.out _ HG.out.drew HM.out.dr).mono ?_); rintro e w1 ⟨rfl, b1⟩); have HM1 := Lib.hid (HM.out.dr.on b1); obtain ⟨s0, s1, s2, s3, p0⟩ := keep5 b1 HS.out)
    | (go_at_call 71; ((with_reducible refine (HC.out _).mono ?_); rintro e w3 ⟨rfl, rfl⟩)))
  all_goals (go_wp2; go_ret; exact ⟨rfl, ((Below.refl _ _).alloc (Nat.le_refl _) _).drew.trans (b1.mono (by simp))⟩)
set_option maxRecDepth 100000 in
set_option maxHeartbeats 8000000 in
theorem ljsetx_y (d : Dat) (jt jf k a x : Int) (c : Nat → Int) (st : Int) (ov : Bool) (an : Int) (M : Nat) (w : World) (hm : ML w M a x c d st ov an) (hG : GW w) (a0 : 0 ≤ a) (a1 : a < 4294967296) (x0 : 0 ≤ x) (x1 : x < 4294967296) (k0 : 0 ≤ k) (k1 : k < 4294967296) (j0 : 0 ≤ jt) (j1 : jt < 256) (f0 : 0 ≤ jf) (f1 : jf < 256) (h : cmpV 4 a x = true) :
    Calls Tryd.prog 75 #[.pointer (some ⟨M, 0, none⟩), .agg #[.int .u16 77, .int .u8 jt, .int .u8 jf, .int .u32 k]] w (LJTo jt w) := by
  have HX := Lib.hid (fun W hG hm => second_any jt jf k a x c d st ov an M W 77 (by decide) (by decide) hG hm)
  rw [show withXB 77 = true by decide +kernel] at HX
  simp only [if_true] at HX
  have HF := Lib.hid (fun W hm => find_cmp 77 3 (by decide) (by decide) (by decide) a x c d st ov an M W hm)
  simp only [show (cmpR[3]'(by decide)).2.2 = 71 from rfl] at HF
  have HC := Lib.hid (fun W => cl_jset a x W a0 a1 x0 x1)
  rw [h] at HC
  have HM := Lib.hid (hm.al (.cells #[.int .u16 77, .int .u8 jt, .int .u8 jf, .int .u32 k] 35))
  have HG := Lib.hid (hG.alloc (.cells #[.int .u16 77, .int .u8 jt, .int .u8 jf, .int .u32 k] 35))
  have HS := Lib.hid (j_start (c0 := .int .u16 77) (c1 := .int .u8 jt) (c2 := .int .u8 jf) (c3 := .int .u32 k) (t := 35) hm.lt (hm.cell 0 _ rfl))
  clear hm hG h a0 a1 x0 x1 k0 k1
  go_enter Tryd.func75, Tryd.ntmps75
  go_wp2_with fail
  go_region_held3 (fun w' => w'.cell? ⟨w.heap.size, 0, none⟩ = some (.int .u16 77) ∧ w'.cell? ⟨w.heap.size, 1, none⟩ = some (.int .u8 jt) ∧ w'.cell? ⟨w.heap.size, 2, none⟩ = some (.int .u8 jf) ∧ w'.cell? ⟨w.heap.size, 3, none⟩ = some (.int .u32 k) ∧ w'.cell? ⟨M, 0, none⟩ = some (.int .u32 a)) (first | with_reducible assumption | exact HS.out | exact keep5 b1 HS.out) (first
    | (go_at_call 85; ((with_reducible refine (HF.out _ HM1.out).mono ?_); rintro e w2 ⟨rfl, rfl⟩))
    | (go_at_call 85; ((with_reducible refine (HF.out _ HM.out.dr).mono ?_); rintro e w2 ⟨rfl, rfl⟩))
    | (go_at_call 82; ((with_reducible refine (HX.out _ HG.out.drew HM.out.dr).mono ?_); rintro e w1 ⟨rfl, b1⟩); have HM1 := Lib.hid (HM.out.dr.on b1); obtain ⟨s0, s1, s2, s3, p0⟩ := keep5 b1 HS.out)
    | (go_at_call 71; ((with_reducible refine (HC.out _).mono ?_); rintro e w3 ⟨rfl, rfl⟩)))
  all_goals (go_wp2; go_ret; exact ⟨rfl, ((Below.refl _ _).alloc (Nat.le_refl _) _).drew.trans (b1.mono (by simp))⟩)
set_option maxRecDepth 100000 in
set_option maxHeartbeats 8000000 in
theorem ljsetx_n (d : Dat) (jt jf k a x : Int) (c : Nat → Int) (st : Int) (ov : Bool) (an : Int) (M : Nat) (w : World) (hm : ML w M a x c d st ov an) (hG : GW w) (a0 : 0 ≤ a) (a1 : a < 4294967296) (x0 : 0 ≤ x) (x1 : x < 4294967296) (k0 : 0 ≤ k) (k1 : k < 4294967296) (j0 : 0 ≤ jt) (j1 : jt < 256) (f0 : 0 ≤ jf) (f1 : jf < 256) (h : cmpV 4 a x = false) :
    Calls Tryd.prog 75 #[.pointer (some ⟨M, 0, none⟩), .agg #[.int .u16 77, .int .u8 jt, .int .u8 jf, .int .u32 k]] w (LJTo jf w) := by
  have HX := Lib.hid (fun W hG hm => second_any jt jf k a x c d st ov an M W 77 (by decide) (by decide) hG hm)
  rw [show withXB 77 = true by decide +kernel] at HX
  simp only [if_true] at HX
  have HF := Lib.hid (fun W hm => find_cmp 77 3 (by decide) (by decide) (by decide) a x c d st ov an M W hm)
  simp only [show (cmpR[3]'(by decide)).2.2 = 71 from rfl] at HF
  have HC := Lib.hid (fun W => cl_jset a x W a0 a1 x0 x1)
  rw [h] at HC
  have HM := Lib.hid (hm.al (.cells #[.int .u16 77, .int .u8 jt, .int .u8 jf, .int .u32 k] 35))
  have HG := Lib.hid (hG.alloc (.cells #[.int .u16 77, .int .u8 jt, .int .u8 jf, .int .u32 k] 35))
  have HS := Lib.hid (j_start (c0 := .int .u16 77) (c1 := .int .u8 jt) (c2 := .int .u8 jf) (c3 := .int .u32 k) (t := 35) hm.lt (hm.cell 0 _ rfl))
  clear hm hG h a0 a1 x0 x1 k0 k1
  go_enter Tryd.func75, Tryd.ntmps75
  go_wp2_with fail
  go_region_held3 (fun w' => w'.cell? ⟨w.heap.size, 0, none⟩ = some (.int .u16 77) ∧ w'.cell? ⟨w.heap.size, 1, none⟩ = some (.int .u8 jt) ∧ w'.cell? ⟨w.heap.size, 2, none⟩ = some (.int .u8 jf) ∧ w'.cell? ⟨w.heap.size, 3, none⟩ = some (.int .u32 k) ∧ w'.cell? ⟨M, 0, none⟩ = some (.int .u32 a)) (first | with_reducible assumption | exact HS.out | exact keep5 b1 HS.out) (first
    | (go_at_call 85; ((with_reducible refine (HF.out _ HM1.out).mono ?_); rintro e w2 ⟨rfl, rfl⟩))
    | (go_at_call 85; ((with_reducible refine (HF.out _ HM.out.dr).mono ?_); rintro e w2 ⟨rfl, rfl⟩))
    | (go_at_call 82; ((with_reducible refine (HX.out _ HG.out.drew HM.out.dr).mono ?_); rintro e w1 ⟨rfl, b1⟩); have HM1 := Lib.hid (HM.out.dr.on b1); obtain ⟨s0, s1, s2, s3, p0⟩ := keep5 b1 HS.out)
    | (go_at_call 71; ((with_reducible refine (HC.out _).mono ?_); rintro e w3 ⟨rfl, rfl⟩)))
  all_goals (go_wp2; go_ret; exact ⟨rfl, ((Below.refl _ _).alloc (Nat.le_refl _) _).drew.trans (b1.mono (by simp))⟩)
end Go.Proofs.YtohfampfnhfnlaaDoor
