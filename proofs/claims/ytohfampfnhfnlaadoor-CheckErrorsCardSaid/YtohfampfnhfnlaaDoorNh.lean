/- What the landed machine's number makes of it: the codes of the class Number. Condition: numbers below 2 to the 32nd; the table lies in the package's variable. -/
import Derived.Test.YtohfampfnhfnlaaDoorNa
import Derived.Deep.RegionWith
namespace Go.Proofs.YtohfampfnhfnlaaDoor
open Go.RowKit
set_option linter.unusedVariables false
attribute [local go_sem ↓] Go.wp_at_zero Go.wp_at_succ

set_option maxRecDepth 100000 in
set_option maxHeartbeats 8000000 in
theorem ln_or (d : Dat) (jt jf k a x : Int) (c : Nat → Int) (st : Int) (ov : Bool) (an : Int) (M : Nat) (w : World) (hm : ML w M a x c d st ov an) (hG : GW w) (a0 : 0 ≤ a) (a1 : a < 4294967296) (x0 : 0 ≤ x) (x1 : x < 4294967296) (k0 : 0 ≤ k) (k1 : k < 4294967296)  :
    Calls Tryd.prog 74 #[.pointer (some ⟨M, 0, none⟩), .agg #[.int .u16 68, .int .u8 jt, .int .u8 jf, .int .u32 k]] w (LdTo M (bitsV (· ||| ·) a k) x c d st ov an w) := by
  have HX := Lib.hid (fun W hG hm => second_any jt jf k a x c d st ov an M W 68 (by decide) (by decide) hG hm)
  rw [show withXB 68 = false by decide +kernel] at HX
  simp only [Bool.false_eq_true, if_false] at HX
  have HF := Lib.hid (fun W hm => find_op 68 4 (by decide) (by decide) (by decide) a x c d st ov an M W hm)
  simp only [show (opR[4]'(by decide)).2.2 = 62 from rfl] at HF
  have HC := Lib.hid (fun W => cl_or a k W a0 a1 k0 k1)
  obtain ⟨v, hv⟩ : ∃ v : Int, v = bitsV (· ||| ·) a k := ⟨_, rfl⟩
  rw [← hv] at HC ⊢
  clear hv a0 a1 x0 x1 k0 k1
  have HM := Lib.hid (hm.al (.cells #[.int .u16 68, .int .u8 jt, .int .u8 jf, .int .u32 k] 35))
  have HG := Lib.hid (hG.alloc (.cells #[.int .u16 68, .int .u8 jt, .int .u8 jf, .int .u32 k] 35))
  clear hm hG
  go_enter Tryd.func74, Tryd.ntmps74
  go_wp2_with (go_at_call 82; ((with_reducible refine (HX.out _ HG.out HM.out).mono ?_); rintro e w1 ⟨rfl, b1⟩); have HM1 := Lib.hid (HM.out.on b1); have s0 := box_cells b1 0 (.int .u16 68) rfl; have p0 := HM1.out.cell 0 _ rfl; have pf := HM1.out.free; have pl := HM1.out.lt)
  go_region_with (first
    | (go_at_call 84; ((with_reducible refine (HF.out _ HM1.out.dr).mono ?_); rintro e w2 ⟨rfl, rfl⟩))
    | (go_at_call 62; ((with_reducible refine (HC.out _).mono ?_); rintro e w3 ⟨rfl, rfl⟩)))
  all_goals (go_wp2; go_end0; exact ⟨rfl, (HM1.out.set_ 0 _ rfl).dr, of_drew (((of_alloc w _ _).trans (of_below b1)).trans (of_set _ M 0 _))⟩)
set_option maxRecDepth 100000 in
set_option maxHeartbeats 8000000 in
theorem ln_orx (d : Dat) (jt jf k a x : Int) (c : Nat → Int) (st : Int) (ov : Bool) (an : Int) (M : Nat) (w : World) (hm : ML w M a x c d st ov an) (hG : GW w) (a0 : 0 ≤ a) (a1 : a < 4294967296) (x0 : 0 ≤ x) (x1 : x < 4294967296) (k0 : 0 ≤ k) (k1 : k < 4294967296)  :
    Calls Tryd.prog 74 #[.pointer (some ⟨M, 0, none⟩), .agg #[.int .u16 76, .int .u8 jt, .int .u8 jf, .int .u32 k]] w (LdTo M (bitsV (· ||| ·) a x) x c d st ov an w) := by
  have HX := Lib.hid (fun W hG hm => second_any jt jf k a x c d st ov an M W 76 (by decide) (by decide) hG hm)
  rw [show withXB 76 = true by decide +kernel] at HX
  simp only [if_true] at HX
  have HF := Lib.hid (fun W hm => find_op 76 4 (by decide) (by decide) (by decide) a x c d st ov an M W hm)
  simp only [show (opR[4]'(by decide)).2.2 = 62 from rfl] at HF
  have HC := Lib.hid (fun W => cl_or a x W a0 a1 x0 x1)
  obtain ⟨v, hv⟩ : ∃ v : Int, v = bitsV (· ||| ·) a x := ⟨_, rfl⟩
  rw [← hv] at HC ⊢
  clear hv a0 a1 x0 x1 k0 k1
  have HM := Lib.hid (hm.al (.cells #[.int .u16 76, .int .u8 jt, .int .u8 jf, .int .u32 k] 35))
  have HG := Lib.hid (hG.alloc (.cells #[.int .u16 76, .int .u8 jt, .int .u8 jf, .int .u32 k] 35))
  clear hm hG
  go_enter Tryd.func74, Tryd.ntmps74
  go_wp2_with (go_at_call 82; ((with_reducible refine (HX.out _ HG.out HM.out).mono ?_); rintro e w1 ⟨rfl, b1⟩); have HM1 := Lib.hid (HM.out.on b1); have s0 := box_cells b1 0 (.int .u16 76) rfl; have p0 := HM1.out.cell 0 _ rfl; have pf := HM1.out.free; have pl := HM1.out.lt)
  go_region_with (first
    | (go_at_call 84; ((with_reducible refine (HF.out _ HM1.out.dr).mono ?_); rintro e w2 ⟨rfl, rfl⟩))
    | (go_at_call 62; ((with_reducible refine (HC.out _).mono ?_); rintro e w3 ⟨rfl, rfl⟩)))
  all_goals (go_wp2; go_end0; exact ⟨rfl, (HM1.out.set_ 0 _ rfl).dr, of_drew (((of_alloc w _ _).trans (of_below b1)).trans (of_set _ M 0 _))⟩)
set_option maxRecDepth 100000 in
set_option maxHeartbeats 8000000 in
theorem ln_and (d : Dat) (jt jf k a x : Int) (c : Nat → Int) (st : Int) (ov : Bool) (an : Int) (M : Nat) (w : World) (hm : ML w M a x c d st ov an) (hG : GW w) (a0 : 0 ≤ a) (a1 : a < 4294967296) (x0 : 0 ≤ x) (x1 : x < 4294967296) (k0 : 0 ≤ k) (k1 : k < 4294967296)  :
    Calls Tryd.prog 74 #[.pointer (some ⟨M, 0, none⟩), .agg #[.int .u16 84, .int .u8 jt, .int .u8 jf, .int .u32 k]] w (LdTo M (bitsV (· &&& ·) a k) x c d st ov an w) := by
  have HX := Lib.hid (fun W hG hm => second_any jt jf k a x c d st ov an M W 84 (by decide) (by decide) hG hm)
  rw [show withXB 84 = false by decide +kernel] at HX
  simp only [Bool.false_eq_true, if_false] at HX
  have HF := Lib.hid (fun W hm => find_op 84 5 (by decide) (by decide) (by decide) a x c d st ov an M W hm)
  simp only [show (opR[5]'(by decide)).2.2 = 63 from rfl] at HF
  have HC := Lib.hid (fun W => cl_and a k W a0 a1 k0 k1)
  obtain ⟨v, hv⟩ : ∃ v : Int, v = bitsV (· &&& ·) a k := ⟨_, rfl⟩
  rw [← hv] at HC ⊢
  clear hv a0 a1 x0 x1 k0 k1
  have HM := Lib.hid (hm.al (.cells #[.int .u16 84, .int .u8 jt, .int .u8 jf, .int .u32 k] 35))
  have HG := Lib.hid (hG.alloc (.cells #[.int .u16 84, .int .u8 jt, .int .u8 jf, .int .u32 k] 35))
  clear hm hG
  go_enter Tryd.func74, Tryd.ntmps74
  go_wp2_with (go_at_call 82; ((with_reducible refine (HX.out _ HG.out HM.out).mono ?_); rintro e w1 ⟨rfl, b1⟩); have HM1 := Lib.hid (HM.out.on b1); have s0 := box_cells b1 0 (.int .u16 84) rfl; have p0 := HM1.out.cell 0 _ rfl; have pf := HM1.out.free; have pl := HM1.out.lt)
  go_region_with (first
    | (go_at_call 84; ((with_reducible refine (HF.out _ HM1.out.dr).mono ?_); rintro e w2 ⟨rfl, rfl⟩))
    | (go_at_call 63; ((with_reducible refine (HC.out _).mono ?_); rintro e w3 ⟨rfl, rfl⟩)))
  all_goals (go_wp2; go_end0; exact ⟨rfl, (HM1.out.set_ 0 _ rfl).dr, of_drew (((of_alloc w _ _).trans (of_below b1)).trans (of_set _ M 0 _))⟩)
set_option maxRecDepth 100000 in
set_option maxHeartbeats 8000000 in
theorem ln_andx (d : Dat) (jt jf k a x : Int) (c : Nat → Int) (st : Int) (ov : Bool) (an : Int) (M : Nat) (w : World) (hm : ML w M a x c d st ov an) (hG : GW w) (a0 : 0 ≤ a) (a1 : a < 4294967296) (x0 : 0 ≤ x) (x1 : x < 4294967296) (k0 : 0 ≤ k) (k1 : k < 4294967296)  :
    Calls Tryd.prog 74 #[.pointer (some ⟨M, 0, none⟩), .agg #[.int .u16 92, .int .u8 jt, .int .u8 jf, .int .u32 k]] w (LdTo M (bitsV (· &&& ·) a x) x c d st ov an w) := by
  have HX := Lib.hid (fun W hG hm => second_any jt jf k a x c d st ov an M W 92 (by decide) (by decide) hG hm)
  rw [show withXB 92 = true by decide +kernel] at HX
  simp only [if_true] at HX
  have HF := Lib.hid (fun W hm => find_op 92 5 (by decide) (by decide) (by decide) a x c d st ov an M W hm)
  simp only [show (opR[5]'(by decide)).2.2 = 63 from rfl] at HF
  have HC := Lib.hid (fun W => cl_and a x W a0 a1 x0 x1)
  obtain ⟨v, hv⟩ : ∃ v : Int, v = bitsV (· &&& ·) a x := ⟨_, rfl⟩
  rw [← hv] at HC ⊢
  clear hv a0 a1 x0 x1 k0 k1
  have HM := Lib.hid (hm.al (.cells #[.int .u16 92, .int .u8 jt, .int .u8 jf, .int .u32 k] 35))
  have HG := Lib.hid (hG.alloc (.cells #[.int .u16 92, .int .u8 jt, .int .u8 jf, .int .u32 k] 35))
  clear hm hG
  go_enter Tryd.func74, Tryd.ntmps74
  go_wp2_with (go_at_call 82; ((with_reducible refine (HX.out _ HG.out HM.out).mono ?_); rintro e w1 ⟨rfl, b1⟩); have HM1 := Lib.hid (HM.out.on b1); have s0 := box_cells b1 0 (.int .u16 92) rfl; have p0 := HM1.out.cell 0 _ rfl; have pf := HM1.out.free; have pl := HM1.out.lt)
  go_region_with (first
    | (go_at_call 84; ((with_reducible refine (HF.out _ HM1.out.dr).mono ?_); rintro e w2 ⟨rfl, rfl⟩))
    | (go_at_call 63; ((with_reducible refine (HC.out _).mono ?_); rintro e w3 ⟨rfl, rfl⟩)))
  all_goals (go_wp2; go_end0; exact ⟨rfl, (HM1.out.set_ 0 _ rfl).dr, of_drew (((of_alloc w _ _).trans (of_below b1)).trans (of_set _ M 0 _))⟩)
end Go.Proofs.YtohfampfnhfnlaaDoor
