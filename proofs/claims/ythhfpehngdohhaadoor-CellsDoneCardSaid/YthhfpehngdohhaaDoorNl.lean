/- What the landed machine's step makes of an instruction, by its class. Condition: the table lies in the package's variable. What the landed machine's step makes of any instruction: as the plain function says. Condition: numbers below 2 to the 32nd; the table lies in the package's variable. What the landed run's deferred function makes of a panic, and of none. -/
import Derived.Test.YthhfpehngdohhaaDoorNa
import Derived.Test.YthhfpehngdohhaaDoorNf
import Derived.Test.YthhfpehngdohhaaDoorNg
import Derived.Test.YthhfpehngdohhaaDoorNh
import Derived.Test.YthhfpehngdohhaaDoorNi
import Derived.Test.YthhfpehngdohhaaDoorNj
import Derived.Test.YthhfpehngdohhaaDoorNk
import Derived.Defers
import Derived.Recover
namespace Go.Proofs.YthhfpehngdohhaaDoor
open Go.RowKit
set_option linter.unusedVariables false
attribute [local go_sem ↓] Go.wp_at_zero Go.wp_at_succ

set_option maxRecDepth 100000 in
set_option maxHeartbeats 4000000 in
theorem step_load (jt jf k a x : Int) (c : Nat → Int) (d : Dat) (st : Int) (M : Nat) (w : World) (cd : Int) (hm : ML w M a x c d st false 0) (hG : GW w) (a' x' : Int) (c' : Nat → Int) (ov : Bool) (an : Int)
    (HL : Hid (∀ W : World, ML W M a x c d st false 0 → GW W → Calls Tryd.prog 60 #[.pointer (some ⟨M, 0, none⟩), .agg #[.int .u16 cd, .int .u8 jt, .int .u8 jf, .int .u32 k]] W (LdTo M a' x' c' d st ov an W))) :
    Calls Tryd.prog 43 #[.pointer (some ⟨M, 0, none⟩), .int .u8 1, .agg #[.int .u16 cd, .int .u8 jt, .int .u8 jf, .int .u32 k]] w fun e w' => e = .returned (.int .u32 0) ∧ ML w' M a' x' c' d st ov an ∧ w.grownBy w' (some M) := by
  have HM := Lib.hid (hm.al (.cells #[.int .u16 cd, .int .u8 jt, .int .u8 jf, .int .u32 k] 38))
  have HG := Lib.hid (hG.alloc (.cells #[.int .u16 cd, .int .u8 jt, .int .u8 jf, .int .u32 k] 38))
  clear hm hG
  go_enter Tryd.func43, Tryd.ntmps43
  go_wp2_with (go_at_call 60; ((with_reducible refine (HL.out _ HM.out HG.out).mono ?_); rintro e w1 ⟨rfl, hm1, g1⟩))
  go_ret
  exact ⟨rfl, hm1, (of_alloc w _ _).trans g1⟩
set_option maxRecDepth 100000 in
set_option maxHeartbeats 4000000 in
theorem step_load_bad (jt jf k a x : Int) (c : Nat → Int) (d : Dat) (st : Int) (M : Nat) (w : World) (cd : Int) (hm : ML w M a x c d st false 0) (hG : GW w) (r : Int)
    (HL : Hid (∀ W : World, ML W M a x c d st false 0 → GW W → Calls Tryd.prog 60 #[.pointer (some ⟨M, 0, none⟩), .agg #[.int .u16 cd, .int .u8 jt, .int .u8 jf, .int .u32 k]] W (LdBad r M a x c d st false 0 W))) :
    Calls Tryd.prog 43 #[.pointer (some ⟨M, 0, none⟩), .int .u8 1, .agg #[.int .u16 cd, .int .u8 jt, .int .u8 jf, .int .u32 k]] w fun e w' => e = Pan r ∧ ML w' M a x c d st false 0 ∧ w.grownBy w' (some M) := by
  have HM := Lib.hid (hm.al (.cells #[.int .u16 cd, .int .u8 jt, .int .u8 jf, .int .u32 k] 38))
  have HG := Lib.hid (hG.alloc (.cells #[.int .u16 cd, .int .u8 jt, .int .u8 jf, .int .u32 k] 38))
  clear hm hG
  go_enter Tryd.func43, Tryd.ntmps43
  go_wp2_with (go_at_call 60; ((with_reducible refine (HL.out _ HM.out HG.out).mono ?_); rintro e w1 ⟨rfl, hm1, g1⟩))
  exact ⟨rfl, rfl, hm1, (of_alloc w _ _).trans g1⟩
set_option maxRecDepth 100000 in
set_option maxHeartbeats 4000000 in
theorem step_store (jt jf k a x : Int) (c : Nat → Int) (d : Dat) (st : Int) (M : Nat) (w : World) (cd : Int) (hm : ML w M a x c d st false 0) (hG : GW w) (a' x' : Int) (c' : Nat → Int) (ov : Bool) (an : Int)
    (HL : Hid (∀ W : World, ML W M a x c d st false 0 → GW W → Calls Tryd.prog 61 #[.pointer (some ⟨M, 0, none⟩), .agg #[.int .u16 cd, .int .u8 jt, .int .u8 jf, .int .u32 k]] W (LdTo M a' x' c' d st ov an W))) :
    Calls Tryd.prog 43 #[.pointer (some ⟨M, 0, none⟩), .int .u8 2, .agg #[.int .u16 cd, .int .u8 jt, .int .u8 jf, .int .u32 k]] w fun e w' => e = .returned (.int .u32 0) ∧ ML w' M a' x' c' d st ov an ∧ w.grownBy w' (some M) := by
  have HM := Lib.hid (hm.al (.cells #[.int .u16 cd, .int .u8 jt, .int .u8 jf, .int .u32 k] 38))
  have HG := Lib.hid (hG.alloc (.cells #[.int .u16 cd, .int .u8 jt, .int .u8 jf, .int .u32 k] 38))
  clear hm hG
  go_enter Tryd.func43, Tryd.ntmps43
  go_wp2_with (go_at_call 61; ((with_reducible refine (HL.out _ HM.out HG.out).mono ?_); rintro e w1 ⟨rfl, hm1, g1⟩))
  go_ret
  exact ⟨rfl, hm1, (of_alloc w _ _).trans g1⟩
set_option maxRecDepth 100000 in
set_option maxHeartbeats 4000000 in
theorem step_store_bad (jt jf k a x : Int) (c : Nat → Int) (d : Dat) (st : Int) (M : Nat) (w : World) (cd : Int) (hm : ML w M a x c d st false 0) (hG : GW w) (r : Int)
    (HL : Hid (∀ W : World, ML W M a x c d st false 0 → GW W → Calls Tryd.prog 61 #[.pointer (some ⟨M, 0, none⟩), .agg #[.int .u16 cd, .int .u8 jt, .int .u8 jf, .int .u32 k]] W (LdBad r M a x c d st false 0 W))) :
    Calls Tryd.prog 43 #[.pointer (some ⟨M, 0, none⟩), .int .u8 2, .agg #[.int .u16 cd, .int .u8 jt, .int .u8 jf, .int .u32 k]] w fun e w' => e = Pan r ∧ ML w' M a x c d st false 0 ∧ w.grownBy w' (some M) := by
  have HM := Lib.hid (hm.al (.cells #[.int .u16 cd, .int .u8 jt, .int .u8 jf, .int .u32 k] 38))
  have HG := Lib.hid (hG.alloc (.cells #[.int .u16 cd, .int .u8 jt, .int .u8 jf, .int .u32 k] 38))
  clear hm hG
  go_enter Tryd.func43, Tryd.ntmps43
  go_wp2_with (go_at_call 61; ((with_reducible refine (HL.out _ HM.out HG.out).mono ?_); rintro e w1 ⟨rfl, hm1, g1⟩))
  exact ⟨rfl, rfl, hm1, (of_alloc w _ _).trans g1⟩
set_option maxRecDepth 100000 in
set_option maxHeartbeats 4000000 in
theorem step_number (jt jf k a x : Int) (c : Nat → Int) (d : Dat) (st : Int) (M : Nat) (w : World) (cd : Int) (hm : ML w M a x c d st false 0) (hG : GW w) (a' x' : Int) (c' : Nat → Int) (ov : Bool) (an : Int)
    (HL : Hid (∀ W : World, ML W M a x c d st false 0 → GW W → Calls Tryd.prog 62 #[.pointer (some ⟨M, 0, none⟩), .agg #[.int .u16 cd, .int .u8 jt, .int .u8 jf, .int .u32 k]] W (LdTo M a' x' c' d st ov an W))) :
    Calls Tryd.prog 43 #[.pointer (some ⟨M, 0, none⟩), .int .u8 3, .agg #[.int .u16 cd, .int .u8 jt, .int .u8 jf, .int .u32 k]] w fun e w' => e = .returned (.int .u32 0) ∧ ML w' M a' x' c' d st ov an ∧ w.grownBy w' (some M) := by
  have HM := Lib.hid (hm.al (.cells #[.int .u16 cd, .int .u8 jt, .int .u8 jf, .int .u32 k] 38))
  have HG := Lib.hid (hG.alloc (.cells #[.int .u16 cd, .int .u8 jt, .int .u8 jf, .int .u32 k] 38))
  clear hm hG
  go_enter Tryd.func43, Tryd.ntmps43
  go_wp2_with (go_at_call 62; ((with_reducible refine (HL.out _ HM.out HG.out).mono ?_); rintro e w1 ⟨rfl, hm1, g1⟩))
  go_ret
  exact ⟨rfl, hm1, (of_alloc w _ _).trans g1⟩
set_option maxRecDepth 100000 in
set_option maxHeartbeats 4000000 in
theorem step_number_bad (jt jf k a x : Int) (c : Nat → Int) (d : Dat) (st : Int) (M : Nat) (w : World) (cd : Int) (hm : ML w M a x c d st false 0) (hG : GW w) (r : Int)
    (HL : Hid (∀ W : World, ML W M a x c d st false 0 → GW W → Calls Tryd.prog 62 #[.pointer (some ⟨M, 0, none⟩), .agg #[.int .u16 cd, .int .u8 jt, .int .u8 jf, .int .u32 k]] W (LdBad r M a x c d st false 0 W))) :
    Calls Tryd.prog 43 #[.pointer (some ⟨M, 0, none⟩), .int .u8 3, .agg #[.int .u16 cd, .int .u8 jt, .int .u8 jf, .int .u32 k]] w fun e w' => e = Pan r ∧ ML w' M a x c d st false 0 ∧ w.grownBy w' (some M) := by
  have HM := Lib.hid (hm.al (.cells #[.int .u16 cd, .int .u8 jt, .int .u8 jf, .int .u32 k] 38))
  have HG := Lib.hid (hG.alloc (.cells #[.int .u16 cd, .int .u8 jt, .int .u8 jf, .int .u32 k] 38))
  clear hm hG
  go_enter Tryd.func43, Tryd.ntmps43
  go_wp2_with (go_at_call 62; ((with_reducible refine (HL.out _ HM.out HG.out).mono ?_); rintro e w1 ⟨rfl, hm1, g1⟩))
  exact ⟨rfl, rfl, hm1, (of_alloc w _ _).trans g1⟩
set_option maxRecDepth 100000 in
set_option maxHeartbeats 4000000 in
theorem step_finish (jt jf k a x : Int) (c : Nat → Int) (d : Dat) (st : Int) (M : Nat) (w : World) (cd : Int) (hm : ML w M a x c d st false 0) (hG : GW w) (a' x' : Int) (c' : Nat → Int) (ov : Bool) (an : Int)
    (HL : Hid (∀ W : World, ML W M a x c d st false 0 → GW W → Calls Tryd.prog 64 #[.pointer (some ⟨M, 0, none⟩), .agg #[.int .u16 cd, .int .u8 jt, .int .u8 jf, .int .u32 k]] W (LdTo M a' x' c' d st ov an W))) :
    Calls Tryd.prog 43 #[.pointer (some ⟨M, 0, none⟩), .int .u8 5, .agg #[.int .u16 cd, .int .u8 jt, .int .u8 jf, .int .u32 k]] w fun e w' => e = .returned (.int .u32 0) ∧ ML w' M a' x' c' d st ov an ∧ w.grownBy w' (some M) := by
  have HM := Lib.hid (hm.al (.cells #[.int .u16 cd, .int .u8 jt, .int .u8 jf, .int .u32 k] 38))
  have HG := Lib.hid (hG.alloc (.cells #[.int .u16 cd, .int .u8 jt, .int .u8 jf, .int .u32 k] 38))
  clear hm hG
  go_enter Tryd.func43, Tryd.ntmps43
  go_wp2_with (go_at_call 64; ((with_reducible refine (HL.out _ HM.out HG.out).mono ?_); rintro e w1 ⟨rfl, hm1, g1⟩))
  go_ret
  exact ⟨rfl, hm1, (of_alloc w _ _).trans g1⟩
set_option maxRecDepth 100000 in
set_option maxHeartbeats 4000000 in
theorem step_move (jt jf k a x : Int) (c : Nat → Int) (d : Dat) (st : Int) (M : Nat) (w : World) (cd : Int) (hm : ML w M a x c d st false 0) (hG : GW w) (a' x' : Int) (c' : Nat → Int) (ov : Bool) (an : Int)
    (HL : Hid (∀ W : World, ML W M a x c d st false 0 → GW W → Calls Tryd.prog 65 #[.pointer (some ⟨M, 0, none⟩), .agg #[.int .u16 cd, .int .u8 jt, .int .u8 jf, .int .u32 k]] W (LdTo M a' x' c' d st ov an W))) :
    Calls Tryd.prog 43 #[.pointer (some ⟨M, 0, none⟩), .int .u8 6, .agg #[.int .u16 cd, .int .u8 jt, .int .u8 jf, .int .u32 k]] w fun e w' => e = .returned (.int .u32 0) ∧ ML w' M a' x' c' d st ov an ∧ w.grownBy w' (some M) := by
  have HM := Lib.hid (hm.al (.cells #[.int .u16 cd, .int .u8 jt, .int .u8 jf, .int .u32 k] 38))
  have HG := Lib.hid (hG.alloc (.cells #[.int .u16 cd, .int .u8 jt, .int .u8 jf, .int .u32 k] 38))
  clear hm hG
  go_enter Tryd.func43, Tryd.ntmps43
  go_wp2_with (go_at_call 65; ((with_reducible refine (HL.out _ HM.out HG.out).mono ?_); rintro e w1 ⟨rfl, hm1, g1⟩))
  go_ret
  exact ⟨rfl, hm1, (of_alloc w _ _).trans g1⟩
set_option maxRecDepth 100000 in
set_option maxHeartbeats 4000000 in
theorem step_jump (jt jf k a x : Int) (c : Nat → Int) (d : Dat) (st : Int) (M : Nat) (w : World) (cd : Int) (hm : ML w M a x c d st false 0) (hG : GW w) (n : Int)
    (HL : Hid (∀ W : World, ML W M a x c d st false 0 → GW W → Calls Tryd.prog 63 #[.pointer (some ⟨M, 0, none⟩), .agg #[.int .u16 cd, .int .u8 jt, .int .u8 jf, .int .u32 k]] W fun e w' => e = .returned (.int .u32 n) ∧ Below W.heap.size W w')) :
    Calls Tryd.prog 43 #[.pointer (some ⟨M, 0, none⟩), .int .u8 4, .agg #[.int .u16 cd, .int .u8 jt, .int .u8 jf, .int .u32 k]] w fun e w' => e = .returned (.int .u32 n) ∧ ML w' M a x c d st false 0 ∧ w.grownBy w' (some M) := by
  have HM := Lib.hid (hm.al (.cells #[.int .u16 cd, .int .u8 jt, .int .u8 jf, .int .u32 k] 38))
  have HG := Lib.hid (hG.alloc (.cells #[.int .u16 cd, .int .u8 jt, .int .u8 jf, .int .u32 k] 38))
  clear hm hG
  go_enter Tryd.func43, Tryd.ntmps43
  go_wp2_with (go_at_call 63; ((with_reducible refine (HL.out _ HM.out HG.out).mono ?_); rintro e w1 ⟨rfl, b1⟩))
  go_ret
  exact ⟨rfl, HM.out.on b1, (of_alloc w _ _).trans (of_below b1)⟩
set_option maxHeartbeats 4000000 in
theorem step_none (jt jf k a x : Int) (c : Nat → Int) (d : Dat) (st : Int) (M : Nat) (w : World) (cd : Int) (hm : ML w M a x c d st false 0) (hG : GW w) : Calls Tryd.prog 43 #[.pointer (some ⟨M, 0, none⟩), .int .u8 0, .agg #[.int .u16 cd, .int .u8 jt, .int .u8 jf, .int .u32 k]] w fun e w' => e = Pan 40 ∧ ML w' M a x c d st false 0 ∧ w.grownBy w' (some M) := by
  have HM := Lib.hid (hm.al (.cells #[.int .u16 cd, .int .u8 jt, .int .u8 jf, .int .u32 k] 38))
  have HG := Lib.hid (hG.alloc (.cells #[.int .u16 cd, .int .u8 jt, .int .u8 jf, .int .u32 k] 38))
  clear hm hG
  go_enter Tryd.func43, Tryd.ntmps43
  go_wp2
  exact ⟨rfl, rfl, HM.out, of_alloc w _ _⟩
end Go.Proofs.YthhfpehngdohhaaDoor
namespace Go.Proofs.YthhfpehngdohhaaDoor
open Go.RowKit
set_option linter.unusedVariables false

/-- What comes of it: how many are skipped; the machine; the rest stays. -/
def StepTo (M : Nat) (o : Out) (d : Dat) (st : Int) (w : World) (e : Ending) (w' : World) : Prop :=
  w.grownBy w' (some M) ∧ match o with
  | .go a x c n => e = .returned (.int .u32 n) ∧ ML w' M a x c d st false 0
  | .fin v => e = .returned (.int .u32 0) ∧ ∃ a x c, ML w' M a x c d st true v
  | .bad r => e = Pan r ∧ ∃ a x c, ML w' M a x c d st false 0
theorem st_c32 (jt jf k a x : Int) (c : Nat → Int) (M : Nat) (w : World) (d : Dat) (st : Int) (hd : d.Ok) (hm : ML w M a x c d st false 0) (hG : GW w) (a0 : 0 ≤ a) (a1 : a < 4294967296) (x0 : 0 ≤ x) (x1 : x < 4294967296) (j0 : 0 ≤ jt) (j1 : jt < 256) (f0 : 0 ≤ jf) (f1 : jf < 256) (k0 : 0 ≤ k) (k1 : k < 4294967296) : Calls Tryd.prog 43 #[.pointer (some ⟨M, 0, none⟩), .int .u8 1, .agg #[.int .u16 32, .int .u8 jt, .int .u8 jf, .int .u32 k]] w (StepTo M (doI ⟨32, jt, jf, k⟩ d a x c) d st w) := by
    have h0 : doI ⟨32, jt, jf, k⟩ d a x c = if wordB k then .go (wordV d k) x c 0 else .bad 41 := by kernel_rfl
    cases hk : wordB k with
    | true =>
      rw [h0, hk]
      exact (step_load jt jf k a x c d st M w 32 hm hG (wordV d k) x c false 0 (Lib.hid fun W hm hG => lld_abs d jt jf k a x c st false 0 M W hm hd k0 k1 hk)).mono fun e w' h => ⟨h.2.2, h.1, h.2.1⟩
    | false =>
      rw [h0, hk]
      exact (step_load_bad jt jf k a x c d st M w 32 hm hG 41 (Lib.hid fun W hm hG => lld_abs_bad d jt jf k a x c st false 0 M W hm hd k0 k1 hk)).mono fun e w' h => ⟨h.2.2, h.1, _, _, _, h.2.1⟩
theorem st_c128 (jt jf k a x : Int) (c : Nat → Int) (M : Nat) (w : World) (d : Dat) (st : Int) (hd : d.Ok) (hm : ML w M a x c d st false 0) (hG : GW w) (a0 : 0 ≤ a) (a1 : a < 4294967296) (x0 : 0 ≤ x) (x1 : x < 4294967296) (j0 : 0 ≤ jt) (j1 : jt < 256) (f0 : 0 ≤ jf) (f1 : jf < 256) (k0 : 0 ≤ k) (k1 : k < 4294967296) : Calls Tryd.prog 43 #[.pointer (some ⟨M, 0, none⟩), .int .u8 1, .agg #[.int .u16 128, .int .u8 jt, .int .u8 jf, .int .u32 k]] w (StepTo M (doI ⟨128, jt, jf, k⟩ d a x c) d st w) := by
    have hdo : doI ⟨128, jt, jf, k⟩ d a x c = .go 64 x c 0 := by kernel_rfl
    rw [hdo]
    exact (step_load jt jf k a x c d st M w 128 hm hG 64 x c false 0 (Lib.hid fun W hm hG => lld_len d jt jf k a x c st false 0 M W hm)).mono fun e w' h => ⟨h.2.2, h.1, h.2.1⟩
theorem st_c0 (jt jf k a x : Int) (c : Nat → Int) (M : Nat) (w : World) (d : Dat) (st : Int) (hd : d.Ok) (hm : ML w M a x c d st false 0) (hG : GW w) (a0 : 0 ≤ a) (a1 : a < 4294967296) (x0 : 0 ≤ x) (x1 : x < 4294967296) (j0 : 0 ≤ jt) (j1 : jt < 256) (f0 : 0 ≤ jf) (f1 : jf < 256) (k0 : 0 ≤ k) (k1 : k < 4294967296) : Calls Tryd.prog 43 #[.pointer (some ⟨M, 0, none⟩), .int .u8 1, .agg #[.int .u16 0, .int .u8 jt, .int .u8 jf, .int .u32 k]] w (StepTo M (doI ⟨0, jt, jf, k⟩ d a x c) d st w) := by
    have hdo : doI ⟨0, jt, jf, k⟩ d a x c = .go k x c 0 := by kernel_rfl
    rw [hdo]
    exact (step_load jt jf k a x c d st M w 0 hm hG k x c false 0 (Lib.hid fun W hm hG => lld_i d jt jf k a x c st false 0 M W hm)).mono fun e w' h => ⟨h.2.2, h.1, h.2.1⟩
theorem st_c96 (jt jf k a x : Int) (c : Nat → Int) (M : Nat) (w : World) (d : Dat) (st : Int) (hd : d.Ok) (hm : ML w M a x c d st false 0) (hG : GW w) (a0 : 0 ≤ a) (a1 : a < 4294967296) (x0 : 0 ≤ x) (x1 : x < 4294967296) (j0 : 0 ≤ jt) (j1 : jt < 256) (f0 : 0 ≤ jf) (f1 : jf < 256) (k0 : 0 ≤ k) (k1 : k < 4294967296) : Calls Tryd.prog 43 #[.pointer (some ⟨M, 0, none⟩), .int .u8 1, .agg #[.int .u16 96, .int .u8 jt, .int .u8 jf, .int .u32 k]] w (StepTo M (doI ⟨96, jt, jf, k⟩ d a x c) d st w) := by
    have h0 : doI ⟨96, jt, jf, k⟩ d a x c = if k < 16 then .go (c k.toNat) x c 0 else .bad 43 := by kernel_rfl
    by_cases hk : k < 16
    · rw [h0, if_pos hk]
      exact (step_load jt jf k a x c d st M w 96 hm hG (c k.toNat) x c false 0 (Lib.hid fun W hm hG => lldm_ok d jt jf k a x c st false 0 M W hm k.toNat (by omega) (by omega))).mono fun e w' h => ⟨h.2.2, h.1, h.2.1⟩
    · rw [h0, if_neg hk]
      exact (step_load_bad jt jf k a x c d st M w 96 hm hG 43 (Lib.hid fun W hm hG => lldm_bad d jt jf k a x c st false 0 M W hm (by omega))).mono fun e w' h => ⟨h.2.2, h.1, _, _, _, h.2.1⟩
theorem st_c129 (jt jf k a x : Int) (c : Nat → Int) (M : Nat) (w : World) (d : Dat) (st : Int) (hd : d.Ok) (hm : ML w M a x c d st false 0) (hG : GW w) (a0 : 0 ≤ a) (a1 : a < 4294967296) (x0 : 0 ≤ x) (x1 : x < 4294967296) (j0 : 0 ≤ jt) (j1 : jt < 256) (f0 : 0 ≤ jf) (f1 : jf < 256) (k0 : 0 ≤ k) (k1 : k < 4294967296) : Calls Tryd.prog 43 #[.pointer (some ⟨M, 0, none⟩), .int .u8 1, .agg #[.int .u16 129, .int .u8 jt, .int .u8 jf, .int .u32 k]] w (StepTo M (doI ⟨129, jt, jf, k⟩ d a x c) d st w) := by
    have hdo : doI ⟨129, jt, jf, k⟩ d a x c = .go a 64 c 0 := by kernel_rfl
    rw [hdo]
    exact (step_load jt jf k a x c d st M w 129 hm hG a 64 c false 0 (Lib.hid fun W hm hG => lldx_len d jt jf k a x c st false 0 M W hm)).mono fun e w' h => ⟨h.2.2, h.1, h.2.1⟩
theorem st_c1 (jt jf k a x : Int) (c : Nat → Int) (M : Nat) (w : World) (d : Dat) (st : Int) (hd : d.Ok) (hm : ML w M a x c d st false 0) (hG : GW w) (a0 : 0 ≤ a) (a1 : a < 4294967296) (x0 : 0 ≤ x) (x1 : x < 4294967296) (j0 : 0 ≤ jt) (j1 : jt < 256) (f0 : 0 ≤ jf) (f1 : jf < 256) (k0 : 0 ≤ k) (k1 : k < 4294967296) : Calls Tryd.prog 43 #[.pointer (some ⟨M, 0, none⟩), .int .u8 1, .agg #[.int .u16 1, .int .u8 jt, .int .u8 jf, .int .u32 k]] w (StepTo M (doI ⟨1, jt, jf, k⟩ d a x c) d st w) := by
    have hdo : doI ⟨1, jt, jf, k⟩ d a x c = .go a k c 0 := by kernel_rfl
    rw [hdo]
    exact (step_load jt jf k a x c d st M w 1 hm hG a k c false 0 (Lib.hid fun W hm hG => lldx_i d jt jf k a x c st false 0 M W hm)).mono fun e w' h => ⟨h.2.2, h.1, h.2.1⟩
theorem st_c97 (jt jf k a x : Int) (c : Nat → Int) (M : Nat) (w : World) (d : Dat) (st : Int) (hd : d.Ok) (hm : ML w M a x c d st false 0) (hG : GW w) (a0 : 0 ≤ a) (a1 : a < 4294967296) (x0 : 0 ≤ x) (x1 : x < 4294967296) (j0 : 0 ≤ jt) (j1 : jt < 256) (f0 : 0 ≤ jf) (f1 : jf < 256) (k0 : 0 ≤ k) (k1 : k < 4294967296) : Calls Tryd.prog 43 #[.pointer (some ⟨M, 0, none⟩), .int .u8 1, .agg #[.int .u16 97, .int .u8 jt, .int .u8 jf, .int .u32 k]] w (StepTo M (doI ⟨97, jt, jf, k⟩ d a x c) d st w) := by
    have h0 : doI ⟨97, jt, jf, k⟩ d a x c = if k < 16 then .go a (c k.toNat) c 0 else .bad 43 := by kernel_rfl
    by_cases hk : k < 16
    · rw [h0, if_pos hk]
      exact (step_load jt jf k a x c d st M w 97 hm hG a (c k.toNat) c false 0 (Lib.hid fun W hm hG => lldxm_ok d jt jf k a x c st false 0 M W hm k.toNat (by omega) (by omega))).mono fun e w' h => ⟨h.2.2, h.1, h.2.1⟩
    · rw [h0, if_neg hk]
      exact (step_load_bad jt jf k a x c d st M w 97 hm hG 43 (Lib.hid fun W hm hG => lldxm_bad d jt jf k a x c st false 0 M W hm (by omega))).mono fun e w' h => ⟨h.2.2, h.1, _, _, _, h.2.1⟩
theorem st_c2 (jt jf k a x : Int) (c : Nat → Int) (M : Nat) (w : World) (d : Dat) (st : Int) (hd : d.Ok) (hm : ML w M a x c d st false 0) (hG : GW w) (a0 : 0 ≤ a) (a1 : a < 4294967296) (x0 : 0 ≤ x) (x1 : x < 4294967296) (j0 : 0 ≤ jt) (j1 : jt < 256) (f0 : 0 ≤ jf) (f1 : jf < 256) (k0 : 0 ≤ k) (k1 : k < 4294967296) : Calls Tryd.prog 43 #[.pointer (some ⟨M, 0, none⟩), .int .u8 2, .agg #[.int .u16 2, .int .u8 jt, .int .u8 jf, .int .u32 k]] w (StepTo M (doI ⟨2, jt, jf, k⟩ d a x c) d st w) := by
    have h0 : doI ⟨2, jt, jf, k⟩ d a x c = if k < 16 then .go a x (fun j => if j = k.toNat then a else c j) 0 else .bad 43 := by kernel_rfl
    by_cases hk : k < 16
    · rw [h0, if_pos hk]
      exact (step_store jt jf k a x c d st M w 2 hm hG a x (fun j => if j = k.toNat then a else c j) false 0 (Lib.hid fun W hm hG => lst_ok d jt jf k a x c st false 0 M W hm k.toNat (by omega) (by omega))).mono fun e w' h => ⟨h.2.2, h.1, h.2.1⟩
    · rw [h0, if_neg hk]
      exact (step_store_bad jt jf k a x c d st M w 2 hm hG 43 (Lib.hid fun W hm hG => lst_bad d jt jf k a x c st false 0 M W hm (by omega))).mono fun e w' h => ⟨h.2.2, h.1, _, _, _, h.2.1⟩
theorem st_c3 (jt jf k a x : Int) (c : Nat → Int) (M : Nat) (w : World) (d : Dat) (st : Int) (hd : d.Ok) (hm : ML w M a x c d st false 0) (hG : GW w) (a0 : 0 ≤ a) (a1 : a < 4294967296) (x0 : 0 ≤ x) (x1 : x < 4294967296) (j0 : 0 ≤ jt) (j1 : jt < 256) (f0 : 0 ≤ jf) (f1 : jf < 256) (k0 : 0 ≤ k) (k1 : k < 4294967296) : Calls Tryd.prog 43 #[.pointer (some ⟨M, 0, none⟩), .int .u8 2, .agg #[.int .u16 3, .int .u8 jt, .int .u8 jf, .int .u32 k]] w (StepTo M (doI ⟨3, jt, jf, k⟩ d a x c) d st w) := by
    have h0 : doI ⟨3, jt, jf, k⟩ d a x c = if k < 16 then .go a x (fun j => if j = k.toNat then x else c j) 0 else .bad 43 := by kernel_rfl
    by_cases hk : k < 16
    · rw [h0, if_pos hk]
      exact (step_store jt jf k a x c d st M w 3 hm hG a x (fun j => if j = k.toNat then x else c j) false 0 (Lib.hid fun W hm hG => lstx_ok d jt jf k a x c st false 0 M W hm k.toNat (by omega) (by omega))).mono fun e w' h => ⟨h.2.2, h.1, h.2.1⟩
    · rw [h0, if_neg hk]
      exact (step_store_bad jt jf k a x c d st M w 3 hm hG 43 (Lib.hid fun W hm hG => lstx_bad d jt jf k a x c st false 0 M W hm (by omega))).mono fun e w' h => ⟨h.2.2, h.1, _, _, _, h.2.1⟩
theorem st_c132 (jt jf k a x : Int) (c : Nat → Int) (M : Nat) (w : World) (d : Dat) (st : Int) (hd : d.Ok) (hm : ML w M a x c d st false 0) (hG : GW w) (a0 : 0 ≤ a) (a1 : a < 4294967296) (x0 : 0 ≤ x) (x1 : x < 4294967296) (j0 : 0 ≤ jt) (j1 : jt < 256) (f0 : 0 ≤ jf) (f1 : jf < 256) (k0 : 0 ≤ k) (k1 : k < 4294967296) : Calls Tryd.prog 43 #[.pointer (some ⟨M, 0, none⟩), .int .u8 3, .agg #[.int .u16 132, .int .u8 jt, .int .u8 jf, .int .u32 k]] w (StepTo M (doI ⟨132, jt, jf, k⟩ d a x c) d st w) := by
    have hdo : doI ⟨132, jt, jf, k⟩ d a x c = .go ((0 - a) % 4294967296) x c 0 := by kernel_rfl
    rw [hdo]
    exact (step_number jt jf k a x c d st M w 132 hm hG ((0 - a) % 4294967296) x c false 0 (Lib.hid fun W hm hG => ln_neg d jt jf k a x c st false 0 M W hm hG a0 a1 x0 x1 k0 k1)).mono fun e w' h => ⟨h.2.2, h.1, h.2.1⟩
theorem st_c5 (jt jf k a x : Int) (c : Nat → Int) (M : Nat) (w : World) (d : Dat) (st : Int) (hd : d.Ok) (hm : ML w M a x c d st false 0) (hG : GW w) (a0 : 0 ≤ a) (a1 : a < 4294967296) (x0 : 0 ≤ x) (x1 : x < 4294967296) (j0 : 0 ≤ jt) (j1 : jt < 256) (f0 : 0 ≤ jf) (f1 : jf < 256) (k0 : 0 ≤ k) (k1 : k < 4294967296) : Calls Tryd.prog 43 #[.pointer (some ⟨M, 0, none⟩), .int .u8 4, .agg #[.int .u16 5, .int .u8 jt, .int .u8 jf, .int .u32 k]] w (StepTo M (doI ⟨5, jt, jf, k⟩ d a x c) d st w) := by
    have hdo : doI ⟨5, jt, jf, k⟩ d a x c = .go a x c k.toNat := by kernel_rfl
    rw [hdo]
    have hk : ((k.toNat : Nat) : Int) = k := Int.toNat_of_nonneg k0
    exact (step_jump jt jf k a x c d st M w 5 hm hG k (Lib.hid fun W hm hG => lja d jt jf k a x c st false 0 M W hm)).mono fun e w' h => ⟨h.2.2, by rw [hk]; exact h.1, h.2.1⟩
theorem st_c6 (jt jf k a x : Int) (c : Nat → Int) (M : Nat) (w : World) (d : Dat) (st : Int) (hd : d.Ok) (hm : ML w M a x c d st false 0) (hG : GW w) (a0 : 0 ≤ a) (a1 : a < 4294967296) (x0 : 0 ≤ x) (x1 : x < 4294967296) (j0 : 0 ≤ jt) (j1 : jt < 256) (f0 : 0 ≤ jf) (f1 : jf < 256) (k0 : 0 ≤ k) (k1 : k < 4294967296) : Calls Tryd.prog 43 #[.pointer (some ⟨M, 0, none⟩), .int .u8 5, .agg #[.int .u16 6, .int .u8 jt, .int .u8 jf, .int .u32 k]] w (StepTo M (doI ⟨6, jt, jf, k⟩ d a x c) d st w) := by
    have hdo : doI ⟨6, jt, jf, k⟩ d a x c = .fin k := by kernel_rfl
    rw [hdo]
    exact (step_finish jt jf k a x c d st M w 6 hm hG a x c true k (Lib.hid fun W hm hG => lret d jt jf k a x c st false 0 M W hm)).mono fun e w' h => ⟨h.2.2, h.1, _, _, _, h.2.1⟩
theorem st_c22 (jt jf k a x : Int) (c : Nat → Int) (M : Nat) (w : World) (d : Dat) (st : Int) (hd : d.Ok) (hm : ML w M a x c d st false 0) (hG : GW w) (a0 : 0 ≤ a) (a1 : a < 4294967296) (x0 : 0 ≤ x) (x1 : x < 4294967296) (j0 : 0 ≤ jt) (j1 : jt < 256) (f0 : 0 ≤ jf) (f1 : jf < 256) (k0 : 0 ≤ k) (k1 : k < 4294967296) : Calls Tryd.prog 43 #[.pointer (some ⟨M, 0, none⟩), .int .u8 5, .agg #[.int .u16 22, .int .u8 jt, .int .u8 jf, .int .u32 k]] w (StepTo M (doI ⟨22, jt, jf, k⟩ d a x c) d st w) := by
    have hdo : doI ⟨22, jt, jf, k⟩ d a x c = .fin a := by kernel_rfl
    rw [hdo]
    exact (step_finish jt jf k a x c d st M w 22 hm hG a x c true a (Lib.hid fun W hm hG => lreta d jt jf k a x c st false 0 M W hm)).mono fun e w' h => ⟨h.2.2, h.1, _, _, _, h.2.1⟩
theorem st_c7 (jt jf k a x : Int) (c : Nat → Int) (M : Nat) (w : World) (d : Dat) (st : Int) (hd : d.Ok) (hm : ML w M a x c d st false 0) (hG : GW w) (a0 : 0 ≤ a) (a1 : a < 4294967296) (x0 : 0 ≤ x) (x1 : x < 4294967296) (j0 : 0 ≤ jt) (j1 : jt < 256) (f0 : 0 ≤ jf) (f1 : jf < 256) (k0 : 0 ≤ k) (k1 : k < 4294967296) : Calls Tryd.prog 43 #[.pointer (some ⟨M, 0, none⟩), .int .u8 6, .agg #[.int .u16 7, .int .u8 jt, .int .u8 jf, .int .u32 k]] w (StepTo M (doI ⟨7, jt, jf, k⟩ d a x c) d st w) := by
    have hdo : doI ⟨7, jt, jf, k⟩ d a x c = .go a a c 0 := by kernel_rfl
    rw [hdo]
    exact (step_move jt jf k a x c d st M w 7 hm hG a a c false 0 (Lib.hid fun W hm hG => ltax d jt jf k a x c st false 0 M W hm)).mono fun e w' h => ⟨h.2.2, h.1, h.2.1⟩
theorem st_c135 (jt jf k a x : Int) (c : Nat → Int) (M : Nat) (w : World) (d : Dat) (st : Int) (hd : d.Ok) (hm : ML w M a x c d st false 0) (hG : GW w) (a0 : 0 ≤ a) (a1 : a < 4294967296) (x0 : 0 ≤ x) (x1 : x < 4294967296) (j0 : 0 ≤ jt) (j1 : jt < 256) (f0 : 0 ≤ jf) (f1 : jf < 256) (k0 : 0 ≤ k) (k1 : k < 4294967296) : Calls Tryd.prog 43 #[.pointer (some ⟨M, 0, none⟩), .int .u8 6, .agg #[.int .u16 135, .int .u8 jt, .int .u8 jf, .int .u32 k]] w (StepTo M (doI ⟨135, jt, jf, k⟩ d a x c) d st w) := by
    have hdo : doI ⟨135, jt, jf, k⟩ d a x c = .go x x c 0 := by kernel_rfl
    rw [hdo]
    exact (step_move jt jf k a x c d st M w 135 hm hG x x c false 0 (Lib.hid fun W hm hG => ltxa d jt jf k a x c st false 0 M W hm)).mono fun e w' h => ⟨h.2.2, h.1, h.2.1⟩
theorem st_c4 (jt jf k a x : Int) (c : Nat → Int) (M : Nat) (w : World) (d : Dat) (st : Int) (hd : d.Ok) (hm : ML w M a x c d st false 0) (hG : GW w) (a0 : 0 ≤ a) (a1 : a < 4294967296) (x0 : 0 ≤ x) (x1 : x < 4294967296) (j0 : 0 ≤ jt) (j1 : jt < 256) (f0 : 0 ≤ jf) (f1 : jf < 256) (k0 : 0 ≤ k) (k1 : k < 4294967296) : Calls Tryd.prog 43 #[.pointer (some ⟨M, 0, none⟩), .int .u8 3, .agg #[.int .u16 4, .int .u8 jt, .int .u8 jf, .int .u32 k]] w (StepTo M (doI ⟨4, jt, jf, k⟩ d a x c) d st w) := by
    have hdo : doI ⟨4, jt, jf, k⟩ d a x c = .go ((a + k) % 4294967296) x c 0 := by kernel_rfl
    rw [hdo]
    exact (step_number jt jf k a x c d st M w 4 hm hG ((a + k) % 4294967296) x c false 0 (Lib.hid fun W hm hG => ln_add d jt jf k a x c st false 0 M W hm hG a0 a1 x0 x1 k0 k1)).mono fun e w' h => ⟨h.2.2, h.1, h.2.1⟩
theorem st_c12 (jt jf k a x : Int) (c : Nat → Int) (M : Nat) (w : World) (d : Dat) (st : Int) (hd : d.Ok) (hm : ML w M a x c d st false 0) (hG : GW w) (a0 : 0 ≤ a) (a1 : a < 4294967296) (x0 : 0 ≤ x) (x1 : x < 4294967296) (j0 : 0 ≤ jt) (j1 : jt < 256) (f0 : 0 ≤ jf) (f1 : jf < 256) (k0 : 0 ≤ k) (k1 : k < 4294967296) : Calls Tryd.prog 43 #[.pointer (some ⟨M, 0, none⟩), .int .u8 3, .agg #[.int .u16 12, .int .u8 jt, .int .u8 jf, .int .u32 k]] w (StepTo M (doI ⟨12, jt, jf, k⟩ d a x c) d st w) := by
    have hdo : doI ⟨12, jt, jf, k⟩ d a x c = .go ((a + x) % 4294967296) x c 0 := by kernel_rfl
    rw [hdo]
    exact (step_number jt jf k a x c d st M w 12 hm hG ((a + x) % 4294967296) x c false 0 (Lib.hid fun W hm hG => ln_addx d jt jf k a x c st false 0 M W hm hG a0 a1 x0 x1 k0 k1)).mono fun e w' h => ⟨h.2.2, h.1, h.2.1⟩
theorem st_c20 (jt jf k a x : Int) (c : Nat → Int) (M : Nat) (w : World) (d : Dat) (st : Int) (hd : d.Ok) (hm : ML w M a x c d st false 0) (hG : GW w) (a0 : 0 ≤ a) (a1 : a < 4294967296) (x0 : 0 ≤ x) (x1 : x < 4294967296) (j0 : 0 ≤ jt) (j1 : jt < 256) (f0 : 0 ≤ jf) (f1 : jf < 256) (k0 : 0 ≤ k) (k1 : k < 4294967296) : Calls Tryd.prog 43 #[.pointer (some ⟨M, 0, none⟩), .int .u8 3, .agg #[.int .u16 20, .int .u8 jt, .int .u8 jf, .int .u32 k]] w (StepTo M (doI ⟨20, jt, jf, k⟩ d a x c) d st w) := by
    have hdo : doI ⟨20, jt, jf, k⟩ d a x c = .go ((a - k) % 4294967296) x c 0 := by kernel_rfl
    rw [hdo]
    exact (step_number jt jf k a x c d st M w 20 hm hG ((a - k) % 4294967296) x c false 0 (Lib.hid fun W hm hG => ln_sub d jt jf k a x c st false 0 M W hm hG a0 a1 x0 x1 k0 k1)).mono fun e w' h => ⟨h.2.2, h.1, h.2.1⟩
theorem st_c28 (jt jf k a x : Int) (c : Nat → Int) (M : Nat) (w : World) (d : Dat) (st : Int) (hd : d.Ok) (hm : ML w M a x c d st false 0) (hG : GW w) (a0 : 0 ≤ a) (a1 : a < 4294967296) (x0 : 0 ≤ x) (x1 : x < 4294967296) (j0 : 0 ≤ jt) (j1 : jt < 256) (f0 : 0 ≤ jf) (f1 : jf < 256) (k0 : 0 ≤ k) (k1 : k < 4294967296) : Calls Tryd.prog 43 #[.pointer (some ⟨M, 0, none⟩), .int .u8 3, .agg #[.int .u16 28, .int .u8 jt, .int .u8 jf, .int .u32 k]] w (StepTo M (doI ⟨28, jt, jf, k⟩ d a x c) d st w) := by
    have hdo : doI ⟨28, jt, jf, k⟩ d a x c = .go ((a - x) % 4294967296) x c 0 := by kernel_rfl
    rw [hdo]
    exact (step_number jt jf k a x c d st M w 28 hm hG ((a - x) % 4294967296) x c false 0 (Lib.hid fun W hm hG => ln_subx d jt jf k a x c st false 0 M W hm hG a0 a1 x0 x1 k0 k1)).mono fun e w' h => ⟨h.2.2, h.1, h.2.1⟩
theorem st_c36 (jt jf k a x : Int) (c : Nat → Int) (M : Nat) (w : World) (d : Dat) (st : Int) (hd : d.Ok) (hm : ML w M a x c d st false 0) (hG : GW w) (a0 : 0 ≤ a) (a1 : a < 4294967296) (x0 : 0 ≤ x) (x1 : x < 4294967296) (j0 : 0 ≤ jt) (j1 : jt < 256) (f0 : 0 ≤ jf) (f1 : jf < 256) (k0 : 0 ≤ k) (k1 : k < 4294967296) : Calls Tryd.prog 43 #[.pointer (some ⟨M, 0, none⟩), .int .u8 3, .agg #[.int .u16 36, .int .u8 jt, .int .u8 jf, .int .u32 k]] w (StepTo M (doI ⟨36, jt, jf, k⟩ d a x c) d st w) := by
    have hdo : doI ⟨36, jt, jf, k⟩ d a x c = .go ((a * k) % 4294967296) x c 0 := by kernel_rfl
    rw [hdo]
    exact (step_number jt jf k a x c d st M w 36 hm hG ((a * k) % 4294967296) x c false 0 (Lib.hid fun W hm hG => ln_mul d jt jf k a x c st false 0 M W hm hG a0 a1 x0 x1 k0 k1)).mono fun e w' h => ⟨h.2.2, h.1, h.2.1⟩
theorem st_c44 (jt jf k a x : Int) (c : Nat → Int) (M : Nat) (w : World) (d : Dat) (st : Int) (hd : d.Ok) (hm : ML w M a x c d st false 0) (hG : GW w) (a0 : 0 ≤ a) (a1 : a < 4294967296) (x0 : 0 ≤ x) (x1 : x < 4294967296) (j0 : 0 ≤ jt) (j1 : jt < 256) (f0 : 0 ≤ jf) (f1 : jf < 256) (k0 : 0 ≤ k) (k1 : k < 4294967296) : Calls Tryd.prog 43 #[.pointer (some ⟨M, 0, none⟩), .int .u8 3, .agg #[.int .u16 44, .int .u8 jt, .int .u8 jf, .int .u32 k]] w (StepTo M (doI ⟨44, jt, jf, k⟩ d a x c) d st w) := by
    have hdo : doI ⟨44, jt, jf, k⟩ d a x c = .go ((a * x) % 4294967296) x c 0 := by kernel_rfl
    rw [hdo]
    exact (step_number jt jf k a x c d st M w 44 hm hG ((a * x) % 4294967296) x c false 0 (Lib.hid fun W hm hG => ln_mulx d jt jf k a x c st false 0 M W hm hG a0 a1 x0 x1 k0 k1)).mono fun e w' h => ⟨h.2.2, h.1, h.2.1⟩
theorem st_c52 (jt jf k a x : Int) (c : Nat → Int) (M : Nat) (w : World) (d : Dat) (st : Int) (hd : d.Ok) (hm : ML w M a x c d st false 0) (hG : GW w) (a0 : 0 ≤ a) (a1 : a < 4294967296) (x0 : 0 ≤ x) (x1 : x < 4294967296) (j0 : 0 ≤ jt) (j1 : jt < 256) (f0 : 0 ≤ jf) (f1 : jf < 256) (k0 : 0 ≤ k) (k1 : k < 4294967296) : Calls Tryd.prog 43 #[.pointer (some ⟨M, 0, none⟩), .int .u8 3, .agg #[.int .u16 52, .int .u8 jt, .int .u8 jf, .int .u32 k]] w (StepTo M (doI ⟨52, jt, jf, k⟩ d a x c) d st w) := by
    have h0 : doI ⟨52, jt, jf, k⟩ d a x c = if (3 : Int) = 3 ∧ k = 0 then .bad 44 else (if ((3 : Int) = 6 ∨ (3 : Int) = 7) ∧ k > 31 then .bad 45 else .go (a / k) x c 0) := by kernel_rfl
    by_cases hb : k = 0
    · rw [h0, if_pos ⟨rfl, hb⟩]
      exact (step_number_bad jt jf k a x c d st M w 52 hm hG 44 (Lib.hid fun W hm hG => ln_div_0 d jt jf k a x c st false 0 M W hm hG a0 a1 x0 x1 k0 k1 hb)).mono fun e w' h => ⟨h.2.2, h.1, _, _, _, h.2.1⟩
    · rw [h0, if_neg (fun e => hb e.2)]
      rw [if_neg (fun e => by rcases e.1 with h | h <;> exact absurd h (by decide))]
      exact (step_number jt jf k a x c d st M w 52 hm hG (a / k) x c false 0 (Lib.hid fun W hm hG => ln_div d jt jf k a x c st false 0 M W hm hG a0 a1 x0 x1 k0 k1 (by omega))).mono fun e w' h => ⟨h.2.2, h.1, h.2.1⟩
theorem st_c60 (jt jf k a x : Int) (c : Nat → Int) (M : Nat) (w : World) (d : Dat) (st : Int) (hd : d.Ok) (hm : ML w M a x c d st false 0) (hG : GW w) (a0 : 0 ≤ a) (a1 : a < 4294967296) (x0 : 0 ≤ x) (x1 : x < 4294967296) (j0 : 0 ≤ jt) (j1 : jt < 256) (f0 : 0 ≤ jf) (f1 : jf < 256) (k0 : 0 ≤ k) (k1 : k < 4294967296) : Calls Tryd.prog 43 #[.pointer (some ⟨M, 0, none⟩), .int .u8 3, .agg #[.int .u16 60, .int .u8 jt, .int .u8 jf, .int .u32 k]] w (StepTo M (doI ⟨60, jt, jf, k⟩ d a x c) d st w) := by
    have h0 : doI ⟨60, jt, jf, k⟩ d a x c = if (3 : Int) = 3 ∧ x = 0 then .fin 0 else .go (a / x) x c 0 := by kernel_rfl
    by_cases hb : x = 0
    · rw [h0, if_pos ⟨rfl, hb⟩]
      exact (step_number jt jf k a x c d st M w 60 hm hG a x c true 0 (Lib.hid fun W hm hG => ln_divx_0 d jt jf k a x c st false 0 M W hm hG a0 a1 x0 x1 k0 k1 hb)).mono fun e w' h => ⟨h.2.2, h.1, _, _, _, h.2.1⟩
    · rw [h0, if_neg (fun e => hb e.2)]
      exact (step_number jt jf k a x c d st M w 60 hm hG (a / x) x c false 0 (Lib.hid fun W hm hG => ln_divx d jt jf k a x c st false 0 M W hm hG a0 a1 x0 x1 k0 k1 (by omega))).mono fun e w' h => ⟨h.2.2, h.1, h.2.1⟩
theorem st_c68 (jt jf k a x : Int) (c : Nat → Int) (M : Nat) (w : World) (d : Dat) (st : Int) (hd : d.Ok) (hm : ML w M a x c d st false 0) (hG : GW w) (a0 : 0 ≤ a) (a1 : a < 4294967296) (x0 : 0 ≤ x) (x1 : x < 4294967296) (j0 : 0 ≤ jt) (j1 : jt < 256) (f0 : 0 ≤ jf) (f1 : jf < 256) (k0 : 0 ≤ k) (k1 : k < 4294967296) : Calls Tryd.prog 43 #[.pointer (some ⟨M, 0, none⟩), .int .u8 3, .agg #[.int .u16 68, .int .u8 jt, .int .u8 jf, .int .u32 k]] w (StepTo M (doI ⟨68, jt, jf, k⟩ d a x c) d st w) := by
    have hdo : doI ⟨68, jt, jf, k⟩ d a x c = .go (bitsV (· ||| ·) a k) x c 0 := by kernel_rfl
    rw [hdo]
    exact (step_number jt jf k a x c d st M w 68 hm hG (bitsV (· ||| ·) a k) x c false 0 (Lib.hid fun W hm hG => ln_or d jt jf k a x c st false 0 M W hm hG a0 a1 x0 x1 k0 k1)).mono fun e w' h => ⟨h.2.2, h.1, h.2.1⟩
theorem st_c76 (jt jf k a x : Int) (c : Nat → Int) (M : Nat) (w : World) (d : Dat) (st : Int) (hd : d.Ok) (hm : ML w M a x c d st false 0) (hG : GW w) (a0 : 0 ≤ a) (a1 : a < 4294967296) (x0 : 0 ≤ x) (x1 : x < 4294967296) (j0 : 0 ≤ jt) (j1 : jt < 256) (f0 : 0 ≤ jf) (f1 : jf < 256) (k0 : 0 ≤ k) (k1 : k < 4294967296) : Calls Tryd.prog 43 #[.pointer (some ⟨M, 0, none⟩), .int .u8 3, .agg #[.int .u16 76, .int .u8 jt, .int .u8 jf, .int .u32 k]] w (StepTo M (doI ⟨76, jt, jf, k⟩ d a x c) d st w) := by
    have hdo : doI ⟨76, jt, jf, k⟩ d a x c = .go (bitsV (· ||| ·) a x) x c 0 := by kernel_rfl
    rw [hdo]
    exact (step_number jt jf k a x c d st M w 76 hm hG (bitsV (· ||| ·) a x) x c false 0 (Lib.hid fun W hm hG => ln_orx d jt jf k a x c st false 0 M W hm hG a0 a1 x0 x1 k0 k1)).mono fun e w' h => ⟨h.2.2, h.1, h.2.1⟩
theorem st_c84 (jt jf k a x : Int) (c : Nat → Int) (M : Nat) (w : World) (d : Dat) (st : Int) (hd : d.Ok) (hm : ML w M a x c d st false 0) (hG : GW w) (a0 : 0 ≤ a) (a1 : a < 4294967296) (x0 : 0 ≤ x) (x1 : x < 4294967296) (j0 : 0 ≤ jt) (j1 : jt < 256) (f0 : 0 ≤ jf) (f1 : jf < 256) (k0 : 0 ≤ k) (k1 : k < 4294967296) : Calls Tryd.prog 43 #[.pointer (some ⟨M, 0, none⟩), .int .u8 3, .agg #[.int .u16 84, .int .u8 jt, .int .u8 jf, .int .u32 k]] w (StepTo M (doI ⟨84, jt, jf, k⟩ d a x c) d st w) := by
    have hdo : doI ⟨84, jt, jf, k⟩ d a x c = .go (bitsV (· &&& ·) a k) x c 0 := by kernel_rfl
    rw [hdo]
    exact (step_number jt jf k a x c d st M w 84 hm hG (bitsV (· &&& ·) a k) x c false 0 (Lib.hid fun W hm hG => ln_and d jt jf k a x c st false 0 M W hm hG a0 a1 x0 x1 k0 k1)).mono fun e w' h => ⟨h.2.2, h.1, h.2.1⟩
theorem st_c92 (jt jf k a x : Int) (c : Nat → Int) (M : Nat) (w : World) (d : Dat) (st : Int) (hd : d.Ok) (hm : ML w M a x c d st false 0) (hG : GW w) (a0 : 0 ≤ a) (a1 : a < 4294967296) (x0 : 0 ≤ x) (x1 : x < 4294967296) (j0 : 0 ≤ jt) (j1 : jt < 256) (f0 : 0 ≤ jf) (f1 : jf < 256) (k0 : 0 ≤ k) (k1 : k < 4294967296) : Calls Tryd.prog 43 #[.pointer (some ⟨M, 0, none⟩), .int .u8 3, .agg #[.int .u16 92, .int .u8 jt, .int .u8 jf, .int .u32 k]] w (StepTo M (doI ⟨92, jt, jf, k⟩ d a x c) d st w) := by
    have hdo : doI ⟨92, jt, jf, k⟩ d a x c = .go (bitsV (· &&& ·) a x) x c 0 := by kernel_rfl
    rw [hdo]
    exact (step_number jt jf k a x c d st M w 92 hm hG (bitsV (· &&& ·) a x) x c false 0 (Lib.hid fun W hm hG => ln_andx d jt jf k a x c st false 0 M W hm hG a0 a1 x0 x1 k0 k1)).mono fun e w' h => ⟨h.2.2, h.1, h.2.1⟩
theorem st_c100 (jt jf k a x : Int) (c : Nat → Int) (M : Nat) (w : World) (d : Dat) (st : Int) (hd : d.Ok) (hm : ML w M a x c d st false 0) (hG : GW w) (a0 : 0 ≤ a) (a1 : a < 4294967296) (x0 : 0 ≤ x) (x1 : x < 4294967296) (j0 : 0 ≤ jt) (j1 : jt < 256) (f0 : 0 ≤ jf) (f1 : jf < 256) (k0 : 0 ≤ k) (k1 : k < 4294967296) : Calls Tryd.prog 43 #[.pointer (some ⟨M, 0, none⟩), .int .u8 3, .agg #[.int .u16 100, .int .u8 jt, .int .u8 jf, .int .u32 k]] w (StepTo M (doI ⟨100, jt, jf, k⟩ d a x c) d st w) := by
    have h0 : doI ⟨100, jt, jf, k⟩ d a x c = if (((6 : Int) = 6 ∨ (6 : Int) = 7) ∧ k > 31) then .bad 45 else .go ((a * 2 ^ (k % 32).toNat) % 4294967296) x c 0 := by kernel_rfl
    by_cases hb : 31 < k
    · rw [h0, if_pos ⟨by decide, hb⟩]
      exact (step_number_bad jt jf k a x c d st M w 100 hm hG 45 (Lib.hid fun W hm hG => ln_lsh_bad d jt jf k a x c st false 0 M W hm hG a0 a1 x0 x1 k0 k1 hb)).mono fun e w' h => ⟨h.2.2, h.1, _, _, _, h.2.1⟩
    · rw [h0, if_neg (fun e => hb e.2)]
      exact (step_number jt jf k a x c d st M w 100 hm hG ((a * 2 ^ (k % 32).toNat) % 4294967296) x c false 0 (Lib.hid fun W hm hG => ln_lsh d jt jf k a x c st false 0 M W hm hG a0 a1 x0 x1 k0 k1 hb)).mono fun e w' h => ⟨h.2.2, h.1, h.2.1⟩
theorem st_c108 (jt jf k a x : Int) (c : Nat → Int) (M : Nat) (w : World) (d : Dat) (st : Int) (hd : d.Ok) (hm : ML w M a x c d st false 0) (hG : GW w) (a0 : 0 ≤ a) (a1 : a < 4294967296) (x0 : 0 ≤ x) (x1 : x < 4294967296) (j0 : 0 ≤ jt) (j1 : jt < 256) (f0 : 0 ≤ jf) (f1 : jf < 256) (k0 : 0 ≤ k) (k1 : k < 4294967296) : Calls Tryd.prog 43 #[.pointer (some ⟨M, 0, none⟩), .int .u8 3, .agg #[.int .u16 108, .int .u8 jt, .int .u8 jf, .int .u32 k]] w (StepTo M (doI ⟨108, jt, jf, k⟩ d a x c) d st w) := by
    have hdo : doI ⟨108, jt, jf, k⟩ d a x c = .go ((a * 2 ^ (x % 32).toNat) % 4294967296) x c 0 := by kernel_rfl
    rw [hdo]
    exact (step_number jt jf k a x c d st M w 108 hm hG ((a * 2 ^ (x % 32).toNat) % 4294967296) x c false 0 (Lib.hid fun W hm hG => ln_lshx d jt jf k a x c st false 0 M W hm hG a0 a1 x0 x1 k0 k1)).mono fun e w' h => ⟨h.2.2, h.1, h.2.1⟩
theorem st_c116 (jt jf k a x : Int) (c : Nat → Int) (M : Nat) (w : World) (d : Dat) (st : Int) (hd : d.Ok) (hm : ML w M a x c d st false 0) (hG : GW w) (a0 : 0 ≤ a) (a1 : a < 4294967296) (x0 : 0 ≤ x) (x1 : x < 4294967296) (j0 : 0 ≤ jt) (j1 : jt < 256) (f0 : 0 ≤ jf) (f1 : jf < 256) (k0 : 0 ≤ k) (k1 : k < 4294967296) : Calls Tryd.prog 43 #[.pointer (some ⟨M, 0, none⟩), .int .u8 3, .agg #[.int .u16 116, .int .u8 jt, .int .u8 jf, .int .u32 k]] w (StepTo M (doI ⟨116, jt, jf, k⟩ d a x c) d st w) := by
    have h0 : doI ⟨116, jt, jf, k⟩ d a x c = if (((7 : Int) = 6 ∨ (7 : Int) = 7) ∧ k > 31) then .bad 45 else .go (a / 2 ^ (k % 32).toNat) x c 0 := by kernel_rfl
    by_cases hb : 31 < k
    · rw [h0, if_pos ⟨by decide, hb⟩]
      exact (step_number_bad jt jf k a x c d st M w 116 hm hG 45 (Lib.hid fun W hm hG => ln_rsh_bad d jt jf k a x c st false 0 M W hm hG a0 a1 x0 x1 k0 k1 hb)).mono fun e w' h => ⟨h.2.2, h.1, _, _, _, h.2.1⟩
    · rw [h0, if_neg (fun e => hb e.2)]
      exact (step_number jt jf k a x c d st M w 116 hm hG (a / 2 ^ (k % 32).toNat) x c false 0 (Lib.hid fun W hm hG => ln_rsh d jt jf k a x c st false 0 M W hm hG a0 a1 x0 x1 k0 k1 hb)).mono fun e w' h => ⟨h.2.2, h.1, h.2.1⟩
theorem st_c124 (jt jf k a x : Int) (c : Nat → Int) (M : Nat) (w : World) (d : Dat) (st : Int) (hd : d.Ok) (hm : ML w M a x c d st false 0) (hG : GW w) (a0 : 0 ≤ a) (a1 : a < 4294967296) (x0 : 0 ≤ x) (x1 : x < 4294967296) (j0 : 0 ≤ jt) (j1 : jt < 256) (f0 : 0 ≤ jf) (f1 : jf < 256) (k0 : 0 ≤ k) (k1 : k < 4294967296) : Calls Tryd.prog 43 #[.pointer (some ⟨M, 0, none⟩), .int .u8 3, .agg #[.int .u16 124, .int .u8 jt, .int .u8 jf, .int .u32 k]] w (StepTo M (doI ⟨124, jt, jf, k⟩ d a x c) d st w) := by
    have hdo : doI ⟨124, jt, jf, k⟩ d a x c = .go (a / 2 ^ (x % 32).toNat) x c 0 := by kernel_rfl
    rw [hdo]
    exact (step_number jt jf k a x c d st M w 124 hm hG (a / 2 ^ (x % 32).toNat) x c false 0 (Lib.hid fun W hm hG => ln_rshx d jt jf k a x c st false 0 M W hm hG a0 a1 x0 x1 k0 k1)).mono fun e w' h => ⟨h.2.2, h.1, h.2.1⟩
theorem st_c164 (jt jf k a x : Int) (c : Nat → Int) (M : Nat) (w : World) (d : Dat) (st : Int) (hd : d.Ok) (hm : ML w M a x c d st false 0) (hG : GW w) (a0 : 0 ≤ a) (a1 : a < 4294967296) (x0 : 0 ≤ x) (x1 : x < 4294967296) (j0 : 0 ≤ jt) (j1 : jt < 256) (f0 : 0 ≤ jf) (f1 : jf < 256) (k0 : 0 ≤ k) (k1 : k < 4294967296) : Calls Tryd.prog 43 #[.pointer (some ⟨M, 0, none⟩), .int .u8 3, .agg #[.int .u16 164, .int .u8 jt, .int .u8 jf, .int .u32 k]] w (StepTo M (doI ⟨164, jt, jf, k⟩ d a x c) d st w) := by
    have hdo : doI ⟨164, jt, jf, k⟩ d a x c = .go (bitsV (· ^^^ ·) a k) x c 0 := by kernel_rfl
    rw [hdo]
    exact (step_number jt jf k a x c d st M w 164 hm hG (bitsV (· ^^^ ·) a k) x c false 0 (Lib.hid fun W hm hG => ln_xor d jt jf k a x c st false 0 M W hm hG a0 a1 x0 x1 k0 k1)).mono fun e w' h => ⟨h.2.2, h.1, h.2.1⟩
theorem st_c172 (jt jf k a x : Int) (c : Nat → Int) (M : Nat) (w : World) (d : Dat) (st : Int) (hd : d.Ok) (hm : ML w M a x c d st false 0) (hG : GW w) (a0 : 0 ≤ a) (a1 : a < 4294967296) (x0 : 0 ≤ x) (x1 : x < 4294967296) (j0 : 0 ≤ jt) (j1 : jt < 256) (f0 : 0 ≤ jf) (f1 : jf < 256) (k0 : 0 ≤ k) (k1 : k < 4294967296) : Calls Tryd.prog 43 #[.pointer (some ⟨M, 0, none⟩), .int .u8 3, .agg #[.int .u16 172, .int .u8 jt, .int .u8 jf, .int .u32 k]] w (StepTo M (doI ⟨172, jt, jf, k⟩ d a x c) d st w) := by
    have hdo : doI ⟨172, jt, jf, k⟩ d a x c = .go (bitsV (· ^^^ ·) a x) x c 0 := by kernel_rfl
    rw [hdo]
    exact (step_number jt jf k a x c d st M w 172 hm hG (bitsV (· ^^^ ·) a x) x c false 0 (Lib.hid fun W hm hG => ln_xorx d jt jf k a x c st false 0 M W hm hG a0 a1 x0 x1 k0 k1)).mono fun e w' h => ⟨h.2.2, h.1, h.2.1⟩
theorem st_c21 (jt jf k a x : Int) (c : Nat → Int) (M : Nat) (w : World) (d : Dat) (st : Int) (hd : d.Ok) (hm : ML w M a x c d st false 0) (hG : GW w) (a0 : 0 ≤ a) (a1 : a < 4294967296) (x0 : 0 ≤ x) (x1 : x < 4294967296) (j0 : 0 ≤ jt) (j1 : jt < 256) (f0 : 0 ≤ jf) (f1 : jf < 256) (k0 : 0 ≤ k) (k1 : k < 4294967296) : Calls Tryd.prog 43 #[.pointer (some ⟨M, 0, none⟩), .int .u8 4, .agg #[.int .u16 21, .int .u8 jt, .int .u8 jf, .int .u32 k]] w (StepTo M (doI ⟨21, jt, jf, k⟩ d a x c) d st w) := by
    have h0 : doI ⟨21, jt, jf, k⟩ d a x c = .go a x c (if cmpV 1 a k then jt.toNat else jf.toNat) := by kernel_rfl
    have hj : ((jt.toNat : Nat) : Int) = jt := Int.toNat_of_nonneg j0
    have hf : ((jf.toNat : Nat) : Int) = jf := Int.toNat_of_nonneg f0
    cases h : cmpV 1 a k with
    | true =>
      rw [h0, h, if_pos rfl]
      exact (step_jump jt jf k a x c d st M w 21 hm hG jt (Lib.hid fun W hm hG => ljeq_y d jt jf k a x c st false 0 M W hm hG a0 a1 x0 x1 k0 k1 j0 j1 f0 f1 h)).mono fun e w' h => ⟨h.2.2, by rw [hj]; exact h.1, h.2.1⟩
    | false =>
      rw [h0, h, if_neg (by decide)]
      exact (step_jump jt jf k a x c d st M w 21 hm hG jf (Lib.hid fun W hm hG => ljeq_n d jt jf k a x c st false 0 M W hm hG a0 a1 x0 x1 k0 k1 j0 j1 f0 f1 h)).mono fun e w' h => ⟨h.2.2, by rw [hf]; exact h.1, h.2.1⟩
theorem st_c29 (jt jf k a x : Int) (c : Nat → Int) (M : Nat) (w : World) (d : Dat) (st : Int) (hd : d.Ok) (hm : ML w M a x c d st false 0) (hG : GW w) (a0 : 0 ≤ a) (a1 : a < 4294967296) (x0 : 0 ≤ x) (x1 : x < 4294967296) (j0 : 0 ≤ jt) (j1 : jt < 256) (f0 : 0 ≤ jf) (f1 : jf < 256) (k0 : 0 ≤ k) (k1 : k < 4294967296) : Calls Tryd.prog 43 #[.pointer (some ⟨M, 0, none⟩), .int .u8 4, .agg #[.int .u16 29, .int .u8 jt, .int .u8 jf, .int .u32 k]] w (StepTo M (doI ⟨29, jt, jf, k⟩ d a x c) d st w) := by
    have h0 : doI ⟨29, jt, jf, k⟩ d a x c = .go a x c (if cmpV 1 a x then jt.toNat else jf.toNat) := by kernel_rfl
    have hj : ((jt.toNat : Nat) : Int) = jt := Int.toNat_of_nonneg j0
    have hf : ((jf.toNat : Nat) : Int) = jf := Int.toNat_of_nonneg f0
    cases h : cmpV 1 a x with
    | true =>
      rw [h0, h, if_pos rfl]
      exact (step_jump jt jf k a x c d st M w 29 hm hG jt (Lib.hid fun W hm hG => ljeqx_y d jt jf k a x c st false 0 M W hm hG a0 a1 x0 x1 k0 k1 j0 j1 f0 f1 h)).mono fun e w' h => ⟨h.2.2, by rw [hj]; exact h.1, h.2.1⟩
    | false =>
      rw [h0, h, if_neg (by decide)]
      exact (step_jump jt jf k a x c d st M w 29 hm hG jf (Lib.hid fun W hm hG => ljeqx_n d jt jf k a x c st false 0 M W hm hG a0 a1 x0 x1 k0 k1 j0 j1 f0 f1 h)).mono fun e w' h => ⟨h.2.2, by rw [hf]; exact h.1, h.2.1⟩
theorem st_c37 (jt jf k a x : Int) (c : Nat → Int) (M : Nat) (w : World) (d : Dat) (st : Int) (hd : d.Ok) (hm : ML w M a x c d st false 0) (hG : GW w) (a0 : 0 ≤ a) (a1 : a < 4294967296) (x0 : 0 ≤ x) (x1 : x < 4294967296) (j0 : 0 ≤ jt) (j1 : jt < 256) (f0 : 0 ≤ jf) (f1 : jf < 256) (k0 : 0 ≤ k) (k1 : k < 4294967296) : Calls Tryd.prog 43 #[.pointer (some ⟨M, 0, none⟩), .int .u8 4, .agg #[.int .u16 37, .int .u8 jt, .int .u8 jf, .int .u32 k]] w (StepTo M (doI ⟨37, jt, jf, k⟩ d a x c) d st w) := by
    have h0 : doI ⟨37, jt, jf, k⟩ d a x c = .go a x c (if cmpV 2 a k then jt.toNat else jf.toNat) := by kernel_rfl
    have hj : ((jt.toNat : Nat) : Int) = jt := Int.toNat_of_nonneg j0
    have hf : ((jf.toNat : Nat) : Int) = jf := Int.toNat_of_nonneg f0
    cases h : cmpV 2 a k with
    | true =>
      rw [h0, h, if_pos rfl]
      exact (step_jump jt jf k a x c d st M w 37 hm hG jt (Lib.hid fun W hm hG => ljgt_y d jt jf k a x c st false 0 M W hm hG a0 a1 x0 x1 k0 k1 j0 j1 f0 f1 h)).mono fun e w' h => ⟨h.2.2, by rw [hj]; exact h.1, h.2.1⟩
    | false =>
      rw [h0, h, if_neg (by decide)]
      exact (step_jump jt jf k a x c d st M w 37 hm hG jf (Lib.hid fun W hm hG => ljgt_n d jt jf k a x c st false 0 M W hm hG a0 a1 x0 x1 k0 k1 j0 j1 f0 f1 h)).mono fun e w' h => ⟨h.2.2, by rw [hf]; exact h.1, h.2.1⟩
theorem st_c45 (jt jf k a x : Int) (c : Nat → Int) (M : Nat) (w : World) (d : Dat) (st : Int) (hd : d.Ok) (hm : ML w M a x c d st false 0) (hG : GW w) (a0 : 0 ≤ a) (a1 : a < 4294967296) (x0 : 0 ≤ x) (x1 : x < 4294967296) (j0 : 0 ≤ jt) (j1 : jt < 256) (f0 : 0 ≤ jf) (f1 : jf < 256) (k0 : 0 ≤ k) (k1 : k < 4294967296) : Calls Tryd.prog 43 #[.pointer (some ⟨M, 0, none⟩), .int .u8 4, .agg #[.int .u16 45, .int .u8 jt, .int .u8 jf, .int .u32 k]] w (StepTo M (doI ⟨45, jt, jf, k⟩ d a x c) d st w) := by
    have h0 : doI ⟨45, jt, jf, k⟩ d a x c = .go a x c (if cmpV 2 a x then jt.toNat else jf.toNat) := by kernel_rfl
    have hj : ((jt.toNat : Nat) : Int) = jt := Int.toNat_of_nonneg j0
    have hf : ((jf.toNat : Nat) : Int) = jf := Int.toNat_of_nonneg f0
    cases h : cmpV 2 a x with
    | true =>
      rw [h0, h, if_pos rfl]
      exact (step_jump jt jf k a x c d st M w 45 hm hG jt (Lib.hid fun W hm hG => ljgtx_y d jt jf k a x c st false 0 M W hm hG a0 a1 x0 x1 k0 k1 j0 j1 f0 f1 h)).mono fun e w' h => ⟨h.2.2, by rw [hj]; exact h.1, h.2.1⟩
    | false =>
      rw [h0, h, if_neg (by decide)]
      exact (step_jump jt jf k a x c d st M w 45 hm hG jf (Lib.hid fun W hm hG => ljgtx_n d jt jf k a x c st false 0 M W hm hG a0 a1 x0 x1 k0 k1 j0 j1 f0 f1 h)).mono fun e w' h => ⟨h.2.2, by rw [hf]; exact h.1, h.2.1⟩
theorem st_c53 (jt jf k a x : Int) (c : Nat → Int) (M : Nat) (w : World) (d : Dat) (st : Int) (hd : d.Ok) (hm : ML w M a x c d st false 0) (hG : GW w) (a0 : 0 ≤ a) (a1 : a < 4294967296) (x0 : 0 ≤ x) (x1 : x < 4294967296) (j0 : 0 ≤ jt) (j1 : jt < 256) (f0 : 0 ≤ jf) (f1 : jf < 256) (k0 : 0 ≤ k) (k1 : k < 4294967296) : Calls Tryd.prog 43 #[.pointer (some ⟨M, 0, none⟩), .int .u8 4, .agg #[.int .u16 53, .int .u8 jt, .int .u8 jf, .int .u32 k]] w (StepTo M (doI ⟨53, jt, jf, k⟩ d a x c) d st w) := by
    have h0 : doI ⟨53, jt, jf, k⟩ d a x c = .go a x c (if cmpV 3 a k then jt.toNat else jf.toNat) := by kernel_rfl
    have hj : ((jt.toNat : Nat) : Int) = jt := Int.toNat_of_nonneg j0
    have hf : ((jf.toNat : Nat) : Int) = jf := Int.toNat_of_nonneg f0
    cases h : cmpV 3 a k with
    | true =>
      rw [h0, h, if_pos rfl]
      exact (step_jump jt jf k a x c d st M w 53 hm hG jt (Lib.hid fun W hm hG => ljge_y d jt jf k a x c st false 0 M W hm hG a0 a1 x0 x1 k0 k1 j0 j1 f0 f1 h)).mono fun e w' h => ⟨h.2.2, by rw [hj]; exact h.1, h.2.1⟩
    | false =>
      rw [h0, h, if_neg (by decide)]
      exact (step_jump jt jf k a x c d st M w 53 hm hG jf (Lib.hid fun W hm hG => ljge_n d jt jf k a x c st false 0 M W hm hG a0 a1 x0 x1 k0 k1 j0 j1 f0 f1 h)).mono fun e w' h => ⟨h.2.2, by rw [hf]; exact h.1, h.2.1⟩
theorem st_c61 (jt jf k a x : Int) (c : Nat → Int) (M : Nat) (w : World) (d : Dat) (st : Int) (hd : d.Ok) (hm : ML w M a x c d st false 0) (hG : GW w) (a0 : 0 ≤ a) (a1 : a < 4294967296) (x0 : 0 ≤ x) (x1 : x < 4294967296) (j0 : 0 ≤ jt) (j1 : jt < 256) (f0 : 0 ≤ jf) (f1 : jf < 256) (k0 : 0 ≤ k) (k1 : k < 4294967296) : Calls Tryd.prog 43 #[.pointer (some ⟨M, 0, none⟩), .int .u8 4, .agg #[.int .u16 61, .int .u8 jt, .int .u8 jf, .int .u32 k]] w (StepTo M (doI ⟨61, jt, jf, k⟩ d a x c) d st w) := by
    have h0 : doI ⟨61, jt, jf, k⟩ d a x c = .go a x c (if cmpV 3 a x then jt.toNat else jf.toNat) := by kernel_rfl
    have hj : ((jt.toNat : Nat) : Int) = jt := Int.toNat_of_nonneg j0
    have hf : ((jf.toNat : Nat) : Int) = jf := Int.toNat_of_nonneg f0
    cases h : cmpV 3 a x with
    | true =>
      rw [h0, h, if_pos rfl]
      exact (step_jump jt jf k a x c d st M w 61 hm hG jt (Lib.hid fun W hm hG => ljgex_y d jt jf k a x c st false 0 M W hm hG a0 a1 x0 x1 k0 k1 j0 j1 f0 f1 h)).mono fun e w' h => ⟨h.2.2, by rw [hj]; exact h.1, h.2.1⟩
    | false =>
      rw [h0, h, if_neg (by decide)]
      exact (step_jump jt jf k a x c d st M w 61 hm hG jf (Lib.hid fun W hm hG => ljgex_n d jt jf k a x c st false 0 M W hm hG a0 a1 x0 x1 k0 k1 j0 j1 f0 f1 h)).mono fun e w' h => ⟨h.2.2, by rw [hf]; exact h.1, h.2.1⟩
theorem st_c69 (jt jf k a x : Int) (c : Nat → Int) (M : Nat) (w : World) (d : Dat) (st : Int) (hd : d.Ok) (hm : ML w M a x c d st false 0) (hG : GW w) (a0 : 0 ≤ a) (a1 : a < 4294967296) (x0 : 0 ≤ x) (x1 : x < 4294967296) (j0 : 0 ≤ jt) (j1 : jt < 256) (f0 : 0 ≤ jf) (f1 : jf < 256) (k0 : 0 ≤ k) (k1 : k < 4294967296) : Calls Tryd.prog 43 #[.pointer (some ⟨M, 0, none⟩), .int .u8 4, .agg #[.int .u16 69, .int .u8 jt, .int .u8 jf, .int .u32 k]] w (StepTo M (doI ⟨69, jt, jf, k⟩ d a x c) d st w) := by
    have h0 : doI ⟨69, jt, jf, k⟩ d a x c = .go a x c (if cmpV 4 a k then jt.toNat else jf.toNat) := by kernel_rfl
    have hj : ((jt.toNat : Nat) : Int) = jt := Int.toNat_of_nonneg j0
    have hf : ((jf.toNat : Nat) : Int) = jf := Int.toNat_of_nonneg f0
    cases h : cmpV 4 a k with
    | true =>
      rw [h0, h, if_pos rfl]
      exact (step_jump jt jf k a x c d st M w 69 hm hG jt (Lib.hid fun W hm hG => ljset_y d jt jf k a x c st false 0 M W hm hG a0 a1 x0 x1 k0 k1 j0 j1 f0 f1 h)).mono fun e w' h => ⟨h.2.2, by rw [hj]; exact h.1, h.2.1⟩
    | false =>
      rw [h0, h, if_neg (by decide)]
      exact (step_jump jt jf k a x c d st M w 69 hm hG jf (Lib.hid fun W hm hG => ljset_n d jt jf k a x c st false 0 M W hm hG a0 a1 x0 x1 k0 k1 j0 j1 f0 f1 h)).mono fun e w' h => ⟨h.2.2, by rw [hf]; exact h.1, h.2.1⟩
theorem st_c77 (jt jf k a x : Int) (c : Nat → Int) (M : Nat) (w : World) (d : Dat) (st : Int) (hd : d.Ok) (hm : ML w M a x c d st false 0) (hG : GW w) (a0 : 0 ≤ a) (a1 : a < 4294967296) (x0 : 0 ≤ x) (x1 : x < 4294967296) (j0 : 0 ≤ jt) (j1 : jt < 256) (f0 : 0 ≤ jf) (f1 : jf < 256) (k0 : 0 ≤ k) (k1 : k < 4294967296) : Calls Tryd.prog 43 #[.pointer (some ⟨M, 0, none⟩), .int .u8 4, .agg #[.int .u16 77, .int .u8 jt, .int .u8 jf, .int .u32 k]] w (StepTo M (doI ⟨77, jt, jf, k⟩ d a x c) d st w) := by
    have h0 : doI ⟨77, jt, jf, k⟩ d a x c = .go a x c (if cmpV 4 a x then jt.toNat else jf.toNat) := by kernel_rfl
    have hj : ((jt.toNat : Nat) : Int) = jt := Int.toNat_of_nonneg j0
    have hf : ((jf.toNat : Nat) : Int) = jf := Int.toNat_of_nonneg f0
    cases h : cmpV 4 a x with
    | true =>
      rw [h0, h, if_pos rfl]
      exact (step_jump jt jf k a x c d st M w 77 hm hG jt (Lib.hid fun W hm hG => ljsetx_y d jt jf k a x c st false 0 M W hm hG a0 a1 x0 x1 k0 k1 j0 j1 f0 f1 h)).mono fun e w' h => ⟨h.2.2, by rw [hj]; exact h.1, h.2.1⟩
    | false =>
      rw [h0, h, if_neg (by decide)]
      exact (step_jump jt jf k a x c d st M w 77 hm hG jf (Lib.hid fun W hm hG => ljsetx_n d jt jf k a x c st false 0 M W hm hG a0 a1 x0 x1 k0 k1 j0 j1 f0 f1 h)).mono fun e w' h => ⟨h.2.2, by rw [hf]; exact h.1, h.2.1⟩
theorem cls_unknown {c : Int} (h : knownB c = false) : (ofL allL c).cls = 0 := by
  rcases ofL_in allL c with h1 | ⟨o, h1, h2, _⟩
  · rw [h1]; rfl
  · exfalso
    have hm : c ∈ vmCodes := by
      have e : allL.map One.code = vmCodes := by kernel_rfl
      rw [← e, ← h2]
      exact List.mem_map.2 ⟨o, h1, rfl⟩
    rw [code_known hm] at h; cases h
theorem lStep (i : Ins) (hi : i.Ok) (d : Dat) (hd : d.Ok) (a x : Int) (c : Nat → Int) (ok : OkM a x c) (st : Int) (M : Nat) (w : World) (hm : ML w M a x c d st false 0) (hG : GW w) :
    Calls Tryd.prog 43 #[.pointer (some ⟨M, 0, none⟩), .int .u8 (ofL allL i.c).cls, .agg #[.int .u16 i.c, .int .u8 i.jt, .int .u8 i.jf, .int .u32 i.k]] w (StepTo M (doI i d a x c) d st w) := by
  cases hk : knownB i.c with
  | false =>
    rw [doI_unknown hi hk, cls_unknown hk]
    exact (step_none i.jt i.jf i.k a x c d st M w i.c hm hG).mono fun e w' h => ⟨h.2.2, h.1, _, _, _, h.2.1⟩
  | true =>
    have hc := known_code hk
    obtain ⟨cd, jt, jf, k⟩ := i
    obtain ⟨c0, c1, t0, t1, f0, f1, k0, k1⟩ := hi
    obtain ⟨⟨a0, a1⟩, ⟨x0, x1⟩, _⟩ := ok
    simp only at c0 c1 t0 t1 f0 f1 k0 k1 hc hk ⊢
    simp only [vmCodes, List.mem_cons, List.not_mem_nil, or_false] at hc
    rcases hc with rfl | rfl | rfl | rfl | rfl | rfl | rfl | rfl | rfl | rfl | rfl | rfl | rfl | rfl | rfl | rfl | rfl | rfl | rfl | rfl | rfl | rfl | rfl | rfl | rfl | rfl | rfl | rfl | rfl | rfl | rfl | rfl | rfl | rfl | rfl | rfl | rfl | rfl | rfl | rfl | rfl
    · exact st_c32 jt jf k a x _ M w d st hd hm hG a0 a1 x0 x1 t0 t1 f0 f1 k0 k1
    · exact st_c128 jt jf k a x _ M w d st hd hm hG a0 a1 x0 x1 t0 t1 f0 f1 k0 k1
    · exact st_c0 jt jf k a x _ M w d st hd hm hG a0 a1 x0 x1 t0 t1 f0 f1 k0 k1
    · exact st_c96 jt jf k a x _ M w d st hd hm hG a0 a1 x0 x1 t0 t1 f0 f1 k0 k1
    · exact st_c129 jt jf k a x _ M w d st hd hm hG a0 a1 x0 x1 t0 t1 f0 f1 k0 k1
    · exact st_c1 jt jf k a x _ M w d st hd hm hG a0 a1 x0 x1 t0 t1 f0 f1 k0 k1
    · exact st_c97 jt jf k a x _ M w d st hd hm hG a0 a1 x0 x1 t0 t1 f0 f1 k0 k1
    · exact st_c2 jt jf k a x _ M w d st hd hm hG a0 a1 x0 x1 t0 t1 f0 f1 k0 k1
    · exact st_c3 jt jf k a x _ M w d st hd hm hG a0 a1 x0 x1 t0 t1 f0 f1 k0 k1
    · exact st_c132 jt jf k a x _ M w d st hd hm hG a0 a1 x0 x1 t0 t1 f0 f1 k0 k1
    · exact st_c5 jt jf k a x _ M w d st hd hm hG a0 a1 x0 x1 t0 t1 f0 f1 k0 k1
    · exact st_c6 jt jf k a x _ M w d st hd hm hG a0 a1 x0 x1 t0 t1 f0 f1 k0 k1
    · exact st_c22 jt jf k a x _ M w d st hd hm hG a0 a1 x0 x1 t0 t1 f0 f1 k0 k1
    · exact st_c7 jt jf k a x _ M w d st hd hm hG a0 a1 x0 x1 t0 t1 f0 f1 k0 k1
    · exact st_c135 jt jf k a x _ M w d st hd hm hG a0 a1 x0 x1 t0 t1 f0 f1 k0 k1
    · exact st_c4 jt jf k a x _ M w d st hd hm hG a0 a1 x0 x1 t0 t1 f0 f1 k0 k1
    · exact st_c12 jt jf k a x _ M w d st hd hm hG a0 a1 x0 x1 t0 t1 f0 f1 k0 k1
    · exact st_c20 jt jf k a x _ M w d st hd hm hG a0 a1 x0 x1 t0 t1 f0 f1 k0 k1
    · exact st_c28 jt jf k a x _ M w d st hd hm hG a0 a1 x0 x1 t0 t1 f0 f1 k0 k1
    · exact st_c36 jt jf k a x _ M w d st hd hm hG a0 a1 x0 x1 t0 t1 f0 f1 k0 k1
    · exact st_c44 jt jf k a x _ M w d st hd hm hG a0 a1 x0 x1 t0 t1 f0 f1 k0 k1
    · exact st_c52 jt jf k a x _ M w d st hd hm hG a0 a1 x0 x1 t0 t1 f0 f1 k0 k1
    · exact st_c60 jt jf k a x _ M w d st hd hm hG a0 a1 x0 x1 t0 t1 f0 f1 k0 k1
    · exact st_c68 jt jf k a x _ M w d st hd hm hG a0 a1 x0 x1 t0 t1 f0 f1 k0 k1
    · exact st_c76 jt jf k a x _ M w d st hd hm hG a0 a1 x0 x1 t0 t1 f0 f1 k0 k1
    · exact st_c84 jt jf k a x _ M w d st hd hm hG a0 a1 x0 x1 t0 t1 f0 f1 k0 k1
    · exact st_c92 jt jf k a x _ M w d st hd hm hG a0 a1 x0 x1 t0 t1 f0 f1 k0 k1
    · exact st_c100 jt jf k a x _ M w d st hd hm hG a0 a1 x0 x1 t0 t1 f0 f1 k0 k1
    · exact st_c108 jt jf k a x _ M w d st hd hm hG a0 a1 x0 x1 t0 t1 f0 f1 k0 k1
    · exact st_c116 jt jf k a x _ M w d st hd hm hG a0 a1 x0 x1 t0 t1 f0 f1 k0 k1
    · exact st_c124 jt jf k a x _ M w d st hd hm hG a0 a1 x0 x1 t0 t1 f0 f1 k0 k1
    · exact st_c164 jt jf k a x _ M w d st hd hm hG a0 a1 x0 x1 t0 t1 f0 f1 k0 k1
    · exact st_c172 jt jf k a x _ M w d st hd hm hG a0 a1 x0 x1 t0 t1 f0 f1 k0 k1
    · exact st_c21 jt jf k a x _ M w d st hd hm hG a0 a1 x0 x1 t0 t1 f0 f1 k0 k1
    · exact st_c29 jt jf k a x _ M w d st hd hm hG a0 a1 x0 x1 t0 t1 f0 f1 k0 k1
    · exact st_c37 jt jf k a x _ M w d st hd hm hG a0 a1 x0 x1 t0 t1 f0 f1 k0 k1
    · exact st_c45 jt jf k a x _ M w d st hd hm hG a0 a1 x0 x1 t0 t1 f0 f1 k0 k1
    · exact st_c53 jt jf k a x _ M w d st hd hm hG a0 a1 x0 x1 t0 t1 f0 f1 k0 k1
    · exact st_c61 jt jf k a x _ M w d st hd hm hG a0 a1 x0 x1 t0 t1 f0 f1 k0 k1
    · exact st_c69 jt jf k a x _ M w d st hd hm hG a0 a1 x0 x1 t0 t1 f0 f1 k0 k1
    · exact st_c77 jt jf k a x _ M w d st hd hm hG a0 a1 x0 x1 t0 t1 f0 f1 k0 k1
end Go.Proofs.YthhfpehngdohhaaDoor
namespace Go.Proofs.YthhfpehngdohhaaDoor
open Go.RowKit
set_option linter.unusedVariables false

theorem ta_some (r : Int) (w : World) : Sem.run Tryd.prog (Instr.typeAssert (.iface 58 (.int .i64 r)) 20 58 true) w = .ok (.tuple #[.int .i64 r, .bool true]) w := by kernel_rfl
theorem ta_none (w : World) : Sem.run Tryd.prog (Instr.typeAssert .nilIface 20 58 true) w = .ok (.tuple #[.int .i64 0, .bool false]) w := by kernel_rfl
set_option maxHeartbeats 4000000 in
set_option maxRecDepth 100000 in
theorem catch_pan (p : Addr) (x r : Int) (w : World) (hc : w.cell? p = some (.int .i64 x)) (hz : w.frozen? p = false) :
    CallsD Tryd.prog 40 #[.pointer (some p)] (.panicking [{ v := .iface 58 (.int .i64 r), recovered := false }]) w fun e u' w' =>
      e = .returned (.tuple #[]) ∧ u' = .panicking [{ v := .iface 58 (.int .i64 r), recovered := true }] ∧ w' = w.setCell p (.int .i64 r) := by
  refine callsD_of_wpS Tryd.func40 rfl fun c₀ cs hu => ?_
  apply wpS_seq
  apply wpS_region
  simp [wpOpsS, go_sem, recoverD, hu, Tryd.ntmps40, Exit.thenS, ta_some]
  apply wpS_seq
  apply wpS_region
  simp [wpOpsS, go_sem, Exit.thenS]
  refine wpS_cond (t := true) (by simp [Act.eval, Array.replicate]) ?_
  simp only [if_true]
  apply wpS_region
  simp [wpOpsS, go_sem, hc, hz, bodyPostS, results, Tryd.results40, Array.replicate]
theorem catch_idle (p : Addr) (w : World) :
    CallsD Tryd.prog 40 #[.pointer (some p)] .returning w fun e u' w' => e = .returned (.tuple #[]) ∧ u' = .returning ∧ w' = w := by
  refine callsD_of_wpS Tryd.func40 rfl fun c₀ cs hu => ?_
  apply wpS_seq
  apply wpS_region
  simp [wpOpsS, go_sem, recoverD, hu, Tryd.ntmps40, Exit.thenS, ta_none]
  apply wpS_seq
  apply wpS_region
  simp [wpOpsS, go_sem, Exit.thenS]
  refine wpS_cond (t := false) (by simp [Act.eval, Array.replicate]) ?_
  simp only [Bool.false_eq_true, if_false]
  refine wpS_of_wp (wp_skip ?_)
  cases c₀
  simp_all [bodyPostS, results, Tryd.results40]
end Go.Proofs.YthhfpehngdohhaaDoor
