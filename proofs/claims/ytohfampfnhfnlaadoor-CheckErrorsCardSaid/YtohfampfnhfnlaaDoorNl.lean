/- What the landed machine's step makes of an instruction, by its class. Condition: the table lies in the package's variable. What the landed machine's step makes of any instruction: as the plain function says. Condition: numbers below 2 to the 32nd; the table lies in the package's variable. What the landed run's deferred function makes of a panic, and of none. What the landed run returns: what the plain function says, whatever the function that visits does with its own memory. Condition: a program of at most a thousand instructions; the table lies in the package's variable. -/
import Derived.Test.YtohfampfnhfnlaaDoorNa
import Derived.Test.YtohfampfnhfnlaaDoorNf
import Derived.Test.YtohfampfnhfnlaaDoorNg
import Derived.Test.YtohfampfnhfnlaaDoorNh
import Derived.Test.YtohfampfnhfnlaaDoorNi
import Derived.Test.YtohfampfnhfnlaaDoorNj
import Derived.Test.YtohfampfnhfnlaaDoorNk
import Derived.Defers
import Derived.Recover
namespace Go.Proofs.YtohfampfnhfnlaaDoor
open Go.RowKit
set_option linter.unusedVariables false
attribute [local go_sem ↓] Go.wp_at_zero Go.wp_at_succ

set_option maxRecDepth 100000 in
set_option maxHeartbeats 4000000 in
theorem step_load (jt jf k a x : Int) (c : Nat → Int) (d : Dat) (st : Int) (M : Nat) (w : World) (cd : Int) (hm : ML w M a x c d st false 0) (hG : GW w) (a' x' : Int) (c' : Nat → Int) (ov : Bool) (an : Int)
    (HL : Hid (∀ W : World, ML W M a x c d st false 0 → GW W → Calls Tryd.prog 72 #[.pointer (some ⟨M, 0, none⟩), .agg #[.int .u16 cd, .int .u8 jt, .int .u8 jf, .int .u32 k]] W (LdTo M a' x' c' d st ov an W))) :
    Calls Tryd.prog 51 #[.pointer (some ⟨M, 0, none⟩), .int .u8 1, .agg #[.int .u16 cd, .int .u8 jt, .int .u8 jf, .int .u32 k]] w fun e w' => e = .returned (.int .u32 0) ∧ ML w' M a' x' c' d st ov an ∧ w.grownBy w' (some M) := by
  have HM := Lib.hid (hm.al (.cells #[.int .u16 cd, .int .u8 jt, .int .u8 jf, .int .u32 k] 35))
  have HG := Lib.hid (hG.alloc (.cells #[.int .u16 cd, .int .u8 jt, .int .u8 jf, .int .u32 k] 35))
  clear hm hG
  go_enter Tryd.func51, Tryd.ntmps51
  go_wp2_with (go_at_call 72; ((with_reducible refine (HL.out _ HM.out HG.out).mono ?_); rintro e w1 ⟨rfl, hm1, g1⟩))
  go_ret
  exact ⟨rfl, hm1, (of_alloc w _ _).trans g1⟩
set_option maxRecDepth 100000 in
set_option maxHeartbeats 4000000 in
theorem step_load_bad (jt jf k a x : Int) (c : Nat → Int) (d : Dat) (st : Int) (M : Nat) (w : World) (cd : Int) (hm : ML w M a x c d st false 0) (hG : GW w) (r : Int)
    (HL : Hid (∀ W : World, ML W M a x c d st false 0 → GW W → Calls Tryd.prog 72 #[.pointer (some ⟨M, 0, none⟩), .agg #[.int .u16 cd, .int .u8 jt, .int .u8 jf, .int .u32 k]] W (LdBad r M a x c d st false 0 W))) :
    Calls Tryd.prog 51 #[.pointer (some ⟨M, 0, none⟩), .int .u8 1, .agg #[.int .u16 cd, .int .u8 jt, .int .u8 jf, .int .u32 k]] w fun e w' => e = Pan r ∧ ML w' M a x c d st false 0 ∧ w.grownBy w' (some M) := by
  have HM := Lib.hid (hm.al (.cells #[.int .u16 cd, .int .u8 jt, .int .u8 jf, .int .u32 k] 35))
  have HG := Lib.hid (hG.alloc (.cells #[.int .u16 cd, .int .u8 jt, .int .u8 jf, .int .u32 k] 35))
  clear hm hG
  go_enter Tryd.func51, Tryd.ntmps51
  go_wp2_with (go_at_call 72; ((with_reducible refine (HL.out _ HM.out HG.out).mono ?_); rintro e w1 ⟨rfl, hm1, g1⟩))
  exact ⟨rfl, rfl, hm1, (of_alloc w _ _).trans g1⟩
set_option maxRecDepth 100000 in
set_option maxHeartbeats 4000000 in
theorem step_store (jt jf k a x : Int) (c : Nat → Int) (d : Dat) (st : Int) (M : Nat) (w : World) (cd : Int) (hm : ML w M a x c d st false 0) (hG : GW w) (a' x' : Int) (c' : Nat → Int) (ov : Bool) (an : Int)
    (HL : Hid (∀ W : World, ML W M a x c d st false 0 → GW W → Calls Tryd.prog 73 #[.pointer (some ⟨M, 0, none⟩), .agg #[.int .u16 cd, .int .u8 jt, .int .u8 jf, .int .u32 k]] W (LdTo M a' x' c' d st ov an W))) :
    Calls Tryd.prog 51 #[.pointer (some ⟨M, 0, none⟩), .int .u8 2, .agg #[.int .u16 cd, .int .u8 jt, .int .u8 jf, .int .u32 k]] w fun e w' => e = .returned (.int .u32 0) ∧ ML w' M a' x' c' d st ov an ∧ w.grownBy w' (some M) := by
  have HM := Lib.hid (hm.al (.cells #[.int .u16 cd, .int .u8 jt, .int .u8 jf, .int .u32 k] 35))
  have HG := Lib.hid (hG.alloc (.cells #[.int .u16 cd, .int .u8 jt, .int .u8 jf, .int .u32 k] 35))
  clear hm hG
  go_enter Tryd.func51, Tryd.ntmps51
  go_wp2_with (go_at_call 73; ((with_reducible refine (HL.out _ HM.out HG.out).mono ?_); rintro e w1 ⟨rfl, hm1, g1⟩))
  go_ret
  exact ⟨rfl, hm1, (of_alloc w _ _).trans g1⟩
set_option maxRecDepth 100000 in
set_option maxHeartbeats 4000000 in
theorem step_store_bad (jt jf k a x : Int) (c : Nat → Int) (d : Dat) (st : Int) (M : Nat) (w : World) (cd : Int) (hm : ML w M a x c d st false 0) (hG : GW w) (r : Int)
    (HL : Hid (∀ W : World, ML W M a x c d st false 0 → GW W → Calls Tryd.prog 73 #[.pointer (some ⟨M, 0, none⟩), .agg #[.int .u16 cd, .int .u8 jt, .int .u8 jf, .int .u32 k]] W (LdBad r M a x c d st false 0 W))) :
    Calls Tryd.prog 51 #[.pointer (some ⟨M, 0, none⟩), .int .u8 2, .agg #[.int .u16 cd, .int .u8 jt, .int .u8 jf, .int .u32 k]] w fun e w' => e = Pan r ∧ ML w' M a x c d st false 0 ∧ w.grownBy w' (some M) := by
  have HM := Lib.hid (hm.al (.cells #[.int .u16 cd, .int .u8 jt, .int .u8 jf, .int .u32 k] 35))
  have HG := Lib.hid (hG.alloc (.cells #[.int .u16 cd, .int .u8 jt, .int .u8 jf, .int .u32 k] 35))
  clear hm hG
  go_enter Tryd.func51, Tryd.ntmps51
  go_wp2_with (go_at_call 73; ((with_reducible refine (HL.out _ HM.out HG.out).mono ?_); rintro e w1 ⟨rfl, hm1, g1⟩))
  exact ⟨rfl, rfl, hm1, (of_alloc w _ _).trans g1⟩
set_option maxRecDepth 100000 in
set_option maxHeartbeats 4000000 in
theorem step_number (jt jf k a x : Int) (c : Nat → Int) (d : Dat) (st : Int) (M : Nat) (w : World) (cd : Int) (hm : ML w M a x c d st false 0) (hG : GW w) (a' x' : Int) (c' : Nat → Int) (ov : Bool) (an : Int)
    (HL : Hid (∀ W : World, ML W M a x c d st false 0 → GW W → Calls Tryd.prog 74 #[.pointer (some ⟨M, 0, none⟩), .agg #[.int .u16 cd, .int .u8 jt, .int .u8 jf, .int .u32 k]] W (LdTo M a' x' c' d st ov an W))) :
    Calls Tryd.prog 51 #[.pointer (some ⟨M, 0, none⟩), .int .u8 3, .agg #[.int .u16 cd, .int .u8 jt, .int .u8 jf, .int .u32 k]] w fun e w' => e = .returned (.int .u32 0) ∧ ML w' M a' x' c' d st ov an ∧ w.grownBy w' (some M) := by
  have HM := Lib.hid (hm.al (.cells #[.int .u16 cd, .int .u8 jt, .int .u8 jf, .int .u32 k] 35))
  have HG := Lib.hid (hG.alloc (.cells #[.int .u16 cd, .int .u8 jt, .int .u8 jf, .int .u32 k] 35))
  clear hm hG
  go_enter Tryd.func51, Tryd.ntmps51
  go_wp2_with (go_at_call 74; ((with_reducible refine (HL.out _ HM.out HG.out).mono ?_); rintro e w1 ⟨rfl, hm1, g1⟩))
  go_ret
  exact ⟨rfl, hm1, (of_alloc w _ _).trans g1⟩
set_option maxRecDepth 100000 in
set_option maxHeartbeats 4000000 in
theorem step_number_bad (jt jf k a x : Int) (c : Nat → Int) (d : Dat) (st : Int) (M : Nat) (w : World) (cd : Int) (hm : ML w M a x c d st false 0) (hG : GW w) (r : Int)
    (HL : Hid (∀ W : World, ML W M a x c d st false 0 → GW W → Calls Tryd.prog 74 #[.pointer (some ⟨M, 0, none⟩), .agg #[.int .u16 cd, .int .u8 jt, .int .u8 jf, .int .u32 k]] W (LdBad r M a x c d st false 0 W))) :
    Calls Tryd.prog 51 #[.pointer (some ⟨M, 0, none⟩), .int .u8 3, .agg #[.int .u16 cd, .int .u8 jt, .int .u8 jf, .int .u32 k]] w fun e w' => e = Pan r ∧ ML w' M a x c d st false 0 ∧ w.grownBy w' (some M) := by
  have HM := Lib.hid (hm.al (.cells #[.int .u16 cd, .int .u8 jt, .int .u8 jf, .int .u32 k] 35))
  have HG := Lib.hid (hG.alloc (.cells #[.int .u16 cd, .int .u8 jt, .int .u8 jf, .int .u32 k] 35))
  clear hm hG
  go_enter Tryd.func51, Tryd.ntmps51
  go_wp2_with (go_at_call 74; ((with_reducible refine (HL.out _ HM.out HG.out).mono ?_); rintro e w1 ⟨rfl, hm1, g1⟩))
  exact ⟨rfl, rfl, hm1, (of_alloc w _ _).trans g1⟩
set_option maxRecDepth 100000 in
set_option maxHeartbeats 4000000 in
theorem step_finish (jt jf k a x : Int) (c : Nat → Int) (d : Dat) (st : Int) (M : Nat) (w : World) (cd : Int) (hm : ML w M a x c d st false 0) (hG : GW w) (a' x' : Int) (c' : Nat → Int) (ov : Bool) (an : Int)
    (HL : Hid (∀ W : World, ML W M a x c d st false 0 → GW W → Calls Tryd.prog 76 #[.pointer (some ⟨M, 0, none⟩), .agg #[.int .u16 cd, .int .u8 jt, .int .u8 jf, .int .u32 k]] W (LdTo M a' x' c' d st ov an W))) :
    Calls Tryd.prog 51 #[.pointer (some ⟨M, 0, none⟩), .int .u8 5, .agg #[.int .u16 cd, .int .u8 jt, .int .u8 jf, .int .u32 k]] w fun e w' => e = .returned (.int .u32 0) ∧ ML w' M a' x' c' d st ov an ∧ w.grownBy w' (some M) := by
  have HM := Lib.hid (hm.al (.cells #[.int .u16 cd, .int .u8 jt, .int .u8 jf, .int .u32 k] 35))
  have HG := Lib.hid (hG.alloc (.cells #[.int .u16 cd, .int .u8 jt, .int .u8 jf, .int .u32 k] 35))
  clear hm hG
  go_enter Tryd.func51, Tryd.ntmps51
  go_wp2_with (go_at_call 76; ((with_reducible refine (HL.out _ HM.out HG.out).mono ?_); rintro e w1 ⟨rfl, hm1, g1⟩))
  go_ret
  exact ⟨rfl, hm1, (of_alloc w _ _).trans g1⟩
set_option maxRecDepth 100000 in
set_option maxHeartbeats 4000000 in
theorem step_move (jt jf k a x : Int) (c : Nat → Int) (d : Dat) (st : Int) (M : Nat) (w : World) (cd : Int) (hm : ML w M a x c d st false 0) (hG : GW w) (a' x' : Int) (c' : Nat → Int) (ov : Bool) (an : Int)
    (HL : Hid (∀ W : World, ML W M a x c d st false 0 → GW W → Calls Tryd.prog 77 #[.pointer (some ⟨M, 0, none⟩), .agg #[.int .u16 cd, .int .u8 jt, .int .u8 jf, .int .u32 k]] W (LdTo M a' x' c' d st ov an W))) :
    Calls Tryd.prog 51 #[.pointer (some ⟨M, 0, none⟩), .int .u8 6, .agg #[.int .u16 cd, .int .u8 jt, .int .u8 jf, .int .u32 k]] w fun e w' => e = .returned (.int .u32 0) ∧ ML w' M a' x' c' d st ov an ∧ w.grownBy w' (some M) := by
  have HM := Lib.hid (hm.al (.cells #[.int .u16 cd, .int .u8 jt, .int .u8 jf, .int .u32 k] 35))
  have HG := Lib.hid (hG.alloc (.cells #[.int .u16 cd, .int .u8 jt, .int .u8 jf, .int .u32 k] 35))
  clear hm hG
  go_enter Tryd.func51, Tryd.ntmps51
  go_wp2_with (go_at_call 77; ((with_reducible refine (HL.out _ HM.out HG.out).mono ?_); rintro e w1 ⟨rfl, hm1, g1⟩))
  go_ret
  exact ⟨rfl, hm1, (of_alloc w _ _).trans g1⟩
set_option maxRecDepth 100000 in
set_option maxHeartbeats 4000000 in
theorem step_jump (jt jf k a x : Int) (c : Nat → Int) (d : Dat) (st : Int) (M : Nat) (w : World) (cd : Int) (hm : ML w M a x c d st false 0) (hG : GW w) (n : Int)
    (HL : Hid (∀ W : World, ML W M a x c d st false 0 → GW W → Calls Tryd.prog 75 #[.pointer (some ⟨M, 0, none⟩), .agg #[.int .u16 cd, .int .u8 jt, .int .u8 jf, .int .u32 k]] W fun e w' => e = .returned (.int .u32 n) ∧ Below W.heap.size W w')) :
    Calls Tryd.prog 51 #[.pointer (some ⟨M, 0, none⟩), .int .u8 4, .agg #[.int .u16 cd, .int .u8 jt, .int .u8 jf, .int .u32 k]] w fun e w' => e = .returned (.int .u32 n) ∧ ML w' M a x c d st false 0 ∧ w.grownBy w' (some M) := by
  have HM := Lib.hid (hm.al (.cells #[.int .u16 cd, .int .u8 jt, .int .u8 jf, .int .u32 k] 35))
  have HG := Lib.hid (hG.alloc (.cells #[.int .u16 cd, .int .u8 jt, .int .u8 jf, .int .u32 k] 35))
  clear hm hG
  go_enter Tryd.func51, Tryd.ntmps51
  go_wp2_with (go_at_call 75; ((with_reducible refine (HL.out _ HM.out HG.out).mono ?_); rintro e w1 ⟨rfl, b1⟩))
  go_ret
  exact ⟨rfl, HM.out.on b1, (of_alloc w _ _).trans (of_below b1)⟩
set_option maxHeartbeats 4000000 in
theorem step_none (jt jf k a x : Int) (c : Nat → Int) (d : Dat) (st : Int) (M : Nat) (w : World) (cd : Int) (hm : ML w M a x c d st false 0) (hG : GW w) : Calls Tryd.prog 51 #[.pointer (some ⟨M, 0, none⟩), .int .u8 0, .agg #[.int .u16 cd, .int .u8 jt, .int .u8 jf, .int .u32 k]] w fun e w' => e = Pan 40 ∧ ML w' M a x c d st false 0 ∧ w.grownBy w' (some M) := by
  have HM := Lib.hid (hm.al (.cells #[.int .u16 cd, .int .u8 jt, .int .u8 jf, .int .u32 k] 35))
  have HG := Lib.hid (hG.alloc (.cells #[.int .u16 cd, .int .u8 jt, .int .u8 jf, .int .u32 k] 35))
  clear hm hG
  go_enter Tryd.func51, Tryd.ntmps51
  go_wp2
  exact ⟨rfl, rfl, HM.out, of_alloc w _ _⟩
end Go.Proofs.YtohfampfnhfnlaaDoor
namespace Go.Proofs.YtohfampfnhfnlaaDoor
open Go.RowKit
set_option linter.unusedVariables false

/-- What comes of it: how many are skipped; the machine; the rest stays. -/
def StepTo (M : Nat) (o : Out) (d : Dat) (st : Int) (w : World) (e : Ending) (w' : World) : Prop :=
  w.grownBy w' (some M) ∧ match o with
  | .go a x c n => e = .returned (.int .u32 n) ∧ ML w' M a x c d st false 0
  | .fin v => e = .returned (.int .u32 0) ∧ ∃ a x c, ML w' M a x c d st true v
  | .bad r => e = Pan r ∧ ∃ a x c, ML w' M a x c d st false 0
theorem st_c32 (jt jf k a x : Int) (c : Nat → Int) (M : Nat) (w : World) (d : Dat) (st : Int) (hd : d.Ok) (hm : ML w M a x c d st false 0) (hG : GW w) (a0 : 0 ≤ a) (a1 : a < 4294967296) (x0 : 0 ≤ x) (x1 : x < 4294967296) (j0 : 0 ≤ jt) (j1 : jt < 256) (f0 : 0 ≤ jf) (f1 : jf < 256) (k0 : 0 ≤ k) (k1 : k < 4294967296) : Calls Tryd.prog 51 #[.pointer (some ⟨M, 0, none⟩), .int .u8 1, .agg #[.int .u16 32, .int .u8 jt, .int .u8 jf, .int .u32 k]] w (StepTo M (doI ⟨32, jt, jf, k⟩ d a x c) d st w) := by
    have h0 : doI ⟨32, jt, jf, k⟩ d a x c = if wordB k then .go (wordV d k) x c 0 else .bad 41 := by kernel_rfl
    cases hk : wordB k with
    | true =>
      rw [h0, hk]
      exact (step_load jt jf k a x c d st M w 32 hm hG (wordV d k) x c false 0 (Lib.hid fun W hm hG => lld_abs d jt jf k a x c st false 0 M W hm hd k0 k1 hk)).mono fun e w' h => ⟨h.2.2, h.1, h.2.1⟩
    | false =>
      rw [h0, hk]
      exact (step_load_bad jt jf k a x c d st M w 32 hm hG 41 (Lib.hid fun W hm hG => lld_abs_bad d jt jf k a x c st false 0 M W hm hd k0 k1 hk)).mono fun e w' h => ⟨h.2.2, h.1, _, _, _, h.2.1⟩
theorem st_c128 (jt jf k a x : Int) (c : Nat → Int) (M : Nat) (w : World) (d : Dat) (st : Int) (hd : d.Ok) (hm : ML w M a x c d st false 0) (hG : GW w) (a0 : 0 ≤ a) (a1 : a < 4294967296) (x0 : 0 ≤ x) (x1 : x < 4294967296) (j0 : 0 ≤ jt) (j1 : jt < 256) (f0 : 0 ≤ jf) (f1 : jf < 256) (k0 : 0 ≤ k) (k1 : k < 4294967296) : Calls Tryd.prog 51 #[.pointer (some ⟨M, 0, none⟩), .int .u8 1, .agg #[.int .u16 128, .int .u8 jt, .int .u8 jf, .int .u32 k]] w (StepTo M (doI ⟨128, jt, jf, k⟩ d a x c) d st w) := by
    have hdo : doI ⟨128, jt, jf, k⟩ d a x c = .go 64 x c 0 := by kernel_rfl
    rw [hdo]
    exact (step_load jt jf k a x c d st M w 128 hm hG 64 x c false 0 (Lib.hid fun W hm hG => lld_len d jt jf k a x c st false 0 M W hm)).mono fun e w' h => ⟨h.2.2, h.1, h.2.1⟩
theorem st_c0 (jt jf k a x : Int) (c : Nat → Int) (M : Nat) (w : World) (d : Dat) (st : Int) (hd : d.Ok) (hm : ML w M a x c d st false 0) (hG : GW w) (a0 : 0 ≤ a) (a1 : a < 4294967296) (x0 : 0 ≤ x) (x1 : x < 4294967296) (j0 : 0 ≤ jt) (j1 : jt < 256) (f0 : 0 ≤ jf) (f1 : jf < 256) (k0 : 0 ≤ k) (k1 : k < 4294967296) : Calls Tryd.prog 51 #[.pointer (some ⟨M, 0, none⟩), .int .u8 1, .agg #[.int .u16 0, .int .u8 jt, .int .u8 jf, .int .u32 k]] w (StepTo M (doI ⟨0, jt, jf, k⟩ d a x c) d st w) := by
    have hdo : doI ⟨0, jt, jf, k⟩ d a x c = .go k x c 0 := by kernel_rfl
    rw [hdo]
    exact (step_load jt jf k a x c d st M w 0 hm hG k x c false 0 (Lib.hid fun W hm hG => lld_i d jt jf k a x c st false 0 M W hm)).mono fun e w' h => ⟨h.2.2, h.1, h.2.1⟩
theorem st_c96 (jt jf k a x : Int) (c : Nat → Int) (M : Nat) (w : World) (d : Dat) (st : Int) (hd : d.Ok) (hm : ML w M a x c d st false 0) (hG : GW w) (a0 : 0 ≤ a) (a1 : a < 4294967296) (x0 : 0 ≤ x) (x1 : x < 4294967296) (j0 : 0 ≤ jt) (j1 : jt < 256) (f0 : 0 ≤ jf) (f1 : jf < 256) (k0 : 0 ≤ k) (k1 : k < 4294967296) : Calls Tryd.prog 51 #[.pointer (some ⟨M, 0, none⟩), .int .u8 1, .agg #[.int .u16 96, .int .u8 jt, .int .u8 jf, .int .u32 k]] w (StepTo M (doI ⟨96, jt, jf, k⟩ d a x c) d st w) := by
    have h0 : doI ⟨96, jt, jf, k⟩ d a x c = if k < 16 then .go (c k.toNat) x c 0 else .bad 43 := by kernel_rfl
    by_cases hk : k < 16
    · rw [h0, if_pos hk]
      exact (step_load jt jf k a x c d st M w 96 hm hG (c k.toNat) x c false 0 (Lib.hid fun W hm hG => lldm_ok d jt jf k a x c st false 0 M W hm k.toNat (by omega) (by omega))).mono fun e w' h => ⟨h.2.2, h.1, h.2.1⟩
    · rw [h0, if_neg hk]
      exact (step_load_bad jt jf k a x c d st M w 96 hm hG 43 (Lib.hid fun W hm hG => lldm_bad d jt jf k a x c st false 0 M W hm (by omega))).mono fun e w' h => ⟨h.2.2, h.1, _, _, _, h.2.1⟩
theorem st_c129 (jt jf k a x : Int) (c : Nat → Int) (M : Nat) (w : World) (d : Dat) (st : Int) (hd : d.Ok) (hm : ML w M a x c d st false 0) (hG : GW w) (a0 : 0 ≤ a) (a1 : a < 4294967296) (x0 : 0 ≤ x) (x1 : x < 4294967296) (j0 : 0 ≤ jt) (j1 : jt < 256) (f0 : 0 ≤ jf) (f1 : jf < 256) (k0 : 0 ≤ k) (k1 : k < 4294967296) : Calls Tryd.prog 51 #[.pointer (some ⟨M, 0, none⟩), .int .u8 1, .agg #[.int .u16 129, .int .u8 jt, .int .u8 jf, .int .u32 k]] w (StepTo M (doI ⟨129, jt, jf, k⟩ d a x c) d st w) := by
    have hdo : doI ⟨129, jt, jf, k⟩ d a x c = .go a 64 c 0 := by kernel_rfl
    rw [hdo]
    exact (step_load jt jf k a x c d st M w 129 hm hG a 64 c false 0 (Lib.hid fun W hm hG => lldx_len d jt jf k a x c st false 0 M W hm)).mono fun e w' h => ⟨h.2.2, h.1, h.2.1⟩
theorem st_c1 (jt jf k a x : Int) (c : Nat → Int) (M : Nat) (w : World) (d : Dat) (st : Int) (hd : d.Ok) (hm : ML w M a x c d st false 0) (hG : GW w) (a0 : 0 ≤ a) (a1 : a < 4294967296) (x0 : 0 ≤ x) (x1 : x < 4294967296) (j0 : 0 ≤ jt) (j1 : jt < 256) (f0 : 0 ≤ jf) (f1 : jf < 256) (k0 : 0 ≤ k) (k1 : k < 4294967296) : Calls Tryd.prog 51 #[.pointer (some ⟨M, 0, none⟩), .int .u8 1, .agg #[.int .u16 1, .int .u8 jt, .int .u8 jf, .int .u32 k]] w (StepTo M (doI ⟨1, jt, jf, k⟩ d a x c) d st w) := by
    have hdo : doI ⟨1, jt, jf, k⟩ d a x c = .go a k c 0 := by kernel_rfl
    rw [hdo]
    exact (step_load jt jf k a x c d st M w 1 hm hG a k c false 0 (Lib.hid fun W hm hG => lldx_i d jt jf k a x c st false 0 M W hm)).mono fun e w' h => ⟨h.2.2, h.1, h.2.1⟩
theorem st_c97 (jt jf k a x : Int) (c : Nat → Int) (M : Nat) (w : World) (d : Dat) (st : Int) (hd : d.Ok) (hm : ML w M a x c d st false 0) (hG : GW w) (a0 : 0 ≤ a) (a1 : a < 4294967296) (x0 : 0 ≤ x) (x1 : x < 4294967296) (j0 : 0 ≤ jt) (j1 : jt < 256) (f0 : 0 ≤ jf) (f1 : jf < 256) (k0 : 0 ≤ k) (k1 : k < 4294967296) : Calls Tryd.prog 51 #[.pointer (some ⟨M, 0, none⟩), .int .u8 1, .agg #[.int .u16 97, .int .u8 jt, .int .u8 jf, .int .u32 k]] w (StepTo M (doI ⟨97, jt, jf, k⟩ d a x c) d st w) := by
    have h0 : doI ⟨97, jt, jf, k⟩ d a x c = if k < 16 then .go a (c k.toNat) c 0 else .bad 43 := by kernel_rfl
    by_cases hk : k < 16
    · rw [h0, if_pos hk]
      exact (step_load jt jf k a x c d st M w 97 hm hG a (c k.toNat) c false 0 (Lib.hid fun W hm hG => lldxm_ok d jt jf k a x c st false 0 M W hm k.toNat (by omega) (by omega))).mono fun e w' h => ⟨h.2.2, h.1, h.2.1⟩
    · rw [h0, if_neg hk]
      exact (step_load_bad jt jf k a x c d st M w 97 hm hG 43 (Lib.hid fun W hm hG => lldxm_bad d jt jf k a x c st false 0 M W hm (by omega))).mono fun e w' h => ⟨h.2.2, h.1, _, _, _, h.2.1⟩
theorem st_c2 (jt jf k a x : Int) (c : Nat → Int) (M : Nat) (w : World) (d : Dat) (st : Int) (hd : d.Ok) (hm : ML w M a x c d st false 0) (hG : GW w) (a0 : 0 ≤ a) (a1 : a < 4294967296) (x0 : 0 ≤ x) (x1 : x < 4294967296) (j0 : 0 ≤ jt) (j1 : jt < 256) (f0 : 0 ≤ jf) (f1 : jf < 256) (k0 : 0 ≤ k) (k1 : k < 4294967296) : Calls Tryd.prog 51 #[.pointer (some ⟨M, 0, none⟩), .int .u8 2, .agg #[.int .u16 2, .int .u8 jt, .int .u8 jf, .int .u32 k]] w (StepTo M (doI ⟨2, jt, jf, k⟩ d a x c) d st w) := by
    have h0 : doI ⟨2, jt, jf, k⟩ d a x c = if k < 16 then .go a x (fun j => if j = k.toNat then a else c j) 0 else .bad 43 := by kernel_rfl
    by_cases hk : k < 16
    · rw [h0, if_pos hk]
      exact (step_store jt jf k a x c d st M w 2 hm hG a x (fun j => if j = k.toNat then a else c j) false 0 (Lib.hid fun W hm hG => lst_ok d jt jf k a x c st false 0 M W hm k.toNat (by omega) (by omega))).mono fun e w' h => ⟨h.2.2, h.1, h.2.1⟩
    · rw [h0, if_neg hk]
      exact (step_store_bad jt jf k a x c d st M w 2 hm hG 43 (Lib.hid fun W hm hG => lst_bad d jt jf k a x c st false 0 M W hm (by omega))).mono fun e w' h => ⟨h.2.2, h.1, _, _, _, h.2.1⟩
theorem st_c3 (jt jf k a x : Int) (c : Nat → Int) (M : Nat) (w : World) (d : Dat) (st : Int) (hd : d.Ok) (hm : ML w M a x c d st false 0) (hG : GW w) (a0 : 0 ≤ a) (a1 : a < 4294967296) (x0 : 0 ≤ x) (x1 : x < 4294967296) (j0 : 0 ≤ jt) (j1 : jt < 256) (f0 : 0 ≤ jf) (f1 : jf < 256) (k0 : 0 ≤ k) (k1 : k < 4294967296) : Calls Tryd.prog 51 #[.pointer (some ⟨M, 0, none⟩), .int .u8 2, .agg #[.int .u16 3, .int .u8 jt, .int .u8 jf, .int .u32 k]] w (StepTo M (doI ⟨3, jt, jf, k⟩ d a x c) d st w) := by
    have h0 : doI ⟨3, jt, jf, k⟩ d a x c = if k < 16 then .go a x (fun j => if j = k.toNat then x else c j) 0 else .bad 43 := by kernel_rfl
    by_cases hk : k < 16
    · rw [h0, if_pos hk]
      exact (step_store jt jf k a x c d st M w 3 hm hG a x (fun j => if j = k.toNat then x else c j) false 0 (Lib.hid fun W hm hG => lstx_ok d jt jf k a x c st false 0 M W hm k.toNat (by omega) (by omega))).mono fun e w' h => ⟨h.2.2, h.1, h.2.1⟩
    · rw [h0, if_neg hk]
      exact (step_store_bad jt jf k a x c d st M w 3 hm hG 43 (Lib.hid fun W hm hG => lstx_bad d jt jf k a x c st false 0 M W hm (by omega))).mono fun e w' h => ⟨h.2.2, h.1, _, _, _, h.2.1⟩
theorem st_c132 (jt jf k a x : Int) (c : Nat → Int) (M : Nat) (w : World) (d : Dat) (st : Int) (hd : d.Ok) (hm : ML w M a x c d st false 0) (hG : GW w) (a0 : 0 ≤ a) (a1 : a < 4294967296) (x0 : 0 ≤ x) (x1 : x < 4294967296) (j0 : 0 ≤ jt) (j1 : jt < 256) (f0 : 0 ≤ jf) (f1 : jf < 256) (k0 : 0 ≤ k) (k1 : k < 4294967296) : Calls Tryd.prog 51 #[.pointer (some ⟨M, 0, none⟩), .int .u8 3, .agg #[.int .u16 132, .int .u8 jt, .int .u8 jf, .int .u32 k]] w (StepTo M (doI ⟨132, jt, jf, k⟩ d a x c) d st w) := by
    have hdo : doI ⟨132, jt, jf, k⟩ d a x c = .go ((0 - a) % 4294967296) x c 0 := by kernel_rfl
    rw [hdo]
    exact (step_number jt jf k a x c d st M w 132 hm hG ((0 - a) % 4294967296) x c false 0 (Lib.hid fun W hm hG => ln_neg d jt jf k a x c st false 0 M W hm hG a0 a1 x0 x1 k0 k1)).mono fun e w' h => ⟨h.2.2, h.1, h.2.1⟩
theorem st_c5 (jt jf k a x : Int) (c : Nat → Int) (M : Nat) (w : World) (d : Dat) (st : Int) (hd : d.Ok) (hm : ML w M a x c d st false 0) (hG : GW w) (a0 : 0 ≤ a) (a1 : a < 4294967296) (x0 : 0 ≤ x) (x1 : x < 4294967296) (j0 : 0 ≤ jt) (j1 : jt < 256) (f0 : 0 ≤ jf) (f1 : jf < 256) (k0 : 0 ≤ k) (k1 : k < 4294967296) : Calls Tryd.prog 51 #[.pointer (some ⟨M, 0, none⟩), .int .u8 4, .agg #[.int .u16 5, .int .u8 jt, .int .u8 jf, .int .u32 k]] w (StepTo M (doI ⟨5, jt, jf, k⟩ d a x c) d st w) := by
    have hdo : doI ⟨5, jt, jf, k⟩ d a x c = .go a x c k.toNat := by kernel_rfl
    rw [hdo]
    have hk : ((k.toNat : Nat) : Int) = k := Int.toNat_of_nonneg k0
    exact (step_jump jt jf k a x c d st M w 5 hm hG k (Lib.hid fun W hm hG => lja d jt jf k a x c st false 0 M W hm)).mono fun e w' h => ⟨h.2.2, by rw [hk]; exact h.1, h.2.1⟩
theorem st_c6 (jt jf k a x : Int) (c : Nat → Int) (M : Nat) (w : World) (d : Dat) (st : Int) (hd : d.Ok) (hm : ML w M a x c d st false 0) (hG : GW w) (a0 : 0 ≤ a) (a1 : a < 4294967296) (x0 : 0 ≤ x) (x1 : x < 4294967296) (j0 : 0 ≤ jt) (j1 : jt < 256) (f0 : 0 ≤ jf) (f1 : jf < 256) (k0 : 0 ≤ k) (k1 : k < 4294967296) : Calls Tryd.prog 51 #[.pointer (some ⟨M, 0, none⟩), .int .u8 5, .agg #[.int .u16 6, .int .u8 jt, .int .u8 jf, .int .u32 k]] w (StepTo M (doI ⟨6, jt, jf, k⟩ d a x c) d st w) := by
    have hdo : doI ⟨6, jt, jf, k⟩ d a x c = .fin k := by kernel_rfl
    rw [hdo]
    exact (step_finish jt jf k a x c d st M w 6 hm hG a x c true k (Lib.hid fun W hm hG => lret d jt jf k a x c st false 0 M W hm)).mono fun e w' h => ⟨h.2.2, h.1, _, _, _, h.2.1⟩
theorem st_c22 (jt jf k a x : Int) (c : Nat → Int) (M : Nat) (w : World) (d : Dat) (st : Int) (hd : d.Ok) (hm : ML w M a x c d st false 0) (hG : GW w) (a0 : 0 ≤ a) (a1 : a < 4294967296) (x0 : 0 ≤ x) (x1 : x < 4294967296) (j0 : 0 ≤ jt) (j1 : jt < 256) (f0 : 0 ≤ jf) (f1 : jf < 256) (k0 : 0 ≤ k) (k1 : k < 4294967296) : Calls Tryd.prog 51 #[.pointer (some ⟨M, 0, none⟩), .int .u8 5, .agg #[.int .u16 22, .int .u8 jt, .int .u8 jf, .int .u32 k]] w (StepTo M (doI ⟨22, jt, jf, k⟩ d a x c) d st w) := by
    have hdo : doI ⟨22, jt, jf, k⟩ d a x c = .fin a := by kernel_rfl
    rw [hdo]
    exact (step_finish jt jf k a x c d st M w 22 hm hG a x c true a (Lib.hid fun W hm hG => lreta d jt jf k a x c st false 0 M W hm)).mono fun e w' h => ⟨h.2.2, h.1, _, _, _, h.2.1⟩
theorem st_c7 (jt jf k a x : Int) (c : Nat → Int) (M : Nat) (w : World) (d : Dat) (st : Int) (hd : d.Ok) (hm : ML w M a x c d st false 0) (hG : GW w) (a0 : 0 ≤ a) (a1 : a < 4294967296) (x0 : 0 ≤ x) (x1 : x < 4294967296) (j0 : 0 ≤ jt) (j1 : jt < 256) (f0 : 0 ≤ jf) (f1 : jf < 256) (k0 : 0 ≤ k) (k1 : k < 4294967296) : Calls Tryd.prog 51 #[.pointer (some ⟨M, 0, none⟩), .int .u8 6, .agg #[.int .u16 7, .int .u8 jt, .int .u8 jf, .int .u32 k]] w (StepTo M (doI ⟨7, jt, jf, k⟩ d a x c) d st w) := by
    have hdo : doI ⟨7, jt, jf, k⟩ d a x c = .go a a c 0 := by kernel_rfl
    rw [hdo]
    exact (step_move jt jf k a x c d st M w 7 hm hG a a c false 0 (Lib.hid fun W hm hG => ltax d jt jf k a x c st false 0 M W hm)).mono fun e w' h => ⟨h.2.2, h.1, h.2.1⟩
theorem st_c135 (jt jf k a x : Int) (c : Nat → Int) (M : Nat) (w : World) (d : Dat) (st : Int) (hd : d.Ok) (hm : ML w M a x c d st false 0) (hG : GW w) (a0 : 0 ≤ a) (a1 : a < 4294967296) (x0 : 0 ≤ x) (x1 : x < 4294967296) (j0 : 0 ≤ jt) (j1 : jt < 256) (f0 : 0 ≤ jf) (f1 : jf < 256) (k0 : 0 ≤ k) (k1 : k < 4294967296) : Calls Tryd.prog 51 #[.pointer (some ⟨M, 0, none⟩), .int .u8 6, .agg #[.int .u16 135, .int .u8 jt, .int .u8 jf, .int .u32 k]] w (StepTo M (doI ⟨135, jt, jf, k⟩ d a x c) d st w) := by
    have hdo : doI ⟨135, jt, jf, k⟩ d a x c = .go x x c 0 := by kernel_rfl
    rw [hdo]
    exact (step_move jt jf k a x c d st M w 135 hm hG x x c false 0 (Lib.hid fun W hm hG => ltxa d jt jf k a x c st false 0 M W hm)).mono fun e w' h => ⟨h.2.2, h.1, h.2.1⟩
theorem st_c4 (jt jf k a x : Int) (c : Nat → Int) (M : Nat) (w : World) (d : Dat) (st : Int) (hd : d.Ok) (hm : ML w M a x c d st false 0) (hG : GW w) (a0 : 0 ≤ a) (a1 : a < 4294967296) (x0 : 0 ≤ x) (x1 : x < 4294967296) (j0 : 0 ≤ jt) (j1 : jt < 256) (f0 : 0 ≤ jf) (f1 : jf < 256) (k0 : 0 ≤ k) (k1 : k < 4294967296) : Calls Tryd.prog 51 #[.pointer (some ⟨M, 0, none⟩), .int .u8 3, .agg #[.int .u16 4, .int .u8 jt, .int .u8 jf, .int .u32 k]] w (StepTo M (doI ⟨4, jt, jf, k⟩ d a x c) d st w) := by
    have hdo : doI ⟨4, jt, jf, k⟩ d a x c = .go ((a + k) % 4294967296) x c 0 := by kernel_rfl
    rw [hdo]
    exact (step_number jt jf k a x c d st M w 4 hm hG ((a + k) % 4294967296) x c false 0 (Lib.hid fun W hm hG => ln_add d jt jf k a x c st false 0 M W hm hG a0 a1 x0 x1 k0 k1)).mono fun e w' h => ⟨h.2.2, h.1, h.2.1⟩
theorem st_c12 (jt jf k a x : Int) (c : Nat → Int) (M : Nat) (w : World) (d : Dat) (st : Int) (hd : d.Ok) (hm : ML w M a x c d st false 0) (hG : GW w) (a0 : 0 ≤ a) (a1 : a < 4294967296) (x0 : 0 ≤ x) (x1 : x < 4294967296) (j0 : 0 ≤ jt) (j1 : jt < 256) (f0 : 0 ≤ jf) (f1 : jf < 256) (k0 : 0 ≤ k) (k1 : k < 4294967296) : Calls Tryd.prog 51 #[.pointer (some ⟨M, 0, none⟩), .int .u8 3, .agg #[.int .u16 12, .int .u8 jt, .int .u8 jf, .int .u32 k]] w (StepTo M (doI ⟨12, jt, jf, k⟩ d a x c) d st w) := by
    have hdo : doI ⟨12, jt, jf, k⟩ d a x c = .go ((a + x) % 4294967296) x c 0 := by kernel_rfl
    rw [hdo]
    exact (step_number jt jf k a x c d st M w 12 hm hG ((a + x) % 4294967296) x c false 0 (Lib.hid fun W hm hG => ln_addx d jt jf k a x c st false 0 M W hm hG a0 a1 x0 x1 k0 k1)).mono fun e w' h => ⟨h.2.2, h.1, h.2.1⟩
theorem st_c20 (jt jf k a x : Int) (c : Nat → Int) (M : Nat) (w : World) (d : Dat) (st : Int) (hd : d.Ok) (hm : ML w M a x c d st false 0) (hG : GW w) (a0 : 0 ≤ a) (a1 : a < 4294967296) (x0 : 0 ≤ x) (x1 : x < 4294967296) (j0 : 0 ≤ jt) (j1 : jt < 256) (f0 : 0 ≤ jf) (f1 : jf < 256) (k0 : 0 ≤ k) (k1 : k < 4294967296) : Calls Tryd.prog 51 #[.pointer (some ⟨M, 0, none⟩), .int .u8 3, .agg #[.int .u16 20, .int .u8 jt, .int .u8 jf, .int .u32 k]] w (StepTo M (doI ⟨20, jt, jf, k⟩ d a x c) d st w) := by
    have hdo : doI ⟨20, jt, jf, k⟩ d a x c = .go ((a - k) % 4294967296) x c 0 := by kernel_rfl
    rw [hdo]
    exact (step_number jt jf k a x c d st M w 20 hm hG ((a - k) % 4294967296) x c false 0 (Lib.hid fun W hm hG => ln_sub d jt jf k a x c st false 0 M W hm hG a0 a1 x0 x1 k0 k1)).mono fun e w' h => ⟨h.2.2, h.1, h.2.1⟩
theorem st_c28 (jt jf k a x : Int) (c : Nat → Int) (M : Nat) (w : World) (d : Dat) (st : Int) (hd : d.Ok) (hm : ML w M a x c d st false 0) (hG : GW w) (a0 : 0 ≤ a) (a1 : a < 4294967296) (x0 : 0 ≤ x) (x1 : x < 4294967296) (j0 : 0 ≤ jt) (j1 : jt < 256) (f0 : 0 ≤ jf) (f1 : jf < 256) (k0 : 0 ≤ k) (k1 : k < 4294967296) : Calls Tryd.prog 51 #[.pointer (some ⟨M, 0, none⟩), .int .u8 3, .agg #[.int .u16 28, .int .u8 jt, .int .u8 jf, .int .u32 k]] w (StepTo M (doI ⟨28, jt, jf, k⟩ d a x c) d st w) := by
    have hdo : doI ⟨28, jt, jf, k⟩ d a x c = .go ((a - x) % 4294967296) x c 0 := by kernel_rfl
    rw [hdo]
    exact (step_number jt jf k a x c d st M w 28 hm hG ((a - x) % 4294967296) x c false 0 (Lib.hid fun W hm hG => ln_subx d jt jf k a x c st false 0 M W hm hG a0 a1 x0 x1 k0 k1)).mono fun e w' h => ⟨h.2.2, h.1, h.2.1⟩
theorem st_c36 (jt jf k a x : Int) (c : Nat → Int) (M : Nat) (w : World) (d : Dat) (st : Int) (hd : d.Ok) (hm : ML w M a x c d st false 0) (hG : GW w) (a0 : 0 ≤ a) (a1 : a < 4294967296) (x0 : 0 ≤ x) (x1 : x < 4294967296) (j0 : 0 ≤ jt) (j1 : jt < 256) (f0 : 0 ≤ jf) (f1 : jf < 256) (k0 : 0 ≤ k) (k1 : k < 4294967296) : Calls Tryd.prog 51 #[.pointer (some ⟨M, 0, none⟩), .int .u8 3, .agg #[.int .u16 36, .int .u8 jt, .int .u8 jf, .int .u32 k]] w (StepTo M (doI ⟨36, jt, jf, k⟩ d a x c) d st w) := by
    have hdo : doI ⟨36, jt, jf, k⟩ d a x c = .go ((a * k) % 4294967296) x c 0 := by kernel_rfl
    rw [hdo]
    exact (step_number jt jf k a x c d st M w 36 hm hG ((a * k) % 4294967296) x c false 0 (Lib.hid fun W hm hG => ln_mul d jt jf k a x c st false 0 M W hm hG a0 a1 x0 x1 k0 k1)).mono fun e w' h => ⟨h.2.2, h.1, h.2.1⟩
theorem st_c44 (jt jf k a x : Int) (c : Nat → Int) (M : Nat) (w : World) (d : Dat) (st : Int) (hd : d.Ok) (hm : ML w M a x c d st false 0) (hG : GW w) (a0 : 0 ≤ a) (a1 : a < 4294967296) (x0 : 0 ≤ x) (x1 : x < 4294967296) (j0 : 0 ≤ jt) (j1 : jt < 256) (f0 : 0 ≤ jf) (f1 : jf < 256) (k0 : 0 ≤ k) (k1 : k < 4294967296) : Calls Tryd.prog 51 #[.pointer (some ⟨M, 0, none⟩), .int .u8 3, .agg #[.int .u16 44, .int .u8 jt, .int .u8 jf, .int .u32 k]] w (StepTo M (doI ⟨44, jt, jf, k⟩ d a x c) d st w) := by
    have hdo : doI ⟨44, jt, jf, k⟩ d a x c = .go ((a * x) % 4294967296) x c 0 := by kernel_rfl
    rw [hdo]
    exact (step_number jt jf k a x c d st M w 44 hm hG ((a * x) % 4294967296) x c false 0 (Lib.hid fun W hm hG => ln_mulx d jt jf k a x c st false 0 M W hm hG a0 a1 x0 x1 k0 k1)).mono fun e w' h => ⟨h.2.2, h.1, h.2.1⟩
theorem st_c52 (jt jf k a x : Int) (c : Nat → Int) (M : Nat) (w : World) (d : Dat) (st : Int) (hd : d.Ok) (hm : ML w M a x c d st false 0) (hG : GW w) (a0 : 0 ≤ a) (a1 : a < 4294967296) (x0 : 0 ≤ x) (x1 : x < 4294967296) (j0 : 0 ≤ jt) (j1 : jt < 256) (f0 : 0 ≤ jf) (f1 : jf < 256) (k0 : 0 ≤ k) (k1 : k < 4294967296) : Calls Tryd.prog 51 #[.pointer (some ⟨M, 0, none⟩), .int .u8 3, .agg #[.int .u16 52, .int .u8 jt, .int .u8 jf, .int .u32 k]] w (StepTo M (doI ⟨52, jt, jf, k⟩ d a x c) d st w) := by
    have h0 : doI ⟨52, jt, jf, k⟩ d a x c = if (3 : Int) = 3 ∧ k = 0 then .bad 44 else (if ((3 : Int) = 6 ∨ (3 : Int) = 7) ∧ k > 31 then .bad 45 else .go (a / k) x c 0) := by kernel_rfl
    by_cases hb : k = 0
    · rw [h0, if_pos ⟨rfl, hb⟩]
      exact (step_number_bad jt jf k a x c d st M w 52 hm hG 44 (Lib.hid fun W hm hG => ln_div_0 d jt jf k a x c st false 0 M W hm hG a0 a1 x0 x1 k0 k1 hb)).mono fun e w' h => ⟨h.2.2, h.1, _, _, _, h.2.1⟩
    · rw [h0, if_neg (fun e => hb e.2)]
      rw [if_neg (fun e => by rcases e.1 with h | h <;> exact absurd h (by decide))]
      exact (step_number jt jf k a x c d st M w 52 hm hG (a / k) x c false 0 (Lib.hid fun W hm hG => ln_div d jt jf k a x c st false 0 M W hm hG a0 a1 x0 x1 k0 k1 (by omega))).mono fun e w' h => ⟨h.2.2, h.1, h.2.1⟩
theorem st_c60 (jt jf k a x : Int) (c : Nat → Int) (M : Nat) (w : World) (d : Dat) (st : Int) (hd : d.Ok) (hm : ML w M a x c d st false 0) (hG : GW w) (a0 : 0 ≤ a) (a1 : a < 4294967296) (x0 : 0 ≤ x) (x1 : x < 4294967296) (j0 : 0 ≤ jt) (j1 : jt < 256) (f0 : 0 ≤ jf) (f1 : jf < 256) (k0 : 0 ≤ k) (k1 : k < 4294967296) : Calls Tryd.prog 51 #[.pointer (some ⟨M, 0, none⟩), .int .u8 3, .agg #[.int .u16 60, .int .u8 jt, .int .u8 jf, .int .u32 k]] w (StepTo M (doI ⟨60, jt, jf, k⟩ d a x c) d st w) := by
    have h0 : doI ⟨60, jt, jf, k⟩ d a x c = if (3 : Int) = 3 ∧ x = 0 then .fin 0 else .go (a / x) x c 0 := by kernel_rfl
    by_cases hb : x = 0
    · rw [h0, if_pos ⟨rfl, hb⟩]
      exact (step_number jt jf k a x c d st M w 60 hm hG a x c true 0 (Lib.hid fun W hm hG => ln_divx_0 d jt jf k a x c st false 0 M W hm hG a0 a1 x0 x1 k0 k1 hb)).mono fun e w' h => ⟨h.2.2, h.1, _, _, _, h.2.1⟩
    · rw [h0, if_neg (fun e => hb e.2)]
      exact (step_number jt jf k a x c d st M w 60 hm hG (a / x) x c false 0 (Lib.hid fun W hm hG => ln_divx d jt jf k a x c st false 0 M W hm hG a0 a1 x0 x1 k0 k1 (by omega))).mono fun e w' h => ⟨h.2.2, h.1, h.2.1⟩
theorem st_c68 (jt jf k a x : Int) (c : Nat → Int) (M : Nat) (w : World) (d : Dat) (st : Int) (hd : d.Ok) (hm : ML w M a x c d st false 0) (hG : GW w) (a0 : 0 ≤ a) (a1 : a < 4294967296) (x0 : 0 ≤ x) (x1 : x < 4294967296) (j0 : 0 ≤ jt) (j1 : jt < 256) (f0 : 0 ≤ jf) (f1 : jf < 256) (k0 : 0 ≤ k) (k1 : k < 4294967296) : Calls Tryd.prog 51 #[.pointer (some ⟨M, 0, none⟩), .int .u8 3, .agg #[.int .u16 68, .int .u8 jt, .int .u8 jf, .int .u32 k]] w (StepTo M (doI ⟨68, jt, jf, k⟩ d a x c) d st w) := by
    have hdo : doI ⟨68, jt, jf, k⟩ d a x c = .go (bitsV (· ||| ·) a k) x c 0 := by kernel_rfl
    rw [hdo]
    exact (step_number jt jf k a x c d st M w 68 hm hG (bitsV (· ||| ·) a k) x c false 0 (Lib.hid fun W hm hG => ln_or d jt jf k a x c st false 0 M W hm hG a0 a1 x0 x1 k0 k1)).mono fun e w' h => ⟨h.2.2, h.1, h.2.1⟩
theorem st_c76 (jt jf k a x : Int) (c : Nat → Int) (M : Nat) (w : World) (d : Dat) (st : Int) (hd : d.Ok) (hm : ML w M a x c d st false 0) (hG : GW w) (a0 : 0 ≤ a) (a1 : a < 4294967296) (x0 : 0 ≤ x) (x1 : x < 4294967296) (j0 : 0 ≤ jt) (j1 : jt < 256) (f0 : 0 ≤ jf) (f1 : jf < 256) (k0 : 0 ≤ k) (k1 : k < 4294967296) : Calls Tryd.prog 51 #[.pointer (some ⟨M, 0, none⟩), .int .u8 3, .agg #[.int .u16 76, .int .u8 jt, .int .u8 jf, .int .u32 k]] w (StepTo M (doI ⟨76, jt, jf, k⟩ d a x c) d st w) := by
    have hdo : doI ⟨76, jt, jf, k⟩ d a x c = .go (bitsV (· ||| ·) a x) x c 0 := by kernel_rfl
    rw [hdo]
    exact (step_number jt jf k a x c d st M w 76 hm hG (bitsV (· ||| ·) a x) x c false 0 (Lib.hid fun W hm hG => ln_orx d jt jf k a x c st false 0 M W hm hG a0 a1 x0 x1 k0 k1)).mono fun e w' h => ⟨h.2.2, h.1, h.2.1⟩
theorem st_c84 (jt jf k a x : Int) (c : Nat → Int) (M : Nat) (w : World) (d : Dat) (st : Int) (hd : d.Ok) (hm : ML w M a x c d st false 0) (hG : GW w) (a0 : 0 ≤ a) (a1 : a < 4294967296) (x0 : 0 ≤ x) (x1 : x < 4294967296) (j0 : 0 ≤ jt) (j1 : jt < 256) (f0 : 0 ≤ jf) (f1 : jf < 256) (k0 : 0 ≤ k) (k1 : k < 4294967296) : Calls Tryd.prog 51 #[.pointer (some ⟨M, 0, none⟩), .int .u8 3, .agg #[.int .u16 84, .int .u8 jt, .int .u8 jf, .int .u32 k]] w (StepTo M (doI ⟨84, jt, jf, k⟩ d a x c) d st w) := by
    have hdo : doI ⟨84, jt, jf, k⟩ d a x c = .go (bitsV (· &&& ·) a k) x c 0 := by kernel_rfl
    rw [hdo]
    exact (step_number jt jf k a x c d st M w 84 hm hG (bitsV (· &&& ·) a k) x c false 0 (Lib.hid fun W hm hG => ln_and d jt jf k a x c st false 0 M W hm hG a0 a1 x0 x1 k0 k1)).mono fun e w' h => ⟨h.2.2, h.1, h.2.1⟩
theorem st_c92 (jt jf k a x : Int) (c : Nat → Int) (M : Nat) (w : World) (d : Dat) (st : Int) (hd : d.Ok) (hm : ML w M a x c d st false 0) (hG : GW w) (a0 : 0 ≤ a) (a1 : a < 4294967296) (x0 : 0 ≤ x) (x1 : x < 4294967296) (j0 : 0 ≤ jt) (j1 : jt < 256) (f0 : 0 ≤ jf) (f1 : jf < 256) (k0 : 0 ≤ k) (k1 : k < 4294967296) : Calls Tryd.prog 51 #[.pointer (some ⟨M, 0, none⟩), .int .u8 3, .agg #[.int .u16 92, .int .u8 jt, .int .u8 jf, .int .u32 k]] w (StepTo M (doI ⟨92, jt, jf, k⟩ d a x c) d st w) := by
    have hdo : doI ⟨92, jt, jf, k⟩ d a x c = .go (bitsV (· &&& ·) a x) x c 0 := by kernel_rfl
    rw [hdo]
    exact (step_number jt jf k a x c d st M w 92 hm hG (bitsV (· &&& ·) a x) x c false 0 (Lib.hid fun W hm hG => ln_andx d jt jf k a x c st false 0 M W hm hG a0 a1 x0 x1 k0 k1)).mono fun e w' h => ⟨h.2.2, h.1, h.2.1⟩
theorem st_c100 (jt jf k a x : Int) (c : Nat → Int) (M : Nat) (w : World) (d : Dat) (st : Int) (hd : d.Ok) (hm : ML w M a x c d st false 0) (hG : GW w) (a0 : 0 ≤ a) (a1 : a < 4294967296) (x0 : 0 ≤ x) (x1 : x < 4294967296) (j0 : 0 ≤ jt) (j1 : jt < 256) (f0 : 0 ≤ jf) (f1 : jf < 256) (k0 : 0 ≤ k) (k1 : k < 4294967296) : Calls Tryd.prog 51 #[.pointer (some ⟨M, 0, none⟩), .int .u8 3, .agg #[.int .u16 100, .int .u8 jt, .int .u8 jf, .int .u32 k]] w (StepTo M (doI ⟨100, jt, jf, k⟩ d a x c) d st w) := by
    have h0 : doI ⟨100, jt, jf, k⟩ d a x c = if (((6 : Int) = 6 ∨ (6 : Int) = 7) ∧ k > 31) then .bad 45 else .go ((a * 2 ^ (k % 32).toNat) % 4294967296) x c 0 := by kernel_rfl
    by_cases hb : 31 < k
    · rw [h0, if_pos ⟨by decide, hb⟩]
      exact (step_number_bad jt jf k a x c d st M w 100 hm hG 45 (Lib.hid fun W hm hG => ln_lsh_bad d jt jf k a x c st false 0 M W hm hG a0 a1 x0 x1 k0 k1 hb)).mono fun e w' h => ⟨h.2.2, h.1, _, _, _, h.2.1⟩
    · rw [h0, if_neg (fun e => hb e.2)]
      exact (step_number jt jf k a x c d st M w 100 hm hG ((a * 2 ^ (k % 32).toNat) % 4294967296) x c false 0 (Lib.hid fun W hm hG => ln_lsh d jt jf k a x c st false 0 M W hm hG a0 a1 x0 x1 k0 k1 hb)).mono fun e w' h => ⟨h.2.2, h.1, h.2.1⟩
theorem st_c108 (jt jf k a x : Int) (c : Nat → Int) (M : Nat) (w : World) (d : Dat) (st : Int) (hd : d.Ok) (hm : ML w M a x c d st false 0) (hG : GW w) (a0 : 0 ≤ a) (a1 : a < 4294967296) (x0 : 0 ≤ x) (x1 : x < 4294967296) (j0 : 0 ≤ jt) (j1 : jt < 256) (f0 : 0 ≤ jf) (f1 : jf < 256) (k0 : 0 ≤ k) (k1 : k < 4294967296) : Calls Tryd.prog 51 #[.pointer (some ⟨M, 0, none⟩), .int .u8 3, .agg #[.int .u16 108, .int .u8 jt, .int .u8 jf, .int .u32 k]] w (StepTo M (doI ⟨108, jt, jf, k⟩ d a x c) d st w) := by
    have hdo : doI ⟨108, jt, jf, k⟩ d a x c = .go ((a * 2 ^ (x % 32).toNat) % 4294967296) x c 0 := by kernel_rfl
    rw [hdo]
    exact (step_number jt jf k a x c d st M w 108 hm hG ((a * 2 ^ (x % 32).toNat) % 4294967296) x c false 0 (Lib.hid fun W hm hG => ln_lshx d jt jf k a x c st false 0 M W hm hG a0 a1 x0 x1 k0 k1)).mono fun e w' h => ⟨h.2.2, h.1, h.2.1⟩
theorem st_c116 (jt jf k a x : Int) (c : Nat → Int) (M : Nat) (w : World) (d : Dat) (st : Int) (hd : d.Ok) (hm : ML w M a x c d st false 0) (hG : GW w) (a0 : 0 ≤ a) (a1 : a < 4294967296) (x0 : 0 ≤ x) (x1 : x < 4294967296) (j0 : 0 ≤ jt) (j1 : jt < 256) (f0 : 0 ≤ jf) (f1 : jf < 256) (k0 : 0 ≤ k) (k1 : k < 4294967296) : Calls Tryd.prog 51 #[.pointer (some ⟨M, 0, none⟩), .int .u8 3, .agg #[.int .u16 116, .int .u8 jt, .int .u8 jf, .int .u32 k]] w (StepTo M (doI ⟨116, jt, jf, k⟩ d a x c) d st w) := by
    have h0 : doI ⟨116, jt, jf, k⟩ d a x c = if (((7 : Int) = 6 ∨ (7 : Int) = 7) ∧ k > 31) then .bad 45 else .go (a / 2 ^ (k % 32).toNat) x c 0 := by kernel_rfl
    by_cases hb : 31 < k
    · rw [h0, if_pos ⟨by decide, hb⟩]
      exact (step_number_bad jt jf k a x c d st M w 116 hm hG 45 (Lib.hid fun W hm hG => ln_rsh_bad d jt jf k a x c st false 0 M W hm hG a0 a1 x0 x1 k0 k1 hb)).mono fun e w' h => ⟨h.2.2, h.1, _, _, _, h.2.1⟩
    · rw [h0, if_neg (fun e => hb e.2)]
      exact (step_number jt jf k a x c d st M w 116 hm hG (a / 2 ^ (k % 32).toNat) x c false 0 (Lib.hid fun W hm hG => ln_rsh d jt jf k a x c st false 0 M W hm hG a0 a1 x0 x1 k0 k1 hb)).mono fun e w' h => ⟨h.2.2, h.1, h.2.1⟩
theorem st_c124 (jt jf k a x : Int) (c : Nat → Int) (M : Nat) (w : World) (d : Dat) (st : Int) (hd : d.Ok) (hm : ML w M a x c d st false 0) (hG : GW w) (a0 : 0 ≤ a) (a1 : a < 4294967296) (x0 : 0 ≤ x) (x1 : x < 4294967296) (j0 : 0 ≤ jt) (j1 : jt < 256) (f0 : 0 ≤ jf) (f1 : jf < 256) (k0 : 0 ≤ k) (k1 : k < 4294967296) : Calls Tryd.prog 51 #[.pointer (some ⟨M, 0, none⟩), .int .u8 3, .agg #[.int .u16 124, .int .u8 jt, .int .u8 jf, .int .u32 k]] w (StepTo M (doI ⟨124, jt, jf, k⟩ d a x c) d st w) := by
    have hdo : doI ⟨124, jt, jf, k⟩ d a x c = .go (a / 2 ^ (x % 32).toNat) x c 0 := by kernel_rfl
    rw [hdo]
    exact (step_number jt jf k a x c d st M w 124 hm hG (a / 2 ^ (x % 32).toNat) x c false 0 (Lib.hid fun W hm hG => ln_rshx d jt jf k a x c st false 0 M W hm hG a0 a1 x0 x1 k0 k1)).mono fun e w' h => ⟨h.2.2, h.1, h.2.1⟩
theorem st_c164 (jt jf k a x : Int) (c : Nat → Int) (M : Nat) (w : World) (d : Dat) (st : Int) (hd : d.Ok) (hm : ML w M a x c d st false 0) (hG : GW w) (a0 : 0 ≤ a) (a1 : a < 4294967296) (x0 : 0 ≤ x) (x1 : x < 4294967296) (j0 : 0 ≤ jt) (j1 : jt < 256) (f0 : 0 ≤ jf) (f1 : jf < 256) (k0 : 0 ≤ k) (k1 : k < 4294967296) : Calls Tryd.prog 51 #[.pointer (some ⟨M, 0, none⟩), .int .u8 3, .agg #[.int .u16 164, .int .u8 jt, .int .u8 jf, .int .u32 k]] w (StepTo M (doI ⟨164, jt, jf, k⟩ d a x c) d st w) := by
    have hdo : doI ⟨164, jt, jf, k⟩ d a x c = .go (bitsV (· ^^^ ·) a k) x c 0 := by kernel_rfl
    rw [hdo]
    exact (step_number jt jf k a x c d st M w 164 hm hG (bitsV (· ^^^ ·) a k) x c false 0 (Lib.hid fun W hm hG => ln_xor d jt jf k a x c st false 0 M W hm hG a0 a1 x0 x1 k0 k1)).mono fun e w' h => ⟨h.2.2, h.1, h.2.1⟩
theorem st_c172 (jt jf k a x : Int) (c : Nat → Int) (M : Nat) (w : World) (d : Dat) (st : Int) (hd : d.Ok) (hm : ML w M a x c d st false 0) (hG : GW w) (a0 : 0 ≤ a) (a1 : a < 4294967296) (x0 : 0 ≤ x) (x1 : x < 4294967296) (j0 : 0 ≤ jt) (j1 : jt < 256) (f0 : 0 ≤ jf) (f1 : jf < 256) (k0 : 0 ≤ k) (k1 : k < 4294967296) : Calls Tryd.prog 51 #[.pointer (some ⟨M, 0, none⟩), .int .u8 3, .agg #[.int .u16 172, .int .u8 jt, .int .u8 jf, .int .u32 k]] w (StepTo M (doI ⟨172, jt, jf, k⟩ d a x c) d st w) := by
    have hdo : doI ⟨172, jt, jf, k⟩ d a x c = .go (bitsV (· ^^^ ·) a x) x c 0 := by kernel_rfl
    rw [hdo]
    exact (step_number jt jf k a x c d st M w 172 hm hG (bitsV (· ^^^ ·) a x) x c false 0 (Lib.hid fun W hm hG => ln_xorx d jt jf k a x c st false 0 M W hm hG a0 a1 x0 x1 k0 k1)).mono fun e w' h => ⟨h.2.2, h.1, h.2.1⟩
theorem st_c21 (jt jf k a x : Int) (c : Nat → Int) (M : Nat) (w : World) (d : Dat) (st : Int) (hd : d.Ok) (hm : ML w M a x c d st false 0) (hG : GW w) (a0 : 0 ≤ a) (a1 : a < 4294967296) (x0 : 0 ≤ x) (x1 : x < 4294967296) (j0 : 0 ≤ jt) (j1 : jt < 256) (f0 : 0 ≤ jf) (f1 : jf < 256) (k0 : 0 ≤ k) (k1 : k < 4294967296) : Calls Tryd.prog 51 #[.pointer (some ⟨M, 0, none⟩), .int .u8 4, .agg #[.int .u16 21, .int .u8 jt, .int .u8 jf, .int .u32 k]] w (StepTo M (doI ⟨21, jt, jf, k⟩ d a x c) d st w) := by
    have h0 : doI ⟨21, jt, jf, k⟩ d a x c = .go a x c (if cmpV 1 a k then jt.toNat else jf.toNat) := by kernel_rfl
    have hj : ((jt.toNat : Nat) : Int) = jt := Int.toNat_of_nonneg j0
    have hf : ((jf.toNat : Nat) : Int) = jf := Int.toNat_of_nonneg f0
    cases h : cmpV 1 a k with
    | true =>
      rw [h0, h, if_pos rfl]
      exact (step_jump jt jf k a x c d st M w 21 hm hG jt (Lib.hid fun W hm hG => ljeq_y d jt jf k a x c st false 0 M W hm hG a0 a1 x0 x1 k0 k1 j0 j1 f0 f1 h)).mono fun e w' h => ⟨h.2.2, by rw [hj]; exact h.1, h.2.1⟩
    | false =>
      rw [h0, h, if_neg (by decide)]
      exact (step_jump jt jf k a x c d st M w 21 hm hG jf (Lib.hid fun W hm hG => ljeq_n d jt jf k a x c st false 0 M W hm hG a0 a1 x0 x1 k0 k1 j0 j1 f0 f1 h)).mono fun e w' h => ⟨h.2.2, by rw [hf]; exact h.1, h.2.1⟩
theorem st_c29 (jt jf k a x : Int) (c : Nat → Int) (M : Nat) (w : World) (d : Dat) (st : Int) (hd : d.Ok) (hm : ML w M a x c d st false 0) (hG : GW w) (a0 : 0 ≤ a) (a1 : a < 4294967296) (x0 : 0 ≤ x) (x1 : x < 4294967296) (j0 : 0 ≤ jt) (j1 : jt < 256) (f0 : 0 ≤ jf) (f1 : jf < 256) (k0 : 0 ≤ k) (k1 : k < 4294967296) : Calls Tryd.prog 51 #[.pointer (some ⟨M, 0, none⟩), .int .u8 4, .agg #[.int .u16 29, .int .u8 jt, .int .u8 jf, .int .u32 k]] w (StepTo M (doI ⟨29, jt, jf, k⟩ d a x c) d st w) := by
    have h0 : doI ⟨29, jt, jf, k⟩ d a x c = .go a x c (if cmpV 1 a x then jt.toNat else jf.toNat) := by kernel_rfl
    have hj : ((jt.toNat : Nat) : Int) = jt := Int.toNat_of_nonneg j0
    have hf : ((jf.toNat : Nat) : Int) = jf := Int.toNat_of_nonneg f0
    cases h : cmpV 1 a x with
    | true =>
      rw [h0, h, if_pos rfl]
      exact (step_jump jt jf k a x c d st M w 29 hm hG jt (Lib.hid fun W hm hG => ljeqx_y d jt jf k a x c st false 0 M W hm hG a0 a1 x0 x1 k0 k1 j0 j1 f0 f1 h)).mono fun e w' h => ⟨h.2.2, by rw [hj]; exact h.1, h.2.1⟩
    | false =>
      rw [h0, h, if_neg (by decide)]
      exact (step_jump jt jf k a x c d st M w 29 hm hG jf (Lib.hid fun W hm hG => ljeqx_n d jt jf k a x c st false 0 M W hm hG a0 a1 x0 x1 k0 k1 j0 j1 f0 f1 h)).mono fun e w' h => ⟨h.2.2, by rw [hf]; exact h.1, h.2.1⟩
theorem st_c37 (jt jf k a x : Int) (c : Nat → Int) (M : Nat) (w : World) (d : Dat) (st : Int) (hd : d.Ok) (hm : ML w M a x c d st false 0) (hG : GW w) (a0 : 0 ≤ a) (a1 : a < 4294967296) (x0 : 0 ≤ x) (x1 : x < 4294967296) (j0 : 0 ≤ jt) (j1 : jt < 256) (f0 : 0 ≤ jf) (f1 : jf < 256) (k0 : 0 ≤ k) (k1 : k < 4294967296) : Calls Tryd.prog 51 #[.pointer (some ⟨M, 0, none⟩), .int .u8 4, .agg #[.int .u16 37, .int .u8 jt, .int .u8 jf, .int .u32 k]] w (StepTo M (doI ⟨37, jt, jf, k⟩ d a x c) d st w) := by
    have h0 : doI ⟨37, jt, jf, k⟩ d a x c = .go a x c (if cmpV 2 a k then jt.toNat else jf.toNat) := by kernel_rfl
    have hj : ((jt.toNat : Nat) : Int) = jt := Int.toNat_of_nonneg j0
    have hf : ((jf.toNat : Nat) : Int) = jf := Int.toNat_of_nonneg f0
    cases h : cmpV 2 a k with
    | true =>
      rw [h0, h, if_pos rfl]
      exact (step_jump jt jf k a x c d st M w 37 hm hG jt (Lib.hid fun W hm hG => ljgt_y d jt jf k a x c st false 0 M W hm hG a0 a1 x0 x1 k0 k1 j0 j1 f0 f1 h)).mono fun e w' h => ⟨h.2.2, by rw [hj]; exact h.1, h.2.1⟩
    | false =>
      rw [h0, h, if_neg (by decide)]
      exact (step_jump jt jf k a x c d st M w 37 hm hG jf (Lib.hid fun W hm hG => ljgt_n d jt jf k a x c st false 0 M W hm hG a0 a1 x0 x1 k0 k1 j0 j1 f0 f1 h)).mono fun e w' h => ⟨h.2.2, by rw [hf]; exact h.1, h.2.1⟩
theorem st_c45 (jt jf k a x : Int) (c : Nat → Int) (M : Nat) (w : World) (d : Dat) (st : Int) (hd : d.Ok) (hm : ML w M a x c d st false 0) (hG : GW w) (a0 : 0 ≤ a) (a1 : a < 4294967296) (x0 : 0 ≤ x) (x1 : x < 4294967296) (j0 : 0 ≤ jt) (j1 : jt < 256) (f0 : 0 ≤ jf) (f1 : jf < 256) (k0 : 0 ≤ k) (k1 : k < 4294967296) : Calls Tryd.prog 51 #[.pointer (some ⟨M, 0, none⟩), .int .u8 4, .agg #[.int .u16 45, .int .u8 jt, .int .u8 jf, .int .u32 k]] w (StepTo M (doI ⟨45, jt, jf, k⟩ d a x c) d st w) := by
    have h0 : doI ⟨45, jt, jf, k⟩ d a x c = .go a x c (if cmpV 2 a x then jt.toNat else jf.toNat) := by kernel_rfl
    have hj : ((jt.toNat : Nat) : Int) = jt := Int.toNat_of_nonneg j0
    have hf : ((jf.toNat : Nat) : Int) = jf := Int.toNat_of_nonneg f0
    cases h : cmpV 2 a x with
    | true =>
      rw [h0, h, if_pos rfl]
      exact (step_jump jt jf k a x c d st M w 45 hm hG jt (Lib.hid fun W hm hG => ljgtx_y d jt jf k a x c st false 0 M W hm hG a0 a1 x0 x1 k0 k1 j0 j1 f0 f1 h)).mono fun e w' h => ⟨h.2.2, by rw [hj]; exact h.1, h.2.1⟩
    | false =>
      rw [h0, h, if_neg (by decide)]
      exact (step_jump jt jf k a x c d st M w 45 hm hG jf (Lib.hid fun W hm hG => ljgtx_n d jt jf k a x c st false 0 M W hm hG a0 a1 x0 x1 k0 k1 j0 j1 f0 f1 h)).mono fun e w' h => ⟨h.2.2, by rw [hf]; exact h.1, h.2.1⟩
theorem st_c53 (jt jf k a x : Int) (c : Nat → Int) (M : Nat) (w : World) (d : Dat) (st : Int) (hd : d.Ok) (hm : ML w M a x c d st false 0) (hG : GW w) (a0 : 0 ≤ a) (a1 : a < 4294967296) (x0 : 0 ≤ x) (x1 : x < 4294967296) (j0 : 0 ≤ jt) (j1 : jt < 256) (f0 : 0 ≤ jf) (f1 : jf < 256) (k0 : 0 ≤ k) (k1 : k < 4294967296) : Calls Tryd.prog 51 #[.pointer (some ⟨M, 0, none⟩), .int .u8 4, .agg #[.int .u16 53, .int .u8 jt, .int .u8 jf, .int .u32 k]] w (StepTo M (doI ⟨53, jt, jf, k⟩ d a x c) d st w) := by
    have h0 : doI ⟨53, jt, jf, k⟩ d a x c = .go a x c (if cmpV 3 a k then jt.toNat else jf.toNat) := by kernel_rfl
    have hj : ((jt.toNat : Nat) : Int) = jt := Int.toNat_of_nonneg j0
    have hf : ((jf.toNat : Nat) : Int) = jf := Int.toNat_of_nonneg f0
    cases h : cmpV 3 a k with
    | true =>
      rw [h0, h, if_pos rfl]
      exact (step_jump jt jf k a x c d st M w 53 hm hG jt (Lib.hid fun W hm hG => ljge_y d jt jf k a x c st false 0 M W hm hG a0 a1 x0 x1 k0 k1 j0 j1 f0 f1 h)).mono fun e w' h => ⟨h.2.2, by rw [hj]; exact h.1, h.2.1⟩
    | false =>
      rw [h0, h, if_neg (by decide)]
      exact (step_jump jt jf k a x c d st M w 53 hm hG jf (Lib.hid fun W hm hG => ljge_n d jt jf k a x c st false 0 M W hm hG a0 a1 x0 x1 k0 k1 j0 j1 f0 f1 h)).mono fun e w' h => ⟨h.2.2, by rw [hf]; exact h.1, h.2.1⟩
theorem st_c61 (jt jf k a x : Int) (c : Nat → Int) (M : Nat) (w : World) (d : Dat) (st : Int) (hd : d.Ok) (hm : ML w M a x c d st false 0) (hG : GW w) (a0 : 0 ≤ a) (a1 : a < 4294967296) (x0 : 0 ≤ x) (x1 : x < 4294967296) (j0 : 0 ≤ jt) (j1 : jt < 256) (f0 : 0 ≤ jf) (f1 : jf < 256) (k0 : 0 ≤ k) (k1 : k < 4294967296) : Calls Tryd.prog 51 #[.pointer (some ⟨M, 0, none⟩), .int .u8 4, .agg #[.int .u16 61, .int .u8 jt, .int .u8 jf, .int .u32 k]] w (StepTo M (doI ⟨61, jt, jf, k⟩ d a x c) d st w) := by
    have h0 : doI ⟨61, jt, jf, k⟩ d a x c = .go a x c (if cmpV 3 a x then jt.toNat else jf.toNat) := by kernel_rfl
    have hj : ((jt.toNat : Nat) : Int) = jt := Int.toNat_of_nonneg j0
    have hf : ((jf.toNat : Nat) : Int) = jf := Int.toNat_of_nonneg f0
    cases h : cmpV 3 a x with
    | true =>
      rw [h0, h, if_pos rfl]
      exact (step_jump jt jf k a x c d st M w 61 hm hG jt (Lib.hid fun W hm hG => ljgex_y d jt jf k a x c st false 0 M W hm hG a0 a1 x0 x1 k0 k1 j0 j1 f0 f1 h)).mono fun e w' h => ⟨h.2.2, by rw [hj]; exact h.1, h.2.1⟩
    | false =>
      rw [h0, h, if_neg (by decide)]
      exact (step_jump jt jf k a x c d st M w 61 hm hG jf (Lib.hid fun W hm hG => ljgex_n d jt jf k a x c st false 0 M W hm hG a0 a1 x0 x1 k0 k1 j0 j1 f0 f1 h)).mono fun e w' h => ⟨h.2.2, by rw [hf]; exact h.1, h.2.1⟩
theorem st_c69 (jt jf k a x : Int) (c : Nat → Int) (M : Nat) (w : World) (d : Dat) (st : Int) (hd : d.Ok) (hm : ML w M a x c d st false 0) (hG : GW w) (a0 : 0 ≤ a) (a1 : a < 4294967296) (x0 : 0 ≤ x) (x1 : x < 4294967296) (j0 : 0 ≤ jt) (j1 : jt < 256) (f0 : 0 ≤ jf) (f1 : jf < 256) (k0 : 0 ≤ k) (k1 : k < 4294967296) : Calls Tryd.prog 51 #[.pointer (some ⟨M, 0, none⟩), .int .u8 4, .agg #[.int .u16 69, .int .u8 jt, .int .u8 jf, .int .u32 k]] w (StepTo M (doI ⟨69, jt, jf, k⟩ d a x c) d st w) := by
    have h0 : doI ⟨69, jt, jf, k⟩ d a x c = .go a x c (if cmpV 4 a k then jt.toNat else jf.toNat) := by kernel_rfl
    have hj : ((jt.toNat : Nat) : Int) = jt := Int.toNat_of_nonneg j0
    have hf : ((jf.toNat : Nat) : Int) = jf := Int.toNat_of_nonneg f0
    cases h : cmpV 4 a k with
    | true =>
      rw [h0, h, if_pos rfl]
      exact (step_jump jt jf k a x c d st M w 69 hm hG jt (Lib.hid fun W hm hG => ljset_y d jt jf k a x c st false 0 M W hm hG a0 a1 x0 x1 k0 k1 j0 j1 f0 f1 h)).mono fun e w' h => ⟨h.2.2, by rw [hj]; exact h.1, h.2.1⟩
    | false =>
      rw [h0, h, if_neg (by decide)]
      exact (step_jump jt jf k a x c d st M w 69 hm hG jf (Lib.hid fun W hm hG => ljset_n d jt jf k a x c st false 0 M W hm hG a0 a1 x0 x1 k0 k1 j0 j1 f0 f1 h)).mono fun e w' h => ⟨h.2.2, by rw [hf]; exact h.1, h.2.1⟩
theorem st_c77 (jt jf k a x : Int) (c : Nat → Int) (M : Nat) (w : World) (d : Dat) (st : Int) (hd : d.Ok) (hm : ML w M a x c d st false 0) (hG : GW w) (a0 : 0 ≤ a) (a1 : a < 4294967296) (x0 : 0 ≤ x) (x1 : x < 4294967296) (j0 : 0 ≤ jt) (j1 : jt < 256) (f0 : 0 ≤ jf) (f1 : jf < 256) (k0 : 0 ≤ k) (k1 : k < 4294967296) : Calls Tryd.prog 51 #[.pointer (some ⟨M, 0, none⟩), .int .u8 4, .agg #[.int .u16 77, .int .u8 jt, .int .u8 jf, .int .u32 k]] w (StepTo M (doI ⟨77, jt, jf, k⟩ d a x c) d st w) := by
    have h0 : doI ⟨77, jt, jf, k⟩ d a x c = .go a x c (if cmpV 4 a x then jt.toNat else jf.toNat) := by kernel_rfl
    have hj : ((jt.toNat : Nat) : Int) = jt := Int.toNat_of_nonneg j0
    have hf : ((jf.toNat : Nat) : Int) = jf := Int.toNat_of_nonneg f0
    cases h : cmpV 4 a x with
    | true =>
      rw [h0, h, if_pos rfl]
      exact (step_jump jt jf k a x c d st M w 77 hm hG jt (Lib.hid fun W hm hG => ljsetx_y d jt jf k a x c st false 0 M W hm hG a0 a1 x0 x1 k0 k1 j0 j1 f0 f1 h)).mono fun e w' h => ⟨h.2.2, by rw [hj]; exact h.1, h.2.1⟩
    | false =>
      rw [h0, h, if_neg (by decide)]
      exact (step_jump jt jf k a x c d st M w 77 hm hG jf (Lib.hid fun W hm hG => ljsetx_n d jt jf k a x c st false 0 M W hm hG a0 a1 x0 x1 k0 k1 j0 j1 f0 f1 h)).mono fun e w' h => ⟨h.2.2, by rw [hf]; exact h.1, h.2.1⟩
theorem cls_unknown {c : Int} (h : knownB c = false) : (ofL allL c).cls = 0 := by
  rcases ofL_in allL c with h1 | ⟨o, h1, h2, _⟩
  · rw [h1]; rfl
  · exfalso
    have hm : c ∈ vmCodes := by
      have e : allL.map One.code = vmCodes := by kernel_rfl
      rw [← e, ← h2]
      exact List.mem_map.2 ⟨o, h1, rfl⟩
    rw [code_known hm] at h; cases h
theorem lStep (i : Ins) (hi : i.Ok) (d : Dat) (hd : d.Ok) (a x : Int) (c : Nat → Int) (ok : OkM a x c) (st : Int) (M : Nat) (w : World) (hm : ML w M a x c d st false 0) (hG : GW w) :
    Calls Tryd.prog 51 #[.pointer (some ⟨M, 0, none⟩), .int .u8 (ofL allL i.c).cls, .agg #[.int .u16 i.c, .int .u8 i.jt, .int .u8 i.jf, .int .u32 i.k]] w (StepTo M (doI i d a x c) d st w) := by
  cases hk : knownB i.c with
  | false =>
    rw [doI_unknown hi hk, cls_unknown hk]
    exact (step_none i.jt i.jf i.k a x c d st M w i.c hm hG).mono fun e w' h => ⟨h.2.2, h.1, _, _, _, h.2.1⟩
  | true =>
    have hc := known_code hk
    obtain ⟨cd, jt, jf, k⟩ := i
    obtain ⟨c0, c1, t0, t1, f0, f1, k0, k1⟩ := hi
    obtain ⟨⟨a0, a1⟩, ⟨x0, x1⟩, _⟩ := ok
    simp only at c0 c1 t0 t1 f0 f1 k0 k1 hc hk ⊢
    simp only [vmCodes, List.mem_cons, List.not_mem_nil, or_false] at hc
    rcases hc with rfl | rfl | rfl | rfl | rfl | rfl | rfl | rfl | rfl | rfl | rfl | rfl | rfl | rfl | rfl | rfl | rfl | rfl | rfl | rfl | rfl | rfl | rfl | rfl | rfl | rfl | rfl | rfl | rfl | rfl | rfl | rfl | rfl | rfl | rfl | rfl | rfl | rfl | rfl | rfl | rfl
    · exact st_c32 jt jf k a x _ M w d st hd hm hG a0 a1 x0 x1 t0 t1 f0 f1 k0 k1
    · exact st_c128 jt jf k a x _ M w d st hd hm hG a0 a1 x0 x1 t0 t1 f0 f1 k0 k1
    · exact st_c0 jt jf k a x _ M w d st hd hm hG a0 a1 x0 x1 t0 t1 f0 f1 k0 k1
    · exact st_c96 jt jf k a x _ M w d st hd hm hG a0 a1 x0 x1 t0 t1 f0 f1 k0 k1
    · exact st_c129 jt jf k a x _ M w d st hd hm hG a0 a1 x0 x1 t0 t1 f0 f1 k0 k1
    · exact st_c1 jt jf k a x _ M w d st hd hm hG a0 a1 x0 x1 t0 t1 f0 f1 k0 k1
    · exact st_c97 jt jf k a x _ M w d st hd hm hG a0 a1 x0 x1 t0 t1 f0 f1 k0 k1
    · exact st_c2 jt jf k a x _ M w d st hd hm hG a0 a1 x0 x1 t0 t1 f0 f1 k0 k1
    · exact st_c3 jt jf k a x _ M w d st hd hm hG a0 a1 x0 x1 t0 t1 f0 f1 k0 k1
    · exact st_c132 jt jf k a x _ M w d st hd hm hG a0 a1 x0 x1 t0 t1 f0 f1 k0 k1
    · exact st_c5 jt jf k a x _ M w d st hd hm hG a0 a1 x0 x1 t0 t1 f0 f1 k0 k1
    · exact st_c6 jt jf k a x _ M w d st hd hm hG a0 a1 x0 x1 t0 t1 f0 f1 k0 k1
    · exact st_c22 jt jf k a x _ M w d st hd hm hG a0 a1 x0 x1 t0 t1 f0 f1 k0 k1
    · exact st_c7 jt jf k a x _ M w d st hd hm hG a0 a1 x0 x1 t0 t1 f0 f1 k0 k1
    · exact st_c135 jt jf k a x _ M w d st hd hm hG a0 a1 x0 x1 t0 t1 f0 f1 k0 k1
    · exact st_c4 jt jf k a x _ M w d st hd hm hG a0 a1 x0 x1 t0 t1 f0 f1 k0 k1
    · exact st_c12 jt jf k a x _ M w d st hd hm hG a0 a1 x0 x1 t0 t1 f0 f1 k0 k1
    · exact st_c20 jt jf k a x _ M w d st hd hm hG a0 a1 x0 x1 t0 t1 f0 f1 k0 k1
    · exact st_c28 jt jf k a x _ M w d st hd hm hG a0 a1 x0 x1 t0 t1 f0 f1 k0 k1
    · exact st_c36 jt jf k a x _ M w d st hd hm hG a0 a1 x0 x1 t0 t1 f0 f1 k0 k1
    · exact st_c44 jt jf k a x _ M w d st hd hm hG a0 a1 x0 x1 t0 t1 f0 f1 k0 k1
    · exact st_c52 jt jf k a x _ M w d st hd hm hG a0 a1 x0 x1 t0 t1 f0 f1 k0 k1
    · exact st_c60 jt jf k a x _ M w d st hd hm hG a0 a1 x0 x1 t0 t1 f0 f1 k0 k1
    · exact st_c68 jt jf k a x _ M w d st hd hm hG a0 a1 x0 x1 t0 t1 f0 f1 k0 k1
    · exact st_c76 jt jf k a x _ M w d st hd hm hG a0 a1 x0 x1 t0 t1 f0 f1 k0 k1
    · exact st_c84 jt jf k a x _ M w d st hd hm hG a0 a1 x0 x1 t0 t1 f0 f1 k0 k1
    · exact st_c92 jt jf k a x _ M w d st hd hm hG a0 a1 x0 x1 t0 t1 f0 f1 k0 k1
    · exact st_c100 jt jf k a x _ M w d st hd hm hG a0 a1 x0 x1 t0 t1 f0 f1 k0 k1
    · exact st_c108 jt jf k a x _ M w d st hd hm hG a0 a1 x0 x1 t0 t1 f0 f1 k0 k1
    · exact st_c116 jt jf k a x _ M w d st hd hm hG a0 a1 x0 x1 t0 t1 f0 f1 k0 k1
    · exact st_c124 jt jf k a x _ M w d st hd hm hG a0 a1 x0 x1 t0 t1 f0 f1 k0 k1
    · exact st_c164 jt jf k a x _ M w d st hd hm hG a0 a1 x0 x1 t0 t1 f0 f1 k0 k1
    · exact st_c172 jt jf k a x _ M w d st hd hm hG a0 a1 x0 x1 t0 t1 f0 f1 k0 k1
    · exact st_c21 jt jf k a x _ M w d st hd hm hG a0 a1 x0 x1 t0 t1 f0 f1 k0 k1
    · exact st_c29 jt jf k a x _ M w d st hd hm hG a0 a1 x0 x1 t0 t1 f0 f1 k0 k1
    · exact st_c37 jt jf k a x _ M w d st hd hm hG a0 a1 x0 x1 t0 t1 f0 f1 k0 k1
    · exact st_c45 jt jf k a x _ M w d st hd hm hG a0 a1 x0 x1 t0 t1 f0 f1 k0 k1
    · exact st_c53 jt jf k a x _ M w d st hd hm hG a0 a1 x0 x1 t0 t1 f0 f1 k0 k1
    · exact st_c61 jt jf k a x _ M w d st hd hm hG a0 a1 x0 x1 t0 t1 f0 f1 k0 k1
    · exact st_c69 jt jf k a x _ M w d st hd hm hG a0 a1 x0 x1 t0 t1 f0 f1 k0 k1
    · exact st_c77 jt jf k a x _ M w d st hd hm hG a0 a1 x0 x1 t0 t1 f0 f1 k0 k1
end Go.Proofs.YtohfampfnhfnlaaDoor
namespace Go.Proofs.YtohfampfnhfnlaaDoor
open Go.RowKit
set_option linter.unusedVariables false

theorem ta_some (r : Int) (w : World) : Sem.run Tryd.prog (Instr.typeAssert (.iface 24 (.int .i64 r)) 20 24 true) w = .ok (.tuple #[.int .i64 r, .bool true]) w := by kernel_rfl
theorem ta_none (w : World) : Sem.run Tryd.prog (Instr.typeAssert .nilIface 20 24 true) w = .ok (.tuple #[.int .i64 0, .bool false]) w := by kernel_rfl
set_option maxHeartbeats 4000000 in
set_option maxRecDepth 100000 in
theorem catch_pan (p : Addr) (x r : Int) (w : World) (hc : w.cell? p = some (.int .i64 x)) (hz : w.frozen? p = false) :
    CallsD Tryd.prog 49 #[.pointer (some p)] (.panicking [{ v := .iface 24 (.int .i64 r), recovered := false }]) w fun e u' w' =>
      e = .returned (.tuple #[]) ∧ u' = .panicking [{ v := .iface 24 (.int .i64 r), recovered := true }] ∧ w' = w.setCell p (.int .i64 r) := by
  refine callsD_of_wpS Tryd.func49 rfl fun c₀ cs hu => ?_
  apply wpS_seq
  apply wpS_region
  simp [wpOpsS, go_sem, recoverD, hu, Tryd.ntmps49, Exit.thenS, ta_some]
  apply wpS_seq
  apply wpS_region
  simp [wpOpsS, go_sem, Exit.thenS]
  refine wpS_cond (t := true) (by simp [Act.eval, Array.replicate]) ?_
  simp only [if_true]
  apply wpS_region
  simp [wpOpsS, go_sem, hc, hz, bodyPostS, results, Tryd.results49, Array.replicate]
theorem catch_idle (p : Addr) (w : World) :
    CallsD Tryd.prog 49 #[.pointer (some p)] .returning w fun e u' w' => e = .returned (.tuple #[]) ∧ u' = .returning ∧ w' = w := by
  refine callsD_of_wpS Tryd.func49 rfl fun c₀ cs hu => ?_
  apply wpS_seq
  apply wpS_region
  simp [wpOpsS, go_sem, recoverD, hu, Tryd.ntmps49, Exit.thenS, ta_none]
  apply wpS_seq
  apply wpS_region
  simp [wpOpsS, go_sem, Exit.thenS]
  refine wpS_cond (t := false) (by simp [Act.eval, Array.replicate]) ?_
  simp only [Bool.false_eq_true, if_false]
  refine wpS_of_wp (wp_skip ?_)
  cases c₀
  simp_all [bodyPostS, results, Tryd.results49]
end Go.Proofs.YtohfampfnhfnlaaDoor
namespace Go.Proofs.YtohfampfnhfnlaaDoor
open Go.RowKit
set_option linter.unusedVariables false
attribute [local go_sem ↓] Go.wp_at_zero Go.wp_at_succ

/-- The blocks of P are as they were. -/
structure Kp (P : Nat → Prop) (w w' : World) : Prop where
  os : w'.os = w.os
  tape : w'.tape = w.tape
  output : w'.output = w.output
  size : w.heap.size ≤ w'.heap.size
  block : ∀ k, P k → w'.heap[k]? = w.heap[k]?
theorem Kp.refl (P : Nat → Prop) (w : World) : Kp P w w := ⟨rfl, rfl, rfl, Nat.le_refl _, fun _ _ => rfl⟩
theorem Kp.trans {P : Nat → Prop} {a b c : World} (h : Kp P a b) (k : Kp P b c) : Kp P a c := ⟨k.os.trans h.os, k.tape.trans h.tape, k.output.trans h.output, Nat.le_trans h.size k.size, fun i hi => (k.block i hi).trans (h.block i hi)⟩
theorem Kp.imp {P Q : Nat → Prop} {a b : World} (h : Kp P a b) (i : ∀ k, Q k → P k) : Kp Q a b := ⟨h.os, h.tape, h.output, h.size, fun k hk => h.block k (i k hk)⟩
theorem Kp.of_grown {P : Nat → Prop} {w w' : World} {j : Nat} (hg : w.grownBy w' (some j)) (hP : ∀ k, P k → k < w.heap.size ∧ k ≠ j) : Kp P w w' :=
  ⟨hg.os, hg.tape, hg.output, hg.size, fun k hk => hg.block k (hP k hk).1 (fun e => (hP k hk).2 (by injection e))⟩
theorem Kp.of_below {P : Nat → Prop} {w w' : World} {n : Nat} (hb : Below n w w') (hP : ∀ k, P k → k < n) : Kp P w w' := ⟨hb.os, hb.tape, hb.output, hb.size, fun k hk => hb.block k (hP k hk)⟩
theorem Kp.below {P : Nat → Prop} {w w' : World} {n : Nat} (h : Kp P w w') (hP : ∀ k, k < n → P k) : Below n w w' := ⟨h.os, h.tape, h.output, h.size, fun k hk => h.block k (hP k hk)⟩
theorem Kp.cell {P : Nat → Prop} {w w' : World} (h : Kp P w w') {p : Addr} (hp : P p.block) : w'.cell? p = w.cell? p := World.cell?_of_block (h.block _ hp)
theorem ML.kp {P : Nat → Prop} {w w' : World} {M : Nat} {a x : Int} {c : Nat → Int} {d : Dat} {st : Int} {ov : Bool} {an : Int} (h : ML w M a x c d st ov an) (k : Kp P w w') (hM : P M) : ML w' M a x c d st ov an := (k.block M hM).trans h
theorem GW.kp {P : Nat → Prop} {w w' : World} (h : GW w) (k : Kp P w w') (hR : P 0) : GW w' := fun j u hu => (k.cell hR).trans (h j u hu)
theorem GW.lt {w : World} (h : GW w) : 0 < w.heap.size := World.block_lt_of_cell? w _ (h 0 _ rfl)
/-- Block E holds the error that is returned. -/
def EAt (w : World) (E : Nat) (r : Int) : Prop := w.heap[E]? = some (.cells #[.int .i64 r] 24 (0, 0))
theorem EAt.cell {w : World} {E : Nat} {r : Int} (h : EAt w E r) : w.cell? ⟨E, 0, none⟩ = some (.int .i64 r) := by rw [cell_of_row w E 0 _ _ (0, 0) h]; rfl
theorem EAt.free {w : World} {E : Nat} {r : Int} (h : EAt w E r) : w.frozen? ⟨E, 0, none⟩ = false := frozen_of_row w E 0 _ _ h
theorem EAt.set_ {w : World} {E : Nat} {r : Int} (h : EAt w E r) (v : Int) : EAt (w.setCell ⟨E, 0, none⟩ (.int .i64 v)) E v := by
  have := heap_setCell_same w E 0 _ _ (.int .i64 v) h
  unfold EAt
  rw [this]; rfl
theorem EAt.kp {P : Nat → Prop} {w w' : World} {E : Nat} {r : Int} (h : EAt w E r) (k : Kp P w w') (hE : P E) : EAt w' E r := (k.block E hE).trans h
/-- Where things lie: the machine in block M, what the one who visits has of his own in block b, the program and the table below B0. -/
structure Cfg (w : World) (b : Option Nat) (M B0 : Nat) : Prop where
  hB : B0 ≤ w.heap.size
  hBM : B0 ≤ M
  hb : ∀ j, b = some j → B0 ≤ j ∧ j < w.heap.size ∧ j ≠ M
  hg : 0 < B0
  hM : M < w.heap.size
def RR (w : World) (b : Option Nat) (M : Nat) : Nat → Prop := fun j => j < w.heap.size ∧ some j ≠ b ∧ j ≠ M
def VP (w : World) (b : Option Nat) : Nat → Prop := fun j => j < w.heap.size + 1 ∧ some j ≠ b
def Stay (V : List Nat → World → Prop) (w : World) (M : Nat) : Prop := ∀ (pl : List Nat) (W W' : World) (j : Nat), V pl W → (j = M ∨ j = w.heap.size) → W.grownBy W' (some j) → V pl W'
/-- How things stand in a round. -/
structure Sit (w : World) (b : Option Nat) (M : Nat) (V : List Nat → World → Prop) (pl : List Nat) (W : World) : Prop where
  e : EAt W w.heap.size 0
  k : Kp (RR w b M) w W
  s : w.heap.size + 1 ≤ W.heap.size
  g : GW W
  v : V pl W
section
variable {w W W' : World} {b : Option Nat} {M B0 : Nat} {V : List Nat → World → Prop} {pl pl' : List Nat}
theorem Cfg.low (C : Cfg w b M B0) {j : Nat} (h : j < B0) : RR w b M j := ⟨Nat.lt_of_lt_of_le h C.hB, fun e => by have := C.hb j e.symm; omega, by have := C.hBM; omega⟩
theorem Cfg.vM (C : Cfg w b M B0) : VP w b M := ⟨by have := C.hM; omega, fun e => (C.hb M e.symm).2.2 rfl⟩
theorem Cfg.vE (C : Cfg w b M B0) : VP w b w.heap.size := ⟨by omega, fun e => by have := (C.hb _ e.symm).2.1; omega⟩
theorem Cfg.vLow (C : Cfg w b M B0) {j : Nat} (h : j < B0) : VP w b j := ⟨by have := C.hB; omega, fun e => by have := C.hb j e.symm; omega⟩
theorem Sit.grown (C : Cfg w b M B0) (HS : Stay V w M) (h : Sit w b M V pl W) (hg : W.grownBy W' (some M)) : Sit w b M V pl W' :=
  ⟨(hg.block _ (by have := h.s; omega) (fun e => by injection e with e; have := C.hM; omega)).trans h.e,
   h.k.trans (Kp.of_grown hg fun k hk => ⟨by have := h.s; have := hk.1; omega, hk.2.2⟩), Nat.le_trans h.s hg.size,
   h.g.kp (P := RR w b M) (Kp.of_grown hg fun k hk => ⟨by have := h.s; have := hk.1; omega, hk.2.2⟩) (C.low C.hg), HS _ _ _ _ h.v (Or.inl rfl) hg⟩
theorem Sit.below (C : Cfg w b M B0) (HS : Stay V w M) (h : Sit w b M V pl W) (hb : Below W.heap.size W W') : Sit w b M V pl W' := h.grown C HS (of_below hb)
theorem Sit.visit (C : Cfg w b M B0) (h : Sit w b M V pl W) (k : Kp (VP w b) W W') (hv : V pl' W') : Sit w b M V pl' W' :=
  ⟨h.e.kp k C.vE, h.k.trans (k.imp fun j hj => ⟨by have := hj.1; omega, hj.2.1⟩), Nat.le_trans h.s k.size, h.g.kp k (C.vLow C.hg), hv⟩
theorem Sit.ins (C : Cfg w b M B0) (h : Sit w b M V pl W) {bp q : Nat} {i : Ins} (hi : InsAt w bp q i) (hp : bp < B0) : InsAt W bp q i := hi.keep fun a ha => h.k.cell (C.low (by rw [ha]; exact hp))
theorem Sit.shut (C : Cfg w b M B0) (HS : Stay V w M) (h : Sit w b M V pl W) (v : Int) : V pl (W.setCell ⟨w.heap.size, 0, none⟩ (.int .i64 v)) ∧ Kp (RR w b M) w (W.setCell ⟨w.heap.size, 0, none⟩ (.int .i64 v)) :=
  ⟨HS _ _ _ _ h.v (Or.inr rfl) (of_set W _ 0 _), h.k.trans (Kp.of_grown (of_set W w.heap.size 0 _) fun k hk => ⟨by have := h.s; have := hk.1; omega, by have := hk.1; omega⟩)⟩
theorem ML.shut (C : Cfg w b M B0) {a x : Int} {c : Nat → Int} {d : Dat} {st : Int} {ov : Bool} {an : Int} (hm : ML W M a x c d st ov an) (v : Int) : ML (W.setCell ⟨w.heap.size, 0, none⟩ (.int .i64 v)) M a x c d st ov an := hm.but (of_set W w.heap.size 0 _) (by have := C.hM; omega)
end
/-- A run that is under way. -/
def RunI (p : List Ins) (d : Dat) (M : Nat) (cb : Int) (k : Nat) (pl : List Nat) (w : World) : Prop :=
  ∃ (a x : Int) (c : Nat → Int) (f : Nat), ML w M a x c d pl.length false 0 ∧ OkM a x c ∧ pl.length ≤ k ∧ pl.length ≤ p.length ∧ p.length < f + k ∧ runF p d f k a x c (if cb = 4 then 42 else 46) pl = runL p d
/-- A run that is over, with an answer. -/
def DoneI (p : List Ins) (d : Dat) (M : Nat) (pl : List Nat) (w : World) : Prop :=
  ∃ (a x : Int) (c : Nat → Int), ML w M a x c d (runL p d).steps true (runL p d).ans ∧ (runL p d).err = 0 ∧ pl = (runL p d).pl
/-- What is behind it. -/
def RunE (V : List Nat → World → Prop) (p : List Ins) (d : Dat) (M : Nat) (P : Nat → Prop) (w : World) (e : Ending) (w' : World) : Prop :=
  e = .returned (.int .i64 (runL p d).err) ∧ (∃ (a x : Int) (c : Nat → Int) (ov : Bool), ML w' M a x c d (runL p d).steps ov (runL p d).ans) ∧ V (runL p d).pl w' ∧ Kp P w w'
theorem skip_cls {i : Ins} (hi : i.Ok) {d : Dat} {a x a' x' : Int} {c c' : Nat → Int} {n : Nat} (h : doI i d a x c = .go a' x' c' n) : (if (ofL allL i.c).cls = 4 then (42 : Int) else 46) = (if isJump i.c then 42 else 46) := by
  rw [← jump_cls (go_known hi h)]
  by_cases hc : (ofL allL i.c).cls = 4 <;> simp [hc]
theorem cls_small (c : Int) : 0 ≤ (ofL allL c).cls ∧ (ofL allL c).cls ≤ 6 := by
  rcases ofL_in allL c with h | ⟨o, h1, _, h3⟩
  · rw [h]; decide
  · rw [h3]
    have e : allL.all (fun o => decide (0 ≤ o.cls ∧ o.cls ≤ 6)) = true := by decide +kernel
    exact of_decide_eq_true (List.all_eq_true.1 e o h1)
theorem wrap_u64_small {x : Int} (h0 : 0 ≤ x) (h1 : x < 18446744073709551616) : IntKind.u64.wrap x = x := by
  rw [IntKind.wrap_u64]; omega
theorem missing_any (cb : Int) (w : World) : Calls Tryd.prog 50 #[.int .u8 cb] w fun e w' => e = .returned (.int .i64 (if cb = 4 then 42 else 46)) ∧ w = w' := by
  by_cases h : cb = 4
  · rw [if_pos h]
    have t1 : (cb == 4) = true := beq_iff_eq.2 h
    clear h
    go_enter Tryd.func50, Tryd.ntmps50
    go_wp2
    go_ret
    exact ⟨rfl, rfl⟩
  · rw [if_neg h]
    have t1 : (cb == 4) = false := beq_eq_false_iff_ne.2 h
    clear h
    go_enter Tryd.func50, Tryd.ntmps50
    go_wp2
    go_ret
    exact ⟨rfl, rfl⟩
set_option maxRecDepth 100000 in
set_option maxHeartbeats 16000000 in
theorem run_plain (V : List Nat → World → Prop) (b : Option Nat) (B0 : Nat) (a0 : Option Addr) (len0 cap0 : Nat) (p : List Ins) (d : Dat) (M : Nat) (w : World) (hl : p.length = len0) (hn : len0 ≤ 1000) (hp : OkL p) (hd : d.Ok) (hr : RdI w B0 a0 p)
    (hm : ML w M 0 0 (fun _ => 0) d 0 false 0) (hG : GW w) (hC : Cfg w b M B0) (hV : V [] (w.alloc (.cells #[.int .i64 0] 24)))
    (HV : ∀ (pl : List Nat) (k : Nat) (W : World), V pl W → pl.length ≤ 1000 → k ≤ 1000 → w.heap.size + 1 ≤ W.heap.size → Calls Tryd.prog 29 #[.int .i64 k] W fun e w' => e = .returned (.tuple #[]) ∧ V (pl ++ [k]) w' ∧ Kp (VP w b) W w')
    (hS : Stay V w M) :
    Calls Tryd.prog 28 #[.pointer (some ⟨M, 0, none⟩), .slice a0 len0 cap0, .func (.func 29) #[] #[]] w (RunE V p d M (RR w b M) w) := by
  have hmf : ∀ (fn : Fn) (first cap : Array Value) (w : World), (Instr.makeFunc fn first cap).run Tryd.prog w = .ok (.func fn first cap) w := fun _ _ _ _ => rfl
  have HL := Lib.hid hl
  have HP := Lib.hid hp
  have HD := Lib.hid hd
  have HR := Lib.hid hr
  have HVV := Lib.hid HV
  have HS := Lib.hid hS
  have C := Lib.hid hC
  have hn1 : (len0 : Int) ≤ 1000 := by omega
  have h0 : Hid (Sit w b M V [] (w.alloc (.cells #[.int .i64 0] 24)) ∧ RunI p d M 0 0 [] (w.alloc (.cells #[.int .i64 0] 24))) :=
    Lib.hid ⟨⟨heap_alloc_new w _, Kp.of_below ((Below.refl _ _).alloc (Nat.le_refl _) _) (fun k hk => hk.1), by simp, hG.alloc _, hV⟩, 0, 0, fun _ => 0, p.length + 1, hm.al _, ⟨⟨by decide, by decide⟩, ⟨by decide, by decide⟩, fun _ => ⟨Int.le_refl 0, by show (0 : Int) < 4294967296; decide⟩⟩, Nat.zero_le _, Nat.zero_le _, by omega, rfl⟩
  have hME := hm.lt
  clear hl hp hd hr hV HV hS hC hm hG
  go_enter_defers Tryd.func28, Tryd.ntmps28
  go_wp2_with fail
  go_loopw [7, 8] (fun v7 v8 wr => ∃ k : Nat, k ≤ 8589934592 ∧ v8 = .int .u64 k ∧ ∃ cb : Int, v7 = .int .u8 cb ∧ ∃ pl : List Nat, Hid (Sit w b M V pl wr) ∧ Hid (RunI p d M cb k pl wr ∨ DoneI p d M pl wr)) (fun _ v8 _ => 17179869184 - (intOf v8).toNat)
  case atStart => exact ⟨0, by omega, rfl, 0, rfl, [], Lib.hid h0.out.1, Lib.hid (Or.inl h0.out.2)⟩
  case round =>
    clear h0
    obtain ⟨k, hk, rfl, cb, rfl, pl, HSI, HI⟩ := hrel
    obtain ⟨W, rfl⟩ : ∃ wo : World, wo = wr := ⟨_, rfl⟩
    have e0 := HSI.out.e.cell
    have ef := HSI.out.e.free
    rcases HI.out with HI' | HI'
    rotate_left
    · obtain ⟨a, x, c, hm, he, rfl⟩ := HI'
      have m7 := hm.cell 70 _ rfl
      have HM := Lib.hid hm
      have HER := Lib.hid he
      clear hm he HI
      go_wp2_with fail
      refine leaves_cons (f := 49) (args := #[.pointer (some ⟨w.heap.size, 0, none⟩)]) (by simp) (by simp [go_sem]) ?_
      refine (catch_idle ⟨w.heap.size, 0, none⟩ _).mono ?_
      rintro e u' w'' ⟨rfl, rfl, rfl⟩
      simp only [settle, Leaves]
      have e2 := (HSI.out.e.set_ 0).cell
      exact ⟨.int .i64 0, by simp [results, Tryd.results28, go_sem, e2], by rw [HER.out], ⟨a, x, c, true, HM.out.shut C.out 0⟩, HSI.out.shut C.out HS.out 0⟩
    · obtain ⟨a, x, c, f, hm, ho, h1, h2, h3, h4⟩ := HI'
      clear HI
      have m7 := hm.cell 70 _ rfl
      by_cases hlt : k < len0
      · have hkl : k < p.length := by rw [HL.out]; exact hlt
        obtain ⟨bp, o, rfl, hbB, hc⟩ := HR.out (by omega)
        have hat := Lib.hid (hc k hkl)
        have hok := Lib.hid (HP.out.get hkl)
        obtain ⟨i, hi⟩ : ∃ i, i = p[k] := ⟨_, rfl⟩
        rw [← hi] at hat hok
        have HPK := Lib.hid (show p[k]? = some i by rw [hi]; exact List.getElem?_eq_getElem hkl)
        have k1000 : (k : Int) < 1000 := by omega
        have hkn : (k : Int) < len0 := by omega
        have hfuel : ∃ g, f = g + 1 := ⟨f - 1, by omega⟩
        obtain ⟨f, rfl⟩ := hfuel
        have HV1 := Lib.hid (HVV.out pl k W HSI.out.v (by omega) (by omega) HSI.out.s)
        have HOF := Lib.hid (fun W hG => ofC i.c W hG hok.out.c0 hok.out.c1)
        have HST := Lib.hid (fun W hm hG => lStep i hok.out d HD.out a x c ho pl.length M W hm hG)
        have HM := Lib.hid hm
        have HO := Lib.hid ho
        have HF := Lib.hid (And.intro h1 (And.intro h2 (And.intro h3 h4)))
        obtain ⟨cl, hcl⟩ : ∃ cl, cl = (ofL allL i.c).cls := ⟨_, rfl⟩
        rw [← hcl] at HOF HST
        clear hc hi hm ho h1 h2 h3 h4 hkl
        cases hdo : doI i d a x c with
        | bad er =>
          have hres : runL p d = ⟨0, pl.length, pl ++ [k], er⟩ := by
            rw [← HF.out.2.2.2]; simp only [runF, HPK.out, hdo]
          have HRES := Lib.hid hres
          rw [hdo] at HST
          unfold StepTo at HST
          simp only at HST
          clear hdo hres HF HPK hcl
          go_wp2_with (first
          | (go_at_call 29; ((with_reducible refine (HV1.out).mono ?_); rintro e w1 ⟨rfl, v1, k1⟩); have S1 := Lib.hid (HSI.out.visit C.out k1 v1); obtain ⟨q0, q1, q2, q3⟩ := S1.out.ins C.out hat.out hbB; have M1 := Lib.hid (HM.out.kp k1 C.out.vM))
          | (go_at_call 20; ((with_reducible refine (HOF.out _ S1.out.g).mono ?_); rintro e w2 ⟨rfl, b2⟩); have S2 := Lib.hid (S1.out.below C.out HS.out b2); clear q0 q1 q2 q3; obtain ⟨q0, q1, q2, q3⟩ := S2.out.ins C.out hat.out hbB; have M2 := Lib.hid (M1.out.on b2))
          | (go_at_call 51; ((with_reducible refine (HST.out _ M2.out S2.out.g).mono ?_); rintro e w3 ⟨g3, rfl, a2, x2, c2, hm3⟩); have S3 := Lib.hid (S2.out.grown C.out HS.out g3)))
          refine leaves_cons (f := 49) (args := #[.pointer (some ⟨w.heap.size, 0, none⟩)]) (by simp) (by simp [go_sem]) ?_
          refine (catch_pan ⟨w.heap.size, 0, none⟩ 0 er _ S3.out.e.cell S3.out.e.free).mono ?_
          rintro e u' w'' ⟨rfl, rfl, rfl⟩
          show Leaves _ _ _ _ _ .returning _
          simp only [Leaves]
          have e2 := (S3.out.e.set_ er).cell
          refine ⟨.int .i64 er, by simp [results, Tryd.results28, go_sem, e2], ?_⟩
          have h5 := S3.out.shut C.out HS.out er
          rw [RunE, HRES.out]
          exact ⟨rfl, ⟨a2, x2, c2, false, hm3.shut C.out er⟩, h5⟩
        | fin v =>
          have hres : runL p d = ⟨v, pl.length + 1, pl ++ [k], 0⟩ := by
            rw [← HF.out.2.2.2]; simp only [runF, HPK.out, hdo]
          have HRES := Lib.hid hres
          rw [hdo] at HST
          unfold StepTo at HST
          simp only at HST
          have hpl : ((pl.length : Nat) : Int) ≤ 1000 := by have := HF.out.2.1; have := HL.out; omega
          clear hdo hres HF HPK hcl
          go_wp2_with (first
          | (go_at_call 29; ((with_reducible refine (HV1.out).mono ?_); rintro e w1 ⟨rfl, v1, k1⟩); have S1 := Lib.hid (HSI.out.visit C.out k1 v1); obtain ⟨q0, q1, q2, q3⟩ := S1.out.ins C.out hat.out hbB; have M1 := Lib.hid (HM.out.kp k1 C.out.vM))
          | (go_at_call 20; ((with_reducible refine (HOF.out _ S1.out.g).mono ?_); rintro e w2 ⟨rfl, b2⟩); have S2 := Lib.hid (S1.out.below C.out HS.out b2); clear q0 q1 q2 q3; obtain ⟨q0, q1, q2, q3⟩ := S2.out.ins C.out hat.out hbB; have M2 := Lib.hid (M1.out.on b2))
          | (go_at_call 51; ((with_reducible refine (HST.out _ M2.out S2.out.g).mono ?_); rintro e w3 ⟨g3, rfl, a2, x2, c2, hm3⟩); have S3 := Lib.hid (S2.out.grown C.out HS.out g3); have M3 := Lib.hid hm3; have p9 := hm3.cell 69 _ rfl; have pf := hm3.free; have pl3 := hm3.lt; clear hm3))
          go_roundw
          case rel =>
            refine ⟨k + 1, by omega, by go_num, cl, rfl, pl ++ [k], Lib.hid (S3.out.grown C.out HS.out (of_set w3 M 69 _)), Lib.hid (Or.inr ⟨a2, x2, c2, ?_, by rw [HRES.out], by rw [HRES.out]⟩)⟩
            rw [HRES.out]
            exact M3.out.set_ 69 _ rfl
          case measure => simp [intOf]; omega
        | go a' x' c' n =>
          have HNX := Lib.hid (show runF p d f (k + 1 + n) a' x' c' (if cl = 4 then 42 else 46) (pl ++ [k]) = runL p d by rw [hcl, skip_cls hok.out hdo, ← HF.out.2.2.2]; simp only [runF, HPK.out, hdo])
          have HOK : Hid (OkM a' x' c') := Lib.hid (by have := doI_range hok.out d HO.out.1 HO.out.2.1 HO.out.2.2; rw [hdo] at this; exact this)
          have HN4 := Lib.hid (skip_small hok.out hdo)
          have hw1 : IntKind.u64.wrap (n : Int) = n := wrap_u64_small (by omega) (by have := HN4.out; omega)
          have hw2 : IntKind.u64.wrap (1 + (n : Int)) = 1 + n := wrap_u64_small (by omega) (by have := HN4.out; omega)
          have hw3 : IntKind.u64.wrap ((k : Int) + (1 + (n : Int))) = k + (1 + n) := wrap_u64_small (by omega) (by have := HN4.out; omega)
          rw [hdo] at HST
          unfold StepTo at HST
          simp only at HST
          have hpl : ((pl.length : Nat) : Int) ≤ 1000 := by have := HF.out.2.1; have := HL.out; omega
          have HLN := Lib.hid (And.intro HF.out.1 (And.intro HF.out.2.1 HF.out.2.2.1))
          have HLL := Lib.hid hlt
          clear hdo HF HPK hcl
          go_wp2_with (first
          | (go_at_call 29; ((with_reducible refine (HV1.out).mono ?_); rintro e w1 ⟨rfl, v1, k1⟩); have S1 := Lib.hid (HSI.out.visit C.out k1 v1); obtain ⟨q0, q1, q2, q3⟩ := S1.out.ins C.out hat.out hbB; have M1 := Lib.hid (HM.out.kp k1 C.out.vM))
          | (go_at_call 20; ((with_reducible refine (HOF.out _ S1.out.g).mono ?_); rintro e w2 ⟨rfl, b2⟩); have S2 := Lib.hid (S1.out.below C.out HS.out b2); clear q0 q1 q2 q3; obtain ⟨q0, q1, q2, q3⟩ := S2.out.ins C.out hat.out hbB; have M2 := Lib.hid (M1.out.on b2))
          | (go_at_call 51; ((with_reducible refine (HST.out _ M2.out S2.out.g).mono ?_); rintro e w3 ⟨g3, rfl, hm3⟩); have S3 := Lib.hid (S2.out.grown C.out HS.out g3); have M3 := Lib.hid hm3; have p9 := hm3.cell 69 _ rfl; have pf := hm3.free; have pl3 := hm3.lt; clear hm3))
          go_roundw
          case rel =>
            obtain ⟨l1, l2, l3⟩ := HLN.out
            have hn4 := HN4.out
            have l4 := HLL.out
            have l5 := HL.out
            refine ⟨k + 1 + n, by omega, by go_num, cl, rfl, pl ++ [k], Lib.hid (S3.out.grown C.out HS.out (of_set w3 M 69 _)), Lib.hid (Or.inl ⟨a', x', c', f, ?_, HOK.out, ?_, ?_, by omega, HNX.out⟩)⟩
            · rw [List.length_append]
              exact M3.out.set_ 69 _ rfl
            · rw [List.length_append]; simp only [List.length_cons, List.length_nil]; omega
            · rw [List.length_append]; simp only [List.length_cons, List.length_nil]; omega
          case measure => (have hn4 := HN4.out; simp [intOf]; omega)
      · have hnone : p[k]? = none := List.getElem?_eq_none (by rw [HL.out]; omega)
        have hres : runL p d = ⟨0, pl.length, pl, if cb = 4 then 42 else 46⟩ := by
          rw [← h4]
          cases f with
          | zero => rfl
          | succ f => simp only [runF, hnone]
        have HRES := Lib.hid hres
        have HMI := Lib.hid (fun W => missing_any cb W)
        have HM := Lib.hid hm
        obtain ⟨r, hr⟩ : ∃ r : Int, r = if cb = 4 then 42 else 46 := ⟨_, rfl⟩
        rw [← hr] at HRES HMI
        have hge : (len0 : Int) ≤ k := by omega
        clear hres hnone h4 h3 h2 h1 ho hm hlt hr
        go_wp2_with (go_at_call 50; ((with_reducible refine (HMI.out _).mono ?_); rintro e w1 ⟨rfl, rfl⟩))
        refine leaves_cons (f := 49) (args := #[.pointer (some ⟨w.heap.size, 0, none⟩)]) (by simp) (by simp [go_sem]) ?_
        refine (catch_pan ⟨w.heap.size, 0, none⟩ 0 r _ e0 ef).mono ?_
        rintro e u' w'' ⟨rfl, rfl, rfl⟩
        show Leaves _ _ _ _ _ .returning _
        simp only [Leaves]
        have e2 := (HSI.out.e.set_ r).cell
        refine ⟨.int .i64 r, by simp [results, Tryd.results28, go_sem, e2], ?_⟩
        have h5 := HSI.out.shut C.out HS.out r
        rw [RunE, HRES.out]
        exact ⟨rfl, ⟨a, x, c, false, HM.out.shut C.out r⟩, h5⟩
set_option maxRecDepth 100000 in
set_option maxHeartbeats 16000000 in
theorem run_trace (bt : Nat) (V : List Nat → World → Prop) (b : Option Nat) (B0 : Nat) (a0 : Option Addr) (len0 cap0 : Nat) (p : List Ins) (d : Dat) (M : Nat) (w : World) (hl : p.length = len0) (hn : len0 ≤ 1000) (hp : OkL p) (hd : d.Ok) (hr : RdI w B0 a0 p)
    (hm : ML w M 0 0 (fun _ => 0) d 0 false 0) (hG : GW w) (hC : Cfg w b M B0) (hV : V [] (w.alloc (.cells #[.int .i64 0] 24)))
    (HV : ∀ (pl : List Nat) (k : Nat) (W : World), V pl W → pl.length ≤ 1000 → k ≤ 1000 → w.heap.size + 1 ≤ W.heap.size → Calls Tryd.prog 30 #[.int .i64 k, .pointer (some ⟨bt, 0, none⟩)] W fun e w' => e = .returned (.tuple #[]) ∧ V (pl ++ [k]) w' ∧ Kp (VP w b) W w')
    (hS : Stay V w M) :
    Calls Tryd.prog 28 #[.pointer (some ⟨M, 0, none⟩), .slice a0 len0 cap0, .func (.func 30) #[] #[.pointer (some ⟨bt, 0, none⟩)]] w (RunE V p d M (RR w b M) w) := by
  have hmf : ∀ (fn : Fn) (first cap : Array Value) (w : World), (Instr.makeFunc fn first cap).run Tryd.prog w = .ok (.func fn first cap) w := fun _ _ _ _ => rfl
  have HL := Lib.hid hl
  have HP := Lib.hid hp
  have HD := Lib.hid hd
  have HR := Lib.hid hr
  have HVV := Lib.hid HV
  have HS := Lib.hid hS
  have C := Lib.hid hC
  have hn1 : (len0 : Int) ≤ 1000 := by omega
  have h0 : Hid (Sit w b M V [] (w.alloc (.cells #[.int .i64 0] 24)) ∧ RunI p d M 0 0 [] (w.alloc (.cells #[.int .i64 0] 24))) :=
    Lib.hid ⟨⟨heap_alloc_new w _, Kp.of_below ((Below.refl _ _).alloc (Nat.le_refl _) _) (fun k hk => hk.1), by simp, hG.alloc _, hV⟩, 0, 0, fun _ => 0, p.length + 1, hm.al _, ⟨⟨by decide, by decide⟩, ⟨by decide, by decide⟩, fun _ => ⟨Int.le_refl 0, by show (0 : Int) < 4294967296; decide⟩⟩, Nat.zero_le _, Nat.zero_le _, by omega, rfl⟩
  have hME := hm.lt
  clear hl hp hd hr hV HV hS hC hm hG
  go_enter_defers Tryd.func28, Tryd.ntmps28
  go_wp2_with fail
  go_loopw [7, 8] (fun v7 v8 wr => ∃ k : Nat, k ≤ 8589934592 ∧ v8 = .int .u64 k ∧ ∃ cb : Int, v7 = .int .u8 cb ∧ ∃ pl : List Nat, Hid (Sit w b M V pl wr) ∧ Hid (RunI p d M cb k pl wr ∨ DoneI p d M pl wr)) (fun _ v8 _ => 17179869184 - (intOf v8).toNat)
  case atStart => exact ⟨0, by omega, rfl, 0, rfl, [], Lib.hid h0.out.1, Lib.hid (Or.inl h0.out.2)⟩
  case round =>
    clear h0
    obtain ⟨k, hk, rfl, cb, rfl, pl, HSI, HI⟩ := hrel
    obtain ⟨W, rfl⟩ : ∃ wo : World, wo = wr := ⟨_, rfl⟩
    have e0 := HSI.out.e.cell
    have ef := HSI.out.e.free
    rcases HI.out with HI' | HI'
    rotate_left
    · obtain ⟨a, x, c, hm, he, rfl⟩ := HI'
      have m7 := hm.cell 70 _ rfl
      have HM := Lib.hid hm
      have HER := Lib.hid he
      clear hm he HI
      go_wp2_with fail
      refine leaves_cons (f := 49) (args := #[.pointer (some ⟨w.heap.size, 0, none⟩)]) (by simp) (by simp [go_sem]) ?_
      refine (catch_idle ⟨w.heap.size, 0, none⟩ _).mono ?_
      rintro e u' w'' ⟨rfl, rfl, rfl⟩
      simp only [settle, Leaves]
      have e2 := (HSI.out.e.set_ 0).cell
      exact ⟨.int .i64 0, by simp [results, Tryd.results28, go_sem, e2], by rw [HER.out], ⟨a, x, c, true, HM.out.shut C.out 0⟩, HSI.out.shut C.out HS.out 0⟩
    · obtain ⟨a, x, c, f, hm, ho, h1, h2, h3, h4⟩ := HI'
      clear HI
      have m7 := hm.cell 70 _ rfl
      by_cases hlt : k < len0
      · have hkl : k < p.length := by rw [HL.out]; exact hlt
        obtain ⟨bp, o, rfl, hbB, hc⟩ := HR.out (by omega)
        have hat := Lib.hid (hc k hkl)
        have hok := Lib.hid (HP.out.get hkl)
        obtain ⟨i, hi⟩ : ∃ i, i = p[k] := ⟨_, rfl⟩
        rw [← hi] at hat hok
        have HPK := Lib.hid (show p[k]? = some i by rw [hi]; exact List.getElem?_eq_getElem hkl)
        have k1000 : (k : Int) < 1000 := by omega
        have hkn : (k : Int) < len0 := by omega
        have hfuel : ∃ g, f = g + 1 := ⟨f - 1, by omega⟩
        obtain ⟨f, rfl⟩ := hfuel
        have HV1 := Lib.hid (HVV.out pl k W HSI.out.v (by omega) (by omega) HSI.out.s)
        have HOF := Lib.hid (fun W hG => ofC i.c W hG hok.out.c0 hok.out.c1)
        have HST := Lib.hid (fun W hm hG => lStep i hok.out d HD.out a x c ho pl.length M W hm hG)
        have HM := Lib.hid hm
        have HO := Lib.hid ho
        have HF := Lib.hid (And.intro h1 (And.intro h2 (And.intro h3 h4)))
        obtain ⟨cl, hcl⟩ : ∃ cl, cl = (ofL allL i.c).cls := ⟨_, rfl⟩
        rw [← hcl] at HOF HST
        clear hc hi hm ho h1 h2 h3 h4 hkl
        cases hdo : doI i d a x c with
        | bad er =>
          have hres : runL p d = ⟨0, pl.length, pl ++ [k], er⟩ := by
            rw [← HF.out.2.2.2]; simp only [runF, HPK.out, hdo]
          have HRES := Lib.hid hres
          rw [hdo] at HST
          unfold StepTo at HST
          simp only at HST
          clear hdo hres HF HPK hcl
          go_wp2_with (first
          | (go_at_call 30; ((with_reducible refine (HV1.out).mono ?_); rintro e w1 ⟨rfl, v1, k1⟩); have S1 := Lib.hid (HSI.out.visit C.out k1 v1); obtain ⟨q0, q1, q2, q3⟩ := S1.out.ins C.out hat.out hbB; have M1 := Lib.hid (HM.out.kp k1 C.out.vM))
          | (go_at_call 20; ((with_reducible refine (HOF.out _ S1.out.g).mono ?_); rintro e w2 ⟨rfl, b2⟩); have S2 := Lib.hid (S1.out.below C.out HS.out b2); clear q0 q1 q2 q3; obtain ⟨q0, q1, q2, q3⟩ := S2.out.ins C.out hat.out hbB; have M2 := Lib.hid (M1.out.on b2))
          | (go_at_call 51; ((with_reducible refine (HST.out _ M2.out S2.out.g).mono ?_); rintro e w3 ⟨g3, rfl, a2, x2, c2, hm3⟩); have S3 := Lib.hid (S2.out.grown C.out HS.out g3)))
          refine leaves_cons (f := 49) (args := #[.pointer (some ⟨w.heap.size, 0, none⟩)]) (by simp) (by simp [go_sem]) ?_
          refine (catch_pan ⟨w.heap.size, 0, none⟩ 0 er _ S3.out.e.cell S3.out.e.free).mono ?_
          rintro e u' w'' ⟨rfl, rfl, rfl⟩
          show Leaves _ _ _ _ _ .returning _
          simp only [Leaves]
          have e2 := (S3.out.e.set_ er).cell
          refine ⟨.int .i64 er, by simp [results, Tryd.results28, go_sem, e2], ?_⟩
          have h5 := S3.out.shut C.out HS.out er
          rw [RunE, HRES.out]
          exact ⟨rfl, ⟨a2, x2, c2, false, hm3.shut C.out er⟩, h5⟩
        | fin v =>
          have hres : runL p d = ⟨v, pl.length + 1, pl ++ [k], 0⟩ := by
            rw [← HF.out.2.2.2]; simp only [runF, HPK.out, hdo]
          have HRES := Lib.hid hres
          rw [hdo] at HST
          unfold StepTo at HST
          simp only at HST
          have hpl : ((pl.length : Nat) : Int) ≤ 1000 := by have := HF.out.2.1; have := HL.out; omega
          clear hdo hres HF HPK hcl
          go_wp2_with (first
          | (go_at_call 30; ((with_reducible refine (HV1.out).mono ?_); rintro e w1 ⟨rfl, v1, k1⟩); have S1 := Lib.hid (HSI.out.visit C.out k1 v1); obtain ⟨q0, q1, q2, q3⟩ := S1.out.ins C.out hat.out hbB; have M1 := Lib.hid (HM.out.kp k1 C.out.vM))
          | (go_at_call 20; ((with_reducible refine (HOF.out _ S1.out.g).mono ?_); rintro e w2 ⟨rfl, b2⟩); have S2 := Lib.hid (S1.out.below C.out HS.out b2); clear q0 q1 q2 q3; obtain ⟨q0, q1, q2, q3⟩ := S2.out.ins C.out hat.out hbB; have M2 := Lib.hid (M1.out.on b2))
          | (go_at_call 51; ((with_reducible refine (HST.out _ M2.out S2.out.g).mono ?_); rintro e w3 ⟨g3, rfl, a2, x2, c2, hm3⟩); have S3 := Lib.hid (S2.out.grown C.out HS.out g3); have M3 := Lib.hid hm3; have p9 := hm3.cell 69 _ rfl; have pf := hm3.free; have pl3 := hm3.lt; clear hm3))
          go_roundw
          case rel =>
            refine ⟨k + 1, by omega, by go_num, cl, rfl, pl ++ [k], Lib.hid (S3.out.grown C.out HS.out (of_set w3 M 69 _)), Lib.hid (Or.inr ⟨a2, x2, c2, ?_, by rw [HRES.out], by rw [HRES.out]⟩)⟩
            rw [HRES.out]
            exact M3.out.set_ 69 _ rfl
          case measure => simp [intOf]; omega
        | go a' x' c' n =>
          have HNX := Lib.hid (show runF p d f (k + 1 + n) a' x' c' (if cl = 4 then 42 else 46) (pl ++ [k]) = runL p d by rw [hcl, skip_cls hok.out hdo, ← HF.out.2.2.2]; simp only [runF, HPK.out, hdo])
          have HOK : Hid (OkM a' x' c') := Lib.hid (by have := doI_range hok.out d HO.out.1 HO.out.2.1 HO.out.2.2; rw [hdo] at this; exact this)
          have HN4 := Lib.hid (skip_small hok.out hdo)
          have hw1 : IntKind.u64.wrap (n : Int) = n := wrap_u64_small (by omega) (by have := HN4.out; omega)
          have hw2 : IntKind.u64.wrap (1 + (n : Int)) = 1 + n := wrap_u64_small (by omega) (by have := HN4.out; omega)
          have hw3 : IntKind.u64.wrap ((k : Int) + (1 + (n : Int))) = k + (1 + n) := wrap_u64_small (by omega) (by have := HN4.out; omega)
          rw [hdo] at HST
          unfold StepTo at HST
          simp only at HST
          have hpl : ((pl.length : Nat) : Int) ≤ 1000 := by have := HF.out.2.1; have := HL.out; omega
          have HLN := Lib.hid (And.intro HF.out.1 (And.intro HF.out.2.1 HF.out.2.2.1))
          have HLL := Lib.hid hlt
          clear hdo HF HPK hcl
          go_wp2_with (first
          | (go_at_call 30; ((with_reducible refine (HV1.out).mono ?_); rintro e w1 ⟨rfl, v1, k1⟩); have S1 := Lib.hid (HSI.out.visit C.out k1 v1); obtain ⟨q0, q1, q2, q3⟩ := S1.out.ins C.out hat.out hbB; have M1 := Lib.hid (HM.out.kp k1 C.out.vM))
          | (go_at_call 20; ((with_reducible refine (HOF.out _ S1.out.g).mono ?_); rintro e w2 ⟨rfl, b2⟩); have S2 := Lib.hid (S1.out.below C.out HS.out b2); clear q0 q1 q2 q3; obtain ⟨q0, q1, q2, q3⟩ := S2.out.ins C.out hat.out hbB; have M2 := Lib.hid (M1.out.on b2))
          | (go_at_call 51; ((with_reducible refine (HST.out _ M2.out S2.out.g).mono ?_); rintro e w3 ⟨g3, rfl, hm3⟩); have S3 := Lib.hid (S2.out.grown C.out HS.out g3); have M3 := Lib.hid hm3; have p9 := hm3.cell 69 _ rfl; have pf := hm3.free; have pl3 := hm3.lt; clear hm3))
          go_roundw
          case rel =>
            obtain ⟨l1, l2, l3⟩ := HLN.out
            have hn4 := HN4.out
            have l4 := HLL.out
            have l5 := HL.out
            refine ⟨k + 1 + n, by omega, by go_num, cl, rfl, pl ++ [k], Lib.hid (S3.out.grown C.out HS.out (of_set w3 M 69 _)), Lib.hid (Or.inl ⟨a', x', c', f, ?_, HOK.out, ?_, ?_, by omega, HNX.out⟩)⟩
            · rw [List.length_append]
              exact M3.out.set_ 69 _ rfl
            · rw [List.length_append]; simp only [List.length_cons, List.length_nil]; omega
            · rw [List.length_append]; simp only [List.length_cons, List.length_nil]; omega
          case measure => (have hn4 := HN4.out; simp [intOf]; omega)
      · have hnone : p[k]? = none := List.getElem?_eq_none (by rw [HL.out]; omega)
        have hres : runL p d = ⟨0, pl.length, pl, if cb = 4 then 42 else 46⟩ := by
          rw [← h4]
          cases f with
          | zero => rfl
          | succ f => simp only [runF, hnone]
        have HRES := Lib.hid hres
        have HMI := Lib.hid (fun W => missing_any cb W)
        have HM := Lib.hid hm
        obtain ⟨r, hr⟩ : ∃ r : Int, r = if cb = 4 then 42 else 46 := ⟨_, rfl⟩
        rw [← hr] at HRES HMI
        have hge : (len0 : Int) ≤ k := by omega
        clear hres hnone h4 h3 h2 h1 ho hm hlt hr
        go_wp2_with (go_at_call 50; ((with_reducible refine (HMI.out _).mono ?_); rintro e w1 ⟨rfl, rfl⟩))
        refine leaves_cons (f := 49) (args := #[.pointer (some ⟨w.heap.size, 0, none⟩)]) (by simp) (by simp [go_sem]) ?_
        refine (catch_pan ⟨w.heap.size, 0, none⟩ 0 r _ e0 ef).mono ?_
        rintro e u' w'' ⟨rfl, rfl, rfl⟩
        show Leaves _ _ _ _ _ .returning _
        simp only [Leaves]
        have e2 := (HSI.out.e.set_ r).cell
        refine ⟨.int .i64 r, by simp [results, Tryd.results28, go_sem, e2], ?_⟩
        have h5 := HSI.out.shut C.out HS.out r
        rw [RunE, HRES.out]
        exact ⟨rfl, ⟨a, x, c, false, HM.out.shut C.out r⟩, h5⟩
end Go.Proofs.YtohfampfnhfnlaaDoor
