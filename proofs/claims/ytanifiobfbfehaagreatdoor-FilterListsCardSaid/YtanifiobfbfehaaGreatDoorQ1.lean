/- The landed filter's Errno, deny, apply. Conditions: names' tables lie in their variables; values of at most 1,000 bytes, lists of at most 1,000 calls. -/
import Derived.Test.YtanifiobfbfehaaGreatDoorFC
import Derived.Test.YtanifiobfbfehaaGreatDoorP8
namespace Go.Proofs.YtanifiobfbfehaaGreatDoor
open Go.RowKit Go.Shelf
set_option linter.unusedVariables false
set_option linter.unusedSimpArgs false
attribute [local go_sem ↓] Go.wp_at_zero Go.wp_at_succ

set_option maxRecDepth 100000 in
set_option maxHeartbeats 8000000 in
theorem errno_c17 (s : ByteArray) (hs : s.size ≤ maxLen) (w : World) (hG : GN w) : Calls Tryz.prog 15 #[.string s] w fun e w' => e = .returned (.tuple #[.int .u32 ((errnoF s).1 : Nat), .int .i64 (errnoF s).2]) ∧ Below w.heap.size w w' := by
  unfold errnoF
  have HE := Lib.hid (errnoN s w hG hs)
  by_cases h0 : s = ⟨#[]⟩
  · rw [if_pos (Or.inl h0)]
    have t0 : (s.toList == []) = true := eq_str h0
    have t1 : s.toList.isEmpty = true := by rw [show s = bs [] from h0, bs_toList]; rfl
    clear hs hG h0
    go_enter Tryz.func15, Tryz.ntmps15
    go_wp2
    go_ret2
    exact ⟨rfl, Below.refl _ _⟩
  · have t1 : s.toList.isEmpty = false := by
      cases e : s.toList with
      | nil => exact absurd (show s = bs [] from list_of_bytes10 (e.trans (bs_toList []).symm)) h0
      | cons _ _ => rfl
    have t0 : (s.toList == []) = false := ne_str (l := []) h0
    by_cases hk : s = kKil
    · rw [if_pos (Or.inr hk)]
      have t2 : (s.toList == [107, 105, 108, 108]) = true := eq_str hk
      clear hs hG h0 hk
      go_enter Tryz.func15, Tryz.ntmps15
      go_wp2
      go_ret2
      exact ⟨rfl, Below.refl _ _⟩
    · rw [if_neg (by rintro (h | h); exact h0 h; exact hk h)]
      have t2 : (s.toList == [107, 105, 108, 108]) = false := ne_str hk
      cases he : errnoR s with
      | some n =>
        have hn := errnoR_lt he
        rw [he] at HE
        have hor : bits .or .u32 (327680 : Int) (n : Int) = ((327680 + n : Nat) : Int) := by
          have h : (327680 ||| n : Nat) = 327680 + n := by
            have := Nat.two_pow_add_eq_or_of_lt (i := 16) (b := n) (by omega) 5
            rw [show 2 ^ 16 * 5 = 327680 from rfl] at this
            exact this.symm
          rw [← h]
          exact u32_or_nat 327680 n (by omega) (by omega)
        clear hs hG h0 hk he
        go_enter Tryz.func15, Tryz.ntmps15
        go_wp2_with (go_at_call 30; ((with_reducible refine (HE.out).mono ?_); rintro e w1 ⟨rfl, b1⟩))
        go_ret2
        exact ⟨by first | rfl | simp, b1⟩
      | none =>
        rw [he] at HE
        clear hs hG h0 hk he
        go_enter Tryz.func15, Tryz.ntmps15
        go_wp2_with (go_at_call 30; ((with_reducible refine (HE.out).mono ?_); rintro e w1 ⟨rfl, b1⟩))
        go_ret2
        exact ⟨rfl, b1⟩
end Go.Proofs.YtanifiobfbfehaaGreatDoor
