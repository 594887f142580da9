/- A section's line, an assignment's line; what the document's own Section and Assignment return. Condition: a string that lies in memory. -/
import Derived.Test.YtifjnioichfodaaDoorLd
import Derived.Deep.QuietTactic
import Derived.BigQuiet
namespace Go.Proofs.YtifjnioichfodaaDoor
open Go.RowKit
set_option linter.unusedVariables false
set_option linter.unusedSimpArgs false
attribute [local go_sem ↓] Go.wp_at_zero Go.wp_at_succ

/-- A section's name, if the line is one. -/
def secL (l : List UInt8) : Option (List UInt8) := if 3 ≤ l.length ∧ l[0]? = some 91 ∧ l[l.length - 1]? = some 93 ∧ ∀ c ∈ (l.take (l.length - 1)).drop 1, c ≠ 91 ∧ c ≠ 93 then some ((l.take (l.length - 1)).drop 1) else none
theorem mid_at {l : List UInt8} {c : UInt8} (h : c ∈ (l.take (l.length - 1)).drop 1) : ∃ j, ∃ hj : j < l.length, 1 ≤ j ∧ j < l.length - 1 ∧ l[j] = c := by
  obtain ⟨j, hj⟩ := List.mem_iff_getElem?.1 h
  rw [List.getElem?_drop, List.getElem?_take] at hj
  split at hj
  · rename_i hlt
    obtain ⟨h1, h2⟩ := List.getElem?_eq_some_iff.1 hj
    exact ⟨1 + j, h1, by omega, by omega, h2⟩
  · cases hj
theorem at_mid {l : List UInt8} {j : Nat} (hj : j < l.length) (h1 : 1 ≤ j) (h2 : j < l.length - 1) : l[j] ∈ (l.take (l.length - 1)).drop 1 := by
  refine List.mem_iff_getElem?.2 ⟨j - 1, ?_⟩
  rw [List.getElem?_drop, List.getElem?_take, if_pos (by omega), show 1 + (j - 1) = j by omega]
  exact List.getElem?_eq_getElem hj
theorem sec_yes {l : List UInt8} (h3 : 3 ≤ l.length) (h0 : l[0] = 91) (hl : l[l.length - 1] = 93) (hm : ∀ j (hj : j < l.length), 1 ≤ j → j < l.length - 1 → l[j] ≠ 91 ∧ l[j] ≠ 93) : secL l = some ((l.take (l.length - 1)).drop 1) := by
  unfold secL
  rw [if_pos]
  refine ⟨h3, by rw [List.getElem?_eq_getElem (by omega), h0], by rw [List.getElem?_eq_getElem (by omega), hl], fun c hc => ?_⟩
  obtain ⟨j, hj, h1, h2, rfl⟩ := mid_at hc
  exact hm j hj h1 h2
theorem sec_short {l : List UInt8} (h : l.length < 3) : secL l = none := by unfold secL; rw [if_neg (by rintro ⟨h1, _⟩; omega)]
theorem sec_head {l : List UInt8} (hl : 0 < l.length) (h : l[0] ≠ 91) : secL l = none := by
  unfold secL
  rw [if_neg]
  rintro ⟨_, h1, _⟩
  rw [List.getElem?_eq_getElem hl] at h1
  exact h (Option.some.inj h1)
theorem sec_last {l : List UInt8} (hl : 0 < l.length) (h : l[l.length - 1] ≠ 93) : secL l = none := by
  unfold secL
  rw [if_neg]
  rintro ⟨_, _, h1, _⟩
  rw [List.getElem?_eq_getElem (by omega)] at h1
  exact h (Option.some.inj h1)
theorem sec_mid {l : List UInt8} {j : Nat} (hj : j < l.length) (h1 : 1 ≤ j) (h2 : j < l.length - 1) (h : l[j] = 91 ∨ l[j] = 93) : secL l = none := by
  unfold secL
  rw [if_neg]
  rintro ⟨_, _, _, h4⟩
  have := h4 _ (at_mid hj h1 h2)
  rcases h with h | h
  · exact this.1 h
  · exact this.2 h
/-- The name that a line has as a section's, empty if it is none. -/
def secV (l : List UInt8) : List UInt8 := (secL l).getD []
theorem sec_len (l : List UInt8) : (secV l).length ≤ l.length := by
  unfold secV secL
  split
  · simp; omega
  · simp
theorem toNat_eq (c n : UInt8) : ((c.toNat : Int) == (n.toNat : Int)) = (c == n) := by
  rw [Bool.eq_iff_iff, beq_iff_eq, beq_iff_eq, Int.ofNat_inj, UInt8.toNat_inj]
theorem toNat_ne {c n : UInt8} (h : c ≠ n) : (c.toNat : Int) ≠ (n.toNat : Int) := fun e => h (by rw [Int.ofNat_inj, UInt8.toNat_inj] at e; exact e)
set_option maxHeartbeats 3200000 in
theorem refSection (s : ByteArray) (hs : s.size ≤ maxLen) (w : World) : Calls Tryd.prog 14 #[.string s] w fun e w' => e = .returned (.tuple #[.string (bs (secV s.data.toList)), .bool (secL s.data.toList).isSome]) ∧ w = w' := by
  unfold maxLen at hs
  have hsl : s.data.toList.length = s.size := by simp
  by_cases h3 : s.size < 3
  · have e1 : secL s.data.toList = none := sec_short (by omega)
    unfold secV
    rw [e1]
    have n3 : (s.size : Int) < 3 := by omega
    clear e1 hsl
    go_enter Tryd.func14, Tryd.ntmps14
    go_wp2
    go_ret2
    exact ⟨rfl, rfl⟩
  · have n3 : ¬ (s.size : Int) < 3 := by omega
    have n3' : (3 : Int) ≤ s.size := by omega
    have p0 : 0 < s.size := by omega
    have pl : s.size - 1 < s.size := by omega
    obtain ⟨a, ha⟩ : ∃ a, a = s[0]'p0 := ⟨_, rfl⟩
    have hw1 : IntKind.i64.wrap ((s.size : Int) - 1) = s.size - 1 := by rw [IntKind.wrap_i64]; omega
    by_cases h0 : a = 91
    · obtain ⟨b, hb⟩ : ∃ b, b = s[s.size - 1]'pl := ⟨_, rfl⟩
      have hi0 : ((s[0]'p0).toNat : Int) = 91 := by rw [← ha, h0]; rfl
      have hci : ((s.size : Int) - 1) = ((s.size - 1 : Nat) : Int) := by omega
      by_cases hl : b = 93
      · have hi1 : ((s[s.size - 1]'pl).toNat : Int) = 93 := by rw [← hb, hl]; rfl
        have HYES := Lib.hid (show (∀ j (hj : j < s.size), 1 ≤ j → j < s.size - 1 → s[j] ≠ 91 ∧ s[j] ≠ 93) → secL s.data.toList = some (((s.data.toList).take (s.size - 1)).drop 1) from fun hm => by
          have := sec_yes (l := s.data.toList) (by omega) (show s[0]'p0 = 91 by rw [← ha, h0]) (by
            have : s.data.toList[s.data.toList.length - 1]'(by omega) = s.data.toList[s.size - 1]'(by omega) := by congr 1
            rw [this]; show s[s.size - 1]'pl = 93; rw [← hb, hl]) (fun j hj h1 h2 => hm j (by omega) h1 (by omega))
          rw [this, hsl])
        have HMID := Lib.hid (show ∀ j (hj : j < s.size), 1 ≤ j → j < s.size - 1 → (s[j] = 91 ∨ s[j] = 93) → secL s.data.toList = none from fun j hj h1 h2 h => sec_mid (l := s.data.toList) (by omega) h1 (by omega) h)
        have HX := Lib.hid (ext_bs s 1 (s.size - 1))
        clear ha hb h0 hl hsl
        go_enter Tryd.func14, Tryd.ntmps14
        go_wp2
        go_loop [4] (fun v4 => ∃ k : Nat, 1 ≤ k ∧ k ≤ s.size - 1 ∧ v4 = .int .i64 k ∧ Hid (∀ j (hj : j < s.size), 1 ≤ j → j < k → s[j] ≠ 91 ∧ s[j] ≠ 93)) (fun v4 => s.size - (intOf v4).toNat)
        case atStart => exact ⟨1, Nat.le_refl _, by omega, rfl, Lib.hid (fun j hj h1 h2 => absurd h2 (by omega))⟩
        case round =>
          obtain ⟨k, hk1, hk, rfl, hm⟩ := hrel
          by_cases hlt : k < s.size - 1
          · have hks : k < s.size := by omega
            obtain ⟨c, hc⟩ : ∃ c, c = s[k]'hks := ⟨_, rfl⟩
            obtain ⟨x, hx⟩ : ∃ x, x = (c.toNat : Int) := ⟨_, rfl⟩
            have hidx : ((s[k]'hks).toNat : Int) = x := by rw [hx, hc]
            have k1 : (k : Int) < (s.size : Int) - 1 := by omega
            have k2 : (k : Int) < s.size := by omega
            have k0 : (0 : Int) ≤ k := by omega
            have hw2 : IntKind.i64.wrap ((k : Int) + 1) = k + 1 := by rw [IntKind.wrap_i64]; omega
            have HM := Lib.hid (HMID.out k hks hk1 hlt)
            rw [← hc] at HM
            have HC := Lib.hid hc
            by_cases e1 : c = 91
            · have e := Lib.hid (show secL s.data.toList = none from HM.out (Or.inl e1))
              have ex : x = 91 := by rw [hx, e1]; rfl
              subst ex
              clear HYES HMID HM hx hc e1 HX
              go_wp2
              go_ret2
              exact ⟨by unfold secV; rw [e.out]; rfl, rfl⟩
            · have ne1 : x ≠ 91 := by rw [hx]; exact toNat_ne e1
              have t1 : (x == 91) = false := beq_eq_false_iff_ne.2 ne1
              by_cases e2 : c = 93
              · have e := Lib.hid (show secL s.data.toList = none from HM.out (Or.inr e2))
                have ex : x = 93 := by rw [hx, e2]; rfl
                subst ex
                clear HYES HMID HM hx hc e1 e2 HX ne1
                go_wp2
                go_ret2
                exact ⟨by unfold secV; rw [e.out]; rfl, rfl⟩
              · have ne2 : x ≠ 93 := by rw [hx]; exact toNat_ne e2
                have t2 : (x == 93) = false := beq_eq_false_iff_ne.2 ne2
                have HN := Lib.hid (And.intro e1 e2)
                clear HYES HMID HM hx hc e1 e2 HX
                go_wp2
                go_round
                case rel => exact ⟨k + 1, by omega, by omega, by go_num, Lib.hid (fun j hj h1 h2 => by
                  by_cases e : j = k
                  · subst e; rw [← HC.out]; exact HN.out
                  · exact hm.out j hj h1 (by omega))⟩
                case measure => simp [intOf]; omega
          · obtain rfl : k = s.size - 1 := by omega
            have e := HYES.out (fun j hj h1 h2 => hm.out j hj h1 h2)
            have k1 : ¬ (((s.size - 1 : Nat) : Int) < (s.size : Int) - 1) := by omega
            have k3 : (1 : Int) ≤ (s.size : Int) - 1 := by omega
            have k4 : (s.size : Int) - 1 ≤ s.size := by omega
            have k5 : (0 : Int) ≤ (s.size : Int) - 1 := by omega
            have k6 : ((s.size : Int) - 1).toNat = s.size - 1 := by omega
            have HX2 := Lib.hid (show bs (secV s.data.toList) = s.extract 1 (s.size - 1) ∧ (secL s.data.toList).isSome = true from ⟨by unfold secV; rw [e]; exact HX.out.symm, by rw [e]; rfl⟩)
            clear HYES HMID e HX
            go_wp2
            go_ret2
            exact ⟨by rw [HX2.out.1, HX2.out.2]; first | rfl | simp [k6], rfl⟩
      · have hi1 := toNat_ne hl
        rw [hb] at hi1
        have e1 : secL s.data.toList = none := sec_last (by omega) (by
          have : s.data.toList[s.data.toList.length - 1]'(by omega) = s.data.toList[s.size - 1]'(by omega) := by congr 1
          rw [this]; show s[s.size - 1]'pl ≠ 93; rw [← hb]; exact hl)
        unfold secV
        rw [e1]
        obtain ⟨y, hy⟩ : ∃ y, y = ((s[s.size - 1]'pl).toNat : Int) := ⟨_, rfl⟩
        rw [← hy] at hi1
        have hy' := hy.symm
        have t1 : (y != 93) = true := by rw [bne_iff_ne]; exact hi1
        clear e1 hsl ha hb hl hi1 hy h0
        go_enter Tryd.func14, Tryd.ntmps14
        go_wp2
        go_ret2
        exact ⟨rfl, rfl⟩
    · have e1 : secL s.data.toList = none := sec_head (by omega) (show s[0]'p0 ≠ 91 by rw [← ha]; exact h0)
      unfold secV
      rw [e1]
      have hi1 := toNat_ne h0
      rw [ha] at hi1
      obtain ⟨y, hy⟩ : ∃ y, y = ((s[0]'p0).toNat : Int) := ⟨_, rfl⟩
      rw [← hy] at hi1
      have hy' := hy.symm
      have t1 : (y != 91) = true := by rw [bne_iff_ne]; exact hi1
      clear e1 hsl ha hi1 hy h0
      go_enter Tryd.func14, Tryd.ntmps14
      go_wp2
      go_ret2
      exact ⟨rfl, rfl⟩
end Go.Proofs.YtifjnioichfodaaDoor
