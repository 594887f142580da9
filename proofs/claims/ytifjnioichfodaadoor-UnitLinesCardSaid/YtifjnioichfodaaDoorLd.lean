/- What the document's own blank, Trim, Comment return. Condition: a string that lies in memory. -/
import Derived.Test.YtifjnioichfodaaDoorLa
import Derived.Laws.Strings2
import Derived.Laws.Strings3
import Derived.Laws.DeepStrings4
import Derived.Laws.IdiomStrings
import Derived.Deep.AppendLies
import Derived.Deep.DrawnRows
import Derived.RegionTactic
import Derived.BigRegion
namespace Go.Proofs.YtifjnioichfodaaDoor
open Go.RowKit
set_option linter.unusedVariables false
attribute [local go_sem ↓] Go.wp_at_zero Go.wp_at_succ

/-- White space, on numbers. -/
def blkI (x : Int) : Bool := x == 32 || x == 9 || x == 13
theorem blkI_nat (c : UInt8) : blkI (c.toNat : Int) = blkB c := by
  unfold blkI blkB
  have h : ∀ n : UInt8, ((c.toNat : Int) == (n.toNat : Int)) = (c == n) := fun n => by
    rw [Bool.eq_iff_iff, beq_iff_eq, beq_iff_eq, Int.ofNat_inj, UInt8.toNat_inj]
  rw [← h 32, ← h 9, ← h 13]; rfl
theorem ext_bs (s : ByteArray) (a b : Nat) : s.extract a b = bs ((s.data.toList.take b).drop a) := by
  have h := ByteArray.extract_mk s.data.toList a b
  have e : ByteArray.mk s.data.toList.toArray = s := rfl
  rw [e] at h
  rw [h, ← List.drop_take]
  rfl
theorem get_list {s : ByteArray} {k : Nat} (h : k < s.size) : s.data.toList[k]'(by simpa using h) = s[k]'h := rfl
theorem refBlank (x : Int) (w : World) : Calls Tryd.prog 49 #[.int .u8 x] w fun e w' => e = .returned (.bool (blkI x)) ∧ w = w' := by
  unfold blkI
  by_cases h1 : x = 32
  · subst h1
    go_enter Tryd.func49, Tryd.ntmps49
    go_wp2
    go_ret
    exact ⟨rfl, rfl⟩
  · have e1 : (x == 32) = false := beq_eq_false_iff_ne.2 h1
    by_cases h2 : x = 9
    · subst h2
      clear h1 e1
      go_enter Tryd.func49, Tryd.ntmps49
      go_wp2
      go_ret
      exact ⟨rfl, rfl⟩
    · have e2 : (x == 9) = false := beq_eq_false_iff_ne.2 h2
      rw [e1, e2]
      obtain ⟨b, hb⟩ : ∃ b, b = (x == 13) := ⟨_, rfl⟩
      have hb' := hb.symm
      rw [hb', Bool.false_or, Bool.false_or]
      clear h1 h2 hb
      go_enter Tryd.func49, Tryd.ntmps49
      go_wp2
      go_ret
      exact ⟨rfl, rfl⟩
theorem refBlank_at (c : UInt8) (x : Int) (hx : (c.toNat : Int) = x) (w : World) : Calls Tryd.prog 49 #[.int .u8 x] w fun e w' => e = .returned (.bool (blkB c)) ∧ w = w' := by
  rw [← blkI_nat, hx]
  exact refBlank x w
set_option maxHeartbeats 1600000 in
theorem refComment (s : ByteArray) (hs : s.size ≤ maxLen) (w : World) : Calls Tryd.prog 37 #[.string s] w fun e w' => e = .returned (.bool (comL s.data.toList)) ∧ w = w' := by
  unfold maxLen at hs
  have HIT := Lib.hid (show ∀ (k : Nat) (h : k < s.size), (∀ j (hj : j < s.size), j < k → blkB (s[j]'hj) = true) → blkB (s[k]'h) = false → comL s.data.toList = ((s[k]'h) == 35 || (s[k]'h) == 59) from fun k h hA h0 => com_at (l := s.data.toList) (by simpa using h) (fun j hj hjk => hA j (by simpa using hj) hjk) h0)
  have HNO := Lib.hid (fun (hA : ∀ j (hj : j < s.size), blkB (s[j]'hj) = true) => com_none (l := s.data.toList) (fun j hj => hA j (by simpa using hj)))
  obtain ⟨r, hr⟩ : ∃ r, r = comL s.data.toList := ⟨_, rfl⟩
  rw [← hr] at HIT HNO ⊢
  clear hr
  go_enter Tryd.func37, Tryd.ntmps37
  go_wp2
  go_loop [3] (fun v3 => ∃ k : Nat, k ≤ s.size ∧ v3 = .int .i64 k ∧ Hid (∀ j (hj : j < s.size), j < k → blkB (s[j]'hj) = true)) (fun v3 => s.size - (intOf v3).toNat)
  case atStart => exact ⟨0, by omega, rfl, Lib.hid (fun j hj hjk => absurd hjk (by omega))⟩
  case round =>
    obtain ⟨k, hk, rfl, hm⟩ := hrel
    by_cases hlt : k < s.size
    · obtain ⟨c, hc⟩ : ∃ c, c = s[k]'hlt := ⟨_, rfl⟩
      obtain ⟨x, hx⟩ : ∃ x, x = (c.toNat : Int) := ⟨_, rfl⟩
      have hidx : ((s[k]'hlt).toNat : Int) = x := by rw [hx, hc]
      have k1 : (k : Int) < s.size := by omega
      have k0 : (0 : Int) ≤ k := by omega
      have HB := Lib.hid (fun W => refBlank_at c x hx.symm W)
      have HCM := Lib.hid (fun (h0 : blkB c = false) => HIT.out k hlt hm.out (by rw [← hc]; exact h0))
      rw [← hc] at HCM
      have HX := Lib.hid hx
      have HCC := Lib.hid hc
      cases hbk : blkB c with
      | true =>
        rw [hbk] at HB
        clear HIT HNO HCM hx hc
        go_wp2_with (go_at_call 49; ((with_reducible refine (HB.out _).mono ?_); rintro e w1 ⟨rfl, rfl⟩))
        go_round
        case rel => exact ⟨k + 1, by omega, by go_num, Lib.hid (fun j hj hjk => by
          by_cases e : j = k
          · subst e; rw [← HCC.out]; exact hbk
          · exact hm.out j hj (by omega))⟩
        case measure => simp [intOf]; omega
      | false =>
        rw [hbk] at HB
        have hv := HCM.out hbk
        have h35 : (c == 35) = (x == 35) := by
          rw [HX.out, Bool.eq_iff_iff, beq_iff_eq, beq_iff_eq]
          exact ⟨fun h => by rw [h]; rfl, fun h => UInt8.toNat_inj.1 (by have : (c.toNat : Int) = ((35 : UInt8).toNat : Int) := h; omega)⟩
        have h59 : (c == 59) = (x == 59) := by
          rw [HX.out, Bool.eq_iff_iff, beq_iff_eq, beq_iff_eq]
          exact ⟨fun h => by rw [h]; rfl, fun h => UInt8.toNat_inj.1 (by have : (c.toNat : Int) = ((59 : UInt8).toNat : Int) := h; omega)⟩
        rw [h35, h59] at hv
        have HV := Lib.hid hv
        clear hv h35 h59 HIT HNO HCM hx hc hbk
        by_cases e1 : x = 35
        · subst e1
          go_wp2_with (go_at_call 49; ((with_reducible refine (HB.out _).mono ?_); rintro e w1 ⟨rfl, rfl⟩))
          go_ret
          exact ⟨by rw [HV.out]; rfl, rfl⟩
        · have e2 : (x == 35) = false := beq_eq_false_iff_ne.2 e1
          rw [e2, Bool.false_or] at HV
          obtain ⟨b, hb⟩ : ∃ b, b = (x == 59) := ⟨_, rfl⟩
          have hb' := hb.symm
          rw [← hb] at HV
          clear e1 hb
          go_wp2_with (go_at_call 49; ((with_reducible refine (HB.out _).mono ?_); rintro e w1 ⟨rfl, rfl⟩))
          go_ret
          exact ⟨by rw [HV.out]; rfl, rfl⟩
    · obtain rfl : k = s.size := by omega
      have hv := Lib.hid (HNO.out (fun j hj => hm.out j hj hj))
      clear HIT HNO
      go_wp2
      go_ret
      exact ⟨by rw [hv.out]; rfl, rfl⟩
set_option maxHeartbeats 3200000 in
theorem refTrim (s : ByteArray) (hs : s.size ≤ maxLen) (w : World) : Calls Tryd.prog 33 #[.string s] w fun e w' => e = .returned (.string (bs (trimL s.data.toList))) ∧ w = w' := by
  unfold maxLen at hs
  have HCUT := Lib.hid (show ∀ (a b : Nat), a ≤ b → b ≤ s.size → (∀ j (h : j < s.size), j < a → blkB (s[j]'h) = true) → (∀ j (h : j < s.size), b ≤ j → blkB (s[j]'h) = true) → (a = b ∨ ∃ h : a < s.size, blkB (s[a]'h) = false) → (a = b ∨ ∃ h : b - 1 < s.size, blkB (s[b - 1]'h) = false) → bs (trimL s.data.toList) = s.extract a b from fun a b h1 h2 hA hB h3 h4 => by
    rw [ext_bs, trim_cut (l := s.data.toList) h1 (by simpa using h2) (fun j hj hja => hA j (by simpa using hj) hja) (fun j hj hja => hB j (by simpa using hj) hja) (h3.imp id fun ⟨h, e⟩ => ⟨by simpa using h, e⟩) (h4.imp id fun ⟨h, e⟩ => ⟨by simpa using h, e⟩)])
  obtain ⟨r, hr⟩ : ∃ r, r = bs (trimL s.data.toList) := ⟨_, rfl⟩
  rw [← hr] at HCUT ⊢
  clear hr
  go_enter Tryd.func33, Tryd.ntmps33
  go_wp2
  go_loop [3] (fun v3 => ∃ k : Nat, k ≤ s.size ∧ v3 = .int .i64 k ∧ Hid (∀ j (hj : j < s.size), j < k → blkB (s[j]'hj) = true)) (fun v3 => s.size - (intOf v3).toNat)
  case atStart => exact ⟨0, by omega, rfl, Lib.hid (fun j hj hjk => absurd hjk (by omega))⟩
  case round =>
    obtain ⟨k, hk, rfl, hm⟩ := hrel
    by_cases hlt : k < s.size
    · obtain ⟨c, hc⟩ : ∃ c, c = s[k]'hlt := ⟨_, rfl⟩
      obtain ⟨x, hx⟩ : ∃ x, x = (c.toNat : Int) := ⟨_, rfl⟩
      have hidx : ((s[k]'hlt).toNat : Int) = x := by rw [hx, hc]
      have k1 : (k : Int) < s.size := by omega
      have k0 : (0 : Int) ≤ k := by omega
      have HB := Lib.hid (fun W => refBlank_at c x hx.symm W)
      have HCC := Lib.hid hc
      clear hx hc
      cases hbk : blkB c with
      | true =>
        rw [hbk] at HB
        clear HCUT
        go_wp2_with (go_at_call 49; ((with_reducible refine (HB.out _).mono ?_); rintro e w1 ⟨rfl, rfl⟩))
        go_round
        case rel => exact ⟨k + 1, by omega, by go_num, Lib.hid (fun j hj hjk => by
          by_cases e : j = k
          · subst e; rw [← HCC.out]; exact hbk
          · exact hm.out j hj (by omega))⟩
        case measure => simp [intOf]; omega
      | false =>
        rw [hbk] at HB
        go_wp2_with (go_at_call 49; ((with_reducible refine (HB.out _).mono ?_); rintro e w1 ⟨rfl, rfl⟩))
        clear hidx k1
        go_loop [4] (fun v4 => ∃ m : Nat, k ≤ m ∧ m ≤ s.size ∧ v4 = .int .i64 m ∧ Hid (∀ j (hj : j < s.size), m ≤ j → blkB (s[j]'hj) = true)) (fun v4 => (intOf v4).toNat)
        case atStart => exact ⟨s.size, by omega, Nat.le_refl _, rfl, Lib.hid (fun j hj hjk => absurd hjk (by omega))⟩
        case round =>
          obtain ⟨m, hkm, hmn, rfl, hs2⟩ := hrel
          by_cases hlt2 : k < m
          · obtain ⟨p, rfl⟩ : ∃ p, m = p + 1 := ⟨m - 1, by omega⟩
            have hpn : p < s.size := by omega
            obtain ⟨d, hd⟩ : ∃ c, c = s[p]'hpn := ⟨_, rfl⟩
            obtain ⟨y, hy⟩ : ∃ x, x = (d.toNat : Int) := ⟨_, rfl⟩
            have hidx2 : ((s[p]'hpn).toNat : Int) = y := by rw [hy, hd]
            have p1 : (k : Int) < (p : Int) + 1 := by omega
            have p2 : (p : Int) < s.size := by omega
            have p0 : (0 : Int) ≤ p := by omega
            have hpc : ((p + 1 : Nat) : Int) = (p : Int) + 1 := by omega
            have hw1 : IntKind.i64.wrap ((p : Int) + 1 - 1) = p := by rw [IntKind.wrap_i64]; omega
            have hw2 : IntKind.i64.wrap (p : Int) = p := by rw [IntKind.wrap_i64]; omega
            have HB2 := Lib.hid (fun W => refBlank_at d y hy.symm W)
            have HDD := Lib.hid hd
            clear hy hd
            cases hbk2 : blkB d with
            | true =>
              rw [hbk2] at HB2
              clear HCUT
              go_wp2_with (go_at_call 49; ((with_reducible refine (HB2.out _).mono ?_); rintro e w1 ⟨rfl, rfl⟩))
              go_round
              case rel => exact ⟨p, by omega, by omega, by first | rfl | go_num, Lib.hid (fun j hj hjk => by
                by_cases e : j = p
                · subst e; rw [← HDD.out]; exact hbk2
                · exact hs2.out j hj (by omega))⟩
              case measure => first | (simp [intOf]; done) | (simp [intOf]; omega)
            | false =>
              rw [hbk2] at HB2
              have hv := Lib.hid (HCUT.out k (p + 1) (by omega) (by omega) hm.out hs2.out (Or.inr ⟨hlt, by rw [← HCC.out]; exact hbk⟩) (Or.inr ⟨by simpa using hpn, by simp only [Nat.add_sub_cancel]; rw [← HDD.out]; exact hbk2⟩))
              clear HCUT
              have p3 : (k : Int) ≤ (p : Int) + 1 := by omega
              have p4 : (p : Int) + 1 ≤ s.size := by omega
              go_wp2_with (go_at_call 49; ((with_reducible refine (HB2.out _).mono ?_); rintro e w1 ⟨rfl, rfl⟩))
              go_ret
              exact ⟨by rw [hv.out]; rfl, rfl⟩
          · obtain rfl : m = k := by omega
            have hv := Lib.hid (HCUT.out m m (Nat.le_refl _) (by omega) hm.out hs2.out (Or.inl rfl) (Or.inl rfl))
            clear HCUT
            have p0 : (0 : Int) ≤ m := by omega
            have p4 : (m : Int) ≤ s.size := by omega
            go_wp2_with fail
            go_ret
            exact ⟨by rw [hv.out]; simp, rfl⟩
    · obtain rfl : k = s.size := by omega
      have k0 : (0 : Int) ≤ s.size := by omega
      have kk : ¬ (s.size : Int) < s.size := by omega
      have hv := Lib.hid (HCUT.out s.size s.size (Nat.le_refl _) (Nat.le_refl _) hm.out (fun j hj h => absurd h (by omega)) (Or.inl rfl) (Or.inl rfl))
      clear HCUT
      go_wp2_with fail
      go_loop [4] (fun v4 => v4 = .int .i64 s.size) (fun v4 => 0)
      case atStart => rfl
      case round =>
        obtain rfl := hrel
        go_wp2_with fail
        go_ret
        exact ⟨by rw [hv.out]; simp, rfl⟩
end Go.Proofs.YtifjnioichfodaaDoor
