/- May a text stand as a section's name, as a key; a slice of assignments that came in. Condition: a string has at most 2^48 bytes. May a text stand as a value, over what lines.Trim has to return; a slice of assignments that came in. Condition: a string has at most 2^48 bytes. A slice of assignments that came in. No condition. -/
import Derived.Test.YtifjnioichfodaaDoorYq
import Derived.Deep.Strs
import Derived.Deep.Slices
import Derived.Deep.Fields
import Derived.ChangeSame
import Derived.Lib.SmallJoins
namespace Go.Proofs.YtifjnioichfodaaDoor
open Go.RowKit
set_option linter.unusedVariables false
set_option linter.unusedSimpArgs false
attribute [local go_sem ↓] Go.wp_at_zero Go.wp_at_succ

theorem word_no {sec : Bool} {l : List UInt8} {j : Nat} (hj : j < l.length) (h : badB sec (j == 0) l[j] = true) : wordL sec l = false := by
  unfold wordL
  refine decide_eq_false fun ⟨_, _, h3⟩ => ?_
  rw [h3 ⟨j, hj⟩] at h; cases h
theorem word_yes {sec : Bool} {l : List UInt8} (h0 : l ≠ []) (h1 : l.length ≤ 60) (h : ∀ i (hi : i < l.length), badB sec (i == 0) l[i] = false) : wordL sec l = true := decide_eq_true ⟨h0, h1, fun i => h i.1 i.2⟩
theorem word_long {sec : Bool} {l : List UInt8} (h : 60 < l.length) : wordL sec l = false := by
  unfold wordL
  exact decide_eq_false fun ⟨_, h2, _⟩ => by omega
theorem bad_none {sec z : Bool} {c : UInt8} (h10 : c ≠ 10) (h32 : c ≠ 32) (h9 : c ≠ 9) (h13 : c ≠ 13) (h91 : c ≠ 91) (h93 : c ≠ 93) (h61 : c ≠ 61) (h35 : c ≠ 35) (h59 : c ≠ 59) (h92 : c ≠ 92) : badB sec z c = false := by
  unfold badB
  rw [beq_eq_false_iff_ne.2 h10, beq_eq_false_iff_ne.2 h32, beq_eq_false_iff_ne.2 h9, beq_eq_false_iff_ne.2 h13, beq_eq_false_iff_ne.2 h91, beq_eq_false_iff_ne.2 h93, beq_eq_false_iff_ne.2 h61, beq_eq_false_iff_ne.2 h35, beq_eq_false_iff_ne.2 h59, beq_eq_false_iff_ne.2 h92]; rfl
set_option maxRecDepth 100000 in
set_option maxHeartbeats 64000000 in
theorem word_c (sec : Bool) (l : List UInt8) (w : World) : Calls Tryd.prog 17 #[.string (bs l), .bool sec] w fun e w' => e = .returned (.bool (wordL sec l)) ∧ w' = w := by
  by_cases h0 : l = []
  · subst h0
    have HE := Lib.hid (show wordL sec [] = false from decide_eq_false fun ⟨h, _⟩ => h rfl)
    obtain ⟨S, hS⟩ : ∃ S, S = bs [] := ⟨_, rfl⟩
    have e0 : S.toList.isEmpty = true := by rw [hS, bs_toList]; rfl
    have e1 : (S.toList == []) = true := by rw [hS, bs_toList]; rfl
    have e2 : S.toList = [] := by rw [hS, bs_toList]
    rw [← hS]
    clear hS
    go_enter Tryd.func17, Tryd.ntmps17
    go_wp2_with fail
    go_ret
    exact ⟨by rw [HE.out]; rfl, rfl⟩
  obtain ⟨S, hS⟩ : ∃ S, S = bs l := ⟨_, rfl⟩
  have e0 : S.toList.isEmpty = false := by rw [hS, bs_toList]; cases l with | nil => exact absurd rfl h0 | cons a b => rfl
  have e1 : (S.toList == []) = false := by rw [hS, bs_toList]; cases l with | nil => exact absurd rfl h0 | cons a b => rfl
  have e2 : S.toList ≠ [] := by rw [hS, bs_toList]; exact h0
  have hsz : S.size = l.length := by rw [hS, bs_size]
  have HSZ := Lib.hid hsz
  have HGET := Lib.hid (show ∀ i (h : i < S.size) (h2 : i < l.length), S[i]'h = l[i]'h2 from fun i h h2 => by subst hS; rfl)
  rw [← hS]
  have H0 := Lib.hid h0
  clear hS h0
  by_cases h60 : (60 : Int) < S.size
  · have HE := Lib.hid (word_long (sec := sec) (l := l) (by omega))
    clear hsz
    go_enter Tryd.func17, Tryd.ntmps17
    go_wp2_with fail
    go_ret
    exact ⟨by rw [HE.out]; rfl, rfl⟩
  have HL := Lib.hid (show l.length ≤ 60 by omega)
  clear hsz
  go_enter Tryd.func17, Tryd.ntmps17
  go_wp2_with fail
  go_loop [5] (fun vk => ∃ j : Nat, j ≤ S.size ∧ vk = .int .i64 j ∧ Hid (∀ i (h : i < l.length), i < j → badB sec (i == 0) l[i] = false)) (fun vk => S.size - (intOf vk).toNat)
  case atStart => exact ⟨0, by omega, rfl, Lib.hid (fun i h hi => absurd hi (by omega))⟩
  case round =>
    obtain ⟨j, hj, rfl, HT⟩ := hrel
    by_cases hjl : j < S.size
    · have hj2 : j < l.length := by rw [← HSZ.out]; exact hjl
      obtain ⟨c, hc⟩ : ∃ c, c = l[j]'hj2 := ⟨_, rfl⟩
      have hcj := hc.symm
      obtain ⟨x, hx0⟩ : ∃ x, x = (((S[j]'hjl).toNat : Nat) : Int) := ⟨_, rfl⟩
      have hidx : (((S[j]'hjl).toNat : Nat) : Int) = x := hx0.symm
      have hx : x = (c.toNat : Int) := by rw [hx0, HGET.out j hjl hj2, hc]
      have j1 : (j : Int) < S.size := by omega
      have j0 : (0 : Int) ≤ j := by omega
      have hw2 : IntKind.i64.wrap ((j : Int) + 1) = j + 1 := by rw [IntKind.wrap_i64]; omega
      clear hx0 hc
      cases sec with
      | true =>
        by_cases hz1 : j = 0
        · have hz : (j == 0) = true := beq_iff_eq.2 hz1
          have hzi : ((j : Int) == 0) = true := beq_iff_eq.2 (by omega)
          clear hz1
          by_cases h10 : c = 10
          · have hx10 : x = 10 := by rw [hx, h10]; rfl
            subst hx10
            rw [h10] at hcj
            clear h10 hx
            have HE := Lib.hid (word_no (sec := true) hj2 (by rw [hcj]; rfl))
            clear hcj
            go_wp2_with fail
            go_ret
            exact ⟨by rw [HE.out]; rfl, rfl⟩
          by_cases h32 : c = 32
          · have hx32 : x = 32 := by rw [hx, h32]; rfl
            subst hx32
            rw [h32] at hcj
            clear h32 hx
            have HE := Lib.hid (word_no (sec := true) hj2 (by rw [hcj]; rfl))
            clear hcj
            go_wp2_with fail
            go_ret
            exact ⟨by rw [HE.out]; rfl, rfl⟩
          by_cases h9 : c = 9
          · have hx9 : x = 9 := by rw [hx, h9]; rfl
            subst hx9
            rw [h9] at hcj
            clear h9 hx
            have HE := Lib.hid (word_no (sec := true) hj2 (by rw [hcj]; rfl))
            clear hcj
            go_wp2_with fail
            go_ret
            exact ⟨by rw [HE.out]; rfl, rfl⟩
          by_cases h13 : c = 13
          · have hx13 : x = 13 := by rw [hx, h13]; rfl
            subst hx13
            rw [h13] at hcj
            clear h13 hx
            have HE := Lib.hid (word_no (sec := true) hj2 (by rw [hcj]; rfl))
            clear hcj
            go_wp2_with fail
            go_ret
            exact ⟨by rw [HE.out]; rfl, rfl⟩
          by_cases h91 : c = 91
          · have hx91 : x = 91 := by rw [hx, h91]; rfl
            subst hx91
            rw [h91] at hcj
            clear h91 hx
            have HE := Lib.hid (word_no (sec := true) hj2 (by rw [hcj]; rfl))
            clear hcj
            go_wp2_with fail
            go_ret
            exact ⟨by rw [HE.out]; rfl, rfl⟩
          by_cases h93 : c = 93
          · have hx93 : x = 93 := by rw [hx, h93]; rfl
            subst hx93
            rw [h93] at hcj
            clear h93 hx
            have HE := Lib.hid (word_no (sec := true) hj2 (by rw [hcj]; rfl))
            clear hcj
            go_wp2_with fail
            go_ret
            exact ⟨by rw [HE.out]; rfl, rfl⟩
          by_cases h61 : c = 61
          · have hx61 : x = 61 := by rw [hx, h61]; rfl
            subst hx61
            rw [h61] at hcj
            clear h61 hx
            have HC := Lib.hid (show badB true (j == 0) (l[j]'hj2) = false by rw [hcj]; rfl)
            clear hcj
            go_wp2_with fail
            go_round
            case rel => exact ⟨j + 1, by omega, by go_num, Lib.hid (fun i h hi => by
              by_cases e : i = j
              · subst e; exact HC.out
              · exact HT.out i h (by omega))⟩
            case measure => simp [intOf]; omega
          by_cases h35 : c = 35
          · have hx35 : x = 35 := by rw [hx, h35]; rfl
            subst hx35
            rw [h35] at hcj
            clear h35 hx
            have HC := Lib.hid (show badB true (j == 0) (l[j]'hj2) = false by rw [hcj]; rw [hz]; rfl)
            clear hcj
            go_wp2_with fail
            go_round
            case rel => exact ⟨j + 1, by omega, by go_num, Lib.hid (fun i h hi => by
              by_cases e : i = j
              · subst e; exact HC.out
              · exact HT.out i h (by omega))⟩
            case measure => simp [intOf]; omega
          by_cases h59 : c = 59
          · have hx59 : x = 59 := by rw [hx, h59]; rfl
            subst hx59
            rw [h59] at hcj
            clear h59 hx
            have HC := Lib.hid (show badB true (j == 0) (l[j]'hj2) = false by rw [hcj]; rw [hz]; rfl)
            clear hcj
            go_wp2_with fail
            go_round
            case rel => exact ⟨j + 1, by omega, by go_num, Lib.hid (fun i h hi => by
              by_cases e : i = j
              · subst e; exact HC.out
              · exact HT.out i h (by omega))⟩
            case measure => simp [intOf]; omega
          by_cases h92 : c = 92
          · have hx92 : x = 92 := by rw [hx, h92]; rfl
            subst hx92
            rw [h92] at hcj
            clear h92 hx
            have HE := Lib.hid (word_no (sec := true) hj2 (by rw [hcj]; rfl))
            clear hcj
            go_wp2_with fail
            go_ret
            exact ⟨by rw [HE.out]; rfl, rfl⟩
          have e10 : (x == 10) = false := beq_eq_false_iff_ne.2 (by rw [hx]; exact toNat_ne (n := 10) h10)
          have e32 : (x == 32) = false := beq_eq_false_iff_ne.2 (by rw [hx]; exact toNat_ne (n := 32) h32)
          have e9 : (x == 9) = false := beq_eq_false_iff_ne.2 (by rw [hx]; exact toNat_ne (n := 9) h9)
          have e13 : (x == 13) = false := beq_eq_false_iff_ne.2 (by rw [hx]; exact toNat_ne (n := 13) h13)
          have e91 : (x == 91) = false := beq_eq_false_iff_ne.2 (by rw [hx]; exact toNat_ne (n := 91) h91)
          have e93 : (x == 93) = false := beq_eq_false_iff_ne.2 (by rw [hx]; exact toNat_ne (n := 93) h93)
          have e61 : (x == 61) = false := beq_eq_false_iff_ne.2 (by rw [hx]; exact toNat_ne (n := 61) h61)
          have e35 : (x == 35) = false := beq_eq_false_iff_ne.2 (by rw [hx]; exact toNat_ne (n := 35) h35)
          have e59 : (x == 59) = false := beq_eq_false_iff_ne.2 (by rw [hx]; exact toNat_ne (n := 59) h59)
          have e92 : (x == 92) = false := beq_eq_false_iff_ne.2 (by rw [hx]; exact toNat_ne (n := 92) h92)
          have HC := Lib.hid (show badB true (j == 0) (l[j]'hj2) = false by rw [hcj]; exact bad_none h10 h32 h9 h13 h91 h93 h61 h35 h59 h92)
          clear hcj hx h10 h32 h9 h13 h91 h93 h61 h35 h59 h92
          go_wp2_with fail
          go_round
          case rel => exact ⟨j + 1, by omega, by go_num, Lib.hid (fun i h hi => by
            by_cases e : i = j
            · subst e; exact HC.out
            · exact HT.out i h (by omega))⟩
          case measure => simp [intOf]; omega
        · have hz : (j == 0) = false := beq_eq_false_iff_ne.2 hz1
          have hzi : ((j : Int) == 0) = false := beq_eq_false_iff_ne.2 (by omega)
          clear hz1
          by_cases h10 : c = 10
          · have hx10 : x = 10 := by rw [hx, h10]; rfl
            subst hx10
            rw [h10] at hcj
            clear h10 hx
            have HE := Lib.hid (word_no (sec := true) hj2 (by rw [hcj]; rfl))
            clear hcj
            go_wp2_with fail
            go_ret
            exact ⟨by rw [HE.out]; rfl, rfl⟩
          by_cases h32 : c = 32
          · have hx32 : x = 32 := by rw [hx, h32]; rfl
            subst hx32
            rw [h32] at hcj
            clear h32 hx
            have HE := Lib.hid (word_no (sec := true) hj2 (by rw [hcj]; rfl))
            clear hcj
            go_wp2_with fail
            go_ret
            exact ⟨by rw [HE.out]; rfl, rfl⟩
          by_cases h9 : c = 9
          · have hx9 : x = 9 := by rw [hx, h9]; rfl
            subst hx9
            rw [h9] at hcj
            clear h9 hx
            have HE := Lib.hid (word_no (sec := true) hj2 (by rw [hcj]; rfl))
            clear hcj
            go_wp2_with fail
            go_ret
            exact ⟨by rw [HE.out]; rfl, rfl⟩
          by_cases h13 : c = 13
          · have hx13 : x = 13 := by rw [hx, h13]; rfl
            subst hx13
            rw [h13] at hcj
            clear h13 hx
            have HE := Lib.hid (word_no (sec := true) hj2 (by rw [hcj]; rfl))
            clear hcj
            go_wp2_with fail
            go_ret
            exact ⟨by rw [HE.out]; rfl, rfl⟩
          by_cases h91 : c = 91
          · have hx91 : x = 91 := by rw [hx, h91]; rfl
            subst hx91
            rw [h91] at hcj
            clear h91 hx
            have HE := Lib.hid (word_no (sec := true) hj2 (by rw [hcj]; rfl))
            clear hcj
            go_wp2_with fail
            go_ret
            exact ⟨by rw [HE.out]; rfl, rfl⟩
          by_cases h93 : c = 93
          · have hx93 : x = 93 := by rw [hx, h93]; rfl
            subst hx93
            rw [h93] at hcj
            clear h93 hx
            have HE := Lib.hid (word_no (sec := true) hj2 (by rw [hcj]; rfl))
            clear hcj
            go_wp2_with fail
            go_ret
            exact ⟨by rw [HE.out]; rfl, rfl⟩
          by_cases h61 : c = 61
          · have hx61 : x = 61 := by rw [hx, h61]; rfl
            subst hx61
            rw [h61] at hcj
            clear h61 hx
            have HC := Lib.hid (show badB true (j == 0) (l[j]'hj2) = false by rw [hcj]; rfl)
            clear hcj
            go_wp2_with fail
            go_round
            case rel => exact ⟨j + 1, by omega, by go_num, Lib.hid (fun i h hi => by
              by_cases e : i = j
              · subst e; exact HC.out
              · exact HT.out i h (by omega))⟩
            case measure => simp [intOf]; omega
          by_cases h35 : c = 35
          · have hx35 : x = 35 := by rw [hx, h35]; rfl
            subst hx35
            rw [h35] at hcj
            clear h35 hx
            have HC := Lib.hid (show badB true (j == 0) (l[j]'hj2) = false by rw [hcj]; rw [hz]; rfl)
            clear hcj
            go_wp2_with fail
            go_round
            case rel => exact ⟨j + 1, by omega, by go_num, Lib.hid (fun i h hi => by
              by_cases e : i = j
              · subst e; exact HC.out
              · exact HT.out i h (by omega))⟩
            case measure => simp [intOf]; omega
          by_cases h59 : c = 59
          · have hx59 : x = 59 := by rw [hx, h59]; rfl
            subst hx59
            rw [h59] at hcj
            clear h59 hx
            have HC := Lib.hid (show badB true (j == 0) (l[j]'hj2) = false by rw [hcj]; rw [hz]; rfl)
            clear hcj
            go_wp2_with fail
            go_round
            case rel => exact ⟨j + 1, by omega, by go_num, Lib.hid (fun i h hi => by
              by_cases e : i = j
              · subst e; exact HC.out
              · exact HT.out i h (by omega))⟩
            case measure => simp [intOf]; omega
          by_cases h92 : c = 92
          · have hx92 : x = 92 := by rw [hx, h92]; rfl
            subst hx92
            rw [h92] at hcj
            clear h92 hx
            have HE := Lib.hid (word_no (sec := true) hj2 (by rw [hcj]; rfl))
            clear hcj
            go_wp2_with fail
            go_ret
            exact ⟨by rw [HE.out]; rfl, rfl⟩
          have e10 : (x == 10) = false := beq_eq_false_iff_ne.2 (by rw [hx]; exact toNat_ne (n := 10) h10)
          have e32 : (x == 32) = false := beq_eq_false_iff_ne.2 (by rw [hx]; exact toNat_ne (n := 32) h32)
          have e9 : (x == 9) = false := beq_eq_false_iff_ne.2 (by rw [hx]; exact toNat_ne (n := 9) h9)
          have e13 : (x == 13) = false := beq_eq_false_iff_ne.2 (by rw [hx]; exact toNat_ne (n := 13) h13)
          have e91 : (x == 91) = false := beq_eq_false_iff_ne.2 (by rw [hx]; exact toNat_ne (n := 91) h91)
          have e93 : (x == 93) = false := beq_eq_false_iff_ne.2 (by rw [hx]; exact toNat_ne (n := 93) h93)
          have e61 : (x == 61) = false := beq_eq_false_iff_ne.2 (by rw [hx]; exact toNat_ne (n := 61) h61)
          have e35 : (x == 35) = false := beq_eq_false_iff_ne.2 (by rw [hx]; exact toNat_ne (n := 35) h35)
          have e59 : (x == 59) = false := beq_eq_false_iff_ne.2 (by rw [hx]; exact toNat_ne (n := 59) h59)
          have e92 : (x == 92) = false := beq_eq_false_iff_ne.2 (by rw [hx]; exact toNat_ne (n := 92) h92)
          have HC := Lib.hid (show badB true (j == 0) (l[j]'hj2) = false by rw [hcj]; exact bad_none h10 h32 h9 h13 h91 h93 h61 h35 h59 h92)
          clear hcj hx h10 h32 h9 h13 h91 h93 h61 h35 h59 h92
          go_wp2_with fail
          go_round
          case rel => exact ⟨j + 1, by omega, by go_num, Lib.hid (fun i h hi => by
            by_cases e : i = j
            · subst e; exact HC.out
            · exact HT.out i h (by omega))⟩
          case measure => simp [intOf]; omega
      | false =>
        by_cases hz1 : j = 0
        · have hz : (j == 0) = true := beq_iff_eq.2 hz1
          have hzi : ((j : Int) == 0) = true := beq_iff_eq.2 (by omega)
          clear hz1
          by_cases h10 : c = 10
          · have hx10 : x = 10 := by rw [hx, h10]; rfl
            subst hx10
            rw [h10] at hcj
            clear h10 hx
            have HE := Lib.hid (word_no (sec := false) hj2 (by rw [hcj]; rfl))
            clear hcj
            go_wp2_with fail
            go_ret
            exact ⟨by rw [HE.out]; rfl, rfl⟩
          by_cases h32 : c = 32
          · have hx32 : x = 32 := by rw [hx, h32]; rfl
            subst hx32
            rw [h32] at hcj
            clear h32 hx
            have HE := Lib.hid (word_no (sec := false) hj2 (by rw [hcj]; rfl))
            clear hcj
            go_wp2_with fail
            go_ret
            exact ⟨by rw [HE.out]; rfl, rfl⟩
          by_cases h9 : c = 9
          · have hx9 : x = 9 := by rw [hx, h9]; rfl
            subst hx9
            rw [h9] at hcj
            clear h9 hx
            have HE := Lib.hid (word_no (sec := false) hj2 (by rw [hcj]; rfl))
            clear hcj
            go_wp2_with fail
            go_ret
            exact ⟨by rw [HE.out]; rfl, rfl⟩
          by_cases h13 : c = 13
          · have hx13 : x = 13 := by rw [hx, h13]; rfl
            subst hx13
            rw [h13] at hcj
            clear h13 hx
            have HE := Lib.hid (word_no (sec := false) hj2 (by rw [hcj]; rfl))
            clear hcj
            go_wp2_with fail
            go_ret
            exact ⟨by rw [HE.out]; rfl, rfl⟩
          by_cases h91 : c = 91
          · have hx91 : x = 91 := by rw [hx, h91]; rfl
            subst hx91
            rw [h91] at hcj
            clear h91 hx
            have HE := Lib.hid (word_no (sec := false) hj2 (by rw [hcj]; rfl))
            clear hcj
            go_wp2_with fail
            go_ret
            exact ⟨by rw [HE.out]; rfl, rfl⟩
          by_cases h93 : c = 93
          · have hx93 : x = 93 := by rw [hx, h93]; rfl
            subst hx93
            rw [h93] at hcj
            clear h93 hx
            have HE := Lib.hid (word_no (sec := false) hj2 (by rw [hcj]; rfl))
            clear hcj
            go_wp2_with fail
            go_ret
            exact ⟨by rw [HE.out]; rfl, rfl⟩
          by_cases h61 : c = 61
          · have hx61 : x = 61 := by rw [hx, h61]; rfl
            subst hx61
            rw [h61] at hcj
            clear h61 hx
            have HE := Lib.hid (word_no (sec := false) hj2 (by rw [hcj]; rfl))
            clear hcj
            go_wp2_with fail
            go_ret
            exact ⟨by rw [HE.out]; rfl, rfl⟩
          by_cases h35 : c = 35
          · have hx35 : x = 35 := by rw [hx, h35]; rfl
            subst hx35
            rw [h35] at hcj
            clear h35 hx
            have HE := Lib.hid (word_no (sec := false) hj2 (by rw [hcj]; rw [hz]; rfl))
            clear hcj
            go_wp2_with fail
            go_ret
            exact ⟨by rw [HE.out]; rfl, rfl⟩
          by_cases h59 : c = 59
          · have hx59 : x = 59 := by rw [hx, h59]; rfl
            subst hx59
            rw [h59] at hcj
            clear h59 hx
            have HE := Lib.hid (word_no (sec := false) hj2 (by rw [hcj]; rw [hz]; rfl))
            clear hcj
            go_wp2_with fail
            go_ret
            exact ⟨by rw [HE.out]; rfl, rfl⟩
          by_cases h92 : c = 92
          · have hx92 : x = 92 := by rw [hx, h92]; rfl
            subst hx92
            rw [h92] at hcj
            clear h92 hx
            have HE := Lib.hid (word_no (sec := false) hj2 (by rw [hcj]; rfl))
            clear hcj
            go_wp2_with fail
            go_ret
            exact ⟨by rw [HE.out]; rfl, rfl⟩
          have e10 : (x == 10) = false := beq_eq_false_iff_ne.2 (by rw [hx]; exact toNat_ne (n := 10) h10)
          have e32 : (x == 32) = false := beq_eq_false_iff_ne.2 (by rw [hx]; exact toNat_ne (n := 32) h32)
          have e9 : (x == 9) = false := beq_eq_false_iff_ne.2 (by rw [hx]; exact toNat_ne (n := 9) h9)
          have e13 : (x == 13) = false := beq_eq_false_iff_ne.2 (by rw [hx]; exact toNat_ne (n := 13) h13)
          have e91 : (x == 91) = false := beq_eq_false_iff_ne.2 (by rw [hx]; exact toNat_ne (n := 91) h91)
          have e93 : (x == 93) = false := beq_eq_false_iff_ne.2 (by rw [hx]; exact toNat_ne (n := 93) h93)
          have e61 : (x == 61) = false := beq_eq_false_iff_ne.2 (by rw [hx]; exact toNat_ne (n := 61) h61)
          have e35 : (x == 35) = false := beq_eq_false_iff_ne.2 (by rw [hx]; exact toNat_ne (n := 35) h35)
          have e59 : (x == 59) = false := beq_eq_false_iff_ne.2 (by rw [hx]; exact toNat_ne (n := 59) h59)
          have e92 : (x == 92) = false := beq_eq_false_iff_ne.2 (by rw [hx]; exact toNat_ne (n := 92) h92)
          have HC := Lib.hid (show badB false (j == 0) (l[j]'hj2) = false by rw [hcj]; exact bad_none h10 h32 h9 h13 h91 h93 h61 h35 h59 h92)
          clear hcj hx h10 h32 h9 h13 h91 h93 h61 h35 h59 h92
          go_wp2_with fail
          go_round
          case rel => exact ⟨j + 1, by omega, by go_num, Lib.hid (fun i h hi => by
            by_cases e : i = j
            · subst e; exact HC.out
            · exact HT.out i h (by omega))⟩
          case measure => simp [intOf]; omega
        · have hz : (j == 0) = false := beq_eq_false_iff_ne.2 hz1
          have hzi : ((j : Int) == 0) = false := beq_eq_false_iff_ne.2 (by omega)
          clear hz1
          by_cases h10 : c = 10
          · have hx10 : x = 10 := by rw [hx, h10]; rfl
            subst hx10
            rw [h10] at hcj
            clear h10 hx
            have HE := Lib.hid (word_no (sec := false) hj2 (by rw [hcj]; rfl))
            clear hcj
            go_wp2_with fail
            go_ret
            exact ⟨by rw [HE.out]; rfl, rfl⟩
          by_cases h32 : c = 32
          · have hx32 : x = 32 := by rw [hx, h32]; rfl
            subst hx32
            rw [h32] at hcj
            clear h32 hx
            have HE := Lib.hid (word_no (sec := false) hj2 (by rw [hcj]; rfl))
            clear hcj
            go_wp2_with fail
            go_ret
            exact ⟨by rw [HE.out]; rfl, rfl⟩
          by_cases h9 : c = 9
          · have hx9 : x = 9 := by rw [hx, h9]; rfl
            subst hx9
            rw [h9] at hcj
            clear h9 hx
            have HE := Lib.hid (word_no (sec := false) hj2 (by rw [hcj]; rfl))
            clear hcj
            go_wp2_with fail
            go_ret
            exact ⟨by rw [HE.out]; rfl, rfl⟩
          by_cases h13 : c = 13
          · have hx13 : x = 13 := by rw [hx, h13]; rfl
            subst hx13
            rw [h13] at hcj
            clear h13 hx
            have HE := Lib.hid (word_no (sec := false) hj2 (by rw [hcj]; rfl))
            clear hcj
            go_wp2_with fail
            go_ret
            exact ⟨by rw [HE.out]; rfl, rfl⟩
          by_cases h91 : c = 91
          · have hx91 : x = 91 := by rw [hx, h91]; rfl
            subst hx91
            rw [h91] at hcj
            clear h91 hx
            have HE := Lib.hid (word_no (sec := false) hj2 (by rw [hcj]; rfl))
            clear hcj
            go_wp2_with fail
            go_ret
            exact ⟨by rw [HE.out]; rfl, rfl⟩
          by_cases h93 : c = 93
          · have hx93 : x = 93 := by rw [hx, h93]; rfl
            subst hx93
            rw [h93] at hcj
            clear h93 hx
            have HE := Lib.hid (word_no (sec := false) hj2 (by rw [hcj]; rfl))
            clear hcj
            go_wp2_with fail
            go_ret
            exact ⟨by rw [HE.out]; rfl, rfl⟩
          by_cases h61 : c = 61
          · have hx61 : x = 61 := by rw [hx, h61]; rfl
            subst hx61
            rw [h61] at hcj
            clear h61 hx
            have HE := Lib.hid (word_no (sec := false) hj2 (by rw [hcj]; rfl))
            clear hcj
            go_wp2_with fail
            go_ret
            exact ⟨by rw [HE.out]; rfl, rfl⟩
          by_cases h35 : c = 35
          · have hx35 : x = 35 := by rw [hx, h35]; rfl
            subst hx35
            rw [h35] at hcj
            clear h35 hx
            have HC := Lib.hid (show badB false (j == 0) (l[j]'hj2) = false by rw [hcj]; rw [hz]; rfl)
            clear hcj
            go_wp2_with fail
            go_round
            case rel => exact ⟨j + 1, by omega, by go_num, Lib.hid (fun i h hi => by
              by_cases e : i = j
              · subst e; exact HC.out
              · exact HT.out i h (by omega))⟩
            case measure => simp [intOf]; omega
          by_cases h59 : c = 59
          · have hx59 : x = 59 := by rw [hx, h59]; rfl
            subst hx59
            rw [h59] at hcj
            clear h59 hx
            have HC := Lib.hid (show badB false (j == 0) (l[j]'hj2) = false by rw [hcj]; rw [hz]; rfl)
            clear hcj
            go_wp2_with fail
            go_round
            case rel => exact ⟨j + 1, by omega, by go_num, Lib.hid (fun i h hi => by
              by_cases e : i = j
              · subst e; exact HC.out
              · exact HT.out i h (by omega))⟩
            case measure => simp [intOf]; omega
          by_cases h92 : c = 92
          · have hx92 : x = 92 := by rw [hx, h92]; rfl
            subst hx92
            rw [h92] at hcj
            clear h92 hx
            have HE := Lib.hid (word_no (sec := false) hj2 (by rw [hcj]; rfl))
            clear hcj
            go_wp2_with fail
            go_ret
            exact ⟨by rw [HE.out]; rfl, rfl⟩
          have e10 : (x == 10) = false := beq_eq_false_iff_ne.2 (by rw [hx]; exact toNat_ne (n := 10) h10)
          have e32 : (x == 32) = false := beq_eq_false_iff_ne.2 (by rw [hx]; exact toNat_ne (n := 32) h32)
          have e9 : (x == 9) = false := beq_eq_false_iff_ne.2 (by rw [hx]; exact toNat_ne (n := 9) h9)
          have e13 : (x == 13) = false := beq_eq_false_iff_ne.2 (by rw [hx]; exact toNat_ne (n := 13) h13)
          have e91 : (x == 91) = false := beq_eq_false_iff_ne.2 (by rw [hx]; exact toNat_ne (n := 91) h91)
          have e93 : (x == 93) = false := beq_eq_false_iff_ne.2 (by rw [hx]; exact toNat_ne (n := 93) h93)
          have e61 : (x == 61) = false := beq_eq_false_iff_ne.2 (by rw [hx]; exact toNat_ne (n := 61) h61)
          have e35 : (x == 35) = false := beq_eq_false_iff_ne.2 (by rw [hx]; exact toNat_ne (n := 35) h35)
          have e59 : (x == 59) = false := beq_eq_false_iff_ne.2 (by rw [hx]; exact toNat_ne (n := 59) h59)
          have e92 : (x == 92) = false := beq_eq_false_iff_ne.2 (by rw [hx]; exact toNat_ne (n := 92) h92)
          have HC := Lib.hid (show badB false (j == 0) (l[j]'hj2) = false by rw [hcj]; exact bad_none h10 h32 h9 h13 h91 h93 h61 h35 h59 h92)
          clear hcj hx h10 h32 h9 h13 h91 h93 h61 h35 h59 h92
          go_wp2_with fail
          go_round
          case rel => exact ⟨j + 1, by omega, by go_num, Lib.hid (fun i h hi => by
            by_cases e : i = j
            · subst e; exact HC.out
            · exact HT.out i h (by omega))⟩
          case measure => simp [intOf]; omega
    · obtain rfl : j = S.size := by omega
      have jj : ¬ (S.size : Int) < S.size := by omega
      have HE := Lib.hid (word_yes (sec := sec) H0.out HL.out (fun i h => HT.out i h (by rw [HSZ.out]; exact h)))
      clear HT
      go_wp2_with fail
      go_ret
      exact ⟨by rw [HE.out]; rfl, rfl⟩
end Go.Proofs.YtifjnioichfodaaDoor
namespace Go.Proofs.YtifjnioichfodaaDoor
open Go.RowKit Go.ChangeShapes Go.WideShapes Go.ChangeAt
set_option linter.unusedVariables false
set_option linter.unusedSimpArgs false
attribute [local go_sem ↓] Go.wp_at_zero Go.wp_at_succ

/-- What lines.Trim has to return. -/
structure TrimC (G : World → Prop) : Prop where
  on : ∀ {w w' : World}, G w → Below w.heap.size w w' → G w'
  trim : ∀ (s : ByteArray) (w : World), G w → s.size ≤ maxLen → Calls Tryd.prog 32 #[.string s] w fun e w' => e = .returned (.string (bs (trimL s.data.toList))) ∧ Below w.heap.size w w'
set_option maxRecDepth 100000 in
set_option maxHeartbeats 16000000 in
theorem value_c {G : World → Prop} (HC : TrimC G) (l : List UInt8) (hl : l.length ≤ maxLen) (w : World) (hG : G w) : Calls Tryd.prog 18 #[.string (bs l)] w fun e w' => e = .returned (.bool (valL l)) ∧ Below w.heap.size w w' := by
  have HT := Lib.hid (HC.trim (bs l) w hG (by rw [bs_size]; exact hl))
  rw [bs_list] at HT
  obtain ⟨S, hS⟩ : ∃ S, S = bs l := ⟨_, rfl⟩
  have hsz : S.size = l.length := by rw [hS, bs_size]
  have HSZ := Lib.hid hsz
  have HGET := Lib.hid (show ∀ i (h : i < S.size) (h2 : i < l.length), S[i]'h = l[i]'h2 from fun i h h2 => by subst hS; rfl)
  have HSL := Lib.hid (show S.toList = l by rw [hS, bs_toList])
  rw [← hS] at HT ⊢
  clear hS hG HC
  by_cases h60 : (60 : Int) < S.size
  · have HE := Lib.hid (show valL l = false from decide_eq_false fun ⟨h, _⟩ => by omega)
    clear hsz hl
    go_enter Tryd.func18, Tryd.ntmps18
    go_wp2_with fail
    go_ret
    exact ⟨by rw [HE.out]; rfl, Below.refl _ _⟩
  have HL := Lib.hid (show l.length ≤ 60 by omega)
  by_cases htq : trimL l = l
  · have HTQ := Lib.hid htq
    rw [htq, show bs l = S from by rw [← bs_self S]; exact congrArg bs (by rw [← HSL.out, ByteArray.toList_eq])] at HT
    have t1 : (S.toList == S.toList) = true := by simp
    have t2 : (S.toList != S.toList) = false := by simp
    rcases List.eq_nil_or_concat l with h0 | ⟨Y, c, hY⟩
    · have HLAST := Lib.hid (show l.getLast? ≠ some 92 by rw [h0]; simp)
      have s0 : ¬ (0 : Int) < S.size := by rw [hsz, h0]; simp
      clear hsz hl htq h0
      go_enter Tryd.func18, Tryd.ntmps18
      go_wp2_with (go_at_call 32; ((with_reducible refine (HT.out).mono ?_); rintro e v1 ⟨rfl, b1⟩))
      have B1 := Lib.hid b1
      clear b1 
      go_loop [3] (fun vk => ∃ j : Nat, j ≤ S.size ∧ vk = .int .i64 j ∧ Hid (∀ i (h : i < l.length), i < j → l[i] ≠ 10)) (fun vk => S.size - (intOf vk).toNat)
      case atStart => exact ⟨0, by omega, rfl, Lib.hid (fun i h hi => absurd hi (by omega))⟩
      case round =>
        obtain ⟨j, hj, rfl, HTT⟩ := hrel
        by_cases hjl : j < S.size
        · have hj2 : j < l.length := by rw [← HSZ.out]; exact hjl
          obtain ⟨x, hx⟩ : ∃ x, x = (((S[j]'hjl).toNat : Nat) : Int) := ⟨_, rfl⟩
          have hidx : (((S[j]'hjl).toNat : Nat) : Int) = x := hx.symm
          have j1 : (j : Int) < S.size := by omega
          have j0 : (0 : Int) ≤ j := by omega
          have hw2 : IntKind.i64.wrap ((j : Int) + 1) = j + 1 := by rw [IntKind.wrap_i64]; omega
          by_cases h10 : x = 10
          · have HE := Lib.hid (show valL l = false from decide_eq_false fun ⟨_, _, _, h⟩ => by
              refine h (l[j]'hj2) (List.getElem_mem _) (UInt8.toNat_inj.1 ?_)
              have e := HGET.out j hjl hj2
              rw [hx, e] at h10
              have : ((l[j]'hj2).toNat : Int) = ((10 : UInt8).toNat : Int) := h10
              omega)
            subst h10
            clear hx
            go_wp2_with fail
            go_ret
            exact ⟨by rw [HE.out]; rfl, B1.out⟩
          · have HN10 := Lib.hid (show l[j]'hj2 ≠ 10 from fun h => h10 (by rw [hx, HGET.out j hjl hj2, h]; rfl))
            have hb10 : (x == 10) = false := beq_eq_false_iff_ne.2 h10
            clear h10 hx
            go_wp2_with fail
            go_round
            case rel => exact ⟨j + 1, by omega, by go_num, Lib.hid (fun i h hi => by
              by_cases e : i = j
              · subst e; exact HN10.out
              · exact HTT.out i h (by omega))⟩
            case measure => simp [intOf]; omega
        · obtain rfl : j = S.size := by omega
          have jj : ¬ (S.size : Int) < S.size := by omega
          have HE := Lib.hid (show valL l = true from decide_eq_true ⟨HL.out, HTQ.out, HLAST.out, fun c hc => by
            obtain ⟨i, hi, rfl⟩ := List.mem_iff_getElem.1 hc
            exact HTT.out i hi (by rw [HSZ.out]; exact hi)⟩)
          clear HTT
          go_wp2_with fail
          go_ret
          exact ⟨by rw [HE.out]; rfl, B1.out⟩
    · rw [List.concat_eq_append] at hY
      obtain ⟨m, hm⟩ : ∃ m, m = Y.length := ⟨_, rfl⟩
      have e1 : S.size = m + 1 := by rw [hsz, hY, List.length_append, hm]; rfl
      have hmS : m < S.size := by omega
      obtain ⟨x, hx⟩ : ∃ x, x = (((S[m]'hmS).toNat : Nat) : Int) := ⟨_, rfl⟩
      have hxc : x = (c.toNat : Int) := by
        rw [hx, HGET.out m hmS (by omega)]
        congr 2
        subst hY
        rw [List.getElem_append_right (by omega)]
        simp [hm]
      have hidx0 : (((S[m]'hmS).toNat : Nat) : Int) = x := hx.symm
      have hg : l.getLast? = some c := by rw [hY, List.getLast?_concat]
      have hw3 : IntKind.i64.wrap ((S.size : Int) - 1) = m := by rw [IntKind.wrap_i64]; omega
      have hw4 : (S.size : Int) - 1 = m := by omega
      have hw5 : IntKind.i64.wrap (m : Int) = m := by rw [IntKind.wrap_i64]; omega
      have m0 : (0 : Int) ≤ m := by omega
      have m1 : (m : Int) < S.size := by omega
      have m2 : (0 : Int) < S.size := by omega
      have m3 : 0 < S.size := by omega
      clear hm e1 hx hY hsz hl htq
      by_cases h92 : x = 92
      · have HE := Lib.hid (show valL l = false from decide_eq_false fun ⟨_, _, h, _⟩ => by
          refine h ?_
          rw [hg, show c = 92 from UInt8.toNat_inj.1 (by have : (c.toNat : Int) = ((92 : UInt8).toNat : Int) := by rw [← hxc, h92]; rfl
                                                         omega)])
        subst h92
        clear hxc hg
        go_enter Tryd.func18, Tryd.ntmps18
        go_wp2_with (go_at_call 32; ((with_reducible refine (HT.out).mono ?_); rintro e v1 ⟨rfl, b1⟩))
        go_ret
        exact ⟨by rw [HE.out]; rfl, b1⟩
      · have e92 : (x == 92) = false := beq_eq_false_iff_ne.2 h92
        have HLAST := Lib.hid (show l.getLast? ≠ some 92 by
          rw [hg]
          intro h
          injection h with h
          exact h92 (by rw [hxc, h]; rfl))
        clear hxc hg h92
        go_enter Tryd.func18, Tryd.ntmps18
        go_wp2_with (go_at_call 32; ((with_reducible refine (HT.out).mono ?_); rintro e v1 ⟨rfl, b1⟩))
        have B1 := Lib.hid b1
        clear b1 hw3 hw4 hw5 m0 m1 m2 m3 hidx0 e92
        go_loop [3] (fun vk => ∃ j : Nat, j ≤ S.size ∧ vk = .int .i64 j ∧ Hid (∀ i (h : i < l.length), i < j → l[i] ≠ 10)) (fun vk => S.size - (intOf vk).toNat)
        case atStart => exact ⟨0, by omega, rfl, Lib.hid (fun i h hi => absurd hi (by omega))⟩
        case round =>
          obtain ⟨j, hj, rfl, HTT⟩ := hrel
          by_cases hjl : j < S.size
          · have hj2 : j < l.length := by rw [← HSZ.out]; exact hjl
            obtain ⟨x, hx⟩ : ∃ x, x = (((S[j]'hjl).toNat : Nat) : Int) := ⟨_, rfl⟩
            have hidx : (((S[j]'hjl).toNat : Nat) : Int) = x := hx.symm
            have j1 : (j : Int) < S.size := by omega
            have j0 : (0 : Int) ≤ j := by omega
            have hw2 : IntKind.i64.wrap ((j : Int) + 1) = j + 1 := by rw [IntKind.wrap_i64]; omega
            by_cases h10 : x = 10
            · have HE := Lib.hid (show valL l = false from decide_eq_false fun ⟨_, _, _, h⟩ => by
                refine h (l[j]'hj2) (List.getElem_mem _) (UInt8.toNat_inj.1 ?_)
                have e := HGET.out j hjl hj2
                rw [hx, e] at h10
                have : ((l[j]'hj2).toNat : Int) = ((10 : UInt8).toNat : Int) := h10
                omega)
              subst h10
              clear hx
              go_wp2_with fail
              go_ret
              exact ⟨by rw [HE.out]; rfl, B1.out⟩
            · have HN10 := Lib.hid (show l[j]'hj2 ≠ 10 from fun h => h10 (by rw [hx, HGET.out j hjl hj2, h]; rfl))
              have hb10 : (x == 10) = false := beq_eq_false_iff_ne.2 h10
              clear h10 hx
              go_wp2_with fail
              go_round
              case rel => exact ⟨j + 1, by omega, by go_num, Lib.hid (fun i h hi => by
                by_cases e : i = j
                · subst e; exact HN10.out
                · exact HTT.out i h (by omega))⟩
              case measure => simp [intOf]; omega
          · obtain rfl : j = S.size := by omega
            have jj : ¬ (S.size : Int) < S.size := by omega
            have HE := Lib.hid (show valL l = true from decide_eq_true ⟨HL.out, HTQ.out, HLAST.out, fun c hc => by
              obtain ⟨i, hi, rfl⟩ := List.mem_iff_getElem.1 hc
              exact HTT.out i hi (by rw [HSZ.out]; exact hi)⟩)
            clear HTT
            go_wp2_with fail
            go_ret
            exact ⟨by rw [HE.out]; rfl, B1.out⟩
  · have HE := Lib.hid (show valL l = false from decide_eq_false fun ⟨_, h, _⟩ => htq h)
    obtain ⟨U, hU⟩ : ∃ U, U = bs (trimL l) := ⟨_, rfl⟩
    have hne : U.toList ≠ S.toList := by rw [hU, bs_toList, HSL.out]; exact htq
    have t1 : (U.toList == S.toList) = false := beq_eq_false_iff_ne.2 hne
    have t2 : (U.toList != S.toList) = true := bne_iff_ne.2 hne
    rw [← hU] at HT
    clear hsz hl htq hU
    go_enter Tryd.func18, Tryd.ntmps18
    go_wp2_with (go_at_call 32; ((with_reducible refine (HT.out).mono ?_); rintro e v1 ⟨rfl, b1⟩))
    go_ret
    exact ⟨by rw [HE.out]; rfl, b1⟩
/-- What is known of a slice of assignments that came in. -/
structure IsAsns (w : World) (a : Option Addr) (len cap : Nat) (z : List Asn) : Prop where
  size : z.length = len
  rng : ∀ y ∈ z, y.sec.size ≤ maxLen ∧ y.key.size ≤ maxLen ∧ y.val.size ≤ maxLen
  fits : len ≤ cap
  most : cap ≤ maxLen
  rd : 0 < len → ∃ b o, a = some ⟨b, o, none⟩ ∧ b < w.heap.size ∧ ∀ i (h : i < z.length), w.cell? ⟨b, o + i * 5, none⟩ = some (.string z[i].file) ∧ w.cell? ⟨b, o + i * 5 + 1, none⟩ = some (.int .i64 z[i].line) ∧ w.cell? ⟨b, o + i * 5 + 2, none⟩ = some (.string z[i].sec) ∧ w.cell? ⟨b, o + i * 5 + 3, none⟩ = some (.string z[i].key) ∧ w.cell? ⟨b, o + i * 5 + 4, none⟩ = some (.string z[i].val)
  nil : a = none → cap = 0
end Go.Proofs.YtifjnioichfodaaDoor
namespace Go.Proofs.YtifjnioichfodaaDoor
open Go.ChangeShapes Go.WideShapes Go.ChangeAt Go.RowKit
set_option linter.unusedVariables false
set_option linter.unusedSimpArgs false

section
variable {H : Type} {enc : TypeId × Value → H} {P : Program} {w : World} {base : Nat} {spare : Nat → Bool} {held : Bool}
open Go.Deep in
/-- A slice of structs of one-cell fields, opened field by field. -/
theorem open_fields {t e : TypeId} {fs : Array Field} {fuel : Nat} {cs : List Value} {x : DataW H × List MemPlace} (ht : P.underlying t = some (.slice e)) (he : P.underlying e = some (.struct fs))
    (hone : oneCellFields P fs = true) (hC : P.cellsOf e = fs.size) (h : DataW.trod enc P w base spare held fuel t cs = some x) :
    (cs = [.slice none 0 0] ∧ x = (.nil, [])) ∨
    ∃ (a : Addr) (len cap m : Nat), cs = [.slice (some a) len cap] ∧ len ≤ cap ∧ cap ≤ maxLen ∧ m = (if spare a.block then cap else len) ∧
      ∀ i, i < m → ∀ (j : Nat) (f : Field), fs[j]? = some f → ∃ (v : Value) (y : DataW H × List MemPlace) (n : Nat), w.cell? (a.add (i * fs.size + j)) = some v ∧ DataW.trod enc P w base spare held n f.type [v] = some y := by
  rcases open_slice ht h with h0 | ⟨a, len, cap, m, n, D, Pl, hcs, hb, hl, hm, hmm, hx, hi⟩
  · exact .inl h0
  · refine .inr ⟨a, len, cap, m, hcs, hl, hm, hmm, fun i him j f hj => ?_⟩
    obtain ⟨cs', hc, ht'⟩ := hi i him
    rw [hC] at hc
    obtain ⟨ys, n', hn', hy, hlen, hyl, hf⟩ := DataW.trod_struct he ht'
    obtain ⟨_, hcl, hat⟩ := World.cells?_some hc
    obtain ⟨ho, hk⟩ := hone_of hone j f hj
    have hjl : j < fs.size := (Array.getElem?_eq_some_iff.1 hj).1
    have hcell := hat j hjl
    have hv : cs'[j]? = some (cs'[j]'(by omega)) := List.getElem?_eq_getElem (by omega)
    have h1 := hf j f hj
    rw [ho, hk] at h1
    have hone' : (cs'.drop j).take 1 = [cs'[j]'(by omega)] := by
      rw [List.drop_eq_getElem_cons (by omega)]
      rfl
    rw [hone'] at h1
    have hys : ys[j]? = some (ys[j]'(by omega)) := List.getElem?_eq_getElem (by omega)
    refine ⟨_, _, n', ?_, h1.trans hys⟩
    rw [← Go.Deep.add_add, hcell, hv]
end
instance : Inhabited Asn := ⟨⟨⟨#[]⟩, 0, ⟨#[]⟩, ⟨#[]⟩, ⟨#[]⟩⟩⟩
theorem asns_open {H : Type} {enc : TypeId × Value → H} {W : World} {a : Option Addr} {len cap : Nat} {d : DataW H} {p : List MemPlace}
    (h : DataW.Trod enc Tryd.prog W 0 (fun _ => true) true 26 (.slice a len cap) d p) (lt : ∀ x ∈ p, x.block < W.heap.size) : ∃ z, IsAsns W a len cap z := by
  obtain ⟨fuel, hf⟩ := h
  rcases open_fields Tryd.underlying26 Tryd.underlying39 (by kernel_rfl) (by kernel_rfl) hf with ⟨hcs, _⟩ | ⟨x, l, c, m, hcs, hl, hm, hmm, hx⟩
  · simp [Value.cells] at hcs
    obtain ⟨rfl, rfl, rfl⟩ := hcs
    exact ⟨[], rfl, (fun y hy => by cases hy), Nat.le_refl _, by unfold maxLen; omega, (fun h => absurd h (by omega)), fun _ => rfl⟩
  · simp [Value.cells] at hcs
    obtain ⟨rfl, rfl, rfl⟩ := hcs
    simp only [if_true] at hmm
    subst hmm
    have each : ∀ i, i < len → ∃ z : Asn, (z.sec.size ≤ maxLen ∧ z.key.size ≤ maxLen ∧ z.val.size ≤ maxLen) ∧ W.cell? (x.add (i * 5)) = some (.string z.file) ∧ W.cell? (x.add (i * 5 + 1)) = some (.int .i64 z.line) ∧ W.cell? (x.add (i * 5 + 2)) = some (.string z.sec) ∧ W.cell? (x.add (i * 5 + 3)) = some (.string z.key) ∧ W.cell? (x.add (i * 5 + 4)) = some (.string z.val) := by
      intro i hi
      obtain ⟨v0, y0, n0, c0, t0⟩ := hx i (by omega) 0 _ rfl
      obtain ⟨v1, y1, n1, c1, t1⟩ := hx i (by omega) 1 _ rfl
      obtain ⟨v2, y2, n2, c2, t2⟩ := hx i (by omega) 2 _ rfl
      obtain ⟨v3, y3, n3, c3, t3⟩ := hx i (by omega) 3 _ rfl
      obtain ⟨v4, y4, n4, c4, t4⟩ := hx i (by omega) 4 _ rfl
      obtain ⟨z0, e0, _, w0⟩ := DataW.trod_string Tryd.underlying9 t0
      obtain ⟨z1, e1, _, w1⟩ := DataW.trod_int Tryd.underlying3 t1
      obtain ⟨z2, e2, _, w2⟩ := DataW.trod_string Tryd.underlying9 t2
      obtain ⟨z3, e3, _, w3⟩ := DataW.trod_string Tryd.underlying9 t3
      obtain ⟨z4, e4, _, w4⟩ := DataW.trod_string Tryd.underlying9 t4
      simp at e0 e1 e2 e3 e4
      subst e0 e1 e2 e3 e4
      exact ⟨⟨z0, z1, z2, z3, z4⟩, ⟨w2, w3, w4⟩, c0, c1, c2, c3, c4⟩
    obtain ⟨Z, hZ⟩ := Go.Deep.choose_lt each
    have hget : ∀ i (h : i < ((List.range len).map Z).length), ((List.range len).map Z)[i] = Z i := fun i h => by simp
    refine ⟨(List.range len).map Z, by simp, fun z hz => ?_, hl, hm, fun hn => ?_, fun h => by cases h⟩
    · obtain ⟨i, hi, rfl⟩ := List.mem_map.1 hz
      exact (hZ i (List.mem_range.1 hi)).1
    · obtain ⟨b, o, s⟩ := x
      have hc := (hZ 0 hn).2.1
      have hs : s = none := by simpa [Addr.add] using World.cell?_spot hc
      subst hs
      refine ⟨b, o, rfl, World.block_lt_of_cell? W _ hc, fun i hi => ?_⟩
      rw [hget i hi]
      obtain ⟨_, c0, c1, c2, c3, c4⟩ := hZ i (by simpa using hi)
      rw [Addr.add_lit] at c0 c1 c2 c3 c4
      rw [← Nat.add_assoc] at c1 c2 c3 c4
      exact ⟨c0, c1, c2, c3, c4⟩
end Go.Proofs.YtifjnioichfodaaDoor
