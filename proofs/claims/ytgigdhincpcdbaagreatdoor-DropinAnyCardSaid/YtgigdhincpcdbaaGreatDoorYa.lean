/- A section's line, an assignment's line; what the document's own Section and Assignment return. Condition: a string that lies in memory. An assignment's line; what the document's own Assignment returns. Condition: a string that lies in memory. -/
import Derived.Test.YtgigdhincpcdbaaGreatDoorLa
import Derived.Deep.QuietTactic
import Derived.BigQuiet
import Derived.OwnWalk
import Derived.WalkSmall
namespace Go.Proofs.YtgigdhincpcdbaaGreatDoor
open Go.RowKit
set_option linter.unusedVariables false
set_option linter.unusedSimpArgs false
attribute [local go_sem ↓] Go.wp_at_zero Go.wp_at_succ

/-- A section's name, if the line is one. -/
def secL (l : List UInt8) : Option (List UInt8) := if 3 ≤ l.length ∧ l[0]? = some 91 ∧ l[l.length - 1]? = some 93 ∧ ∀ c ∈ (l.take (l.length - 1)).drop 1, c ≠ 91 ∧ c ≠ 93 then some ((l.take (l.length - 1)).drop 1) else none
theorem mid_at {l : List UInt8} {c : UInt8} (h : c ∈ (l.take (l.length - 1)).drop 1) : ∃ j, ∃ hj : j < l.length, 1 ≤ j ∧ j < l.length - 1 ∧ l[j] = c := by
  obtain ⟨j, hj⟩ := List.mem_iff_getElem?.1 h
  rw [List.getElem?_drop, List.getElem?_take] at hj
  split at hj
  · rename_i hlt
    obtain ⟨h1, h2⟩ := List.getElem?_eq_some_iff.1 hj
    exact ⟨1 + j, h1, by omega, by omega, h2⟩
  · cases hj
theorem at_mid {l : List UInt8} {j : Nat} (hj : j < l.length) (h1 : 1 ≤ j) (h2 : j < l.length - 1) : l[j] ∈ (l.take (l.length - 1)).drop 1 := by
  refine List.mem_iff_getElem?.2 ⟨j - 1, ?_⟩
  rw [List.getElem?_drop, List.getElem?_take, if_pos (by omega), show 1 + (j - 1) = j by omega]
  exact List.getElem?_eq_getElem hj
theorem sec_yes {l : List UInt8} (h3 : 3 ≤ l.length) (h0 : l[0] = 91) (hl : l[l.length - 1] = 93) (hm : ∀ j (hj : j < l.length), 1 ≤ j → j < l.length - 1 → l[j] ≠ 91 ∧ l[j] ≠ 93) : secL l = some ((l.take (l.length - 1)).drop 1) := by
  unfold secL
  rw [if_pos]
  refine ⟨h3, by rw [List.getElem?_eq_getElem (by omega), h0], by rw [List.getElem?_eq_getElem (by omega), hl], fun c hc => ?_⟩
  obtain ⟨j, hj, h1, h2, rfl⟩ := mid_at hc
  exact hm j hj h1 h2
theorem sec_short {l : List UInt8} (h : l.length < 3) : secL l = none := by unfold secL; rw [if_neg (by rintro ⟨h1, _⟩; omega)]
theorem sec_head {l : List UInt8} (hl : 0 < l.length) (h : l[0] ≠ 91) : secL l = none := by
  unfold secL
  rw [if_neg]
  rintro ⟨_, h1, _⟩
  rw [List.getElem?_eq_getElem hl] at h1
  exact h (Option.some.inj h1)
theorem sec_last {l : List UInt8} (hl : 0 < l.length) (h : l[l.length - 1] ≠ 93) : secL l = none := by
  unfold secL
  rw [if_neg]
  rintro ⟨_, _, h1, _⟩
  rw [List.getElem?_eq_getElem (by omega)] at h1
  exact h (Option.some.inj h1)
theorem sec_mid {l : List UInt8} {j : Nat} (hj : j < l.length) (h1 : 1 ≤ j) (h2 : j < l.length - 1) (h : l[j] = 91 ∨ l[j] = 93) : secL l = none := by
  unfold secL
  rw [if_neg]
  rintro ⟨_, _, _, h4⟩
  have := h4 _ (at_mid hj h1 h2)
  rcases h with h | h
  · exact this.1 h
  · exact this.2 h
/-- The name that a line has as a section's, empty if it is none. -/
def secV (l : List UInt8) : List UInt8 := (secL l).getD []
theorem sec_len (l : List UInt8) : (secV l).length ≤ l.length := by
  unfold secV secL
  split
  · simp; omega
  · simp
theorem toNat_eq (c n : UInt8) : ((c.toNat : Int) == (n.toNat : Int)) = (c == n) := by
  rw [Bool.eq_iff_iff, beq_iff_eq, beq_iff_eq, Int.ofNat_inj, UInt8.toNat_inj]
theorem toNat_ne {c n : UInt8} (h : c ≠ n) : (c.toNat : Int) ≠ (n.toNat : Int) := fun e => h (by rw [Int.ofNat_inj, UInt8.toNat_inj] at e; exact e)
set_option maxHeartbeats 3200000 in
theorem refSection (s : ByteArray) (hs : s.size ≤ maxLen) (w : World) : Calls Tryz.prog 44 #[.string s] w fun e w' => e = .returned (.tuple #[.string (bs (secV s.data.toList)), .bool (secL s.data.toList).isSome]) ∧ w = w' := by
  unfold maxLen at hs
  have hsl : s.data.toList.length = s.size := by simp
  by_cases h3 : s.size < 3
  · have e1 : secL s.data.toList = none := sec_short (by omega)
    unfold secV
    rw [e1]
    have n3 : (s.size : Int) < 3 := by omega
    clear e1 hsl
    go_enter Tryz.func44, Tryz.ntmps44
    go_wp2
    go_ret2
    exact ⟨rfl, rfl⟩
  · have n3 : ¬ (s.size : Int) < 3 := by omega
    have n3' : (3 : Int) ≤ s.size := by omega
    have p0 : 0 < s.size := by omega
    have pl : s.size - 1 < s.size := by omega
    obtain ⟨a, ha⟩ : ∃ a, a = s[0]'p0 := ⟨_, rfl⟩
    have hw1 : IntKind.i64.wrap ((s.size : Int) - 1) = s.size - 1 := by rw [IntKind.wrap_i64]; omega
    by_cases h0 : a = 91
    · obtain ⟨b, hb⟩ : ∃ b, b = s[s.size - 1]'pl := ⟨_, rfl⟩
      have hi0 : ((s[0]'p0).toNat : Int) = 91 := by rw [← ha, h0]; rfl
      have hci : ((s.size : Int) - 1) = ((s.size - 1 : Nat) : Int) := by omega
      by_cases hl : b = 93
      · have hi1 : ((s[s.size - 1]'pl).toNat : Int) = 93 := by rw [← hb, hl]; rfl
        have HYES := Lib.hid (show (∀ j (hj : j < s.size), 1 ≤ j → j < s.size - 1 → s[j] ≠ 91 ∧ s[j] ≠ 93) → secL s.data.toList = some (((s.data.toList).take (s.size - 1)).drop 1) from fun hm => by
          have := sec_yes (l := s.data.toList) (by omega) (show s[0]'p0 = 91 by rw [← ha, h0]) (by
            have : s.data.toList[s.data.toList.length - 1]'(by omega) = s.data.toList[s.size - 1]'(by omega) := by congr 1
            rw [this]; show s[s.size - 1]'pl = 93; rw [← hb, hl]) (fun j hj h1 h2 => hm j (by omega) h1 (by omega))
          rw [this, hsl])
        have HMID := Lib.hid (show ∀ j (hj : j < s.size), 1 ≤ j → j < s.size - 1 → (s[j] = 91 ∨ s[j] = 93) → secL s.data.toList = none from fun j hj h1 h2 h => sec_mid (l := s.data.toList) (by omega) h1 (by omega) h)
        have HX := Lib.hid (ext_bs s 1 (s.size - 1))
        clear ha hb h0 hl hsl
        go_enter Tryz.func44, Tryz.ntmps44
        go_wp2
        go_loop [4] (fun v4 => ∃ k : Nat, 1 ≤ k ∧ k ≤ s.size - 1 ∧ v4 = .int .i64 k ∧ Hid (∀ j (hj : j < s.size), 1 ≤ j → j < k → s[j] ≠ 91 ∧ s[j] ≠ 93)) (fun v4 => s.size - (intOf v4).toNat)
        case atStart => exact ⟨1, Nat.le_refl _, by omega, rfl, Lib.hid (fun j hj h1 h2 => absurd h2 (by omega))⟩
        case round =>
          obtain ⟨k, hk1, hk, rfl, hm⟩ := hrel
          by_cases hlt : k < s.size - 1
          · have hks : k < s.size := by omega
            obtain ⟨c, hc⟩ : ∃ c, c = s[k]'hks := ⟨_, rfl⟩
            obtain ⟨x, hx⟩ : ∃ x, x = (c.toNat : Int) := ⟨_, rfl⟩
            have hidx : ((s[k]'hks).toNat : Int) = x := by rw [hx, hc]
            have k1 : (k : Int) < (s.size : Int) - 1 := by omega
            have k2 : (k : Int) < s.size := by omega
            have k0 : (0 : Int) ≤ k := by omega
            have hw2 : IntKind.i64.wrap ((k : Int) + 1) = k + 1 := by rw [IntKind.wrap_i64]; omega
            have HM := Lib.hid (HMID.out k hks hk1 hlt)
            rw [← hc] at HM
            have HC := Lib.hid hc
            by_cases e1 : c = 91
            · have e := Lib.hid (show secL s.data.toList = none from HM.out (Or.inl e1))
              have ex : x = 91 := by rw [hx, e1]; rfl
              subst ex
              clear HYES HMID HM hx hc e1 HX
              go_wp2
              go_ret2
              exact ⟨by unfold secV; rw [e.out]; rfl, rfl⟩
            · have ne1 : x ≠ 91 := by rw [hx]; exact toNat_ne e1
              have t1 : (x == 91) = false := beq_eq_false_iff_ne.2 ne1
              by_cases e2 : c = 93
              · have e := Lib.hid (show secL s.data.toList = none from HM.out (Or.inr e2))
                have ex : x = 93 := by rw [hx, e2]; rfl
                subst ex
                clear HYES HMID HM hx hc e1 e2 HX ne1
                go_wp2
                go_ret2
                exact ⟨by unfold secV; rw [e.out]; rfl, rfl⟩
              · have ne2 : x ≠ 93 := by rw [hx]; exact toNat_ne e2
                have t2 : (x == 93) = false := beq_eq_false_iff_ne.2 ne2
                have HN := Lib.hid (And.intro e1 e2)
                clear HYES HMID HM hx hc e1 e2 HX
                go_wp2
                go_round
                case rel => exact ⟨k + 1, by omega, by omega, by go_num, Lib.hid (fun j hj h1 h2 => by
                  by_cases e : j = k
                  · subst e; rw [← HC.out]; exact HN.out
                  · exact hm.out j hj h1 (by omega))⟩
                case measure => simp [intOf]; omega
          · obtain rfl : k = s.size - 1 := by omega
            have e := HYES.out (fun j hj h1 h2 => hm.out j hj h1 h2)
            have k1 : ¬ (((s.size - 1 : Nat) : Int) < (s.size : Int) - 1) := by omega
            have k3 : (1 : Int) ≤ (s.size : Int) - 1 := by omega
            have k4 : (s.size : Int) - 1 ≤ s.size := by omega
            have k5 : (0 : Int) ≤ (s.size : Int) - 1 := by omega
            have k6 : ((s.size : Int) - 1).toNat = s.size - 1 := by omega
            have HX2 := Lib.hid (show bs (secV s.data.toList) = s.extract 1 (s.size - 1) ∧ (secL s.data.toList).isSome = true from ⟨by unfold secV; rw [e]; exact HX.out.symm, by rw [e]; rfl⟩)
            clear HYES HMID e HX
            go_wp2
            go_ret2
            exact ⟨by rw [HX2.out.1, HX2.out.2]; first | rfl | simp [k6], rfl⟩
      · have hi1 := toNat_ne hl
        rw [hb] at hi1
        have e1 : secL s.data.toList = none := sec_last (by omega) (by
          have : s.data.toList[s.data.toList.length - 1]'(by omega) = s.data.toList[s.size - 1]'(by omega) := by congr 1
          rw [this]; show s[s.size - 1]'pl ≠ 93; rw [← hb]; exact hl)
        unfold secV
        rw [e1]
        obtain ⟨y, hy⟩ : ∃ y, y = ((s[s.size - 1]'pl).toNat : Int) := ⟨_, rfl⟩
        rw [← hy] at hi1
        have hy' := hy.symm
        have t1 : (y != 93) = true := by rw [bne_iff_ne]; exact hi1
        clear e1 hsl ha hb hl hi1 hy h0
        go_enter Tryz.func44, Tryz.ntmps44
        go_wp2
        go_ret2
        exact ⟨rfl, rfl⟩
    · have e1 : secL s.data.toList = none := sec_head (by omega) (show s[0]'p0 ≠ 91 by rw [← ha]; exact h0)
      unfold secV
      rw [e1]
      have hi1 := toNat_ne h0
      rw [ha] at hi1
      obtain ⟨y, hy⟩ : ∃ y, y = ((s[0]'p0).toNat : Int) := ⟨_, rfl⟩
      rw [← hy] at hi1
      have hy' := hy.symm
      have t1 : (y != 91) = true := by rw [bne_iff_ne]; exact hi1
      clear e1 hsl ha hi1 hy h0
      go_enter Tryz.func44, Tryz.ntmps44
      go_wp2
      go_ret2
      exact ⟨rfl, rfl⟩
end Go.Proofs.YtgigdhincpcdbaaGreatDoor
namespace Go.Proofs.YtgigdhincpcdbaaGreatDoor
open Go.RowKit
set_option linter.unusedVariables false
set_option linter.unusedSimpArgs false
attribute [local go_sem ↓] Go.wp_at_zero Go.wp_at_succ

def rtrimL (l : List UInt8) : List UInt8 := (l.reverse.dropWhile blkB).reverse
def keyL (l : List UInt8) : List UInt8 := rtrimL (l.takeWhile fun c => c != 61)
/-- An assignment's key and value, if the line is one. -/
def asgL (l : List UInt8) : Option (List UInt8 × List UInt8) := if 61 ∈ l ∧ l[0]? ≠ some 91 ∧ keyL l ≠ [] ∧ (∀ c ∈ keyL l, blkB c = false) then some (keyL l, trimL (l.drop ((l.takeWhile fun c => c != 61).length + 1))) else none
def asgK (l : List UInt8) : List UInt8 := ((asgL l).map Prod.fst).getD []
def asgW (l : List UInt8) : List UInt8 := ((asgL l).map Prod.snd).getD []
theorem eq_at : ∀ {l : List UInt8} {a : Nat} (ha : a < l.length), l[a] = 61 → (∀ j (hj : j < l.length), j < a → l[j] ≠ 61) → (l.takeWhile fun c => c != 61) = l.take a
  | [], a, ha, _, _ => by simp at ha
  | c :: r, 0, _, h, _ => by
    have h' : c = 61 := h
    rw [h', List.takeWhile_cons]; rfl
  | c :: r, a + 1, ha, h, hn => by
    have hc : c ≠ 61 := hn 0 (by simp) (by omega)
    rw [List.takeWhile_cons, if_pos (by rw [bne_iff_ne]; exact hc), List.take_succ_cons, eq_at (l := r) (a := a) (by simpa using ha) h (fun j hj hja => hn (j + 1) (by simpa using hj) (by omega))]
theorem rtrim_at {l : List UInt8} {m a : Nat} (hm : m ≤ a) (ha : a ≤ l.length) (hB : ∀ j (hj : j < l.length), m ≤ j → j < a → blkB l[j] = true) (h : m = 0 ∨ ∃ hj : m - 1 < l.length, blkB l[m - 1] = false) : rtrimL (l.take a) = l.take m := by
  have e : l.take a = l.take m ++ (l.take a).drop m := by
    have := List.take_append_drop m (l.take a)
    rw [List.take_take, Nat.min_eq_left hm] at this
    exact this.symm
  have hb : ∀ c ∈ ((l.take a).drop m).reverse, blkB c = true := by
    intro c hc
    rw [List.mem_reverse] at hc
    obtain ⟨j, hj⟩ := List.mem_iff_getElem?.1 hc
    rw [List.getElem?_drop, List.getElem?_take] at hj
    split at hj
    · obtain ⟨h1, h2⟩ := List.getElem?_eq_some_iff.1 hj
      rw [← h2]; exact hB _ h1 (by omega) (by omega)
    · cases hj
  unfold rtrimL
  rw [e, List.reverse_append, drop_blank hb]
  rcases h with rfl | ⟨hj, hf⟩
  · simp
  · by_cases hm0 : m = 0
    · subst hm0; simp
    · have e2 : l.take m = l.take (m - 1) ++ [l[m - 1]] := by
        have h := List.take_append_getElem hj
        rw [Nat.sub_add_cancel (by omega)] at h
        exact h.symm
      rw [e2, List.reverse_append, List.reverse_singleton, List.singleton_append, drop_head hf, List.reverse_cons, List.reverse_reverse]
theorem asg_none {l : List UInt8} (h : ∀ j (hj : j < l.length), l[j] ≠ 61) : asgL l = none := by
  unfold asgL
  rw [if_neg]
  rintro ⟨h1, _⟩
  obtain ⟨j, hj, e⟩ := List.mem_iff_getElem.1 h1
  exact h j hj e
theorem asg_head {l : List UInt8} (hl : 0 < l.length) (h : l[0] = 91) : asgL l = none := by
  unfold asgL
  rw [if_neg]
  rintro ⟨_, h1, _⟩
  rw [List.getElem?_eq_getElem hl, h] at h1
  exact h1 rfl
section
variable {l : List UInt8} {m a : Nat}
theorem key_at (ha : a < l.length) (h61 : l[a] = 61) (hn : ∀ j (hj : j < l.length), j < a → l[j] ≠ 61) (hm : m ≤ a) (hB : ∀ j (hj : j < l.length), m ≤ j → j < a → blkB l[j] = true) (h : m = 0 ∨ ∃ hj : m - 1 < l.length, blkB l[m - 1] = false) : keyL l = l.take m := by
  unfold keyL
  rw [eq_at ha h61 hn, rtrim_at hm (by omega) hB h]
theorem asg_blank {j : Nat} (hk : keyL l = l.take m) (hj : j < l.length) (hjm : j < m) (hb : blkB l[j] = true) : asgL l = none := by
  unfold asgL
  rw [if_neg]
  rintro ⟨_, _, _, h4⟩
  have : l[j] ∈ keyL l := by
    rw [hk]
    refine List.mem_iff_getElem?.2 ⟨j, ?_⟩
    rw [List.getElem?_take, if_pos hjm]
    exact List.getElem?_eq_getElem hj
  rw [h4 _ this] at hb
  cases hb
theorem asg_empty (hk : keyL l = l.take 0) : asgL l = none := by
  unfold asgL
  rw [if_neg]
  rintro ⟨_, _, h3, _⟩
  exact h3 hk
theorem asg_yes (ha : a < l.length) (h61 : l[a] = 61) (hn : ∀ j (hj : j < l.length), j < a → l[j] ≠ 61) (hk : keyL l = l.take m) (hm0 : 0 < m) (hm : m ≤ a) (h0 : ∀ hl : 0 < l.length, l[0] ≠ 91) (hnb : ∀ j (hj : j < l.length), j < m → blkB l[j] = false) : asgL l = some (l.take m, trimL (l.drop (a + 1))) := by
  unfold asgL
  rw [if_pos, hk, eq_at ha h61 hn, List.length_take, Nat.min_eq_left (by omega)]
  refine ⟨List.mem_iff_getElem.2 ⟨a, ha, h61⟩, ?_, ?_, ?_⟩
  · rw [List.getElem?_eq_getElem (by omega)]
    exact fun e => h0 (by omega) (Option.some.inj e)
  · rw [hk]
    intro e
    have := congrArg List.length e
    rw [List.length_take, List.length_nil] at this
    omega
  · rw [hk]
    intro c hc
    obtain ⟨j, hj⟩ := List.mem_iff_getElem?.1 hc
    rw [List.getElem?_take] at hj
    split at hj
    · obtain ⟨h1, h2⟩ := List.getElem?_eq_some_iff.1 hj
      rw [← h2]; exact hnb _ h1 (by omega)
    · cases hj
end
theorem asgK_len (l : List UInt8) : (asgK l).length ≤ l.length := by
  unfold asgK asgL
  split
  · show (keyL l).length ≤ _
    unfold keyL rtrimL
    rw [List.length_reverse]
    have h1 := (List.dropWhile_sublist (l := (l.takeWhile fun c => c != 61).reverse) blkB).length_le
    have h2 := (List.takeWhile_sublist (l := l) fun c => c != 61).length_le
    rw [List.length_reverse] at h1
    omega
  · simp
/-- What is known of a text while Assignment reads it: what the line is, by what stands where. -/
structure AsgF (s : ByteArray) (R : Option (List UInt8 × List UInt8)) : Prop where
  nope : (∀ j (hj : j < s.size), s[j] ≠ 61) → R = none
  head : ∀ hl : 0 < s.size, s[0] = 91 → R = none
  key : ∀ m a (ha : a < s.size), s[a] = 61 → (∀ j (hj : j < s.size), j < a → s[j] ≠ 61) → m ≤ a → (∀ j (hj : j < s.size), m ≤ j → j < a → blkB s[j] = true) → (m = 0 ∨ ∃ hj : m - 1 < s.size, blkB s[m - 1] = false) →
    (∀ j (hj : j < s.size), j < m → blkB s[j] = true → R = none) ∧ (m = 0 → R = none) ∧ (0 < m → (∀ hl : 0 < s.size, s[0] ≠ 91) → (∀ j (hj : j < s.size), j < m → blkB s[j] = false) → R = some (s.data.toList.take m, trimL (s.data.toList.drop (a + 1))))
theorem ext_le (s : ByteArray) (a b : Nat) (h : s.size ≤ maxLen) : (s.extract a b).size ≤ maxLen := by rw [ByteArray.size_extract]; omega
theorem asgF (s : ByteArray) : AsgF s (asgL s.data.toList) := by
  have hsl : s.data.toList.length = s.size := by simp
  refine ⟨fun h => asg_none fun j hj => h j (by omega), fun hl h => asg_head (by omega) h, fun m a ha h61 hn hm hB h => ?_⟩
  have hk : keyL s.data.toList = s.data.toList.take m := key_at (a := a) (by omega) h61 (fun j hj hja => hn j (by omega) hja) hm (fun j hj h1 h2 => hB j (by omega) h1 h2) (h.imp id fun ⟨hj, e⟩ => ⟨by omega, e⟩)
  refine ⟨fun j hj hjm hb => asg_blank hk (by omega) hjm hb, fun e => by subst e; exact asg_empty hk, fun hm0 h0 hnb => ?_⟩
  exact asg_yes (by omega) h61 (fun j hj hja => hn j (by omega) hja) hk hm0 hm (fun hl => h0 (by omega)) (fun j hj hjm => hnb j (by omega) hjm)
theorem blkI_cases {c : UInt8} {x : Int} (hx : x = (c.toNat : Int)) : (x = 32 ∧ blkB c = true) ∨ (x ≠ 32 ∧ x = 9 ∧ blkB c = true) ∨ (x ≠ 32 ∧ x ≠ 9 ∧ x = 13 ∧ blkB c = true) ∨ (x ≠ 32 ∧ x ≠ 9 ∧ x ≠ 13 ∧ blkB c = false) := by
  have e : blkB c = (x == 32 || x == 9 || x == 13) := by rw [hx]; exact (blkI_nat c).symm
  by_cases h1 : x = 32
  · subst h1; exact Or.inl ⟨rfl, e⟩
  · by_cases h2 : x = 9
    · subst h2; exact Or.inr (Or.inl ⟨h1, rfl, e⟩)
    · by_cases h3 : x = 13
      · subst h3; exact Or.inr (Or.inr (Or.inl ⟨h1, h2, rfl, e⟩))
      · refine Or.inr (Or.inr (Or.inr ⟨h1, h2, h3, ?_⟩))
        rw [e, beq_eq_false_iff_ne.2 h1, beq_eq_false_iff_ne.2 h2, beq_eq_false_iff_ne.2 h3]; rfl
set_option maxRecDepth 100000 in
set_option maxHeartbeats 32000000 in
theorem refAssignment (s : ByteArray) (hs : s.size ≤ maxLen) (w : World) : Calls Tryz.prog 45 #[.string s] w fun e w' => e = .returned (.tuple #[.string (bs (asgK s.data.toList)), .string (bs (asgW s.data.toList)), .bool (asgL s.data.toList).isSome]) ∧ Below w.heap.size w w' := by
  unfold maxLen at hs
  have HF := Lib.hid (asgF s)
  have HT := Lib.hid (fun (t : ByteArray) (ht : t.size ≤ maxLen) (W : World) => refTrim t ht W)
  have HXT := Lib.hid (ext_bs s)
  unfold asgK asgW
  obtain ⟨R, hR⟩ : ∃ R, R = asgL s.data.toList := ⟨_, rfl⟩
  rw [← hR] at HF ⊢
  obtain ⟨L, hL⟩ : ∃ L, L = s.data.toList := ⟨_, rfl⟩
  have HL := Lib.hid hL
  clear hR hL
  go_enter Tryz.func45, Tryz.ntmps45
  go_wp2
  go_loop [5, 6] (fun v5 v6 => ∃ k : Nat, k ≤ s.size ∧ v6 = .int .i64 k ∧ ((v5 = .int .i64 (-1) ∧ Hid (∀ j (hj : j < s.size), j < k → s[j] ≠ 61)) ∨ ∃ (a : Nat) (ha : a < s.size), k = a + 1 ∧ v5 = .int .i64 a ∧ Hid (s[a] = 61 ∧ ∀ j (hj : j < s.size), j < a → s[j] ≠ 61))) (fun _ v6 => s.size - (intOf v6).toNat)
  case atStart => exact ⟨0, by omega, rfl, Or.inl ⟨rfl, Lib.hid (fun j hj hjk => absurd hjk (by omega))⟩⟩
  case round =>
    obtain ⟨k, hk, rfl, hst⟩ := hrel
    rcases hst with ⟨rfl, hm⟩ | ⟨a, ha, rfl, rfl, hm⟩
    · by_cases hlt : k < s.size
      · obtain ⟨c, hc⟩ : ∃ c, c = s[k]'hlt := ⟨_, rfl⟩
        obtain ⟨x, hx⟩ : ∃ x, x = (c.toNat : Int) := ⟨_, rfl⟩
        have hidx : ((s[k]'hlt).toNat : Int) = x := by rw [hx, hc]
        have k1 : (k : Int) < s.size := by omega
        have k0 : (0 : Int) ≤ k := by omega
        have hw2 : IntKind.i64.wrap ((k : Int) + 1) = k + 1 := by rw [IntKind.wrap_i64]; omega
        have HC := Lib.hid hc
        by_cases e1 : c = 61
        · have ex : x = 61 := by rw [hx, e1]; rfl
          subst ex
          have HE := Lib.hid e1
          clear hx hc e1 HF HT HXT
          go_wp2
          go_round
          case rel => exact ⟨k + 1, by omega, by go_num, Or.inr ⟨k, hlt, rfl, rfl, Lib.hid ⟨by rw [← HC.out]; exact HE.out, hm.out⟩⟩⟩
          case measure => simp [intOf]; omega
        · have ne1 : x ≠ 61 := by rw [hx]; exact toNat_ne e1
          have t1 : (x == 61) = false := beq_eq_false_iff_ne.2 ne1
          have HE := Lib.hid e1
          clear hx hc e1 HF HT HXT
          go_wp2
          go_round
          case rel => exact ⟨k + 1, by omega, by go_num, Or.inl ⟨rfl, Lib.hid (fun j hj hjk => by
            by_cases e : j = k
            · subst e; rw [← HC.out]; exact HE.out
            · exact hm.out j hj (by omega))⟩⟩
          case measure => simp [intOf]; omega
      · obtain rfl : k = s.size := by omega
        have e := Lib.hid (HF.out.nope (fun j hj => hm.out j hj hj))
        clear HF HT HXT
        go_wp2
        go_ret3
        exact ⟨by rw [e.out]; rfl, Below.refl _ _⟩
    · have k1 : ¬ (a : Int) < 0 := by omega
      have k0 : (0 : Int) ≤ a := by omega
      have k2 : (a : Int) < s.size := by omega
      have p0 : 0 < s.size := by omega
      have p0' : (0 : Int) < s.size := by omega
      obtain ⟨c, hc⟩ : ∃ c, c = s[0]'p0 := ⟨_, rfl⟩
      obtain ⟨x, hx⟩ : ∃ x, x = (c.toNat : Int) := ⟨_, rfl⟩
      have hidx : ((s[0]'p0).toNat : Int) = x := by rw [hx, hc]
      have HP := Lib.hid p0
      by_cases e1 : c = 91
      · have ex : x = 91 := by rw [hx, e1]; rfl
        subst ex
        have e := Lib.hid (HF.out.head p0 (by rw [← hc]; exact e1))
        clear hx hc e1 HF HT HXT hm
        by_cases hlt : a + 1 < s.size
        · have k3 : (a : Int) + 1 < s.size := by omega
          go_wp2
          go_ret3
          exact ⟨by rw [e.out]; rfl, Below.refl _ _⟩
        · have k3 : ¬ (a : Int) + 1 < s.size := by omega
          go_wp2
          go_ret3
          exact ⟨by rw [e.out]; rfl, Below.refl _ _⟩
      · have ne1 : x ≠ 91 := by rw [hx]; exact toNat_ne e1
        have t1 : (x == 91) = false := beq_eq_false_iff_ne.2 ne1
        have HH := Lib.hid (show ∀ hl : 0 < s.size, s[0] ≠ 91 from fun hl => by rw [← hc]; exact e1)
        have HK := Lib.hid (fun m => HF.out.key m a ha hm.out.1 hm.out.2)
        clear hx hc e1 HF hm
        by_cases hlt : a + 1 < s.size
        · have k3 : (a : Int) + 1 < s.size := by omega
          go_wp2
          clear k3 hlt t1 ne1 hidx k1
          go_loop [7] (fun v7 => ∃ m : Nat, m ≤ a ∧ v7 = .int .i64 m ∧ Hid (∀ j (hj : j < s.size), m ≤ j → j < a → blkB s[j] = true)) (fun v7 => (intOf v7).toNat)
          case atStart => exact ⟨a, Nat.le_refl _, rfl, Lib.hid (fun j hj h1 h2 => absurd h1 (by omega))⟩
          case round =>
            obtain ⟨m, hm, rfl, hB⟩ := hrel
            rcases Nat.eq_zero_or_pos m with hm0 | hm0
            · subst hm0
              have e := Lib.hid ((HK.out 0 (by omega) hB.out (Or.inl rfl)).2.1 rfl)
              clear HK HT HXT hB HH
              go_wp2
              go_loop [8] (fun v8 => v8 = .int .i64 0) (fun _ => 0)
              case atStart => exact rfl
              case round =>
                subst hrel
                go_wp2
                go_ret3
                exact ⟨by rw [e.out]; rfl, Below.refl _ _⟩
            · obtain ⟨p, rfl⟩ : ∃ p, m = p + 1 := ⟨m - 1, by omega⟩
              have hpn : p < s.size := by omega
              obtain ⟨d, hd⟩ : ∃ c, c = s[p]'hpn := ⟨_, rfl⟩
              obtain ⟨y, hy⟩ : ∃ x, x = (d.toNat : Int) := ⟨_, rfl⟩
              have hidx2 : ((s[p]'hpn).toNat : Int) = y := by rw [hy, hd]
              have p1 : (p : Int) + 1 > 0 := by omega
              have p2 : (p : Int) < s.size := by omega
              have q0 : (0 : Int) ≤ p := by omega
              have hpc : ((p + 1 : Nat) : Int) = (p : Int) + 1 := by omega
              have hw1 : IntKind.i64.wrap ((p : Int) + 1 - 1) = p := by rw [IntKind.wrap_i64]; omega
              have hw2 : IntKind.i64.wrap (p : Int) = p := by rw [IntKind.wrap_i64]; omega
              have HD := Lib.hid hd
              have HGO := Lib.hid (show blkB d = true → ∀ j (hj : j < s.size), p ≤ j → j < a → blkB s[j] = true from fun hb j hj h1 h2 => by
                by_cases e : j = p
                · subst e; rw [← HD.out]; exact hb
                · exact hB.out j hj (by omega) h2)
              have HST := Lib.hid (fun (hb : blkB d = false) => HK.out (p + 1) hm hB.out (Or.inr ⟨by simpa using hpn, by simp only [Nat.add_sub_cancel]; rw [← HD.out]; exact hb⟩))
              rcases blkI_cases hy with ⟨rfl, hb⟩ | ⟨n1, rfl, hb⟩ | ⟨n1, n2, rfl, hb⟩ | ⟨n1, n2, n3, hb⟩
              · clear HST HK hy hd
                go_wp2
                go_round
                case rel => exact ⟨p, by omega, by first | rfl | go_num, Lib.hid (HGO.out hb)⟩
                case measure => first | (simp [intOf]; done) | (simp [intOf]; omega)
              · have t1 : ((9 : Int) == 32) = false := by decide
                clear HST HK hy hd
                go_wp2
                go_round
                case rel => exact ⟨p, by omega, by first | rfl | go_num, Lib.hid (HGO.out hb)⟩
                case measure => first | (simp [intOf]; done) | (simp [intOf]; omega)
              · clear HST HK hy hd
                go_wp2
                go_round
                case rel => exact ⟨p, by omega, by first | rfl | go_num, Lib.hid (HGO.out hb)⟩
                case measure => first | (simp [intOf]; done) | (simp [intOf]; omega)
              · have t1 : (y == 32) = false := beq_eq_false_iff_ne.2 n1
                have t2 : (y == 9) = false := beq_eq_false_iff_ne.2 n2
                have t3 : (y == 13) = false := beq_eq_false_iff_ne.2 n3
                have HS := Lib.hid (HST.out hb)
                clear HGO HST HK hy hd hb
                go_wp2
                clear t1 t2 t3 n1 n2 n3 hidx2
                go_loop [8] (fun v8 => ∃ k : Nat, k ≤ p + 1 ∧ v8 = .int .i64 k ∧ Hid (∀ j (hj : j < s.size), j < k → blkB s[j] = false)) (fun v8 => p + 1 - (intOf v8).toNat)
                case atStart => exact ⟨0, by omega, rfl, Lib.hid (fun j hj hjk => absurd hjk (by omega))⟩
                case round =>
                  obtain ⟨k, hk, rfl, hnb⟩ := hrel
                  by_cases hlt2 : k < p + 1
                  · have hks : k < s.size := by omega
                    obtain ⟨f, hf⟩ : ∃ c, c = s[k]'hks := ⟨_, rfl⟩
                    obtain ⟨z, hz⟩ : ∃ x, x = (f.toNat : Int) := ⟨_, rfl⟩
                    have hidx3 : ((s[k]'hks).toNat : Int) = z := by rw [hz, hf]
                    have j1 : (k : Int) < (p : Int) + 1 := by omega
                    have j2 : (k : Int) < s.size := by omega
                    have j0 : (0 : Int) ≤ k := by omega
                    have hw3 : IntKind.i64.wrap ((k : Int) + 1) = k + 1 := by rw [IntKind.wrap_i64]; omega
                    have HFF := Lib.hid hf
                    have HNO := Lib.hid (fun (hb : blkB f = true) => HS.out.1 k hks hlt2 (by rw [← HFF.out]; exact hb))
                    rcases blkI_cases hz with ⟨rfl, hb⟩ | ⟨n1, rfl, hb⟩ | ⟨n1, n2, rfl, hb⟩ | ⟨n1, n2, n3, hb⟩
                    · have e := Lib.hid (HNO.out hb)
                      clear HNO HS hz hf HT HXT
                      go_wp2
                      go_ret3
                      exact ⟨by rw [e.out]; rfl, Below.refl _ _⟩
                    · have e := Lib.hid (HNO.out hb)
                      clear HNO HS hz hf HT HXT
                      go_wp2
                      go_ret3
                      exact ⟨by rw [e.out]; rfl, Below.refl _ _⟩
                    · have e := Lib.hid (HNO.out hb)
                      clear HNO HS hz hf HT HXT
                      go_wp2
                      go_ret3
                      exact ⟨by rw [e.out]; rfl, Below.refl _ _⟩
                    · have t1 : (z == 32) = false := beq_eq_false_iff_ne.2 n1
                      have t2 : (z == 9) = false := beq_eq_false_iff_ne.2 n2
                      have t3 : (z == 13) = false := beq_eq_false_iff_ne.2 n3
                      have HB := Lib.hid hb
                      clear HNO HS hz hf hb HT HXT
                      go_wp2
                      go_round
                      case rel => exact ⟨k + 1, by omega, by go_num, Lib.hid (fun j hj hjk => by
                        by_cases e : j = k
                        · subst e; rw [← HFF.out]; exact HB.out
                        · exact hnb.out j hj (by omega))⟩
                      case measure => simp [intOf]; omega
                  · obtain rfl : k = p + 1 := by omega
                    have j1 : ¬ ((p : Int) + 1 < (p : Int) + 1) := by omega
                    have j2 : ((p : Int) + 1 == 0) = false := beq_eq_false_iff_ne.2 (by omega)
                    have j3 : ¬ (p : Int) + 1 = 0 := by omega
                    have j4 : (p : Int) + 1 ≤ s.size := by omega
                    have j5 : (a : Int) + 1 ≤ s.size := by omega
                    have j6 : (0 : Int) ≤ (a : Int) + 1 := by omega
                    have j7 : (0 : Int) ≤ (p : Int) + 1 := by omega
                    have hw3 : IntKind.i64.wrap ((a : Int) + 1) = a + 1 := by rw [IntKind.wrap_i64]; omega
                    have e := Lib.hid (HS.out.2.2 (by omega) HH.out hnb.out)
                    have HT1 := Lib.hid (fun (W : World) => HT.out (s.extract (a + 1) s.size) (ext_le s (a + 1) s.size (by unfold maxLen; omega)) W)
                    have HXK := Lib.hid (show s.extract 0 (p + 1) = bs (s.data.toList.take (p + 1)) from HXT.out 0 (p + 1))
                    have HXA := Lib.hid (show trimL (s.extract (a + 1) s.size).data.toList = trimL (s.data.toList.drop (a + 1)) from by
                      rw [HXT.out (a + 1) s.size, bs_list, List.take_of_length_le (by simp)])
                    clear HS HT HH
                    go_wp2
                    go_quiet ((go_at_call 63; exact Calls.quiet_of_same ((HT1.out _).mono fun e w' h => ⟨h.1, h.2.symm⟩)))
                    go_wp2
                    go_ret3
                    exact ⟨by rw [e.out]; show _ = Ending.returned (.tuple #[.string (bs (s.data.toList.take (p + 1))), .string (bs (trimL (s.data.toList.drop (a + 1)))), .bool true]); rw [← HXK.out, ← HXA.out]; first | rfl | (simp; done), below_drewN (Below.refl _ _) _⟩
        · have k3 : ¬ (a : Int) + 1 < s.size := by omega
          go_wp2
          clear k3 hlt t1 ne1 hidx k1
          go_loop [7] (fun v7 => ∃ m : Nat, m ≤ a ∧ v7 = .int .i64 m ∧ Hid (∀ j (hj : j < s.size), m ≤ j → j < a → blkB s[j] = true)) (fun v7 => (intOf v7).toNat)
          case atStart => exact ⟨a, Nat.le_refl _, rfl, Lib.hid (fun j hj h1 h2 => absurd h1 (by omega))⟩
          case round =>
            obtain ⟨m, hm, rfl, hB⟩ := hrel
            rcases Nat.eq_zero_or_pos m with hm0 | hm0
            · subst hm0
              have e := Lib.hid ((HK.out 0 (by omega) hB.out (Or.inl rfl)).2.1 rfl)
              clear HK HT HXT hB HH
              go_wp2
              go_loop [8] (fun v8 => v8 = .int .i64 0) (fun _ => 0)
              case atStart => exact rfl
              case round =>
                subst hrel
                go_wp2
                go_ret3
                exact ⟨by rw [e.out]; rfl, Below.refl _ _⟩
            · obtain ⟨p, rfl⟩ : ∃ p, m = p + 1 := ⟨m - 1, by omega⟩
              have hpn : p < s.size := by omega
              obtain ⟨d, hd⟩ : ∃ c, c = s[p]'hpn := ⟨_, rfl⟩
              obtain ⟨y, hy⟩ : ∃ x, x = (d.toNat : Int) := ⟨_, rfl⟩
              have hidx2 : ((s[p]'hpn).toNat : Int) = y := by rw [hy, hd]
              have p1 : (p : Int) + 1 > 0 := by omega
              have p2 : (p : Int) < s.size := by omega
              have q0 : (0 : Int) ≤ p := by omega
              have hpc : ((p + 1 : Nat) : Int) = (p : Int) + 1 := by omega
              have hw1 : IntKind.i64.wrap ((p : Int) + 1 - 1) = p := by rw [IntKind.wrap_i64]; omega
              have hw2 : IntKind.i64.wrap (p : Int) = p := by rw [IntKind.wrap_i64]; omega
              have HD := Lib.hid hd
              have HGO := Lib.hid (show blkB d = true → ∀ j (hj : j < s.size), p ≤ j → j < a → blkB s[j] = true from fun hb j hj h1 h2 => by
                by_cases e : j = p
                · subst e; rw [← HD.out]; exact hb
                · exact hB.out j hj (by omega) h2)
              have HST := Lib.hid (fun (hb : blkB d = false) => HK.out (p + 1) hm hB.out (Or.inr ⟨by simpa using hpn, by simp only [Nat.add_sub_cancel]; rw [← HD.out]; exact hb⟩))
              rcases blkI_cases hy with ⟨rfl, hb⟩ | ⟨n1, rfl, hb⟩ | ⟨n1, n2, rfl, hb⟩ | ⟨n1, n2, n3, hb⟩
              · clear HST HK hy hd
                go_wp2
                go_round
                case rel => exact ⟨p, by omega, by first | rfl | go_num, Lib.hid (HGO.out hb)⟩
                case measure => first | (simp [intOf]; done) | (simp [intOf]; omega)
              · have t1 : ((9 : Int) == 32) = false := by decide
                clear HST HK hy hd
                go_wp2
                go_round
                case rel => exact ⟨p, by omega, by first | rfl | go_num, Lib.hid (HGO.out hb)⟩
                case measure => first | (simp [intOf]; done) | (simp [intOf]; omega)
              · clear HST HK hy hd
                go_wp2
                go_round
                case rel => exact ⟨p, by omega, by first | rfl | go_num, Lib.hid (HGO.out hb)⟩
                case measure => first | (simp [intOf]; done) | (simp [intOf]; omega)
              · have t1 : (y == 32) = false := beq_eq_false_iff_ne.2 n1
                have t2 : (y == 9) = false := beq_eq_false_iff_ne.2 n2
                have t3 : (y == 13) = false := beq_eq_false_iff_ne.2 n3
                have HS := Lib.hid (HST.out hb)
                clear HGO HST HK hy hd hb
                go_wp2
                clear t1 t2 t3 n1 n2 n3 hidx2
                go_loop [8] (fun v8 => ∃ k : Nat, k ≤ p + 1 ∧ v8 = .int .i64 k ∧ Hid (∀ j (hj : j < s.size), j < k → blkB s[j] = false)) (fun v8 => p + 1 - (intOf v8).toNat)
                case atStart => exact ⟨0, by omega, rfl, Lib.hid (fun j hj hjk => absurd hjk (by omega))⟩
                case round =>
                  obtain ⟨k, hk, rfl, hnb⟩ := hrel
                  by_cases hlt2 : k < p + 1
                  · have hks : k < s.size := by omega
                    obtain ⟨f, hf⟩ : ∃ c, c = s[k]'hks := ⟨_, rfl⟩
                    obtain ⟨z, hz⟩ : ∃ x, x = (f.toNat : Int) := ⟨_, rfl⟩
                    have hidx3 : ((s[k]'hks).toNat : Int) = z := by rw [hz, hf]
                    have j1 : (k : Int) < (p : Int) + 1 := by omega
                    have j2 : (k : Int) < s.size := by omega
                    have j0 : (0 : Int) ≤ k := by omega
                    have hw3 : IntKind.i64.wrap ((k : Int) + 1) = k + 1 := by rw [IntKind.wrap_i64]; omega
                    have HFF := Lib.hid hf
                    have HNO := Lib.hid (fun (hb : blkB f = true) => HS.out.1 k hks hlt2 (by rw [← HFF.out]; exact hb))
                    rcases blkI_cases hz with ⟨rfl, hb⟩ | ⟨n1, rfl, hb⟩ | ⟨n1, n2, rfl, hb⟩ | ⟨n1, n2, n3, hb⟩
                    · have e := Lib.hid (HNO.out hb)
                      clear HNO HS hz hf HT HXT
                      go_wp2
                      go_ret3
                      exact ⟨by rw [e.out]; rfl, Below.refl _ _⟩
                    · have e := Lib.hid (HNO.out hb)
                      clear HNO HS hz hf HT HXT
                      go_wp2
                      go_ret3
                      exact ⟨by rw [e.out]; rfl, Below.refl _ _⟩
                    · have e := Lib.hid (HNO.out hb)
                      clear HNO HS hz hf HT HXT
                      go_wp2
                      go_ret3
                      exact ⟨by rw [e.out]; rfl, Below.refl _ _⟩
                    · have t1 : (z == 32) = false := beq_eq_false_iff_ne.2 n1
                      have t2 : (z == 9) = false := beq_eq_false_iff_ne.2 n2
                      have t3 : (z == 13) = false := beq_eq_false_iff_ne.2 n3
                      have HB := Lib.hid hb
                      clear HNO HS hz hf hb HT HXT
                      go_wp2
                      go_round
                      case rel => exact ⟨k + 1, by omega, by go_num, Lib.hid (fun j hj hjk => by
                        by_cases e : j = k
                        · subst e; rw [← HFF.out]; exact HB.out
                        · exact hnb.out j hj (by omega))⟩
                      case measure => simp [intOf]; omega
                  · obtain rfl : k = p + 1 := by omega
                    have j1 : ¬ ((p : Int) + 1 < (p : Int) + 1) := by omega
                    have j2 : ((p : Int) + 1 == 0) = false := beq_eq_false_iff_ne.2 (by omega)
                    have j3 : ¬ (p : Int) + 1 = 0 := by omega
                    have j4 : (p : Int) + 1 ≤ s.size := by omega
                    have j5 : (a : Int) + 1 ≤ s.size := by omega
                    have j6 : (0 : Int) ≤ (a : Int) + 1 := by omega
                    have j7 : (0 : Int) ≤ (p : Int) + 1 := by omega
                    have hw3 : IntKind.i64.wrap ((a : Int) + 1) = a + 1 := by rw [IntKind.wrap_i64]; omega
                    have e := Lib.hid (HS.out.2.2 (by omega) HH.out hnb.out)
                    have HT1 := Lib.hid (fun (W : World) => HT.out (s.extract (a + 1) s.size) (ext_le s (a + 1) s.size (by unfold maxLen; omega)) W)
                    have HXK := Lib.hid (show s.extract 0 (p + 1) = bs (s.data.toList.take (p + 1)) from HXT.out 0 (p + 1))
                    have HXA := Lib.hid (show trimL (s.extract (a + 1) s.size).data.toList = trimL (s.data.toList.drop (a + 1)) from by
                      rw [HXT.out (a + 1) s.size, bs_list, List.take_of_length_le (by simp)])
                    clear HS HT HH
                    go_wp2
                    go_quiet ((go_at_call 63; exact Calls.quiet_of_same ((HT1.out _).mono fun e w' h => ⟨h.1, h.2.symm⟩)))
                    go_wp2
                    go_ret3
                    exact ⟨by rw [e.out]; show _ = Ending.returned (.tuple #[.string (bs (s.data.toList.take (p + 1))), .string (bs (trimL (s.data.toList.drop (a + 1)))), .bool true]); rw [← HXK.out, ← HXA.out]; first | rfl | (simp; done), below_drewN (Below.refl _ _) _⟩
end Go.Proofs.YtgigdhincpcdbaaGreatDoor
