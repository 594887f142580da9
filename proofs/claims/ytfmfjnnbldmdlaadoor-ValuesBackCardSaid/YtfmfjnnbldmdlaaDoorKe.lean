/- What the document's own Bool, Turned return, and is. Condition: a string that lies in memory. -/
import Derived.Test.YtfmfjnnbldmdlaaDoorKd
namespace Go.Proofs.YtfmfjnnbldmdlaaDoor
open Go.RowKit
set_option linter.unusedVariables false
set_option linter.unusedSimpArgs false
attribute [local go_sem ↓] Go.wp_at_zero Go.wp_at_succ

theorem isIn_no {l : List ByteArray} {s : ByteArray} (h : ∀ t ∈ l, ¬ s = t) : isIn l s = false := by
  unfold isIn
  rw [List.any_eq_false]
  intro t ht
  rw [decide_eq_true_eq]
  exact fun e => h t ht e.symm
theorem refBool_0 (w : World) : Calls Tryd.prog 10 #[.string ⟨#[121, 101, 115]⟩] w fun e w' => e = .returned (.tuple #[.bool true, .int .i64 0]) ∧ w = w' := by
  go_enter Tryd.func10, Tryd.ntmps10
  go_wp2
  go_ret2
  exact ⟨rfl, rfl⟩
theorem refBool_1 (w : World) : Calls Tryd.prog 10 #[.string ⟨#[116, 114, 117, 101]⟩] w fun e w' => e = .returned (.tuple #[.bool true, .int .i64 0]) ∧ w = w' := by
  go_enter Tryd.func10, Tryd.ntmps10
  go_wp2
  go_ret2
  exact ⟨rfl, rfl⟩
theorem refBool_2 (w : World) : Calls Tryd.prog 10 #[.string ⟨#[111, 110]⟩] w fun e w' => e = .returned (.tuple #[.bool true, .int .i64 0]) ∧ w = w' := by
  go_enter Tryd.func10, Tryd.ntmps10
  go_wp2
  go_ret2
  exact ⟨rfl, rfl⟩
theorem refBool_3 (w : World) : Calls Tryd.prog 10 #[.string ⟨#[49]⟩] w fun e w' => e = .returned (.tuple #[.bool true, .int .i64 0]) ∧ w = w' := by
  go_enter Tryd.func10, Tryd.ntmps10
  go_wp2
  go_ret2
  exact ⟨rfl, rfl⟩
theorem refBool_4 (w : World) : Calls Tryd.prog 10 #[.string ⟨#[110, 111]⟩] w fun e w' => e = .returned (.tuple #[.bool false, .int .i64 0]) ∧ w = w' := by
  go_enter Tryd.func10, Tryd.ntmps10
  go_wp2
  go_ret2
  exact ⟨rfl, rfl⟩
theorem refBool_5 (w : World) : Calls Tryd.prog 10 #[.string ⟨#[102, 97, 108, 115, 101]⟩] w fun e w' => e = .returned (.tuple #[.bool false, .int .i64 0]) ∧ w = w' := by
  go_enter Tryd.func10, Tryd.ntmps10
  go_wp2
  go_ret2
  exact ⟨rfl, rfl⟩
theorem refBool_6 (w : World) : Calls Tryd.prog 10 #[.string ⟨#[111, 102, 102]⟩] w fun e w' => e = .returned (.tuple #[.bool false, .int .i64 0]) ∧ w = w' := by
  go_enter Tryd.func10, Tryd.ntmps10
  go_wp2
  go_ret2
  exact ⟨rfl, rfl⟩
theorem refBool_7 (w : World) : Calls Tryd.prog 10 #[.string ⟨#[48]⟩] w fun e w' => e = .returned (.tuple #[.bool false, .int .i64 0]) ∧ w = w' := by
  go_enter Tryd.func10, Tryd.ntmps10
  go_wp2
  go_ret2
  exact ⟨rfl, rfl⟩
set_option maxHeartbeats 1600000 in
theorem refBool_no (s : ByteArray) (w : World) (h0 : (s.toList == [121, 101, 115]) = false) (h1 : (s.toList == [116, 114, 117, 101]) = false) (h2 : (s.toList == [111, 110]) = false) (h3 : (s.toList == [49]) = false) (h4 : (s.toList == [110, 111]) = false) (h5 : (s.toList == [102, 97, 108, 115, 101]) = false) (h6 : (s.toList == [111, 102, 102]) = false) (h7 : (s.toList == [48]) = false) : Calls Tryd.prog 10 #[.string s] w fun e w' => e = .returned (.tuple #[.bool false, .int .i64 150]) ∧ w = w' := by
  go_enter Tryd.func10, Tryd.ntmps10
  go_wp2
  go_ret2
  exact ⟨rfl, rfl⟩
theorem refBool (s : ByteArray) (w : World) : Calls Tryd.prog 10 #[.string s] w fun e w' => e = .returned (.tuple #[.bool ((boolR s).getD false), .int .i64 (boolE s)]) ∧ w = w' := by
  by_cases c0 : s = ⟨#[121, 101, 115]⟩
  · subst c0; exact refBool_0 w
  by_cases c1 : s = ⟨#[116, 114, 117, 101]⟩
  · subst c1; exact refBool_1 w
  by_cases c2 : s = ⟨#[111, 110]⟩
  · subst c2; exact refBool_2 w
  by_cases c3 : s = ⟨#[49]⟩
  · subst c3; exact refBool_3 w
  by_cases c4 : s = ⟨#[110, 111]⟩
  · subst c4; exact refBool_4 w
  by_cases c5 : s = ⟨#[102, 97, 108, 115, 101]⟩
  · subst c5; exact refBool_5 w
  by_cases c6 : s = ⟨#[111, 102, 102]⟩
  · subst c6; exact refBool_6 w
  by_cases c7 : s = ⟨#[48]⟩
  · subst c7; exact refBool_7 w
  have e1 : isIn yesT s = false := isIn_no (fun t ht => by
    rcases List.mem_cons.1 ht with rfl | ht
    · assumption
    rcases List.mem_cons.1 ht with rfl | ht
    · assumption
    rcases List.mem_cons.1 ht with rfl | ht
    · assumption
    rcases List.mem_cons.1 ht with rfl | ht
    · assumption
    cases ht)
  have e2 : isIn noT s = false := isIn_no (fun t ht => by
    rcases List.mem_cons.1 ht with rfl | ht
    · assumption
    rcases List.mem_cons.1 ht with rfl | ht
    · assumption
    rcases List.mem_cons.1 ht with rfl | ht
    · assumption
    rcases List.mem_cons.1 ht with rfl | ht
    · assumption
    cases ht)
  have e : boolR s = none := by
    unfold boolR
    rw [e1, if_neg Bool.noConfusion, e2, if_neg Bool.noConfusion]
  unfold boolE
  rw [e]
  exact refBool_no s w (beq_eq_false_iff_ne.2 (fun e => c0 (list_of_bytes10 (e.trans (bs_toList [121, 101, 115]).symm)))) (beq_eq_false_iff_ne.2 (fun e => c1 (list_of_bytes10 (e.trans (bs_toList [116, 114, 117, 101]).symm)))) (beq_eq_false_iff_ne.2 (fun e => c2 (list_of_bytes10 (e.trans (bs_toList [111, 110]).symm)))) (beq_eq_false_iff_ne.2 (fun e => c3 (list_of_bytes10 (e.trans (bs_toList [49]).symm)))) (beq_eq_false_iff_ne.2 (fun e => c4 (list_of_bytes10 (e.trans (bs_toList [110, 111]).symm)))) (beq_eq_false_iff_ne.2 (fun e => c5 (list_of_bytes10 (e.trans (bs_toList [102, 97, 108, 115, 101]).symm)))) (beq_eq_false_iff_ne.2 (fun e => c6 (list_of_bytes10 (e.trans (bs_toList [111, 102, 102]).symm)))) (beq_eq_false_iff_ne.2 (fun e => c7 (list_of_bytes10 (e.trans (bs_toList [48]).symm))))
theorem refTurned (s : ByteArray) (hs : s.size ≤ maxLen) (w : World) : Calls Tryd.prog 12 #[.string s] w fun e w' => e = .returned (.tuple #[.string (turnR s).1, .bool (turnR s).2]) ∧ w = w' := by
  unfold maxLen at hs
  by_cases h0 : s.size = 0
  · have e : turnR s = (s, false) := by
      unfold turnR
      rw [if_neg]
      have : s.data.toList = [] := List.length_eq_zero_iff.1 (by simpa using h0)
      rw [this]; exact fun h => by cases h
    rw [e]
    have k0 : ¬ (0 : Int) < s.size := by omega
    have kz : (s.size : Int) = 0 := by omega
    go_enter Tryd.func12, Tryd.ntmps12
    go_wp2
    go_ret2
    exact ⟨rfl, rfl⟩
  · have h1 : 0 < s.size := by omega
    obtain ⟨c, hc⟩ : ∃ c, c = s[0]'h1 := ⟨_, rfl⟩
    obtain ⟨x, hx⟩ : ∃ x, x = (c.toNat : Int) := ⟨_, rfl⟩
    have hidx : ((s[0]'h1).toNat : Int) = x := by rw [hx, hc]
    have hh : s.data.toList.head? = some c := by rw [hc, List.head?_eq_getElem?, List.getElem?_eq_getElem (by simpa using h1)]; rfl
    have k0 : (0 : Int) < s.size := by omega
    have k1 : (1 : Int) ≤ s.size := by omega
    by_cases h126 : x = 126
    · have hc' : c = 126 := UInt8.toNat_inj.1 (by have : (c.toNat : Int) = ((126 : UInt8).toNat : Int) := by rw [← hx, h126]; rfl
                                                  omega)
      have e : turnR s = (s.extract 1 s.size, true) := by
        unfold turnR
        rw [hh, hc', if_pos rfl, ext_bs, List.take_of_length_le (by simp)]
      rw [e]
      subst h126
      clear hh hc hx hc' h0
      go_enter Tryd.func12, Tryd.ntmps12
      go_wp2
      go_ret2
      exact ⟨rfl, rfl⟩
    · have e : turnR s = (s, false) := by
        unfold turnR
        rw [hh, if_neg]
        intro h; injection h with h; rw [h] at hx; exact h126 hx
      rw [e]
      have q1 : (x == 126) = false := beq_eq_false_iff_ne.2 h126
      clear hh hc hx h0
      go_enter Tryd.func12, Tryd.ntmps12
      go_wp2
      go_ret2
      exact ⟨rfl, rfl⟩
theorem is_same (e : Ent) (w : World) : Calls Tryd.prog 16 #[entV e, entV e] w fun r w' => r = .returned (.bool true) ∧ Below w.heap.size w w' := by
  obtain ⟨nm, act, has⟩ := e
  unfold entV
  obtain ⟨x, hx⟩ : ∃ x, x = ((act : Nat) : Int) := ⟨_, rfl⟩
  rw [← hx]
  have t1 : (nm.toList == nm.toList) = true := by simp
  have t2 : (x == x) = true := by simp
  have t3 : (has == has) = true := by simp
  clear hx
  go_enter Tryd.func16, Tryd.ntmps16
  go_wp2
  go_ret
  exact ⟨rfl, ((Below.refl _ _).alloc (Nat.le_refl _) _).alloc (by simp) _⟩
end Go.Proofs.YtfmfjnnbldmdlaaDoor
