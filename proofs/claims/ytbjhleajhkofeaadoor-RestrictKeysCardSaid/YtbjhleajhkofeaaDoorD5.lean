/- The document's own Key; the walk of RestrictKeys. -/
import Derived.Test.YtbjhleajhkofeaaDoorD4
namespace Go.Proofs.YtbjhleajhkofeaaDoor
open Go.RowKit
set_option linter.unusedVariables false
set_option linter.unusedSimpArgs false
attribute [local go_sem ↓] Go.wp_at_zero Go.wp_at_succ

def flagR18 (s : ByteArray) : Bool := decide (s = kWri) || decide (s = kPer) || decide (s = kRea) || decide (s = kNop)
set_option maxRecDepth 100000 in
theorem refFlag18 (s : ByteArray) (w : World) : Calls Tryd.prog 22 #[.string s] w fun e w' => e = .returned (.bool (flagR18 s)) ∧ w = w' := by
  unfold flagR18
  have d3 : decide (s = kWri) = (s.toList == [77, 101, 109, 111, 114, 121, 68, 101, 110, 121, 87, 114, 105, 116, 101, 69, 120, 101, 99, 117, 116, 101]) := by
    by_cases h : s = kWri
    · rw [decide_eq_true h, eq_str h]
    · rw [decide_eq_false h, ne_str h]
  have d4 : decide (s = kPer) = (s.toList == [76, 111, 99, 107, 80, 101, 114, 115, 111, 110, 97, 108, 105, 116, 121]) := by
    by_cases h : s = kPer
    · rw [decide_eq_true h, eq_str h]
    · rw [decide_eq_false h, ne_str h]
  have d5 : decide (s = kRea) = (s.toList == [82, 101, 115, 116, 114, 105, 99, 116, 82, 101, 97, 108, 116, 105, 109, 101]) := by
    by_cases h : s = kRea
    · rw [decide_eq_true h, eq_str h]
    · rw [decide_eq_false h, ne_str h]
  have d6 : decide (s = kNop) = (s.toList == [78, 111, 78, 101, 119, 80, 114, 105, 118, 105, 108, 101, 103, 101, 115]) := by
    by_cases h : s = kNop
    · rw [decide_eq_true h, eq_str h]
    · rw [decide_eq_false h, ne_str h]
  rw [d3, d4, d5, d6]
  clear d3 d4 d5 d6
  cases t3 : s.toList == [77, 101, 109, 111, 114, 121, 68, 101, 110, 121, 87, 114, 105, 116, 101, 69, 120, 101, 99, 117, 116, 101] <;> cases t4 : s.toList == [76, 111, 99, 107, 80, 101, 114, 115, 111, 110, 97, 108, 105, 116, 121] <;> cases t5 : s.toList == [82, 101, 115, 116, 114, 105, 99, 116, 82, 101, 97, 108, 116, 105, 109, 101] <;> cases t6 : s.toList == [78, 111, 78, 101, 119, 80, 114, 105, 118, 105, 108, 101, 103, 101, 115]
  all_goals
    go_enter Tryd.func22, Tryd.ntmps22
    go_wp2
    go_ret
    exact ⟨rfl, rfl⟩
set_option maxRecDepth 100000 in
theorem refKey18 (s : ByteArray) (w : World) : Calls Tryd.prog 8 #[.string s] w fun e w' => e = .returned (.bool (keyR18 s)) ∧ w = w' := by
  have HF := Lib.hid (refFlag18 s w)
  have hk : keyR18 s = (decide (s = kArc) || decide (s = kFam) || decide (s = kSpa) || flagR18 s) := by unfold keyR18 flagR18; simp [Bool.or_assoc]
  rw [hk]
  obtain ⟨fl, hfl⟩ : ∃ b, b = flagR18 s := ⟨_, rfl⟩
  rw [← hfl] at HF ⊢
  clear hk hfl
  have d0 : decide (s = kArc) = (s.toList == [83, 121, 115, 116, 101, 109, 67, 97, 108, 108, 65, 114, 99, 104, 105, 116, 101, 99, 116, 117, 114, 101, 115]) := by
    by_cases h : s = kArc
    · rw [decide_eq_true h, eq_str h]
    · rw [decide_eq_false h, ne_str h]
  have d1 : decide (s = kFam) = (s.toList == [82, 101, 115, 116, 114, 105, 99, 116, 65, 100, 100, 114, 101, 115, 115, 70, 97, 109, 105, 108, 105, 101, 115]) := by
    by_cases h : s = kFam
    · rw [decide_eq_true h, eq_str h]
    · rw [decide_eq_false h, ne_str h]
  have d2 : decide (s = kSpa) = (s.toList == [82, 101, 115, 116, 114, 105, 99, 116, 78, 97, 109, 101, 115, 112, 97, 99, 101, 115]) := by
    by_cases h : s = kSpa
    · rw [decide_eq_true h, eq_str h]
    · rw [decide_eq_false h, ne_str h]
  rw [d0, d1, d2]
  clear d0 d1 d2
  cases t0 : s.toList == [83, 121, 115, 116, 101, 109, 67, 97, 108, 108, 65, 114, 99, 104, 105, 116, 101, 99, 116, 117, 114, 101, 115] <;> cases t1 : s.toList == [82, 101, 115, 116, 114, 105, 99, 116, 65, 100, 100, 114, 101, 115, 115, 70, 97, 109, 105, 108, 105, 101, 115] <;> cases t2 : s.toList == [82, 101, 115, 116, 114, 105, 99, 116, 78, 97, 109, 101, 115, 112, 97, 99, 101, 115]
  all_goals
    go_enter Tryd.func8, Tryd.ntmps8
    go_wp2_with (go_at_call 22; ((with_reducible refine (HF.out).mono ?_); rintro e w1 ⟨rfl, rfl⟩))
    go_ret
    exact ⟨by first | rfl | simp, rfl⟩
set_option maxRecDepth 100000 in
set_option maxHeartbeats 16000000 in
theorem restrictKeys_walk {G : World → Prop} (HC : RestrictC G) (k : ByteArray) (w : World) (hG : G w) : Calls Tryd.prog 3 #[.string k] w fun e w' => e = .returned (.bool true) ∧ Below w.heap.size w w' := by
  have HON := Lib.hid (fun (w w' : World) => HC.on (w := w) (w' := w'))
  have HG := Lib.hid hG
  have HAW := Lib.hid (fun (W : World) (g : G W) => awake18_any HC W g)
  by_cases h1 : (200 : Int) < k.size
  · clear HC hG
    go_enter Tryd.func3, Tryd.ntmps3
    go_wp2
    go_ret
    exact ⟨rfl, Below.refl _ _⟩
  have HK := Lib.hid (fun (X : World) (g : G X) => HC.key k X g (by omega))
  have HL := Lib.hid (fun (X : World) => refKey18 k X)
  obtain ⟨c, hc⟩ : ∃ x : Bool, x = keyR18 k := ⟨_, rfl⟩
  rw [← hc] at HK HL
  have tc : (c == c) = true := by simp
  clear hc HC hG
  go_enter Tryd.func3, Tryd.ntmps3
  go_wp2_with (first
    | (go_at_call 7
       ((with_reducible refine (HK.out _ HG.out).mono ?_); rintro e v1 ⟨rfl, b1⟩)
       have B1 := Lib.hid b1
       clear b1)
    | (go_at_call 8
       ((with_reducible refine (HL.out _).mono ?_); rintro e v2 ⟨rfl, rfl⟩))
    | (go_at_call 9
       ((with_reducible refine (HAW.out _ (HON.out _ _ HG.out B1.out)).mono ?_); rintro e v5 ⟨rfl, b5⟩)))
  go_ret
  exact ⟨by first | rfl | simp, thn16 B1.out b5⟩
end Go.Proofs.YtbjhleajhkofeaaDoor
