/- What the document's own Word and Parse of data return. Condition: each number fits its kind. -/
import Derived.Test.YtinfbmfmmbibbaaDoorDb
namespace Go.Proofs.YtinfbmfmmbibbaaDoor
open Go.RowKit
set_option linter.unusedVariables false
attribute [local go_sem ↓] Go.wp_at_zero Go.wp_at_succ

theorem word_no {d : Dat} {a : Int} (h : ¬ (a % 4 = 0 ∧ a < 64)) : wordV d a = 0 ∧ wordE a = 41 := by
  have e : wordB a = false := decide_eq_false h
  unfold wordV wordE; rw [e]; exact ⟨rfl, rfl⟩
theorem word_yes {d : Dat} {a : Int} (h : a % 4 = 0 ∧ a < 64) (h0 : 0 ≤ a) : getV 4 (datB d) a = wordV d a ∧ wordE a = 0 := by
  have e : wordB a = true := decide_eq_true h
  obtain ⟨n, rfl⟩ := Int.eq_ofNat_of_zero_le h0
  refine ⟨?_, by unfold wordE; rw [e]; rfl⟩
  rw [getV_true (by rw [datB_length]; omega)]
  unfold wordV; rw [e]; rfl
set_option maxHeartbeats 1600000 in
theorem refWord3 (d : Dat) (a : Int) (w : World) (h : d.Ok) (a0 : 0 ≤ a) (a1 : a < 4294967296) : Calls Tryd.prog 53 #[datV d, .int .u32 a] w fun e w' =>
    e = .returned (.tuple #[.int .u32 (wordV d a), .int .i64 (wordE a)]) ∧ Below w.heap.size w w' := by
  by_cases hm : a % 4 = 0
  · by_cases h6 : a ≤ 60
    · obtain ⟨e1, e2⟩ := word_yes (d := d) ⟨hm, by omega⟩ a0
      have hv := wordV_ok d a
      have HP := Lib.hid (fun W => refPrint3 d W h)
      have HG := Lib.hid (fun p c W hr => refGet4_any p 64 c (World.heap W).size (datB d) W (datB_length d) (datB_byt d) (by omega) hr a (by omega))
      rw [e1] at HG
      rw [e2]
      have t1 : (a % 4 != 0) = false := by simp; omega
      have t2 : ¬ (60 : Int) < a := by omega
      obtain ⟨x, hx⟩ : ∃ x, x = wordV d a := ⟨_, rfl⟩
      rw [← hx] at HG hv ⊢
      have v0 := hv.1
      have v1 := hv.2
      clear hx e1 e2 h hv
      unfold datV datC at *
      obtain ⟨bb, hbb⟩ : ∃ b, b = getB 4 (datB d) a := ⟨_, rfl⟩
      rw [← hbb] at HG
      go_enter Tryd.func53, Tryd.ntmps53
      go_wp2_with (first
        | (go_at_call 63; ((with_reducible refine (HP.out _).mono ?_); rintro e w1 ⟨p, c, rfl, o1, b1⟩); have r1 := own_shape'' o1; have B1 := ((Below.refl _ _).alloc (Nat.le_refl _) _).trans (b1.mono (by simp : w.heap.size ≤ _)); have r2 : Rd w1 w1.heap.size p (datB d) := (by obtain ⟨_, _, hv, r, _⟩ := r1; injection hv with h1 _ _; rw [h1]; exact r))
        | (go_at_call 62; ((with_reducible refine (HG.out _ _ _ r2).mono ?_); rintro e w2 ⟨rfl, rfl⟩)))
      go_ret2
      exact ⟨rfl, B1⟩
    · obtain ⟨e1, e2⟩ := word_no (d := d) (a := a) (by omega)
      rw [e1, e2]
      have t1 : (a % 4 != 0) = false := by simp; omega
      have t2 : (60 : Int) < a := by omega
      clear e1 e2 h
      unfold datV datC
      go_enter Tryd.func53, Tryd.ntmps53
      go_wp2
      go_ret2
      exact ⟨rfl, (Below.refl _ _).alloc (Nat.le_refl _) _⟩
  · obtain ⟨e1, e2⟩ := word_no (d := d) (a := a) (by omega)
    rw [e1, e2]
    have t1 : (a % 4 != 0) = true := by simp; omega
    clear e1 e2 h
    unfold datV datC
    go_enter Tryd.func53, Tryd.ntmps53
    go_wp2
    go_ret2
    exact ⟨rfl, (Below.refl _ _).alloc (Nat.le_refl _) _⟩
end Go.Proofs.YtinfbmfmmbibbaaDoor
