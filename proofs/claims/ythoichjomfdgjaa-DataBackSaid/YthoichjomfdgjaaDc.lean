/- What the document's own Word and Parse of data return. Condition: each number fits its kind. -/
import Derived.Test.YthoichjomfdgjaaDb
namespace Go.Proofs.Ythoichjomfdgjaa
open Go.RowKit
set_option linter.unusedVariables false
attribute [local go_sem ↓] Go.wp_at_zero Go.wp_at_succ

theorem word_no {d : Dat} {a : Int} (h : ¬ (a % 4 = 0 ∧ a < 64)) : wordV d a = 0 ∧ wordE a = 41 := by
  have e : wordB a = false := decide_eq_false h
  unfold wordV wordE; rw [e]; exact ⟨rfl, rfl⟩
theorem word_yes {d : Dat} {a : Int} (h : a % 4 = 0 ∧ a < 64) (h0 : 0 ≤ a) : getV 4 (datB d) a = wordV d a ∧ wordE a = 0 := by
  have e : wordB a = true := decide_eq_true h
  obtain ⟨n, rfl⟩ := Int.eq_ofNat_of_zero_le h0
  refine ⟨?_, by unfold wordE; rw [e]; rfl⟩
  rw [getV_true (by rw [datB_length]; omega)]
  unfold wordV; rw [e]; rfl
set_option maxHeartbeats 1600000 in
theorem refWord3 (d : Dat) (a : Int) (w : World) (h : d.Ok) (a0 : 0 ≤ a) (a1 : a < 4294967296) : Calls Try.prog 12 #[datV d, .int .u32 a] w fun e w' =>
    e = .returned (.tuple #[.int .u32 (wordV d a), .int .i64 (wordE a)]) ∧ Below w.heap.size w w' := by
  by_cases hm : a % 4 = 0
  · by_cases h6 : a ≤ 60
    · obtain ⟨e1, e2⟩ := word_yes (d := d) ⟨hm, by omega⟩ a0
      have hv := wordV_ok d a
      have HP := Lib.hid (fun W => refPrint3 d W h)
      have HG := Lib.hid (fun p c W hr => refGet4_any p 64 c (World.heap W).size (datB d) W (datB_length d) (datB_byt d) (by omega) hr a (by omega))
      rw [e1] at HG
      rw [e2]
      have t1 : (a % 4 != 0) = false := by simp; omega
      have t2 : ¬ (60 : Int) < a := by omega
      obtain ⟨x, hx⟩ : ∃ x, x = wordV d a := ⟨_, rfl⟩
      rw [← hx] at HG hv ⊢
      have v0 := hv.1
      have v1 := hv.2
      clear hx e1 e2 h hv
      unfold datV datC at *
      obtain ⟨bb, hbb⟩ : ∃ b, b = getB 4 (datB d) a := ⟨_, rfl⟩
      rw [← hbb] at HG
      go_enter Try.func12, Try.ntmps12
      go_wp2_with (first
        | (go_at_call 10; ((with_reducible refine (HP.out _).mono ?_); rintro e w1 ⟨p, c, rfl, o1, b1⟩); have r1 := own_shape'' o1; have B1 := ((Below.refl _ _).alloc (Nat.le_refl _) _).trans (b1.mono (by simp : w.heap.size ≤ _)); have r2 : Rd w1 w1.heap.size p (datB d) := (by obtain ⟨_, _, hv, r, _⟩ := r1; injection hv with h1 _ _; rw [h1]; exact r))
        | (go_at_call 25; ((with_reducible refine (HG.out _ _ _ r2).mono ?_); rintro e w2 ⟨rfl, rfl⟩)))
      go_ret2
      exact ⟨rfl, B1⟩
    · obtain ⟨e1, e2⟩ := word_no (d := d) (a := a) (by omega)
      rw [e1, e2]
      have t1 : (a % 4 != 0) = false := by simp; omega
      have t2 : (60 : Int) < a := by omega
      clear e1 e2 h
      unfold datV datC
      go_enter Try.func12, Try.ntmps12
      go_wp2
      go_ret2
      exact ⟨rfl, (Below.refl _ _).alloc (Nat.le_refl _) _⟩
  · obtain ⟨e1, e2⟩ := word_no (d := d) (a := a) (by omega)
    rw [e1, e2]
    have t1 : (a % 4 != 0) = true := by simp; omega
    clear e1 e2 h
    unfold datV datC
    go_enter Try.func12, Try.ntmps12
    go_wp2
    go_ret2
    exact ⟨rfl, (Below.refl _ _).alloc (Nat.le_refl _) _⟩
theorem refParse3_bad (p : Option Addr) (n c : Nat) (w : World) (h : n ≠ 64) (hm : n ≤ 1099511627776) : Calls Try.prog 14 #[.slice p n c] w fun e w' =>
    e = .returned (.tuple #[.agg #[.int .u32 0, .int .u32 0, .int .u64 0, .int .u64 0, .int .u64 0, .int .u64 0, .int .u64 0, .int .u64 0, .int .u64 0], .int .i64 30]) ∧ Below w.heap.size w w' := by
  have h1 : ((n : Int) != 64) = true := by simp; omega
  have h2 : ¬ (n : Int) = 64 := by omega
  clear h
  go_enter Try.func14, Try.ntmps14
  go_wp2
  refine bodyPost_ret (v := .tuple #[.agg #[.int .u32 0, .int .u32 0, .int .u64 0, .int .u64 0, .int .u64 0, .int .u64 0, .int .u64 0, .int .u64 0, .int .u64 0], .int .i64 30]) (by simp [results, Try.results14, go_sem]) rfl ⟨rfl, ?_⟩
  exact (Below.refl _ _).alloc (Nat.le_refl _) _
set_option maxHeartbeats 8000000 in
theorem refParse3 (p : Option Addr) (c : Nat) (xs : List Int) (w : World) (hx : xs.length = 64) (hB : Byt xs) (h : Rd w w.heap.size p xs) : Calls Try.prog 14 #[.slice p 64 c] w fun e w' =>
    e = .returned (.tuple #[datV (datOf xs), .int .i64 0]) ∧ Below w.heap.size w w' := by
  have ok := datOf_ok hB
  have G0 := Lib.hid (fun W hr => refGet4_any p 64 c w.heap.size xs W hx hB (by omega) hr 0 (by omega))
  have e0 : getV 4 xs 0 = (datOf xs).nr := getV_true (k := 4) (xs := xs) (a := 0) (by omega)
  rw [e0, getB_true (by omega) (by omega)] at G0
  have G1 := Lib.hid (fun W hr => refGet4_any p 64 c w.heap.size xs W hx hB (by omega) hr 4 (by omega))
  have e1 : getV 4 xs 4 = (datOf xs).arch := getV_true (k := 4) (xs := xs) (a := 4) (by omega)
  rw [e1, getB_true (by omega) (by omega)] at G1
  have G2 := Lib.hid (fun W hr => refGet8_any p 64 c w.heap.size xs W hx hB (by omega) hr 8 (by omega))
  have e2 : getV 8 xs 8 = (datOf xs).ip := getV_true (k := 8) (xs := xs) (a := 8) (by omega)
  rw [e2, getB_true (by omega) (by omega)] at G2
  have G3 := Lib.hid (fun W hr => refGet8_any p 64 c w.heap.size xs W hx hB (by omega) hr 16 (by omega))
  have e3 : getV 8 xs 16 = (datOf xs).a0 := getV_true (k := 8) (xs := xs) (a := 16) (by omega)
  rw [e3, getB_true (by omega) (by omega)] at G3
  have G4 := Lib.hid (fun W hr => refGet8_any p 64 c w.heap.size xs W hx hB (by omega) hr 24 (by omega))
  have e4 : getV 8 xs 24 = (datOf xs).a1 := getV_true (k := 8) (xs := xs) (a := 24) (by omega)
  rw [e4, getB_true (by omega) (by omega)] at G4
  have G5 := Lib.hid (fun W hr => refGet8_any p 64 c w.heap.size xs W hx hB (by omega) hr 32 (by omega))
  have e5 : getV 8 xs 32 = (datOf xs).a2 := getV_true (k := 8) (xs := xs) (a := 32) (by omega)
  rw [e5, getB_true (by omega) (by omega)] at G5
  have G6 := Lib.hid (fun W hr => refGet8_any p 64 c w.heap.size xs W hx hB (by omega) hr 40 (by omega))
  have e6 : getV 8 xs 40 = (datOf xs).a3 := getV_true (k := 8) (xs := xs) (a := 40) (by omega)
  rw [e6, getB_true (by omega) (by omega)] at G6
  have G7 := Lib.hid (fun W hr => refGet8_any p 64 c w.heap.size xs W hx hB (by omega) hr 48 (by omega))
  have e7 : getV 8 xs 48 = (datOf xs).a4 := getV_true (k := 8) (xs := xs) (a := 48) (by omega)
  rw [e7, getB_true (by omega) (by omega)] at G7
  have G8 := Lib.hid (fun W hr => refGet8_any p 64 c w.heap.size xs W hx hB (by omega) hr 56 (by omega))
  have e8 : getV 8 xs 56 = (datOf xs).a5 := getV_true (k := 8) (xs := xs) (a := 56) (by omega)
  rw [e8, getB_true (by omega) (by omega)] at G8
  have HR := Lib.hid (fun (W : World) (hb : Below w.heap.size w W) => h.below hb (Nat.le_refl _))
  obtain ⟨d, hd⟩ : ∃ d, d = datOf xs := ⟨_, rfl⟩
  rw [← hd] at ok G0 G1 G2 G3 G4 G5 G6 G7 G8 ⊢
  clear hd e0 e1 e2 e3 e4 e5 e6 e7 e8 hx hB h
  obtain ⟨q0, q1, q2, q3, q4, q5, q6, q7, q8, q9, q10, q11, q12, q13, q14, q15, q16, q17⟩ := ok
  obtain ⟨nr, arch, ip, a0, a1, a2, a3, a4, a5⟩ := d
  simp only at q0 q1 q2 q3 q4 q5 q6 q7 q8 q9 q10 q11 q12 q13 q14 q15 q16 q17
  unfold datV datC
  go_enter Try.func14, Try.ntmps14
  go_wp2_with (first
    | (go_at_call 25; (with_reducible refine (G0.out _ ?_).mono ?_); exact HR.out _ (by first | exact (Below.refl _ _).alloc (Nat.le_refl _) _ | exact ((Below.refl _ _).alloc (Nat.le_refl _) _).alloc (by simp) _); rintro e w' ⟨rfl, rfl⟩)
    | (go_at_call 25; (with_reducible refine (G1.out _ ?_).mono ?_); exact HR.out _ (by first | exact (Below.refl _ _).alloc (Nat.le_refl _) _ | exact ((Below.refl _ _).alloc (Nat.le_refl _) _).alloc (by simp) _); rintro e w' ⟨rfl, rfl⟩)
    | (go_at_call 25; (with_reducible refine (G2.out _ ?_).mono ?_); exact HR.out _ (by first | exact (Below.refl _ _).alloc (Nat.le_refl _) _ | exact ((Below.refl _ _).alloc (Nat.le_refl _) _).alloc (by simp) _); rintro e w' ⟨rfl, rfl⟩)
    | (go_at_call 25; (with_reducible refine (G3.out _ ?_).mono ?_); exact HR.out _ (by first | exact (Below.refl _ _).alloc (Nat.le_refl _) _ | exact ((Below.refl _ _).alloc (Nat.le_refl _) _).alloc (by simp) _); rintro e w' ⟨rfl, rfl⟩)
    | (go_at_call 25; (with_reducible refine (G4.out _ ?_).mono ?_); exact HR.out _ (by first | exact (Below.refl _ _).alloc (Nat.le_refl _) _ | exact ((Below.refl _ _).alloc (Nat.le_refl _) _).alloc (by simp) _); rintro e w' ⟨rfl, rfl⟩)
    | (go_at_call 25; (with_reducible refine (G5.out _ ?_).mono ?_); exact HR.out _ (by first | exact (Below.refl _ _).alloc (Nat.le_refl _) _ | exact ((Below.refl _ _).alloc (Nat.le_refl _) _).alloc (by simp) _); rintro e w' ⟨rfl, rfl⟩)
    | (go_at_call 25; (with_reducible refine (G6.out _ ?_).mono ?_); exact HR.out _ (by first | exact (Below.refl _ _).alloc (Nat.le_refl _) _ | exact ((Below.refl _ _).alloc (Nat.le_refl _) _).alloc (by simp) _); rintro e w' ⟨rfl, rfl⟩)
    | (go_at_call 25; (with_reducible refine (G7.out _ ?_).mono ?_); exact HR.out _ (by first | exact (Below.refl _ _).alloc (Nat.le_refl _) _ | exact ((Below.refl _ _).alloc (Nat.le_refl _) _).alloc (by simp) _); rintro e w' ⟨rfl, rfl⟩)
    | (go_at_call 25; (with_reducible refine (G8.out _ ?_).mono ?_); exact HR.out _ (by first | exact (Below.refl _ _).alloc (Nat.le_refl _) _ | exact ((Below.refl _ _).alloc (Nat.le_refl _) _).alloc (by simp) _); rintro e w' ⟨rfl, rfl⟩))
  refine wp_loop_rounds 7 ?_
  rw [rounds_succ]
  go_wp2_with (
    (go_at_call 25; (with_reducible refine (G3.out _ ?_).mono ?_); exact HR.out _ (by first | exact (Below.refl _ _).alloc (Nat.le_refl _) _ | exact ((Below.refl _ _).alloc (Nat.le_refl _) _).alloc (by simp) _); rintro e w' ⟨rfl, rfl⟩))
  rw [rounds_succ]
  go_wp2_with (
    (go_at_call 25; (with_reducible refine (G4.out _ ?_).mono ?_); exact HR.out _ (by first | exact (Below.refl _ _).alloc (Nat.le_refl _) _ | exact ((Below.refl _ _).alloc (Nat.le_refl _) _).alloc (by simp) _); rintro e w' ⟨rfl, rfl⟩))
  rw [rounds_succ]
  go_wp2_with (
    (go_at_call 25; (with_reducible refine (G5.out _ ?_).mono ?_); exact HR.out _ (by first | exact (Below.refl _ _).alloc (Nat.le_refl _) _ | exact ((Below.refl _ _).alloc (Nat.le_refl _) _).alloc (by simp) _); rintro e w' ⟨rfl, rfl⟩))
  rw [rounds_succ]
  go_wp2_with (
    (go_at_call 25; (with_reducible refine (G6.out _ ?_).mono ?_); exact HR.out _ (by first | exact (Below.refl _ _).alloc (Nat.le_refl _) _ | exact ((Below.refl _ _).alloc (Nat.le_refl _) _).alloc (by simp) _); rintro e w' ⟨rfl, rfl⟩))
  rw [rounds_succ]
  go_wp2_with (
    (go_at_call 25; (with_reducible refine (G7.out _ ?_).mono ?_); exact HR.out _ (by first | exact (Below.refl _ _).alloc (Nat.le_refl _) _ | exact ((Below.refl _ _).alloc (Nat.le_refl _) _).alloc (by simp) _); rintro e w' ⟨rfl, rfl⟩))
  rw [rounds_succ]
  go_wp2_with (
    (go_at_call 25; (with_reducible refine (G8.out _ ?_).mono ?_); exact HR.out _ (by first | exact (Below.refl _ _).alloc (Nat.le_refl _) _ | exact ((Below.refl _ _).alloc (Nat.le_refl _) _).alloc (by simp) _); rintro e w' ⟨rfl, rfl⟩))
  rw [rounds_succ]
  go_wp2
  refine bodyPost_ret (v := .tuple #[.agg #[.int .u32 nr, .int .u32 arch, .int .u64 ip, .int .u64 a0, .int .u64 a1, .int .u64 a2, .int .u64 a3, .int .u64 a4, .int .u64 a5], .int .i64 0]) (by simp [results, Try.results14, go_sem]) rfl ⟨rfl, ?_⟩
  exact ((Below.refl _ _).alloc (Nat.le_refl _) _).alloc (by simp) _
end Go.Proofs.Ythoichjomfdgjaa
