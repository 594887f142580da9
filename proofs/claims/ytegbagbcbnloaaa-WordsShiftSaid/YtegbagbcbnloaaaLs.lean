/- The statement WordsShift holds: a number at a place of a list is that of the list behind the place; bytes behind change nothing. No condition. -/
import Derived.Test.YtegbagbcbnloaaaRows
import Derived.Test.YtegbagbcbnloaaaFr
namespace Go.Proofs.Ytegbagbcbnloaaa.wordsShift
open Go.ChangeShapes Go.WideShapes Go.ChangeAt Go.RowKit
set_option linter.unusedVariables false

theorem getB_ahead (k : Nat) (xs ys : List Int) (at_ : Int) (h : 0 ≤ at_) : getB k (xs ++ ys) (xs.length + at_) = getB k ys at_ := by
  unfold getB
  rw [List.length_append]
  by_cases h1 : at_ + k ≤ ys.length
  · rw [decide_eq_true (by omega), decide_eq_true (by omega)]
  · rw [decide_eq_false (by omega), decide_eq_false (by omega)]
theorem getV_ahead (k : Nat) (xs ys : List Int) (at_ : Int) (h : 0 ≤ at_) : getV k (xs ++ ys) (xs.length + at_) = getV k ys at_ := by
  unfold getV
  rw [getB_ahead k xs ys at_ h]
  obtain ⟨a, rfl⟩ := Int.eq_ofNat_of_zero_le h
  have e : ((xs.length : Int) + (a : Int)).toNat = xs.length + a := by omega
  have e2 : xs.length + a - xs.length = a := by omega
  rw [e, List.drop_append, List.drop_of_length_le (by omega), List.nil_append, e2, Int.toNat_natCast]
theorem getB_behind (k : Nat) (xs ys : List Int) (at_ : Int) (h : getB k xs at_ = true) : getB k (xs ++ ys) at_ = true := by
  have h := of_decide_eq_true h
  exact decide_eq_true (by rw [List.length_append]; omega)
theorem getV_behind (k : Nat) (xs ys : List Int) (at_ : Int) (h : getB k xs at_ = true) : getV k (xs ++ ys) at_ = getV k xs at_ := by
  unfold getV
  rw [getB_behind k xs ys at_ h, h]
  have h := of_decide_eq_true h
  simp only [if_true]
  rw [List.drop_append_of_le_length (by omega), List.take_append_of_le_length (by rw [List.length_drop]; omega)]
set_option maxHeartbeats 2000000 in
theorem walk (a0 : Option Addr) (len0 cap0 : Nat) (z0 : List Int) (a1 : Option Addr) (len1 cap1 : Nat) (z1 : List Int) (a2 : Int) (w : World) (w0 : IsBytes w a0 len0 cap0 z0) (w1 : IsBytes w a1 len1 cap1 z1) (w2 : (Lit.int .i64 a2).wf = true) :
    Calls Try.prog 8 #[.slice a0 len0 cap0, .slice a1 len1 cap1, .int .i64 a2] w fun e w' => e = .returned (.bool true) ∧ Below w.heap.size w w' := by
  by_cases e0 : 100 < len0
  · have e0' : (100 : Int) < len0 := by omega
    clear w0 w1 w2
    go_enter Try.func8, Try.ntmps8
    go_wp2_with (go_at_call 23; ((with_reducible refine (awake_any _).mono ?_); rintro e w1 ⟨rfl, hb1⟩))
    go_ret
    exact ⟨rfl, hb1⟩
  by_cases e1 : 100 < len1
  · have e0' : ¬ (100 : Int) < len0 := by omega
    have e1' : (100 : Int) < len1 := by omega
    clear w0 w1 w2
    go_enter Try.func8, Try.ntmps8
    go_wp2_with (go_at_call 23; ((with_reducible refine (awake_any _).mono ?_); rintro e w1 ⟨rfl, hb1⟩))
    go_ret
    exact ⟨rfl, hb1⟩
  by_cases e2 : a2 < 0
  · have e0' : ¬ (100 : Int) < len0 := by omega
    have e1' : ¬ (100 : Int) < len1 := by omega
    clear w0 w1 w2
    go_enter Try.func8, Try.ntmps8
    go_wp2_with (go_at_call 23; ((with_reducible refine (awake_any _).mono ?_); rintro e w1 ⟨rfl, hb1⟩))
    go_ret
    exact ⟨rfl, hb1⟩
  by_cases e3 : 200 < a2
  · have e0' : ¬ (100 : Int) < len0 := by omega
    have e1' : ¬ (100 : Int) < len1 := by omega
    clear w0 w1 w2
    go_enter Try.func8, Try.ntmps8
    go_wp2_with (go_at_call 23; ((with_reducible refine (awake_any _).mono ?_); rintro e w1 ⟨rfl, hb1⟩))
    go_ret
    exact ⟨rfl, hb1⟩
  obtain ⟨hz, hB, hc, hmx, hr, hnil⟩ := w0
  obtain ⟨hz', hB', hc', hmx', hr', hnil'⟩ := w1
  have e0' : ¬ (100 : Int) < len0 := by omega
  have e1' : ¬ (100 : Int) < len1 := by omega
  have hl1 : ((z0 ++ z1).length) = len0 + len1 := by rw [List.length_append, hz, hz']
  have hl2 : ((z1 ++ z0).length) = len1 + len0 := by rw [List.length_append, hz, hz']
  have G1 := Lib.hid (fun p c B W h => Get32_any p (len0 + len1) c B (z0 ++ z1) W hl1 (hB.app hB') (by omega) h (len0 + a2) (by omega))
  have G2 := Lib.hid (fun p c B W h => Get32_any p len1 c B z1 W hz' hB' (by omega) h a2 (by omega))
  have G3 := Lib.hid (fun p c B W h => Get32_any p (len1 + len0) c B (z1 ++ z0) W hl2 (hB'.app hB) (by omega) h a2 (by omega))
  rw [← hz, getV_ahead 4 z0 z1 a2 (by omega), getB_ahead 4 z0 z1 a2 (by omega), hz] at G1
  have C1 := Lib.hid (fun W h1 h2 => Cat_two (w := W) (p := a0) (q := a1) (c := cap0) (d := cap1) (k := len0 + len1) h1 h2 hz hz' hnil hnil' rfl (by omega))
  have C2 := Lib.hid (fun W h1 h2 => Cat_two (w := W) (p := a1) (q := a0) (c := cap1) (d := cap0) (k := len1 + len0) h1 h2 hz' hz hnil' hnil rfl (by omega))
  by_cases hb : getB 4 z1 a2 = true
  · rw [getV_behind 4 z1 z0 a2 hb, getB_behind 4 z1 z0 a2 hb] at G3
    rw [hb] at G1 G2
    obtain ⟨v, hv⟩ : ∃ v, v = getV 4 z1 a2 := ⟨_, rfl⟩
    rw [← hv] at G1 G2 G3
    clear hz hz' hB hB' hnil hnil' hl1 hl2 hv w2 hb
    go_enter Try.func8, Try.ntmps8
    go_wp2_with (first
      | (go_at_call 23; ((with_reducible refine (awake_any _).mono ?_); rintro e w1 ⟨rfl, b1⟩; have r0 := hr.on b1; have r1 := hr'.on b1))
      | (go_at_call 21; ((with_reducible refine (C1.out w1 r0 r1).mono ?_); rintro e w2 ⟨g2, rfl, r2, b2⟩; have r02 := r0.on b2; have r12 := r1.on b2))
      | (go_at_call 11; ((with_reducible refine (G1.out _ _ _ w2 r2).mono ?_); rintro e w' ⟨rfl, rfl⟩))
      | (go_at_call 11; ((with_reducible refine (G2.out _ _ _ w2 r12).mono ?_); rintro e w' ⟨rfl, rfl⟩))
      | (go_at_call 21; ((with_reducible refine (C2.out w2 r12 r02).mono ?_); rintro e w3 ⟨g3, rfl, r3, b3⟩))
      | (go_at_call 11; ((with_reducible refine (G3.out _ _ _ w3 r3).mono ?_); rintro e w' ⟨rfl, rfl⟩)))
    go_ret
    exact ⟨rfl, thn (thn b1 b2) b3⟩
  · have hb := Bool.eq_false_iff.2 hb
    rw [hb] at G1 G2
    obtain ⟨v, hv⟩ : ∃ v, v = getV 4 z1 a2 := ⟨_, rfl⟩
    rw [← hv] at G1 G2
    obtain ⟨v3, hv3⟩ : ∃ v, v = getV 4 (z1 ++ z0) a2 := ⟨_, rfl⟩
    obtain ⟨o3, ho3⟩ : ∃ o, o = getB 4 (z1 ++ z0) a2 := ⟨_, rfl⟩
    rw [← hv3, ← ho3] at G3
    clear hz hz' hB hB' hnil hnil' hl1 hl2 hv hv3 ho3 w2 hb
    go_enter Try.func8, Try.ntmps8
    go_wp2_with (first
      | (go_at_call 23; ((with_reducible refine (awake_any _).mono ?_); rintro e w1 ⟨rfl, b1⟩; have r0 := hr.on b1; have r1 := hr'.on b1))
      | (go_at_call 21; ((with_reducible refine (C1.out w1 r0 r1).mono ?_); rintro e w2 ⟨g2, rfl, r2, b2⟩; have r02 := r0.on b2; have r12 := r1.on b2))
      | (go_at_call 11; ((with_reducible refine (G1.out _ _ _ w2 r2).mono ?_); rintro e w' ⟨rfl, rfl⟩))
      | (go_at_call 11; ((with_reducible refine (G2.out _ _ _ w2 r12).mono ?_); rintro e w' ⟨rfl, rfl⟩))
      | (go_at_call 21; ((with_reducible refine (C2.out w2 r12 r02).mono ?_); rintro e w3 ⟨g3, rfl, r3, b3⟩))
      | (go_at_call 11; ((with_reducible refine (G3.out _ _ _ w3 r3).mono ?_); rintro e w' ⟨rfl, rfl⟩)))
    go_ret
    exact ⟨rfl, thn (thn b1 b2) b3⟩

set_option maxRecDepth 100000 in
theorem lifted (os : Os) (started : os.Started) (H : Type) (enc : TypeId × Value → H) :
    ReturnsInHanded {} Try.checked os 8 .any (Rows.wordsShiftSpec.pre6 enc Try.prog Try.f8 Rows.wordsShiftRow.domain false) (Rows.wordsShiftSpec.post enc Try.prog Try.f8 false true false false) := by
  refine returnsInHanded_of_change (C := Try.checked) ownKnob_none started (by kernel_rfl) Try.func8
    (ChangeSpec.witness6 (enc := enc) (C := Try.checked) false ⟨#[], #[.slice none 0 0, .slice none 0 0, .int .i64 0], []⟩ 8 (by kernel_rfl) (by kernel_rfl) (by kernel_rfl) (by kernel_rfl)) ?_
  intro W base args ds gs before hval0 hW hcnd _
  have hval : ∀ (j : Nat) t v, Try.f8.params[j]? = some t → args[j]? = some v → Value.okWide Try.prog W .any base t v := hval0
  have hW' := hW
  obtain ⟨p, q, hA0, hV, rfl, hfz, hnd⟩ := hW
  have hA : DataW.TrodAll enc Try.prog W 0 (fun _ => true) true Try.f8.params.toList args.toList ds p := hA0
  rw [Try.params8] at hA hval
  obtain ⟨v0, vs0, d0, ds0, p0, q0, hargs, rfl, rfl, h0, r0⟩ := trodAll_cons hA
  obtain ⟨v1, vs1, d1, ds1, p1, q1, rfl, rfl, rfl, h1, r1⟩ := trodAll_cons r0
  obtain ⟨v2, vs2, d2, ds2, p2, q2, rfl, rfl, rfl, h2, r2⟩ := trodAll_cons r1
  obtain ⟨rfl, rfl, rfl⟩ := trodAll_nil r2
  obtain rfl : args = #[v0, v1, v2] := by cases args; simp_all
  obtain ⟨rfl, rfl⟩ := trodVars_none hV
  obtain ⟨a0, len0, cap0, rfl⟩ := okWide_slice Try.underlying22 (hval 0 22 v0 rfl rfl)
  have k0 := h0
  have lt0 : ∀ x ∈ p0, x.block < W.heap.size := by obtain ⟨m, hm⟩ := k0; exact DataW.trod_lt m _ _ _ hm
  obtain ⟨z0, w0⟩ := bytes_open h0 lt0
  obtain ⟨a1, len1, cap1, rfl⟩ := okWide_slice Try.underlying22 (hval 1 22 v1 rfl rfl)
  have k1 := h1
  have lt1 : ∀ x ∈ p1, x.block < W.heap.size := by obtain ⟨m, hm⟩ := k1; exact DataW.trod_lt m _ _ _ hm
  obtain ⟨z1, w1⟩ := bytes_open h1 lt1
  obtain ⟨a2, rfl, rfl, rfl, w2⟩ := open_int Try.underlying3 (hval 2 3 v2 rfl rfl) h2
  clear hA0 hval0
  refine (walk a0 len0 cap0 z0 a1 len1 cap1 z1 a2 W w0 w1 w2).mono fun e W' ⟨he, bel⟩ => ?_
  subst he
  exact ⟨_, rfl, _, _, _, [], _, [], hW', trodAll_mk1 (shut_bool Try.underlying4 _), (trodAll_cons_mk (Below.trod laidOut (by kernel_rfl) (of_decide_eq_true (by kernel_rfl)) k0 bel lt0) (trodAll_cons_mk (Below.trod laidOut (by kernel_rfl) (of_decide_eq_true (by kernel_rfl)) k1 bel lt1) (trodAll_cons_mk (shut_int Try.underlying3 w2) trodAll_mk0))), rfl, bel.frame _, fun h => by cases h⟩

theorem over : Rows.wordsShiftRow.holds Try.pinned (OpenSpec.ofChange Rows.wordsShiftSpec) :=
  OpenClaim.holds_of_wide 8 Try.f8 rfl rfl rfl rfl rfl rfl rfl ⟨rfl, rfl, rfl, rfl, rfl⟩ rfl rfl rfl rfl rfl (by kernel_rfl) Try.func8 (by kernel_rfl)
    (of_decide_eq_true (by kernel_rfl)) (by unfold Func.isWrapper; first | (rw [if_pos (by decide +kernel)]; kernel_rfl) | (rw [if_neg (by decide +kernel)]; exact ⟨rfl, rfl⟩))
    (fun os started H enc _ => lifted os started H enc)

/-- The statement. -/
theorem proved : Rows.WordsShiftSaid := over
#print axioms proved

end Go.Proofs.Ytegbagbcbnloaaa.wordsShift
