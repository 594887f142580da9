/- The statement WordsBack holds: what was put is got; what is got, put again, is those bytes; halves make the whole. No condition. -/
import Derived.Test.YtegbagbcbnloaaaRows
import Derived.Test.YtegbagbcbnloaaaFr
import Derived.Deep.RegionHeld3
import Derived.Deep.DrawnRows
import Derived.IntWalk
namespace Go.Proofs.Ytegbagbcbnloaaa.wordsBack
open Go.ChangeShapes Go.WideShapes Go.ChangeAt Go.RowKit
set_option linter.unusedVariables false
attribute [local go_sem ↓] Go.wp_at_zero Go.wp_at_succ

theorem back16 (y : Int) (h0 : 0 ≤ y) (h1 : y < 65536) (p : Option Addr) (c B : Nat) (w : World) (h : Rd w B p (putL 2 y)) :
    Calls Try.prog 10 #[.slice p 2 c, .int .i64 0] w fun e w' => e = .returned (.tuple #[.int .u16 y, .bool true]) ∧ w = w' := by
  have H := Get16_any p 2 c B (putL 2 y) w (putL_length 2 y) (putL_byt 2 y) (by decide) h 0 (by decide)
  have e1 : getB 2 (putL 2 y) 0 = true := getB_true (by decide) (by rw [putL_length]; decide)
  have e2 : getV 2 (putL 2 y) 0 = y := by
    have := getV_true (k := 2) (xs := putL 2 y) (a := 0) (by rw [putL_length]; decide)
    rw [List.drop_zero, List.take_of_length_le (by rw [putL_length]; exact Nat.le_refl _), leV_putL] at this
    have hm : (256 : Int) ^ 2 = 65536 := by decide
    rw [hm, Int.emod_eq_of_lt h0 h1] at this
    exact this
  rw [e1, e2] at H
  exact H
theorem back32 (y : Int) (h0 : 0 ≤ y) (h1 : y < 4294967296) (p : Option Addr) (c B : Nat) (w : World) (h : Rd w B p (putL 4 y)) :
    Calls Try.prog 11 #[.slice p 4 c, .int .i64 0] w fun e w' => e = .returned (.tuple #[.int .u32 y, .bool true]) ∧ w = w' := by
  have H := Get32_any p 4 c B (putL 4 y) w (putL_length 4 y) (putL_byt 4 y) (by decide) h 0 (by decide)
  have e1 : getB 4 (putL 4 y) 0 = true := getB_true (by decide) (by rw [putL_length]; decide)
  have e2 : getV 4 (putL 4 y) 0 = y := by
    have := getV_true (k := 4) (xs := putL 4 y) (a := 0) (by rw [putL_length]; decide)
    rw [List.drop_zero, List.take_of_length_le (by rw [putL_length]; exact Nat.le_refl _), leV_putL] at this
    have hm : (256 : Int) ^ 4 = 4294967296 := by decide
    rw [hm, Int.emod_eq_of_lt h0 h1] at this
    exact this
  rw [e1, e2] at H
  exact H
theorem back64 (y : Int) (h0 : 0 ≤ y) (h1 : y < 18446744073709551616) (p : Option Addr) (c B : Nat) (w : World) (h : Rd w B p (putL 8 y)) :
    Calls Try.prog 12 #[.slice p 8 c, .int .i64 0] w fun e w' => e = .returned (.tuple #[.int .u64 y, .bool true]) ∧ w = w' := by
  have H := Get64_any p 8 c B (putL 8 y) w (putL_length 8 y) (putL_byt 8 y) (by decide) h 0 (by decide)
  have e1 : getB 8 (putL 8 y) 0 = true := getB_true (by decide) (by rw [putL_length]; decide)
  have e2 : getV 8 (putL 8 y) 0 = y := by
    have := getV_true (k := 8) (xs := putL 8 y) (a := 0) (by rw [putL_length]; decide)
    rw [List.drop_zero, List.take_of_length_le (by rw [putL_length]; exact Nat.le_refl _), leV_putL] at this
    have hm : (256 : Int) ^ 8 = 18446744073709551616 := by decide
    rw [hm, Int.emod_eq_of_lt h0 h1] at this
    exact this
  rw [e1, e2] at H
  exact H
theorem drew_rd {w w' : World} {p : Option Addr} {xs : List Int} (h : Rd w w.heap.size p xs) (hb : Below w.drew.heap.size w.drew w') : Rd w' w.heap.size p xs := (show Rd w.drew w.heap.size p xs from h).below hb (Nat.le_refl _)
theorem drew_thn {w0 w w' : World} (h : Below w0.heap.size w0 w) (hb : Below w.drew.heap.size w.drew w') : Below w0.heap.size w0 w' := h.drew.trans (hb.mono h.size)
theorem halves64 (x : Int) (h0 : 0 ≤ x) (h1 : x < 18446744073709551616) (w : World) :
    Calls Try.prog 19 #[.int .u64 x] w fun e w' => e = .returned (.tuple #[.int .u32 (x % 4294967296), .int .u32 (x / 4294967296)]) ∧ w = w' :=
  (halves_any x w).mono fun _ _ ⟨e, h⟩ => ⟨by
    rw [e]
    have e2 : x / 4294967296 % 4294967296 = x / 4294967296 := by omega
    rw [e2], h⟩
theorem whole64 (x : Int) (h0 : 0 ≤ x) (h1 : x < 18446744073709551616) (w : World) :
    Calls Try.prog 24 #[.int .u32 (x % 4294967296), .int .u32 (x / 4294967296)] w fun e w' => e = .returned (.int .u64 x) ∧ w = w' :=
  (whole_any (x % 4294967296) (x / 4294967296) (by omega) (by omega) (by omega) (by omega) w).mono fun _ _ ⟨e, h⟩ => ⟨by
    rw [e]
    have e2 : x % 4294967296 + x / 4294967296 * 4294967296 = x := by omega
    rw [e2], h⟩
set_option maxHeartbeats 2000000 in
theorem walk_big (a0 : Int) (a1 : Option Addr) (len1 cap1 : Nat) (a2 : Int) (w : World) (hbig : (100 : Int) < len1) :
    Calls Try.prog 6 #[.int .u64 a0, .slice a1 len1 cap1, .int .i64 a2] w fun e w' => e = .returned (.bool true) ∧ Below w.heap.size w w' := by
  go_enter Try.func6, Try.ntmps6
  go_wp2_with (go_at_call 23; ((with_reducible refine (awake_any _).mono ?_); rintro e w1 ⟨rfl, hb1⟩))
  go_ret
  exact ⟨rfl, hb1⟩
set_option maxHeartbeats 4000000 in
theorem walk_none (a0 : Int) (a1 : Option Addr) (len1 cap1 : Nat) (z1 : List Int) (a2 : Int) (w : World) (w0 : (Lit.int .u64 a0).wf = true) (w1 : IsBytes w a1 len1 cap1 z1) (w2 : (Lit.int .i64 a2).wf = true) (hs : ¬ (100 : Int) < len1) (hno : a2 < 0 ∨ (len1 : Int) - 8 < a2) :
    Calls Try.prog 6 #[.int .u64 a0, .slice a1 len1 cap1, .int .i64 a2] w fun e w' => e = .returned (.bool true) ∧ Below w.heap.size w w' := by
  obtain ⟨x0, x1⟩ := bounds_u64 w0
  obtain ⟨y0, y1⟩ := bounds_i64 w2
  obtain ⟨hz, hB, hc, hmx, hr, hnil⟩ := w1
  unfold maxLen at hmx
  have n16 : 0 ≤ IntKind.u16.wrap a0 := by rw [IntKind.wrap_u16]; omega
  have n32 : 0 ≤ a0 % 4294967296 := by omega
  have B16 := Lib.hid (back16 (IntKind.u16.wrap a0) n16 (by rw [IntKind.wrap_u16]; omega))
  have B32 := Lib.hid (back32 (a0 % 4294967296) n32 (by omega))
  have B64 := Lib.hid (back64 a0 x0 (by omega))
  have HH := Lib.hid (fun W => halves64 a0 x0 (by omega) W)
  have HW := Lib.hid (fun W => whole64 a0 x0 (by omega) W)
  have G := Lib.hid (fun p c B W h => Get64_any p len1 c B z1 W hz hB (by omega) h a2 y1)
  rw [getV_false (by omega), getB_false (by omega)] at G
  clear hz hB hnil w0 w2
  by_cases h0 : a2 < 0
  · clear hno
    go_enter Try.func6, Try.ntmps6
    go_wp2_with (first
      | (go_at_call 23; ((with_reducible refine (awake_any _).mono ?_); rintro e w1 ⟨rfl, b1⟩; have ra := hr.on b1))
      | (go_at_call 15; ((with_reducible refine (Put16_rd _ w1 n16).mono ?_); rintro e w2 ⟨g2, rfl, r2, b2⟩))
      | (go_at_call 10; ((with_reducible refine (B16.out _ _ _ w2 r2).mono ?_); rintro e w' ⟨rfl, rfl⟩))
      | (go_at_call 16; ((with_reducible refine (Put32_rd _ w2 n32).mono ?_); rintro e w3 ⟨g3, rfl, r3, b3⟩))
      | (go_at_call 11; ((with_reducible refine (B32.out _ _ _ w3 r3).mono ?_); rintro e w' ⟨rfl, rfl⟩))
      | (go_at_call 17; ((with_reducible refine (Put64_rd a0 w3 x0).mono ?_); rintro e w4 ⟨g4, rfl, r4, b4⟩; have ra4 := (ra.on b2).on b3; have ra5 := ra4.on b4))
      | (go_at_call 12; ((with_reducible refine (B64.out _ _ _ w4 r4).mono ?_); rintro e w' ⟨rfl, rfl⟩))
      | (go_at_call 19; ((with_reducible refine (HH.out _).mono ?_); rintro e w' ⟨rfl, rfl⟩))
      | (go_at_call 24; ((with_reducible refine (HW.out _).mono ?_); rintro e w' ⟨rfl, rfl⟩))
      | (go_at_call 12; ((with_reducible refine (G.out _ _ _ w4 ra5).mono ?_); rintro e w' ⟨rfl, rfl⟩)))
    go_ret
    exact ⟨rfl, thn (thn (thn b1 b2) b3) b4⟩
  · have h1 : (len1 : Int) - 8 < a2 := by omega
    clear hno
    go_enter Try.func6, Try.ntmps6
    go_wp2_with (first
      | (go_at_call 23; ((with_reducible refine (awake_any _).mono ?_); rintro e w1 ⟨rfl, b1⟩; have ra := hr.on b1))
      | (go_at_call 15; ((with_reducible refine (Put16_rd _ w1 n16).mono ?_); rintro e w2 ⟨g2, rfl, r2, b2⟩))
      | (go_at_call 10; ((with_reducible refine (B16.out _ _ _ w2 r2).mono ?_); rintro e w' ⟨rfl, rfl⟩))
      | (go_at_call 16; ((with_reducible refine (Put32_rd _ w2 n32).mono ?_); rintro e w3 ⟨g3, rfl, r3, b3⟩))
      | (go_at_call 11; ((with_reducible refine (B32.out _ _ _ w3 r3).mono ?_); rintro e w' ⟨rfl, rfl⟩))
      | (go_at_call 17; ((with_reducible refine (Put64_rd a0 w3 x0).mono ?_); rintro e w4 ⟨g4, rfl, r4, b4⟩; have ra4 := (ra.on b2).on b3; have ra5 := ra4.on b4))
      | (go_at_call 12; ((with_reducible refine (B64.out _ _ _ w4 r4).mono ?_); rintro e w' ⟨rfl, rfl⟩))
      | (go_at_call 19; ((with_reducible refine (HH.out _).mono ?_); rintro e w' ⟨rfl, rfl⟩))
      | (go_at_call 24; ((with_reducible refine (HW.out _).mono ?_); rintro e w' ⟨rfl, rfl⟩))
      | (go_at_call 12; ((with_reducible refine (G.out _ _ _ w4 ra5).mono ?_); rintro e w' ⟨rfl, rfl⟩)))
    go_ret
    exact ⟨rfl, thn (thn (thn b1 b2) b3) b4⟩
set_option maxRecDepth 100000 in
set_option maxHeartbeats 4000000 in
theorem walk_some (a0 : Int) (a1 : Option Addr) (len1 cap1 : Nat) (z1 : List Int) (a2 : Int) (w : World) (w0 : (Lit.int .u64 a0).wf = true) (w1 : IsBytes w a1 len1 cap1 z1) (w2 : (Lit.int .i64 a2).wf = true) (hs : ¬ (100 : Int) < len1) (h0 : 0 ≤ a2) (h1 : a2 ≤ (len1 : Int) - 8) :
    Calls Try.prog 6 #[.int .u64 a0, .slice a1 len1 cap1, .int .i64 a2] w fun e w' => e = .returned (.bool true) ∧ Below w.heap.size w w' := by
  obtain ⟨x0, x1⟩ := bounds_u64 w0
  obtain ⟨y0, y1⟩ := bounds_i64 w2
  obtain ⟨hz, hB, hc, hmx, hr, hnil⟩ := w1
  unfold maxLen at hmx
  have n16 : 0 ≤ IntKind.u16.wrap a0 := by rw [IntKind.wrap_u16]; omega
  have n32 : 0 ≤ a0 % 4294967296 := by omega
  have B16 := Lib.hid (back16 (IntKind.u16.wrap a0) n16 (by rw [IntKind.wrap_u16]; omega))
  have B32 := Lib.hid (back32 (a0 % 4294967296) n32 (by omega))
  have B64 := Lib.hid (back64 a0 x0 (by omega))
  have HH := Lib.hid (fun W => halves64 a0 x0 (by omega) W)
  have HW := Lib.hid (fun W => whole64 a0 x0 (by omega) W)
  have G := Lib.hid (fun p c B W h => Get64_any p len1 c B z1 W hz hB (by omega) h a2 y1)
  obtain ⟨a, rfl⟩ := Int.eq_ofNat_of_zero_le h0
  obtain ⟨b, o, rfl, hb, hcell⟩ := hr (by omega)
  have hr := hr
  have h1' : a + 8 ≤ z1.length := by omega
  rw [getV_true h1', getB_true (by omega) (by omega)] at G
  have hl : ((z1.drop a).take 8).length = 8 := by rw [List.length_take, List.length_drop]; omega
  obtain ⟨v, hv⟩ : ∃ v, v = leV ((z1.drop a).take 8) := ⟨_, rfl⟩
  have hpv := Lib.hid (show putL 8 v = (z1.drop a).take 8 by rw [hv]; have := putL_leV _ ((hB.drop a).take 8); rwa [hl] at this)
  have v0 : 0 ≤ v := by rw [hv]; exact leV_nonneg ((hB.drop a).take 8)
  rw [← hv] at G
  clear hz hB hnil w0 w2 hv hl h1' hcell
  have k : True := trivial
  go_enter Try.func6, Try.ntmps6
  go_wp2_with (first
    | (go_at_call 23; ((with_reducible refine (awake_any _).mono ?_); rintro e w1 ⟨rfl, b1⟩; have ra := hr.on b1))
      | (go_at_call 15; ((with_reducible refine (Put16_rd _ w1 n16).mono ?_); rintro e w2 ⟨g2, rfl, r2, b2⟩))
      | (go_at_call 10; ((with_reducible refine (B16.out _ _ _ w2 r2).mono ?_); rintro e w' ⟨rfl, rfl⟩))
      | (go_at_call 16; ((with_reducible refine (Put32_rd _ w2 n32).mono ?_); rintro e w3 ⟨g3, rfl, r3, b3⟩))
      | (go_at_call 11; ((with_reducible refine (B32.out _ _ _ w3 r3).mono ?_); rintro e w' ⟨rfl, rfl⟩))
      | (go_at_call 17; ((with_reducible refine (Put64_rd a0 w3 x0).mono ?_); rintro e w4 ⟨g4, rfl, r4, b4⟩; have ra4 := (ra.on b2).on b3; have ra5 := ra4.on b4))
      | (go_at_call 12; ((with_reducible refine (B64.out _ _ _ w4 r4).mono ?_); rintro e w' ⟨rfl, rfl⟩))
      | (go_at_call 19; ((with_reducible refine (HH.out _).mono ?_); rintro e w' ⟨rfl, rfl⟩))
      | (go_at_call 24; ((with_reducible refine (HW.out _).mono ?_); rintro e w' ⟨rfl, rfl⟩))
      | (go_at_call 12; ((with_reducible refine (G.out _ _ _ w4 ra5).mono ?_); rintro e w' ⟨rfl, rfl⟩)))
  have r14 := ra5.cut a 8
  have l0 : (0 : Int) ≤ a := by omega
  have l1 : (a : Int) + 8 ≤ len1 := by omega
  have l2 : len1 ≤ cap1 := hc
  clear HH HW G B16 B32 B64 ra ra4 ra5 r2 r3 r4 hr hb
  have l3 : (a : Int) ≤ (a : Int) + 8 := by omega
  have l4 : (a : Int) + 8 ≤ cap1 := by omega
  have l5 : IntKind.i64.wrap ((a : Int) + 8) = (a : Int) + 8 := IntWalk.i64_in _ (by omega)
  have l6 : (0 : Int) ≤ (a : Int) + 8 := by omega
  have l7 : ((a : Int) + 8).toNat = a + 8 := by omega
  have l8 : (a : Int) ≤ (len1 : Int) - 8 := by omega
  have l9 : a ≤ a + 8 := by omega
  have l10 : a + 8 ≤ cap1 := by omega
  have l11 : ¬ cap1 = a := by omega
  have d1 : decide ((a : Int) ≤ (len1 : Int) - 8) = true := decide_eq_true l8
  have d2 : decide ((0 : Int) ≤ (a : Int)) = true := decide_eq_true l0
  have l12 : IntKind.i64.wrap ((len1 : Int) - 8) = (len1 : Int) - 8 := IntWalk.i64_in _ (by omega)
  go_region_held3 (fun _ => True) (trivial) (first
    | (go_at_call 17; refine (Put64_rd v _ v0).mono ?_; rintro e w5 ⟨g5, rfl, r5, b5⟩; have r15 := drew_rd r14 b5)
    | (go_at_call 22; refine (Same_yes _ _ 8 _ _ _ _ (putL 8 v) _ w5 hpv.out (putL_length 8 v) (putL_byt 8 v) r5 r15).mono ?_; rintro e w' ⟨rfl, rfl⟩))
  go_wp2
  go_ret
  exact ⟨rfl, drew_thn (thn (thn (thn b1 b2) b3) b4) b5⟩
theorem walk (a0 : Int) (a1 : Option Addr) (len1 cap1 : Nat) (z1 : List Int) (a2 : Int) (w : World) (w0 : (Lit.int .u64 a0).wf = true) (w1 : IsBytes w a1 len1 cap1 z1) (w2 : (Lit.int .i64 a2).wf = true) :
    Calls Try.prog 6 #[.int .u64 a0, .slice a1 len1 cap1, .int .i64 a2] w fun e w' => e = .returned (.bool true) ∧ Below w.heap.size w w' := by
  by_cases hbig : (100 : Int) < len1
  · exact walk_big a0 a1 len1 cap1 a2 w hbig
  · by_cases hno : a2 < 0 ∨ (len1 : Int) - 8 < a2
    · exact walk_none a0 a1 len1 cap1 z1 a2 w w0 w1 w2 hbig hno
    · exact walk_some a0 a1 len1 cap1 z1 a2 w w0 w1 w2 hbig (by omega) (by omega)

set_option maxRecDepth 100000 in
theorem lifted (os : Os) (started : os.Started) (H : Type) (enc : TypeId × Value → H) :
    ReturnsInHanded {} Try.checked os 6 .any (Rows.wordsBackSpec.pre6 enc Try.prog Try.f6 Rows.wordsBackRow.domain false) (Rows.wordsBackSpec.post enc Try.prog Try.f6 false true false false) := by
  refine returnsInHanded_of_change (C := Try.checked) ownKnob_none started (by kernel_rfl) Try.func6
    (ChangeSpec.witness6 (enc := enc) (C := Try.checked) false ⟨#[], #[.int .u64 0, .slice none 0 0, .int .i64 0], []⟩ 8 (by kernel_rfl) (by kernel_rfl) (by kernel_rfl) (by kernel_rfl)) ?_
  intro W base args ds gs before hval0 hW hcnd _
  have hval : ∀ (j : Nat) t v, Try.f6.params[j]? = some t → args[j]? = some v → Value.okWide Try.prog W .any base t v := hval0
  have hW' := hW
  obtain ⟨p, q, hA0, hV, rfl, hfz, hnd⟩ := hW
  have hA : DataW.TrodAll enc Try.prog W 0 (fun _ => true) true Try.f6.params.toList args.toList ds p := hA0
  rw [Try.params6] at hA hval
  obtain ⟨v0, vs0, d0, ds0, p0, q0, hargs, rfl, rfl, h0, r0⟩ := trodAll_cons hA
  obtain ⟨v1, vs1, d1, ds1, p1, q1, rfl, rfl, rfl, h1, r1⟩ := trodAll_cons r0
  obtain ⟨v2, vs2, d2, ds2, p2, q2, rfl, rfl, rfl, h2, r2⟩ := trodAll_cons r1
  obtain ⟨rfl, rfl, rfl⟩ := trodAll_nil r2
  obtain rfl : args = #[v0, v1, v2] := by cases args; simp_all
  obtain ⟨rfl, rfl⟩ := trodVars_none hV
  obtain ⟨a0, rfl, rfl, rfl, w0⟩ := open_int Try.underlying30 (hval 0 30 v0 rfl rfl) h0
  obtain ⟨a1, len1, cap1, rfl⟩ := okWide_slice Try.underlying22 (hval 1 22 v1 rfl rfl)
  have k1 := h1
  have lt1 : ∀ x ∈ p1, x.block < W.heap.size := by obtain ⟨m, hm⟩ := k1; exact DataW.trod_lt m _ _ _ hm
  obtain ⟨z1, w1⟩ := bytes_open h1 lt1
  obtain ⟨a2, rfl, rfl, rfl, w2⟩ := open_int Try.underlying3 (hval 2 3 v2 rfl rfl) h2
  clear hA0 hval0
  refine (walk a0 a1 len1 cap1 z1 a2 W w0 w1 w2).mono fun e W' ⟨he, bel⟩ => ?_
  subst he
  exact ⟨_, rfl, _, _, _, [], _, [], hW', trodAll_mk1 (shut_bool Try.underlying4 _), (trodAll_cons_mk (shut_int Try.underlying30 w0) (trodAll_cons_mk (Below.trod laidOut (by kernel_rfl) (of_decide_eq_true (by kernel_rfl)) k1 bel lt1) (trodAll_cons_mk (shut_int Try.underlying3 w2) trodAll_mk0))), rfl, bel.frame _, fun h => by cases h⟩

theorem over : Rows.wordsBackRow.holds Try.pinned (OpenSpec.ofChange Rows.wordsBackSpec) :=
  OpenClaim.holds_of_wide 6 Try.f6 rfl rfl rfl rfl rfl rfl rfl ⟨rfl, rfl, rfl, rfl, rfl⟩ rfl rfl rfl rfl rfl (by kernel_rfl) Try.func6 (by kernel_rfl)
    (of_decide_eq_true (by kernel_rfl)) (by unfold Func.isWrapper; first | (rw [if_pos (by decide +kernel)]; kernel_rfl) | (rw [if_neg (by decide +kernel)]; exact ⟨rfl, rfl⟩))
    (fun os started H enc _ => lifted os started H enc)

/-- The statement. -/
theorem proved : Rows.WordsBackSaid := over
#print axioms proved

end Go.Proofs.Ytegbagbcbnloaaa.wordsBack
