/- The statement DataArgs holds: an argument's halves are the words at its places. No condition. -/
import Derived.Test.YthoichjomfdgjaaRows
import Derived.Test.YthoichjomfdgjaaDd
import Derived.Test.YthoichjomfdgjaaWg
import Derived.Deep.RegionHeld3
import Derived.Test.YthoichjomfdgjaaTf
import Derived.Test.YthoichjomfdgjaaDt
import Derived.BigQuiet
import Derived.Deep.QuietTactic
namespace Go.Proofs.Ythoichjomfdgjaa.dataArgs
open Go.ChangeShapes Go.WideShapes Go.ChangeAt Go.RowKit
open Go.ChangeMaps (open_string shut_string)
set_option linter.unusedVariables false
attribute [local go_sem ↓] Go.wp_at_zero Go.wp_at_succ

set_option maxRecDepth 100000 in
set_option maxHeartbeats 4000000 in
theorem no1 (HC : DataC) (a0 : Dat) (a1 : Int) (w : World) (c0 : -9223372036854775808 ≤ a1) (c1 : a1 ≤ 9223372036854775807) (t1 : a1 < 0) :
    Calls Try.prog 7 #[datV a0, .int .i64 a1] w fun e w' => e = .returned (.bool true) ∧ Below w.heap.size w w' := by
  have HA := Lib.hid (fun W => awake3_any HC W)
  have HL := Lib.hid (fun W => HC.low a1 W c0 c1)
  have HH := Lib.hid (fun W => HC.high a1 W c0 c1)
  have e0 : argB a1 = false := decide_eq_false (by omega)
  have e1 : lowV a1 = 0 := by unfold lowV; rw [e0]; rfl
  have e2 : highV a1 = 0 := by unfold highV; rw [e0]; rfl
  rw [e0, e1] at HL
  rw [e0, e2] at HH
  clear HC e0 e1 e2
  unfold datV datC
  go_enter Try.func7, Try.ntmps7
  go_wp2_with (first
    | (go_at_call 15; ((with_reducible refine (HA.out _).mono ?_); rintro e w1 ⟨rfl, b1⟩))
    | (go_at_call 18; ((with_reducible refine (HL.out _).mono ?_); rintro e w2 ⟨rfl, b2⟩))
    | (go_at_call 19; ((with_reducible refine (HH.out _).mono ?_); rintro e w3 ⟨rfl, b3⟩)))
  go_ret
  exact ⟨rfl, thn (thn (((Below.refl _ _).alloc (Nat.le_refl _) _).trans (b1.mono (by simp))) b2) b3⟩
set_option maxRecDepth 100000 in
set_option maxHeartbeats 4000000 in
theorem no2 (HC : DataC) (a0 : Dat) (a1 : Int) (w : World) (c0 : -9223372036854775808 ≤ a1) (c1 : a1 ≤ 9223372036854775807) (t1 : ¬ a1 < 0) (t2 : 5 < a1) :
    Calls Try.prog 7 #[datV a0, .int .i64 a1] w fun e w' => e = .returned (.bool true) ∧ Below w.heap.size w w' := by
  have HA := Lib.hid (fun W => awake3_any HC W)
  have HL := Lib.hid (fun W => HC.low a1 W c0 c1)
  have HH := Lib.hid (fun W => HC.high a1 W c0 c1)
  have e0 : argB a1 = false := decide_eq_false (by omega)
  have e1 : lowV a1 = 0 := by unfold lowV; rw [e0]; rfl
  have e2 : highV a1 = 0 := by unfold highV; rw [e0]; rfl
  rw [e0, e1] at HL
  rw [e0, e2] at HH
  clear HC e0 e1 e2
  unfold datV datC
  go_enter Try.func7, Try.ntmps7
  go_wp2_with (first
    | (go_at_call 15; ((with_reducible refine (HA.out _).mono ?_); rintro e w1 ⟨rfl, b1⟩))
    | (go_at_call 18; ((with_reducible refine (HL.out _).mono ?_); rintro e w2 ⟨rfl, b2⟩))
    | (go_at_call 19; ((with_reducible refine (HH.out _).mono ?_); rintro e w3 ⟨rfl, b3⟩)))
  go_ret
  exact ⟨rfl, thn (thn (((Below.refl _ _).alloc (Nat.le_refl _) _).trans (b1.mono (by simp))) b2) b3⟩
set_option maxRecDepth 100000 in
set_option maxHeartbeats 4000000 in
theorem yes (HC : DataC) (a0 : Dat) (k : Nat) (w : World) (w0 : a0.Ok) (hk : k < 6) :
    Calls Try.prog 7 #[datV a0, .int .i64 k] w fun e w' => e = .returned (.bool true) ∧ Below w.heap.size w w' := by
  have HA := Lib.hid (fun W => awake3_any HC W)
  have HL := Lib.hid (fun W => HC.low k W (by omega) (by omega))
  have HH := Lib.hid (fun W => HC.high k W (by omega) (by omega))
  have e0 : argB k = true := decide_eq_true (by omega)
  have e1 : lowV k = 16 + 8 * (k : Int) := by unfold lowV; rw [e0]; rfl
  have e2 : highV k = 20 + 8 * (k : Int) := by unfold highV; rw [e0]; rfl
  rw [e0, e1] at HL
  rw [e0, e2] at HH
  have HX := Lib.hid (fun W => HC.word a0 (16 + 8 * (k : Int)) W w0 (by omega) (by omega))
  have HY := Lib.hid (fun W => HC.word a0 (20 + 8 * (k : Int)) W w0 (by omega) (by omega))
  rw [(word_yes (d := a0) (a := 16 + 8 * (k : Int)) (by omega) (by omega)).2] at HX
  rw [(word_yes (d := a0) (a := 20 + 8 * (k : Int)) (by omega) (by omega)).2] at HY
  have hh := halves_arg w0 hk
  have v1 := wordV_ok a0 (16 + 8 * (k : Int))
  have v2 := wordV_ok a0 (20 + 8 * (k : Int))
  have bx := BoxD.new w a0
  obtain ⟨x, hx⟩ : ∃ x, x = wordV a0 (16 + 8 * (k : Int)) := ⟨_, rfl⟩
  obtain ⟨y, hy⟩ : ∃ y, y = wordV a0 (20 + 8 * (k : Int)) := ⟨_, rfl⟩
  obtain ⟨l, hl⟩ : ∃ l, l = 16 + 8 * (k : Int) := ⟨_, rfl⟩
  obtain ⟨m, hm⟩ : ∃ m, m = 20 + 8 * (k : Int) := ⟨_, rfl⟩
  rw [← hx] at HX hh v1
  rw [← hy] at HY hh v2
  rw [← hl] at HX HL
  rw [← hm] at HY HH
  have HW := Lib.hid (fun W => (whole_any x y v1.1 v1.2 v2.1 v2.2 W).mono (fun _ _ h => (⟨h.1, h.2.symm⟩ : _ ∧ _ = W)))
  rw [hh] at HW
  have HK := Lib.hid (fun (W : World) (h : BoxD W w.heap.size a0) => h.arg hk)
  have hxx : (a0.arg k == a0.arg k) = true := by simp
  have k0 : (0 : Int) ≤ k := by omega
  have k1 : (k : Int) < 6 := by omega
  have k2 : ¬ (k : Int) < 0 := by omega
  have k3 : ¬ (5 : Int) < k := by omega
  clear HC w0 hx hy hl hm hh v1 v2 e0 e1 e2 hk
  unfold datV datC at *
  go_enter Try.func7, Try.ntmps7
  go_wp2_with (first
    | (go_at_call 15; ((with_reducible refine (HA.out _).mono ?_); rintro e w1 ⟨rfl, b1⟩); have bx1 := BoxD.on (d := a0) bx b1)
    | (go_at_call 18; ((with_reducible refine (HL.out _).mono ?_); rintro e w2 ⟨rfl, b2⟩); have bx2 := bx1.on b2)
    | (go_at_call 19; ((with_reducible refine (HH.out _).mono ?_); rintro e w3 ⟨rfl, b3⟩); have bx3 := bx2.on b3; obtain ⟨x0, x1, x2, x3, x4, x5, x6, x7, x8⟩ := bx3.cells)
    | (go_at_call 11; ((with_reducible refine (HX.out _).mono ?_); rintro e w4 ⟨rfl, b4⟩); have bx4 := bx3.on b4; obtain ⟨y0, y1, y2, y3, y4, y5, y6, y7, y8⟩ := bx4.cells)
    | (go_at_call 11; ((with_reducible refine (HY.out _).mono ?_); rintro e w5 ⟨rfl, b5⟩); have hc := HK.out _ (bx4.on b5)))
  go_quiet ((go_at_call 20; exact Calls.quiet_of_same (HW.out _)))
  go_wp2
  go_ret
  exact ⟨rfl, (thn (thn (thn (thn (((Below.refl _ _).alloc (Nat.le_refl _) _).trans (b1.mono (by simp))) b2) b3) b4) b5).trans ⟨rfl, rfl, rfl, Nat.le_refl _, fun _ _ => rfl⟩⟩
theorem walk (HC : DataC) (a0 : Dat) (a1 : Int) (w : World) (w0 : a0.Ok) (w1 : (Lit.int .i64 a1).wf = true) :
    Calls Try.prog 7 #[datV a0, .int .i64 a1] w fun e w' => e = .returned (.bool true) ∧ Below w.heap.size w w' := by
  obtain ⟨c0, c1⟩ := bounds_i64 w1
  by_cases h1 : a1 < 0
  · exact no1 HC a0 a1 w (by omega) (by omega) h1
  · by_cases h2 : 5 < a1
    · exact no2 HC a0 a1 w (by omega) (by omega) h1 h2
    · obtain ⟨k, rfl⟩ := Int.eq_ofNat_of_zero_le (show 0 ≤ a1 by omega)
      exact yes HC a0 k w w0 (by omega)

set_option maxRecDepth 100000 in
theorem lifted (HC : DataC) (os : Os) (started : os.Started) (H : Type) (enc : TypeId × Value → H) :
    ReturnsInHanded {} Try.checked os 7 .any (Rows.dataArgsSpec.pre6 enc Try.prog Try.f7 Rows.dataArgsRow.domain false) (Rows.dataArgsSpec.post enc Try.prog Try.f7 false true false false) := by
  refine returnsInHanded_of_change (C := Try.checked) ownKnob_none started (by kernel_rfl) Try.func7
    (ChangeSpec.witness6 (enc := enc) (C := Try.checked) false ⟨#[], #[.agg #[.int .u32 0, .int .u32 0, .int .u64 0, .int .u64 0, .int .u64 0, .int .u64 0, .int .u64 0, .int .u64 0, .int .u64 0], .int .i64 0], []⟩ 8 (by kernel_rfl) (by kernel_rfl) (by kernel_rfl) (by kernel_rfl)) ?_
  intro W base args ds gs before hval0 hW hcnd _
  have hval : ∀ (j : Nat) t v, Try.f7.params[j]? = some t → args[j]? = some v → Value.okWide Try.prog W .any base t v := hval0
  have hW' := hW
  obtain ⟨p, q, hA0, hV, rfl, hfz, hnd⟩ := hW
  have hA : DataW.TrodAll enc Try.prog W 0 (fun _ => true) true Try.f7.params.toList args.toList ds p := hA0
  rw [Try.params7] at hA hval
  obtain ⟨v0, vs0, d0, ds0, p0, q0, hargs, rfl, rfl, h0, r0⟩ := trodAll_cons hA
  obtain ⟨v1, vs1, d1, ds1, p1, q1, rfl, rfl, rfl, h1, r1⟩ := trodAll_cons r0
  obtain ⟨rfl, rfl, rfl⟩ := trodAll_nil r1
  obtain rfl : args = #[v0, v1] := by cases args; simp_all
  obtain ⟨rfl, rfl⟩ := trodVars_none hV
  have k0 := h0
  have lt0 : ∀ x ∈ p0, x.block < W.heap.size := by obtain ⟨m, hm⟩ := k0; exact DataW.trod_lt m _ _ _ hm
  obtain ⟨a0, w0, rfl⟩ := data_open (hval 0 26 v0 rfl rfl) h0
  obtain ⟨a1, rfl, rfl, rfl, w1⟩ := open_int Try.underlying3 (hval 1 3 v1 rfl rfl) h1
  clear hA0 hval0
  refine (walk HC a0 a1 W w0 w1).mono fun e W' ⟨he, bel⟩ => ?_
  subst he
  exact ⟨_, rfl, _, _, _, [], _, [], hW', trodAll_mk1 (shut_bool Try.underlying4 _), (trodAll_cons_mk (Below.trod laidOut (by kernel_rfl) (of_decide_eq_true (by kernel_rfl)) k0 bel lt0) (trodAll_cons_mk (shut_int Try.underlying3 w1) trodAll_mk0)), rfl, bel.frame _, fun h => by cases h⟩

theorem over (HC : DataC) : Rows.dataArgsRow.holds Try.pinned (OpenSpec.ofChange Rows.dataArgsSpec) :=
  OpenClaim.holds_of_wide 7 Try.f7 rfl rfl rfl rfl rfl rfl rfl ⟨rfl, rfl, rfl, rfl, rfl⟩ rfl rfl rfl rfl rfl (by kernel_rfl) Try.func7 (by kernel_rfl)
    (of_decide_eq_true (by kernel_rfl)) (by unfold Func.isWrapper; first | (rw [if_pos (by decide +kernel)]; kernel_rfl) | (rw [if_neg (by decide +kernel)]; exact ⟨rfl, rfl⟩))
    (fun os started H enc _ => lifted HC os started H enc)

/-- The statement. -/
theorem proved : Rows.DataArgsSaid := over dataC
#print axioms proved

end Go.Proofs.Ythoichjomfdgjaa.dataArgs
