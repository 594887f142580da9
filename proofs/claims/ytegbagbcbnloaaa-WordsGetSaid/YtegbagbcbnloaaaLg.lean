/- The statement WordsGet holds: at any place of any list numbers are told as the chapter says, and the list stays. No condition. -/
import Derived.Test.YtegbagbcbnloaaaRows
import Derived.Test.YtegbagbcbnloaaaFr
namespace Go.Proofs.Ytegbagbcbnloaaa.wordsGet
open Go.ChangeShapes Go.WideShapes Go.ChangeAt Go.RowKit
set_option linter.unusedVariables false

set_option maxHeartbeats 2000000 in
theorem walk (a0 : Option Addr) (len0 cap0 : Nat) (z0 : List Int) (a1 : Int) (w : World) (w0 : IsBytes w a0 len0 cap0 z0) (w1 : (Lit.int .i64 a1).wf = true) :
    Calls Try.prog 3 #[.slice a0 len0 cap0, .int .i64 a1] w fun e w' => e = .returned (.bool true) ∧ Below w.heap.size w w' := by
  obtain ⟨hz, hB, hc, hmx, hr, hnil⟩ := w0
  unfold maxLen at hmx
  by_cases hbig : 1000 < len0
  · clear hz hB hr hnil w1
    go_enter Try.func3, Try.ntmps3
    go_wp2_with fail
    go_ret
    exact ⟨rfl, Below.refl _ _⟩
  · obtain ⟨x0, x1⟩ := bounds_i64 w1
    have hl : len0 ≤ 9223372036854775807 := by omega
    have HC := Lib.hid (refCopy_any a0 len0 cap0 z0 w hz (by omega) hr)
    obtain ⟨v2, hv2⟩ : ∃ v, v = getV 2 z0 a1 := ⟨_, rfl⟩
    obtain ⟨b2, hb2⟩ : ∃ b, b = getB 2 z0 a1 := ⟨_, rfl⟩
    have G2 := Lib.hid (fun p c B W h => Get16_any p len0 c B z0 W hz hB hl h a1 x1)
    have R2 := Lib.hid (fun p c B W h => refGet2_any p len0 c B z0 W hz hB hl h a1 x1)
    obtain ⟨l2, u2⟩ := getV_range (k := 2) hB a1
    have u2' : getV 2 z0 a1 < 65536 := u2
    clear u2
    rw [← hv2] at l2 u2' G2 R2
    rw [← hb2] at G2 R2
    clear hv2 hb2
    obtain ⟨v4, hv4⟩ : ∃ v, v = getV 4 z0 a1 := ⟨_, rfl⟩
    obtain ⟨b4, hb4⟩ : ∃ b, b = getB 4 z0 a1 := ⟨_, rfl⟩
    have G4 := Lib.hid (fun p c B W h => Get32_any p len0 c B z0 W hz hB hl h a1 x1)
    have R4 := Lib.hid (fun p c B W h => refGet4_any p len0 c B z0 W hz hB hl h a1 x1)
    obtain ⟨l4, u4⟩ := getV_range (k := 4) hB a1
    have u4' : getV 4 z0 a1 < 4294967296 := u4
    clear u4
    rw [← hv4] at l4 u4' G4 R4
    rw [← hb4] at G4 R4
    clear hv4 hb4
    obtain ⟨v8, hv8⟩ : ∃ v, v = getV 8 z0 a1 := ⟨_, rfl⟩
    obtain ⟨b8, hb8⟩ : ∃ b, b = getB 8 z0 a1 := ⟨_, rfl⟩
    have G8 := Lib.hid (fun p c B W h => Get64_any p len0 c B z0 W hz hB hl h a1 x1)
    have R8 := Lib.hid (fun p c B W h => refGet8_any p len0 c B z0 W hz hB hl h a1 x1)
    obtain ⟨l8, u8⟩ := getV_range (k := 8) hB a1
    have u8' : getV 8 z0 a1 < 18446744073709551616 := u8
    clear u8
    rw [← hv8] at l8 u8' G8 R8
    rw [← hb8] at G8 R8
    clear hv8 hb8
    have HZ := Lib.hid hz
    clear hz hB hnil w1
    go_enter Try.func3, Try.ntmps3
    go_wp2_with (first
      | (go_at_call 9; ((with_reducible refine (HC.out).mono ?_); rintro e w1 ⟨g1, rfl, o1, b1⟩; have r1 := Rd.of_own o1; have r0 := hr.on b1))
      | (go_at_call 10; ((with_reducible refine (G2.out _ _ _ w1 r1).mono ?_); rintro e w' ⟨rfl, rfl⟩))
      | (go_at_call 11; ((with_reducible refine (G4.out _ _ _ w1 r1).mono ?_); rintro e w' ⟨rfl, rfl⟩))
      | (go_at_call 12; ((with_reducible refine (G8.out _ _ _ w1 r1).mono ?_); rintro e w' ⟨rfl, rfl⟩))
      | (go_at_call 13; ((with_reducible refine (R2.out _ _ _ w1 r0).mono ?_); rintro e w' ⟨rfl, rfl⟩))
      | (go_at_call 13; ((with_reducible refine (R4.out _ _ _ w1 r0).mono ?_); rintro e w' ⟨rfl, rfl⟩))
      | (go_at_call 13; ((with_reducible refine (R8.out _ _ _ w1 r0).mono ?_); rintro e w' ⟨rfl, rfl⟩))
      | (go_at_call 14; ((with_reducible refine (refSame_yes _ _ len0 _ _ _ _ z0 z0 w1 rfl HZ.out hl r1 r0).mono ?_); rintro e w2 ⟨rfl, b2⟩)))
    go_ret
    exact ⟨rfl, thn b1 b2⟩

set_option maxRecDepth 100000 in
theorem lifted (os : Os) (started : os.Started) (H : Type) (enc : TypeId × Value → H) :
    ReturnsInHanded {} Try.checked os 3 .any (Rows.wordsGetSpec.pre6 enc Try.prog Try.f3 Rows.wordsGetRow.domain false) (Rows.wordsGetSpec.post enc Try.prog Try.f3 false true false false) := by
  refine returnsInHanded_of_change (C := Try.checked) ownKnob_none started (by kernel_rfl) Try.func3
    (ChangeSpec.witness6 (enc := enc) (C := Try.checked) false ⟨#[], #[.slice none 0 0, .int .i64 0], []⟩ 8 (by kernel_rfl) (by kernel_rfl) (by kernel_rfl) (by kernel_rfl)) ?_
  intro W base args ds gs before hval0 hW hcnd _
  have hval : ∀ (j : Nat) t v, Try.f3.params[j]? = some t → args[j]? = some v → Value.okWide Try.prog W .any base t v := hval0
  have hW' := hW
  obtain ⟨p, q, hA0, hV, rfl, hfz, hnd⟩ := hW
  have hA : DataW.TrodAll enc Try.prog W 0 (fun _ => true) true Try.f3.params.toList args.toList ds p := hA0
  rw [Try.params3] at hA hval
  obtain ⟨v0, vs0, d0, ds0, p0, q0, hargs, rfl, rfl, h0, r0⟩ := trodAll_cons hA
  obtain ⟨v1, vs1, d1, ds1, p1, q1, rfl, rfl, rfl, h1, r1⟩ := trodAll_cons r0
  obtain ⟨rfl, rfl, rfl⟩ := trodAll_nil r1
  obtain rfl : args = #[v0, v1] := by cases args; simp_all
  obtain ⟨rfl, rfl⟩ := trodVars_none hV
  obtain ⟨a0, len0, cap0, rfl⟩ := okWide_slice Try.underlying22 (hval 0 22 v0 rfl rfl)
  have k0 := h0
  have lt0 : ∀ x ∈ p0, x.block < W.heap.size := by obtain ⟨m, hm⟩ := k0; exact DataW.trod_lt m _ _ _ hm
  obtain ⟨z0, w0⟩ := bytes_open h0 lt0
  obtain ⟨a1, rfl, rfl, rfl, w1⟩ := open_int Try.underlying3 (hval 1 3 v1 rfl rfl) h1
  clear hA0 hval0
  refine (walk a0 len0 cap0 z0 a1 W w0 w1).mono fun e W' ⟨he, bel⟩ => ?_
  subst he
  exact ⟨_, rfl, _, _, _, [], _, [], hW', trodAll_mk1 (shut_bool Try.underlying4 _), (trodAll_cons_mk (Below.trod laidOut (by kernel_rfl) (of_decide_eq_true (by kernel_rfl)) k0 bel lt0) (trodAll_cons_mk (shut_int Try.underlying3 w1) trodAll_mk0)), rfl, bel.frame _, fun h => by cases h⟩

theorem over : Rows.wordsGetRow.holds Try.pinned (OpenSpec.ofChange Rows.wordsGetSpec) :=
  OpenClaim.holds_of_wide 3 Try.f3 rfl rfl rfl rfl rfl rfl rfl ⟨rfl, rfl, rfl, rfl, rfl⟩ rfl rfl rfl rfl rfl (by kernel_rfl) Try.func3 (by kernel_rfl)
    (of_decide_eq_true (by kernel_rfl)) (by unfold Func.isWrapper; first | (rw [if_pos (by decide +kernel)]; kernel_rfl) | (rw [if_neg (by decide +kernel)]; exact ⟨rfl, rfl⟩))
    (fun os started H enc _ => lifted os started H enc)

/-- The statement. -/
theorem proved : Rows.WordsGetSaid := over
#print axioms proved

end Go.Proofs.Ytegbagbcbnloaaa.wordsGet
