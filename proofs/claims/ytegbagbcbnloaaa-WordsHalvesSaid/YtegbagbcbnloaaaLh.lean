/- The statement WordsHalves holds: the 8 bytes of a number are the 4 of its lower half and the 4 of its upper one. No condition. -/
import Derived.Test.YtegbagbcbnloaaaRows
import Derived.Test.YtegbagbcbnloaaaFr
namespace Go.Proofs.Ytegbagbcbnloaaa.wordsHalves
open Go.ChangeShapes Go.WideShapes Go.ChangeAt Go.RowKit
set_option linter.unusedVariables false

theorem bytes8 (x y : Int) (h0 : 0 ≤ x) (h1 : x < 4294967296) : putL 8 (x + y * 4294967296) = putL 4 x ++ putL 4 y := by
  have h := putL_app 4 4 (x + y * 4294967296)
  have e1 : putL 4 (x + y * 4294967296) = putL 4 x := by
    rw [← putL_mod 4 (x + y * 4294967296), ← putL_mod 4 x]
    have : (256 : Int) ^ 4 = 4294967296 := by decide
    rw [this]
    have : (x + y * 4294967296) % 4294967296 = x % 4294967296 := by omega
    rw [this]
  have e2 : (x + y * 4294967296) / 256 ^ 4 = y := by
    have : (256 : Int) ^ 4 = 4294967296 := by decide
    rw [this]; omega
  rw [e1, e2] at h
  exact h
theorem bytes4 (x : Int) : putL 4 x = putL 2 (IntKind.u16.wrap x) ++ putL 2 (x / 65536) := by
  rw [IntKind.wrap_u16]
  have h := putL_app 2 2 x
  have e : (256 : Int) ^ 2 = 65536 := by decide
  have m1 := putL_mod 2 x
  rw [e] at h m1
  rw [m1]; exact h
set_option maxHeartbeats 1000000 in
theorem walk (a0 : Int) (a1 : Int) (w : World) (w0 : (Lit.int .u32 a0).wf = true) (w1 : (Lit.int .u32 a1).wf = true) :
    Calls Try.prog 7 #[.int .u32 a0, .int .u32 a1] w fun e w' => e = .returned (.bool true) ∧ Below w.heap.size w w' := by
  have b0 := bounds_u32 w0
  have b1 := bounds_u32 w1
  obtain ⟨l0, l1⟩ := b0
  obtain ⟨u0, u1⟩ := b1
  obtain ⟨X, hX⟩ : ∃ X, X = a0 + a1 * 4294967296 := ⟨_, rfl⟩
  have x0 : 0 ≤ X := by omega
  have HW := Lib.hid (fun W => whole_any a0 a1 l0 (by omega) u0 (by omega) W)
  have HH := Lib.hid (fun W => halves_of a0 a1 l0 (by omega) u0 (by omega) W)
  have H8 := Lib.hid (bytes8 a0 a1 l0 (by omega))
  have H4 := Lib.hid (bytes4 a0)
  rw [← hX] at HW HH H8
  have m0 : 0 ≤ IntKind.u16.wrap a0 := by rw [IntKind.wrap_u16]; omega
  have m1 : 0 ≤ a0 / 65536 := by omega
  clear w0 w1 hX
  go_enter Try.func7, Try.ntmps7
  go_wp2_with (first
    | (go_at_call 23; ((with_reducible refine (awake_any _).mono ?_); rintro e w1 ⟨rfl, hb1⟩))
    | (go_at_call 24; ((with_reducible refine (HW.out _).mono ?_); rintro e w' ⟨rfl, rfl⟩))
    | (go_at_call 19; ((with_reducible refine (HH.out _).mono ?_); rintro e w' ⟨rfl, rfl⟩))
    | (go_at_call 17; ((with_reducible refine (Put64_rd _ _ x0).mono ?_); rintro e w2 ⟨g2, rfl, r2, b2⟩))
    | (go_at_call 16; ((with_reducible refine (Put32_rd a0 w2 l0).mono ?_); rintro e w3 ⟨g3, rfl, r3, b3⟩; have r2' := r2.on b3))
    | (go_at_call 16; ((with_reducible refine (Put32_rd a1 w3 u0).mono ?_); rintro e w4 ⟨g4, rfl, r4, b4⟩; have r2'' := r2'.on b4; have r3' := r3.on b4))
    | (go_at_call 21; ((with_reducible refine (Cat_two (w := w4) (k := 8) r3' r4 (putL_length 4 a0) (putL_length 4 a1) (fun h => by cases h) (fun h => by cases h) rfl (by decide)).mono ?_); rintro e w5 ⟨g5, rfl, r5, b5⟩; have r2a := r2''.on b5))
    | (go_at_call 22; ((with_reducible refine (Same_yes _ _ 8 _ _ _ _ (putL 8 X) _ w5 H8.out (putL_length 8 X) (putL_byt 8 X) r2a r5).mono ?_); rintro e w' ⟨rfl, rfl⟩))
    | (go_at_call 16; ((with_reducible refine (Put32_rd a0 w5 l0).mono ?_); rintro e w6 ⟨g6, rfl, r6, b6⟩))
    | (go_at_call 15; ((with_reducible refine (Put16_rd _ w6 m0).mono ?_); rintro e w7 ⟨g7, rfl, r7, b7⟩; have r6' := r6.on b7))
    | (go_at_call 15; ((with_reducible refine (Put16_rd _ w7 m1).mono ?_); rintro e w8 ⟨g8, rfl, r8, b8⟩; have r6'' := r6'.on b8; have r7' := r7.on b8))
    | (go_at_call 21; ((with_reducible refine (Cat_two (w := w8) (k := 4) r7' r8 (putL_length 2 _) (putL_length 2 _) (fun h => by cases h) (fun h => by cases h) rfl (by decide)).mono ?_); rintro e w9 ⟨g9, rfl, r9, b9⟩; have r6a := r6''.on b9))
    | (go_at_call 22; ((with_reducible refine (Same_yes _ _ 4 _ _ _ _ (putL 4 a0) _ w9 H4.out (putL_length 4 a0) (putL_byt 4 a0) r6a r9).mono ?_); rintro e w' ⟨rfl, rfl⟩)))
  go_ret
  exact ⟨rfl, thn (thn (thn (thn (thn (thn (thn (thn hb1 b2) b3) b4) b5) b6) b7) b8) b9⟩

set_option maxRecDepth 100000 in
theorem lifted (os : Os) (started : os.Started) (H : Type) (enc : TypeId × Value → H) :
    ReturnsInHanded {} Try.checked os 7 .any (Rows.wordsHalvesSpec.pre6 enc Try.prog Try.f7 Rows.wordsHalvesRow.domain false) (Rows.wordsHalvesSpec.post enc Try.prog Try.f7 false true false false) := by
  refine returnsInHanded_of_change (C := Try.checked) ownKnob_none started (by kernel_rfl) Try.func7
    (ChangeSpec.witness6 (enc := enc) (C := Try.checked) false ⟨#[], #[.int .u32 0, .int .u32 0], []⟩ 8 (by kernel_rfl) (by kernel_rfl) (by kernel_rfl) (by kernel_rfl)) ?_
  intro W base args ds gs before hval0 hW hcnd _
  have hval : ∀ (j : Nat) t v, Try.f7.params[j]? = some t → args[j]? = some v → Value.okWide Try.prog W .any base t v := hval0
  have hW' := hW
  obtain ⟨p, q, hA0, hV, rfl, hfz, hnd⟩ := hW
  have hA : DataW.TrodAll enc Try.prog W 0 (fun _ => true) true Try.f7.params.toList args.toList ds p := hA0
  rw [Try.params7] at hA hval
  obtain ⟨v0, vs0, d0, ds0, p0, q0, hargs, rfl, rfl, h0, r0⟩ := trodAll_cons hA
  obtain ⟨v1, vs1, d1, ds1, p1, q1, rfl, rfl, rfl, h1, r1⟩ := trodAll_cons r0
  obtain ⟨rfl, rfl, rfl⟩ := trodAll_nil r1
  obtain rfl : args = #[v0, v1] := by cases args; simp_all
  obtain ⟨rfl, rfl⟩ := trodVars_none hV
  obtain ⟨a0, rfl, rfl, rfl, w0⟩ := open_int Try.underlying27 (hval 0 27 v0 rfl rfl) h0
  obtain ⟨a1, rfl, rfl, rfl, w1⟩ := open_int Try.underlying27 (hval 1 27 v1 rfl rfl) h1
  clear hA0 hval0
  simp only [List.append_nil] at hW'
  refine (walk a0 a1 W w0 w1).mono fun e W' ⟨he, bel⟩ => ?_
  subst he
  exact ⟨_, rfl, _, _, _, [], [], [], hW', trodAll_mk1 (shut_bool Try.underlying4 _), (trodAll_cons_mk (shut_int Try.underlying27 w0) (trodAll_cons_mk (shut_int Try.underlying27 w1) trodAll_mk0)), rfl, bel.frame _, fun h => by cases h⟩

theorem over : Rows.wordsHalvesRow.holds Try.pinned (OpenSpec.ofChange Rows.wordsHalvesSpec) :=
  OpenClaim.holds_of_wide 7 Try.f7 rfl rfl rfl rfl rfl rfl rfl ⟨rfl, rfl, rfl, rfl, rfl⟩ rfl rfl rfl rfl rfl (by kernel_rfl) Try.func7 (by kernel_rfl)
    (of_decide_eq_true (by kernel_rfl)) (by unfold Func.isWrapper; first | (rw [if_pos (by decide +kernel)]; kernel_rfl) | (rw [if_neg (by decide +kernel)]; exact ⟨rfl, rfl⟩))
    (fun os started H enc _ => lifted os started H enc)

/-- The statement. -/
theorem proved : Rows.WordsHalvesSaid := over
#print axioms proved

end Go.Proofs.Ytegbagbcbnloaaa.wordsHalves
