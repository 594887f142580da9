/- The statement DataWords holds: a word is the number at its place in the bytes, and at no other place is one. No condition. -/
import Derived.Test.YthoichjomfdgjaaRows
import Derived.Test.YthoichjomfdgjaaDd
import Derived.Test.YthoichjomfdgjaaWg
import Derived.Deep.RegionHeld3
import Derived.Test.YthoichjomfdgjaaTf
import Derived.Test.YthoichjomfdgjaaDt
namespace Go.Proofs.Ythoichjomfdgjaa.dataWords
open Go.ChangeShapes Go.WideShapes Go.ChangeAt Go.RowKit
open Go.ChangeMaps (open_string shut_string)
set_option linter.unusedVariables false
attribute [local go_sem ↓] Go.wp_at_zero Go.wp_at_succ

set_option maxRecDepth 100000 in
set_option maxHeartbeats 4000000 in
theorem no1 (HC : DataC) (a0 : Dat) (a1 : Int) (w : World) (w0 : a0.Ok) (w1 : (Lit.int .u32 a1).wf = true) (c0 : 0 ≤ a1) (c1 : a1 < 4294967296) (t1 : (a1 % 4 != 0) = true) (tm : ¬ a1 % 4 = 0) (HW : Hid (∀ W, Calls Try.prog 11 #[datV a0, .int .u32 a1] W fun e w' => e = .returned (.tuple #[.int .u32 0, .int .i64 41]) ∧ Below W.heap.size W w')) :
    Calls Try.prog 6 #[datV a0, .int .u32 a1] w fun e w' => e = .returned (.bool true) ∧ Below w.heap.size w w' := by
  have bx := BoxD.new w a0
  have HA := Lib.hid (fun W => awake3_any HC W)
  unfold datV datC at *
  clear HC w0 w1
  go_enter Try.func6, Try.ntmps6
  go_wp2_with (first
    | (go_at_call 15; ((with_reducible refine (HA.out _).mono ?_); rintro e w1 ⟨rfl, b1⟩); obtain ⟨x0, x1, x2, x3, x4, x5, x6, x7, x8⟩ := (BoxD.on (d := a0) bx b1).cells)
    | (go_at_call 11; ((with_reducible refine (HW.out _).mono ?_); rintro e w2 ⟨rfl, b2⟩)))
  go_ret
  exact ⟨rfl, thn (((Below.refl _ _).alloc (Nat.le_refl _) _).trans (b1.mono (by simp))) b2⟩
set_option maxRecDepth 100000 in
set_option maxHeartbeats 4000000 in
theorem no2 (HC : DataC) (a0 : Dat) (a1 : Int) (w : World) (w0 : a0.Ok) (w1 : (Lit.int .u32 a1).wf = true) (c0 : 0 ≤ a1) (c1 : a1 < 4294967296) (t1 : (a1 % 4 != 0) = false) (t2 : 64 ≤ a1) (tm : a1 % 4 = 0) (HW : Hid (∀ W, Calls Try.prog 11 #[datV a0, .int .u32 a1] W fun e w' => e = .returned (.tuple #[.int .u32 0, .int .i64 41]) ∧ Below W.heap.size W w')) :
    Calls Try.prog 6 #[datV a0, .int .u32 a1] w fun e w' => e = .returned (.bool true) ∧ Below w.heap.size w w' := by
  have bx := BoxD.new w a0
  have HA := Lib.hid (fun W => awake3_any HC W)
  unfold datV datC at *
  clear HC w0 w1
  go_enter Try.func6, Try.ntmps6
  go_wp2_with (first
    | (go_at_call 15; ((with_reducible refine (HA.out _).mono ?_); rintro e w1 ⟨rfl, b1⟩); obtain ⟨x0, x1, x2, x3, x4, x5, x6, x7, x8⟩ := (BoxD.on (d := a0) bx b1).cells)
    | (go_at_call 11; ((with_reducible refine (HW.out _).mono ?_); rintro e w2 ⟨rfl, b2⟩)))
  go_ret
  exact ⟨rfl, thn (((Below.refl _ _).alloc (Nat.le_refl _) _).trans (b1.mono (by simp))) b2⟩
set_option maxRecDepth 100000 in
set_option maxHeartbeats 4000000 in
theorem yes (HC : DataC) (a0 : Dat) (a1 : Int) (w : World) (w0 : a0.Ok) (w1 : (Lit.int .u32 a1).wf = true) (t1 : (a1 % 4 != 0) = false) (t2 : ¬ 64 ≤ a1) (t0 : 0 ≤ a1) :
    Calls Try.prog 6 #[datV a0, .int .u32 a1] w fun e w' => e = .returned (.bool true) ∧ Below w.heap.size w w' := by
  have hm : a1 % 4 = 0 := by simp at t1; omega
  obtain ⟨e1, e2⟩ := word_yes (d := a0) ⟨hm, by omega⟩ t0
  have HW := Lib.hid (fun W => HC.word a0 a1 W w0 t0 (by omega))
  have HP := Lib.hid (fun W => HC.print_ a0 W w0)
  have HG := Lib.hid (fun p c W hr => Get32_any p 64 c (World.heap W).size (datB a0) W (datB_length a0) (datB_byt a0) (by omega) hr a1 (by omega))
  rw [e1, getB_true t0 (by rw [datB_length]; omega)] at HG
  rw [e2] at HW
  obtain ⟨x, hx⟩ : ∃ x, x = wordV a0 a1 := ⟨_, rfl⟩
  rw [← hx] at HG HW
  have hxx : (x == x) = true := by simp
  have t3 : a1 < 64 := by omega
  have bx := BoxD.new w a0
  have HA := Lib.hid (fun W => awake3_any HC W)
  clear HC w0 w1 hx e1 e2
  unfold datV datC at *
  go_enter Try.func6, Try.ntmps6
  go_wp2_with (first
    | (go_at_call 15; ((with_reducible refine (HA.out _).mono ?_); rintro e w1 ⟨rfl, b1⟩); have bx1 := BoxD.on (d := a0) bx b1; obtain ⟨x0, x1, x2, x3, x4, x5, x6, x7, x8⟩ := bx1.cells)
    | (go_at_call 11; ((with_reducible refine (HW.out _).mono ?_); rintro e w2 ⟨rfl, b2⟩); obtain ⟨y0, y1, y2, y3, y4, y5, y6, y7, y8⟩ := (bx1.on b2).cells)
    | (go_at_call 8; ((with_reducible refine (HP.out _).mono ?_); rintro e w3 ⟨p3, c3, rfl, o3, b3⟩))
    | (go_at_call 17; ((with_reducible refine (HG.out _ _ _ (own_rd o3).1).mono ?_); rintro e w4 ⟨rfl, rfl⟩)))
  go_ret
  exact ⟨rfl, thn (thn (((Below.refl _ _).alloc (Nat.le_refl _) _).trans (b1.mono (by simp))) b2) b3⟩
theorem walk (HC : DataC) (a0 : Dat) (a1 : Int) (w : World) (w0 : a0.Ok) (w1 : (Lit.int .u32 a1).wf = true) :
    Calls Try.prog 6 #[datV a0, .int .u32 a1] w fun e w' => e = .returned (.bool true) ∧ Below w.heap.size w w' := by
  obtain ⟨c0, c1⟩ := bounds_u32 w1
  by_cases hm : a1 % 4 = 0
  · have t1 : (a1 % 4 != 0) = false := by simp; omega
    by_cases h6 : 64 ≤ a1
    · obtain ⟨e1, e2⟩ := word_no (d := a0) (a := a1) (by omega)
      have HW := Lib.hid (fun W => HC.word a0 a1 W w0 c0 (by omega))
      rw [e1, e2] at HW
      exact no2 HC a0 a1 w w0 w1 c0 (by omega) t1 h6 hm HW
    · exact yes HC a0 a1 w w0 w1 t1 h6 c0
  · have t1 : (a1 % 4 != 0) = true := by simp; omega
    obtain ⟨e1, e2⟩ := word_no (d := a0) (a := a1) (by omega)
    have HW := Lib.hid (fun W => HC.word a0 a1 W w0 c0 (by omega))
    rw [e1, e2] at HW
    exact no1 HC a0 a1 w w0 w1 c0 (by omega) t1 hm HW

set_option maxRecDepth 100000 in
theorem lifted (HC : DataC) (os : Os) (started : os.Started) (H : Type) (enc : TypeId × Value → H) :
    ReturnsInHanded {} Try.checked os 6 .any (Rows.dataWordsSpec.pre6 enc Try.prog Try.f6 Rows.dataWordsRow.domain false) (Rows.dataWordsSpec.post enc Try.prog Try.f6 false true false false) := by
  refine returnsInHanded_of_change (C := Try.checked) ownKnob_none started (by kernel_rfl) Try.func6
    (ChangeSpec.witness6 (enc := enc) (C := Try.checked) false ⟨#[], #[.agg #[.int .u32 0, .int .u32 0, .int .u64 0, .int .u64 0, .int .u64 0, .int .u64 0, .int .u64 0, .int .u64 0, .int .u64 0], .int .u32 0], []⟩ 8 (by kernel_rfl) (by kernel_rfl) (by kernel_rfl) (by kernel_rfl)) ?_
  intro W base args ds gs before hval0 hW hcnd _
  have hval : ∀ (j : Nat) t v, Try.f6.params[j]? = some t → args[j]? = some v → Value.okWide Try.prog W .any base t v := hval0
  have hW' := hW
  obtain ⟨p, q, hA0, hV, rfl, hfz, hnd⟩ := hW
  have hA : DataW.TrodAll enc Try.prog W 0 (fun _ => true) true Try.f6.params.toList args.toList ds p := hA0
  rw [Try.params6] at hA hval
  obtain ⟨v0, vs0, d0, ds0, p0, q0, hargs, rfl, rfl, h0, r0⟩ := trodAll_cons hA
  obtain ⟨v1, vs1, d1, ds1, p1, q1, rfl, rfl, rfl, h1, r1⟩ := trodAll_cons r0
  obtain ⟨rfl, rfl, rfl⟩ := trodAll_nil r1
  obtain rfl : args = #[v0, v1] := by cases args; simp_all
  obtain ⟨rfl, rfl⟩ := trodVars_none hV
  have k0 := h0
  have lt0 : ∀ x ∈ p0, x.block < W.heap.size := by obtain ⟨m, hm⟩ := k0; exact DataW.trod_lt m _ _ _ hm
  obtain ⟨a0, w0, rfl⟩ := data_open (hval 0 26 v0 rfl rfl) h0
  obtain ⟨a1, rfl, rfl, rfl, w1⟩ := open_int Try.underlying22 (hval 1 22 v1 rfl rfl) h1
  clear hA0 hval0
  refine (walk HC a0 a1 W w0 w1).mono fun e W' ⟨he, bel⟩ => ?_
  subst he
  exact ⟨_, rfl, _, _, _, [], _, [], hW', trodAll_mk1 (shut_bool Try.underlying4 _), (trodAll_cons_mk (Below.trod laidOut (by kernel_rfl) (of_decide_eq_true (by kernel_rfl)) k0 bel lt0) (trodAll_cons_mk (shut_int Try.underlying22 w1) trodAll_mk0)), rfl, bel.frame _, fun h => by cases h⟩

theorem over (HC : DataC) : Rows.dataWordsRow.holds Try.pinned (OpenSpec.ofChange Rows.dataWordsSpec) :=
  OpenClaim.holds_of_wide 6 Try.f6 rfl rfl rfl rfl rfl rfl rfl ⟨rfl, rfl, rfl, rfl, rfl⟩ rfl rfl rfl rfl rfl (by kernel_rfl) Try.func6 (by kernel_rfl)
    (of_decide_eq_true (by kernel_rfl)) (by unfold Func.isWrapper; first | (rw [if_pos (by decide +kernel)]; kernel_rfl) | (rw [if_neg (by decide +kernel)]; exact ⟨rfl, rfl⟩))
    (fun os started H enc _ => lifted HC os started H enc)

/-- The statement. -/
theorem proved : Rows.DataWordsSaid := over dataC
#print axioms proved

end Go.Proofs.Ythoichjomfdgjaa.dataWords
