/- The statement InsnLimit holds: a program of just MaxInsns instructions is printed, and read, one of one more is not. No condition. -/
import Derived.Test.YtekmbhjdacaphaaRows
import Derived.Test.YtekmbhjdacaphaaFr
import Derived.Test.YtekmbhjdacaphaaIn
import Derived.Test.YtekmbhjdacaphaaWg
import Derived.Deep.RegionHeld3
import Derived.Deep.DrawnRows
namespace Go.Proofs.Ytekmbhjdacaphaa.insnLimit
open Go.ChangeShapes Go.WideShapes Go.ChangeAt Go.RowKit
open Go.ChangeMaps (open_string shut_string)
set_option linter.unusedVariables false
attribute [local go_sem ↓] Go.wp_at_zero Go.wp_at_succ

theorem made_insns (n : Nat) : (madeCells (Value.agg #[.int .u16 0, .int .u8 0, .int .u8 0, .int .u32 0]).cells (n * 4)).toList = progC (List.replicate n ⟨0, 0, 0, 0⟩) := by
  apply List.ext_getElem?
  intro j
  by_cases hj : j < n * 4
  · obtain ⟨i, r, rfl, hr⟩ : ∃ i r, j = i * 4 + r ∧ r < 4 := ⟨j / 4, j % 4, by omega, by omega⟩
    rw [progC_get (l := List.replicate n ⟨0, 0, 0, 0⟩) (i := i) (by rw [List.length_replicate]; omega) r hr]
    have hm : (i * 4 + r) % 4 = r := by omega
    rcases r with _ | _ | _ | _ | r
    all_goals first | omega | skip
    all_goals
      simp [madeCells, Value.cells, hj, hm, insC]
      try exact ⟨i * 4, by rw [List.getElem?_range (by omega)], by rw [Nat.mul_mod_left]; rfl⟩
  · rw [List.getElem?_eq_none (by simp [madeCells]; omega), List.getElem?_eq_none (by rw [progC_length, List.length_replicate]; omega)]
theorem made_bytes (n : Nat) : (madeCells (Value.int .u8 0).cells (n * 1)).toList = bv (List.replicate n 0) := by
  rw [Nat.mul_one]
  show (madeCells #[.int .u8 0] n).toList = _
  rw [toList_madeCells_one]
  unfold bv
  rw [List.map_replicate]
theorem okl_zero (n : Nat) : OkL (List.replicate n ⟨0, 0, 0, 0⟩) := fun x hx => by
  rw [List.eq_of_mem_replicate hx]
  exact ⟨by decide, by decide, by decide, by decide, by decide, by decide, by decide, by decide⟩
theorem byt_zero (n : Nat) : Byt (List.replicate n 0) := fun x hx => by
  rw [List.eq_of_mem_replicate hx]
  exact ⟨by decide, by decide⟩
set_option maxRecDepth 100000 in
set_option maxHeartbeats 4000000 in
theorem short_ (HC : InsnB) (n : Nat) (w : World) (h1 : 4090 ≤ n) (h2 : n ≤ 4096) :
    Calls Try.prog 5 #[.int .i64 n] w fun e w' => e = .returned (.bool true) ∧ Below w.heap.size w w' := by
  obtain ⟨i0, hi, hz0, hz1, hz2⟩ := info_parts insn_info
  obtain ⟨i1, ki, kz0, kz1, kz2⟩ := info_parts u8_zero
  have HI := Lib.hid hi
  have H0 := Lib.hid hz0
  have H1 := Lib.hid hz1
  have hm0 : i0.bytes * n ≤ 281474976710656 := by rw [hz2]; omega
  have KI := Lib.hid ki
  have K0 := Lib.hid kz0
  have K1 := Lib.hid kz1
  have km0 : i1.bytes * (8 * n) ≤ 281474976710656 := by rw [kz2]; omega
  have hm1 : n ≤ maxLen := by unfold maxLen; omega
  have km1 : 8 * n ≤ maxLen := by unfold maxLen; omega
  clear hi hz0 hz1 hz2 ki kz0 kz1 kz2
  have HP := Lib.hid (fun g w1 h => HC.print_ (some ⟨g, 0, none⟩) n n (List.replicate n ⟨0, 0, 0, 0⟩) w1 (List.length_replicate ..) (okl_zero n) h2 (Nat.le_refl _) hm1 (fun h => by cases h) h)
  have HQ := Lib.hid (fun g w3 h => HC.parse (some ⟨g, 0, none⟩) (8 * n) (8 * n) n (List.replicate (8 * n) 0) w3 (List.length_replicate ..) (byt_zero _) rfl h2 (Nat.le_refl _) km1 (fun h => by cases h) h)
  clear HC
  go_enter Try.func5, Try.ntmps5
  go_wp2_with (first
    | ((with_reducible show wpList _ _ _ (⟨some 15, _, _, _, _, _⟩ :: _) _ _)
       refine wpList_make_full _ rfl _ _ 22 rfl w.heap.size 35 i0 _ 4 Try.underlying22 HI.out H0.out H1.out .i64 .i64 n n n rfl rfl rfl rfl hm0 hm1 (Nat.le_refl _) ?_
       intro w1 o1 g1
       have b1 : Below w.heap.size w w1 := (Below.refl _ _).grown g1 (Nat.le_refl _) (by intro k hk; cases hk)
       rw [made_insns] at o1)
    | ((with_reducible show wpList _ _ _ (⟨some 24, _, _, _, _, _⟩ :: _) _ _)
       refine wpList_make_full _ rfl _ _ 24 rfl w2.heap.size 5 i1 _ 1 Try.underlying24 KI.out K0.out K1.out .i64 .i64 (8 * (n : Int)) (8 * (n : Int)) (8 * n) rfl rfl (by omega) (by omega) km0 km1 (Nat.le_refl _) ?_
       intro w3 o3 g3
       have b3 : Below w2.heap.size w2 w3 := (Below.refl _ _).grown g3 (Nat.le_refl _) (by intro k hk; cases hk)
       rw [made_bytes] at o3)
    | (go_at_call 8; (with_reducible refine (HP.out _ _ (own_shapeI' o1).1).mono ?_); rintro e w2 ⟨q2, d2, rfl, o2, b2⟩)
    | (go_at_call 14; (with_reducible refine (HQ.out _ _ (own_shape' o3).1).mono ?_); rintro e w4 ⟨q4, d4, rfl, o4, b4⟩))
  go_ret
  exact ⟨rfl, thn (thn (thn b1 b2) b3) b4⟩
set_option maxRecDepth 100000 in
set_option maxHeartbeats 4000000 in
theorem long_ (HC : InsnB) (n : Nat) (w : World) (h1 : 4096 < n) (h2 : n ≤ 4100) :
    Calls Try.prog 5 #[.int .i64 n] w fun e w' => e = .returned (.bool true) ∧ Below w.heap.size w w' := by
  obtain ⟨i0, hi, hz0, hz1, hz2⟩ := info_parts insn_info
  obtain ⟨i1, ki, kz0, kz1, kz2⟩ := info_parts u8_zero
  have HI := Lib.hid hi
  have H0 := Lib.hid hz0
  have H1 := Lib.hid hz1
  have hm0 : i0.bytes * n ≤ 281474976710656 := by rw [hz2]; omega
  have KI := Lib.hid ki
  have K0 := Lib.hid kz0
  have K1 := Lib.hid kz1
  have km0 : i1.bytes * (8 * n) ≤ 281474976710656 := by rw [kz2]; omega
  have hm1 : n ≤ maxLen := by unfold maxLen; omega
  have km1 : 8 * n ≤ maxLen := by unfold maxLen; omega
  clear hi hz0 hz1 hz2 ki kz0 kz1 kz2
  have HP := Lib.hid (fun g w1 => HC.printLong (some ⟨g, 0, none⟩) n n w1 h1 (by omega))
  have HQ := Lib.hid (fun g w3 => HC.parseLong (some ⟨g, 0, none⟩) (8 * n) (8 * n) w3 (by omega) (by omega) (by omega))
  clear HC
  go_enter Try.func5, Try.ntmps5
  go_wp2_with (first
    | ((with_reducible show wpList _ _ _ (⟨some 15, _, _, _, _, _⟩ :: _) _ _)
       refine wpList_make_full _ rfl _ _ 22 rfl w.heap.size 35 i0 _ 4 Try.underlying22 HI.out H0.out H1.out .i64 .i64 n n n rfl rfl rfl rfl hm0 hm1 (Nat.le_refl _) ?_
       intro w1 o1 g1
       have b1 : Below w.heap.size w w1 := (Below.refl _ _).grown g1 (Nat.le_refl _) (by intro k hk; cases hk)
       rw [made_insns] at o1)
    | ((with_reducible show wpList _ _ _ (⟨some 24, _, _, _, _, _⟩ :: _) _ _)
       refine wpList_make_full _ rfl _ _ 24 rfl w2.heap.size 5 i1 _ 1 Try.underlying24 KI.out K0.out K1.out .i64 .i64 (8 * (n : Int)) (8 * (n : Int)) (8 * n) rfl rfl (by omega) (by omega) km0 km1 (Nat.le_refl _) ?_
       intro w3 o3 g3
       have b3 : Below w2.heap.size w2 w3 := (Below.refl _ _).grown g3 (Nat.le_refl _) (by intro k hk; cases hk)
       rw [made_bytes] at o3)
    | (go_at_call 8; (with_reducible refine (HP.out _ _).mono ?_); rintro e w2 ⟨rfl, b2⟩)
    | (go_at_call 14; (with_reducible refine (HQ.out _ _).mono ?_); rintro e w4 ⟨rfl, b4⟩))
  go_ret
  exact ⟨rfl, thn (thn (thn b1 b2) b3) b4⟩
theorem walk (HC : InsnB) (a0 : Int) (w : World) (w0 : (Lit.int .i64 a0).wf = true) :
    Calls Try.prog 5 #[.int .i64 a0] w fun e w' => e = .returned (.bool true) ∧ Below w.heap.size w w' := by
  by_cases h : 4090 ≤ a0 ∧ a0 ≤ 4100
  · obtain ⟨n, rfl⟩ := Int.eq_ofNat_of_zero_le (show 0 ≤ a0 by omega)
    by_cases h2 : n ≤ 4096
    · exact short_ HC n w (by omega) h2
    · exact long_ HC n w (by omega) (by omega)
  · clear HC
    by_cases h1 : a0 < 4090
    · go_enter Try.func5, Try.ntmps5
      go_wp2_with fail
      go_ret
      exact ⟨rfl, Below.refl _ _⟩
    · have h2 : 4100 < a0 := by omega
      go_enter Try.func5, Try.ntmps5
      go_wp2_with fail
      go_ret
      exact ⟨rfl, Below.refl _ _⟩

set_option maxRecDepth 100000 in
theorem lifted (HC : InsnB) (os : Os) (started : os.Started) (H : Type) (enc : TypeId × Value → H) :
    ReturnsInHanded {} Try.checked os 5 .any (Rows.insnLimitSpec.pre6 enc Try.prog Try.f5 Rows.insnLimitRow.domain false) (Rows.insnLimitSpec.post enc Try.prog Try.f5 false true false false) := by
  refine returnsInHanded_of_change (C := Try.checked) ownKnob_none started (by kernel_rfl) Try.func5
    (ChangeSpec.witness6 (enc := enc) (C := Try.checked) false ⟨#[], #[.int .i64 0], []⟩ 8 (by kernel_rfl) (by kernel_rfl) (by kernel_rfl) (by kernel_rfl)) ?_
  intro W base args ds gs before hval0 hW hcnd _
  have hval : ∀ (j : Nat) t v, Try.f5.params[j]? = some t → args[j]? = some v → Value.okWide Try.prog W .any base t v := hval0
  have hW' := hW
  obtain ⟨p, q, hA0, hV, rfl, hfz, hnd⟩ := hW
  have hA : DataW.TrodAll enc Try.prog W 0 (fun _ => true) true Try.f5.params.toList args.toList ds p := hA0
  rw [Try.params5] at hA hval
  obtain ⟨v0, vs0, d0, ds0, p0, q0, hargs, rfl, rfl, h0, r0⟩ := trodAll_cons hA
  obtain ⟨rfl, rfl, rfl⟩ := trodAll_nil r0
  obtain rfl : args = #[v0] := by cases args; simp_all
  obtain ⟨rfl, rfl⟩ := trodVars_none hV
  obtain ⟨a0, rfl, rfl, rfl, w0⟩ := open_int Try.underlying3 (hval 0 3 v0 rfl rfl) h0
  clear hA0 hval0
  simp only [List.append_nil] at hW'
  refine (walk HC a0 W w0).mono fun e W' ⟨he, bel⟩ => ?_
  subst he
  exact ⟨_, rfl, _, _, _, [], [], [], hW', trodAll_mk1 (shut_bool Try.underlying4 _), (trodAll_cons_mk (shut_int Try.underlying3 w0) trodAll_mk0), rfl, bel.frame _, fun h => by cases h⟩

theorem over (HC : InsnB) : Rows.insnLimitRow.holds Try.pinned (OpenSpec.ofChange Rows.insnLimitSpec) :=
  OpenClaim.holds_of_wide 5 Try.f5 rfl rfl rfl rfl rfl rfl rfl ⟨rfl, rfl, rfl, rfl, rfl⟩ rfl rfl rfl rfl rfl (by kernel_rfl) Try.func5 (by kernel_rfl)
    (of_decide_eq_true (by kernel_rfl)) (by unfold Func.isWrapper; first | (rw [if_pos (by decide +kernel)]; kernel_rfl) | (rw [if_neg (by decide +kernel)]; exact ⟨rfl, rfl⟩))
    (fun os started H enc _ => lifted HC os started H enc)

/-- The statement. -/
theorem proved : Rows.InsnLimitSaid := over insnB
#print axioms proved

end Go.Proofs.Ytekmbhjdacaphaa.insnLimit
