/- The statement WordsPut holds: any number has the bytes and the halves that the chapter says, and they are the caller's own. No condition. -/
import Derived.Test.YtegbagbcbnloaaaRows
import Derived.Test.YtegbagbcbnloaaaFr
namespace Go.Proofs.Ytegbagbcbnloaaa.wordsPut
open Go.ChangeShapes Go.WideShapes Go.ChangeAt Go.RowKit
set_option linter.unusedVariables false

theorem put16 (x y : Int) (w : World) (h0 : 0 ≤ y) (h : putL 2 y = putL 2 x) :
    Calls Try.prog 15 #[.int .u16 y] w fun e w' => ∃ g, e = .returned (.slice (some ⟨g, 0, none⟩) 2 2) ∧
      Mine w' w.heap.size g 2 ∧ Rd w' w'.heap.size (some ⟨g, 0, none⟩) (putL 2 x) ∧ Below w.heap.size w w' :=
  (Put16_any y w h0).mono fun _ _ ⟨g, e, o, b⟩ => ⟨g, e, ⟨_, o⟩, h ▸ Rd.of_own o, b⟩
theorem ref2 (x : Int) (w : World) (h0 : 0 ≤ x) (h1 : x < 18446744073709551616) :
    Calls Try.prog 18 #[.int .u64 x, .int .i64 2] w fun e w' => ∃ g, e = .returned (.slice (some ⟨g, 0, none⟩) 2 2) ∧
      Rd w' w'.heap.size (some ⟨g, 0, none⟩) (putL 2 x) ∧ Below w.heap.size w w' :=
  (refPut16_any x w h0 h1).mono fun _ _ ⟨g, e, o, b⟩ => ⟨g, e, Rd.of_own o, b⟩
theorem put32 (x y : Int) (w : World) (h0 : 0 ≤ y) (h : putL 4 y = putL 4 x) :
    Calls Try.prog 16 #[.int .u32 y] w fun e w' => ∃ g, e = .returned (.slice (some ⟨g, 0, none⟩) 4 4) ∧
      Mine w' w.heap.size g 4 ∧ Rd w' w'.heap.size (some ⟨g, 0, none⟩) (putL 4 x) ∧ Below w.heap.size w w' :=
  (Put32_any y w h0).mono fun _ _ ⟨g, e, o, b⟩ => ⟨g, e, ⟨_, o⟩, h ▸ Rd.of_own o, b⟩
theorem ref4 (x : Int) (w : World) (h0 : 0 ≤ x) (h1 : x < 18446744073709551616) :
    Calls Try.prog 18 #[.int .u64 x, .int .i64 4] w fun e w' => ∃ g, e = .returned (.slice (some ⟨g, 0, none⟩) 4 4) ∧
      Rd w' w'.heap.size (some ⟨g, 0, none⟩) (putL 4 x) ∧ Below w.heap.size w w' :=
  (refPut32_any x w h0 h1).mono fun _ _ ⟨g, e, o, b⟩ => ⟨g, e, Rd.of_own o, b⟩
theorem put64 (x y : Int) (w : World) (h0 : 0 ≤ y) (h : putL 8 y = putL 8 x) :
    Calls Try.prog 17 #[.int .u64 y] w fun e w' => ∃ g, e = .returned (.slice (some ⟨g, 0, none⟩) 8 8) ∧
      Mine w' w.heap.size g 8 ∧ Rd w' w'.heap.size (some ⟨g, 0, none⟩) (putL 8 x) ∧ Below w.heap.size w w' :=
  (Put64_any y w h0).mono fun _ _ ⟨g, e, o, b⟩ => ⟨g, e, ⟨_, o⟩, h ▸ Rd.of_own o, b⟩
theorem ref8 (x : Int) (w : World) (h0 : 0 ≤ x) (h1 : x < 18446744073709551616) :
    Calls Try.prog 18 #[.int .u64 x, .int .i64 8] w fun e w' => ∃ g, e = .returned (.slice (some ⟨g, 0, none⟩) 8 8) ∧
      Rd w' w'.heap.size (some ⟨g, 0, none⟩) (putL 8 x) ∧ Below w.heap.size w w' :=
  (refPut64_any x w h0 h1).mono fun _ _ ⟨g, e, o, b⟩ => ⟨g, e, Rd.of_own o, b⟩
theorem halves64 (x : Int) (h0 : 0 ≤ x) (h1 : x < 18446744073709551616) (w : World) :
    Calls Try.prog 19 #[.int .u64 x] w fun e w' => e = .returned (.tuple #[.int .u32 (x % 4294967296), .int .u32 (x / 4294967296)]) ∧ w = w' :=
  (halves_any x w).mono fun _ _ ⟨e, h⟩ => ⟨by
    rw [e]
    have e2 : x / 4294967296 % 4294967296 = x / 4294967296 := by omega
    rw [e2], h⟩
set_option maxHeartbeats 2000000 in
theorem walk (a0 : Int) (w : World) (w0 : (Lit.int .u64 a0).wf = true) :
    Calls Try.prog 4 #[.int .u64 a0] w fun e w' => e = .returned (.bool true) ∧ Below w.heap.size w w' := by
  obtain ⟨x0, x1⟩ := bounds_u64 w0
  have e16 := Lib.hid (show putL 2 (IntKind.u16.wrap a0) = putL 2 a0 by rw [IntKind.wrap_u16]; exact putL_mod 2 a0)
  have e32 := Lib.hid (show putL 4 (a0 % 4294967296) = putL 4 a0 by exact putL_mod 4 a0)
  have n16 : 0 ≤ IntKind.u16.wrap a0 := by rw [IntKind.wrap_u16]; omega
  have n32 : 0 ≤ a0 % 4294967296 := by omega
  have HH := Lib.hid (fun W => halves64 a0 x0 (by omega) W)
  have HR2 := Lib.hid (fun W => ref2 a0 W x0 (by omega))
  have HR4 := Lib.hid (fun W => ref4 a0 W x0 (by omega))
  have HR8 := Lib.hid (fun W => ref8 a0 W x0 (by omega))
  clear w0
  go_enter Try.func4, Try.ntmps4
  go_wp2_with fail
  go_loopw [3] (fun i wr => ∃ k : Nat, k ≤ 2 ∧ i = .int .i64 k ∧ Below w.heap.size w wr) (fun i _ => 2 - (intOf i).toNat)
  case atStart => exact ⟨0, by omega, rfl, Below.refl _ _⟩
  case round =>
    obtain ⟨k, hk, rfl, hb⟩ := hrel
    obtain ⟨wr0, rfl⟩ : ∃ wo : World, wo = wr := ⟨_, rfl⟩
    by_cases hlt : k < 2
    · go_wp2_with (first
        | (go_at_call 15; ((with_reducible refine (put16 a0 _ wr0 n16 e16.out).mono ?_); rintro e w1 ⟨ga, rfl, ma, ra, b1⟩))
        | (go_at_call 16; ((with_reducible refine (put32 a0 _ w1 n32 e32.out).mono ?_); rintro e w2 ⟨gb, rfl, mb, rb, b2⟩; have ra2 := ra.on b2; have ma2 := ma.on b2))
        | (go_at_call 17; ((with_reducible refine (put64 a0 _ w2 x0 rfl).mono ?_); rintro e w3 ⟨gc, rfl, mc, rc, b3⟩; have ra3 := ra2.on b3; have ma3 := ma2.on b3; have rb3 := rb.on b3; have mb3 := mb.on b3))
        | (go_at_call 18; ((with_reducible refine (HR2.out _).mono ?_); rintro e w4 ⟨g4, rfl, r4, b4⟩; have ra4 := ra3.on b4))
        | (go_at_call 14; ((with_reducible refine (refSame_yes _ _ 2 _ _ _ _ (putL 2 a0) (putL 2 a0) w4 rfl (putL_length 2 a0) (by decide) ra4 r4).mono ?_); rintro e w5 ⟨rfl, b5⟩; have rb5 := (rb3.on b4).on b5))
        | (go_at_call 18; ((with_reducible refine (HR4.out _).mono ?_); rintro e w6 ⟨g6, rfl, r6, b6⟩; have rb6 := rb5.on b6))
        | (go_at_call 14; ((with_reducible refine (refSame_yes _ _ 4 _ _ _ _ (putL 4 a0) (putL 4 a0) w6 rfl (putL_length 4 a0) (by decide) rb6 r6).mono ?_); rintro e w7 ⟨rfl, b7⟩; have rc7 := (((rc.on b4).on b5).on b6).on b7))
        | (go_at_call 18; ((with_reducible refine (HR8.out _).mono ?_); rintro e w8 ⟨g8, rfl, r8, b8⟩; have rc8 := rc7.on b8))
        | (go_at_call 14; ((with_reducible refine (refSame_yes _ _ 8 _ _ _ _ (putL 8 a0) (putL 8 a0) w8 rfl (putL_length 8 a0) (by decide) rc8 r8).mono ?_); rintro e w9 ⟨rfl, b9⟩)))
      have hbk := thn (thn (thn (thn (thn (thn (thn (thn (thn hb b1) b2) b3) b4) b5) b6) b7) b8) b9
      have mc9 := (((((mc.on b4).on b5).on b6).on b7).on b8).on b9
      have mb9 := (((((mb3.on b4).on b5).on b6).on b7).on b8).on b9
      have ma9 := (((((ma3.on b4).on b5).on b6).on b7).on b8).on b9
      have hab : ga < gb := by have := ma.lt.2; have := mb.lt.1; omega
      have hbc : gb < gc := by have := mb.lt.2; have := mc.lt.1; omega
      have hwa : w.heap.size ≤ ga := by have := ma.lt.1; have := hb.size; omega
      clear ra rb rc ra2 ra3 rb3 r4 ra4 rb5 r6 rb6 rc7 r8 rc8 ma ma2 ma3 mb mb3 mc b1 b2 b3 b4 b5 b6 b7 b8 b9 HR2 HR4 HR8
      go_loopw [7] (fun i wr => ∃ j : Nat, j ≤ 8 ∧ i = .int .i64 j ∧ Mine wr wr0.heap.size ga 2 ∧ Mine wr w1.heap.size gb 4 ∧ Mine wr w2.heap.size gc 8 ∧ Below w.heap.size w wr) (fun i _ => 8 - (intOf i).toNat)
      case atStart => exact ⟨0, by omega, rfl, ma9, mb9, mc9, hbk⟩
      case round =>
        clear ma9 mb9 mc9 hbk
        obtain ⟨j, hj, rfl, ma, mb, mc, hbj⟩ := hrel
        by_cases hjl : j < 8
        · obtain ⟨⟨v, hv⟩, hf⟩ := mc.cell hjl
          go_wp2
          go_roundw
          case rel => exact ⟨j + 1, by omega, by go_num, ma.far (by omega) _ _, mb.far (by omega) _ _, mc.set_ _ _, hbj.setCell (by show _ ≤ gc; omega) _⟩
          case measure => simp [intOf]; omega
        · go_wp2_with fail
          go_loopw [8] (fun i wr => ∃ j : Nat, j ≤ 2 ∧ i = .int .i64 j ∧ Mine wr wr0.heap.size ga 2 ∧ Mine wr w1.heap.size gb 4 ∧ Below w.heap.size w wr) (fun i _ => 2 - (intOf i).toNat)
          case atStart => exact ⟨0, by omega, rfl, ma, mb, hbj⟩
          case round =>
            clear ma mb mc hbj
            obtain ⟨l, hl, rfl, ma, mb, hbl⟩ := hrel
            by_cases hll : l < 2
            · obtain ⟨⟨v, hv⟩, hf⟩ := ma.cell hll
              have mb' := mb.far (show gb ≠ ga by omega) l (.int .u8 ((v + 1) % 256))
              obtain ⟨⟨v', hv'⟩, hf'⟩ := mb'.cell (show l < 4 by omega)
              clear mb'
              go_wp2
              go_roundw
              case rel => exact ⟨l + 1, by omega, by go_num, (ma.set_ _ _).far (by omega) _ _, (mb.far (by omega) _ _).set_ _ _, (hbl.setCell (by show _ ≤ ga; omega) _).setCell (by show _ ≤ gb; omega) _⟩
              case measure => simp [intOf]; omega
            · go_wp2_with fail
              go_roundw
              case rel => exact ⟨k + 1, by omega, by go_num, hbl⟩
              case measure => simp [intOf]; omega
    · go_wp2_with (go_at_call 19; ((with_reducible refine (HH.out _).mono ?_); rintro e w' ⟨rfl, rfl⟩))
      go_ret
      exact ⟨rfl, hb⟩

set_option maxRecDepth 100000 in
theorem lifted (os : Os) (started : os.Started) (H : Type) (enc : TypeId × Value → H) :
    ReturnsInHanded {} Try.checked os 4 .any (Rows.wordsPutSpec.pre6 enc Try.prog Try.f4 Rows.wordsPutRow.domain false) (Rows.wordsPutSpec.post enc Try.prog Try.f4 false true false false) := by
  refine returnsInHanded_of_change (C := Try.checked) ownKnob_none started (by kernel_rfl) Try.func4
    (ChangeSpec.witness6 (enc := enc) (C := Try.checked) false ⟨#[], #[.int .u64 0], []⟩ 8 (by kernel_rfl) (by kernel_rfl) (by kernel_rfl) (by kernel_rfl)) ?_
  intro W base args ds gs before hval0 hW hcnd _
  have hval : ∀ (j : Nat) t v, Try.f4.params[j]? = some t → args[j]? = some v → Value.okWide Try.prog W .any base t v := hval0
  have hW' := hW
  obtain ⟨p, q, hA0, hV, rfl, hfz, hnd⟩ := hW
  have hA : DataW.TrodAll enc Try.prog W 0 (fun _ => true) true Try.f4.params.toList args.toList ds p := hA0
  rw [Try.params4] at hA hval
  obtain ⟨v0, vs0, d0, ds0, p0, q0, hargs, rfl, rfl, h0, r0⟩ := trodAll_cons hA
  obtain ⟨rfl, rfl, rfl⟩ := trodAll_nil r0
  obtain rfl : args = #[v0] := by cases args; simp_all
  obtain ⟨rfl, rfl⟩ := trodVars_none hV
  obtain ⟨a0, rfl, rfl, rfl, w0⟩ := open_int Try.underlying30 (hval 0 30 v0 rfl rfl) h0
  clear hA0 hval0
  simp only [List.append_nil] at hW'
  refine (walk a0 W w0).mono fun e W' ⟨he, bel⟩ => ?_
  subst he
  exact ⟨_, rfl, _, _, _, [], [], [], hW', trodAll_mk1 (shut_bool Try.underlying4 _), (trodAll_cons_mk (shut_int Try.underlying30 w0) trodAll_mk0), rfl, bel.frame _, fun h => by cases h⟩

theorem over : Rows.wordsPutRow.holds Try.pinned (OpenSpec.ofChange Rows.wordsPutSpec) :=
  OpenClaim.holds_of_wide 4 Try.f4 rfl rfl rfl rfl rfl rfl rfl ⟨rfl, rfl, rfl, rfl, rfl⟩ rfl rfl rfl rfl rfl (by kernel_rfl) Try.func4 (by kernel_rfl)
    (of_decide_eq_true (by kernel_rfl)) (by unfold Func.isWrapper; first | (rw [if_pos (by decide +kernel)]; kernel_rfl) | (rw [if_neg (by decide +kernel)]; exact ⟨rfl, rfl⟩))
    (fun os started H enc _ => lifted os started H enc)

/-- The statement. -/
theorem proved : Rows.WordsPutSaid := over
#print axioms proved

end Go.Proofs.Ytegbagbcbnloaaa.wordsPut
