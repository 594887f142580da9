/- The statement UnitEither holds, over what the calls have to return: a file comes to assignments, or to notes. -/
import Derived.Test.YtifjnioichfodaaDoorRows
import Derived.Test.YtifjnioichfodaaDoorCards
import Derived.Test.YtifjnioichfodaaDoorTie
import Derived.SevenTiedAt
import Derived.Test.YtifjnioichfodaaDoorFr
import Derived.Test.YtifjnioichfodaaDoorZn
import Derived.Test.YtifjnioichfodaaDoorXf
import Derived.Test.YtifjnioichfodaaDoorYw
import Derived.Test.YtifjnioichfodaaDoorYh
import Derived.Test.YtifjnioichfodaaDoorYm
namespace Go.Proofs.YtifjnioichfodaaDoor.unitEither
open Go.ChangeShapes Go.WideShapes Go.ChangeAt Go.RowKit
open Go.ChangeMaps (open_string shut_string)
set_option linter.unusedVariables false
attribute [local go_sem ↓] Go.wp_at_zero Go.wp_at_succ
set_option linter.unusedSimpArgs false
set_option maxRecDepth 100000 in
set_option maxHeartbeats 4000000 in
theorem walk {G : World → Prop} (HC : UnitC G) (HL : SplitC G) (f0 : ByteArray) (d0 : Int) (p0 : Option Addr) (len0 cap0 : Nat) (z0 : List Int) (w : World) (hG : G w) (wf : f0.size ≤ maxLen) (w0 : IsBytes w p0 len0 cap0 z0) :
    Calls Tryd.prog 6 #[.agg #[.string f0, .int .i64 d0, .slice p0 len0 cap0]] w fun e w' => e = .returned (.bool true) ∧ Below w.heap.size w w' := by
  by_cases hlong : 5000 < len0
  · have i1 : (len0 : Int) > 5000 := by omega
    have i2 : (5000 : Int) < len0 := by omega
    have BU := Lib.hid ((Below.refl w.heap.size w).alloc (Nat.le_refl _) (.cells #[.string f0, .int .i64 d0, .slice p0 len0 cap0] 24))
    have HW := Lib.hid (awake13_any HC _ (HC.on hG BU.out))
    clear HC HL hG wf w0 hlong
    go_enter Tryd.func6, Tryd.ntmps6
    go_wp2_with (go_at_call 12; ((with_reducible refine (HW.out).mono ?_); rintro e v1 ⟨rfl, b1⟩))
    go_ret
    exact ⟨rfl, thn13 BU.out b1⟩
  · obtain ⟨l0, rfl⟩ := byt_list w0.byt
    obtain ⟨hl0, hr0⟩ := rdb_of w0
    by_cases hE : splE l0 = 0
    · by_cases hn0 : (stU f0 (splL l0) (splL l0).length).nts = []
      · by_cases hp : (stU f0 (splL l0) (splL l0).length).asl.length = 0
        · exact either_a0 HC HL f0 d0 p0 len0 cap0 l0 w hG wf hl0 hr0 w0.fits w0.most w0.nil (by omega) hE _ rfl _ rfl _ rfl _ rfl hn0 hp
        · exact either_a1 HC HL f0 d0 p0 len0 cap0 l0 w hG wf hl0 hr0 w0.fits w0.most w0.nil (by omega) hE _ rfl _ rfl _ rfl _ rfl hn0 (Nat.pos_of_ne_zero hp)
      · exact either_b1 HC HL f0 d0 p0 len0 cap0 l0 w hG wf hl0 hr0 w0.fits w0.most w0.nil (by omega) hE _ rfl _ rfl _ rfl _ rfl hn0 (List.length_pos_iff.2 hn0)
    · exact either_err HC HL f0 d0 p0 len0 cap0 l0 w hG wf hl0 hr0 w0.fits w0.most w0.nil (by omega) hE

set_option maxRecDepth 100000 in
theorem lifted (HC : UnitC G12) (HL : SplitC G12) (os : Os) (started : os.Started) (H : Type) (enc : TypeId × Value → H) :
    ReturnsInHanded {} Tryd.checked os 6 .any (fun w args => (Rows.unitEitherSpec.pre enc Tryd.prog Tryd.f6 [] false w args ∧ laidMetH Tryd.prog listed12 w) ∧ sizedMet enc Tryd.prog Tryd.f6 (OpenSpec.ofChange Rows.unitEitherSpec) false w args)
      (Rows.unitEitherSpec.post enc Tryd.prog Tryd.f6 false true false false) := by
  refine returnsInHanded_of_change_and (C := Tryd.checked) (X := fun w _ => laidMetH Tryd.prog listed12 w) (fun _ _ _ hh h => h.of_heap hh) ownKnob_none started (by kernel_rfl) Tryd.func6
    (ChangeSpec.witness_shaped (enc := enc) (C := Tryd.checked) (os := os) (X := fun w _ => laidMetH Tryd.prog listed12 w) false (World.laidAll Tryd.prog os listed12) #[.agg #[.string ⟨#[]⟩, .int .i64 0, .slice none 0 0]] 8 (World.laidAll_os _ _ _) (World.shaped_of_ZipB (by kernel_rfl) (by kernel_rfl)) (by kernel_rfl) (by kernel_rfl) (by kernel_rfl) (by rw [MakeChecks.laidMetH_plain _ _ _ (by kernel_rfl)]; exact laidMet_laidAll _ (by kernel_rfl) (by kernel_rfl))) ?_
  intro W base args ds gs before hval0 hW _ _ hL _
  have hG : G12 W := of_laid12 hL
  have hval : ∀ (j : Nat) t v, Tryd.f6.params[j]? = some t → args[j]? = some v → Value.okWide Tryd.prog W .any base t v := hval0
  have hW' := hW
  obtain ⟨p, q, hA0, hV, rfl, hfz, hnd⟩ := hW
  have hA : DataW.TrodAll enc Tryd.prog W 0 (fun _ => true) true Tryd.f6.params.toList args.toList ds p := hA0
  rw [Tryd.params6] at hA hval
  obtain ⟨v0, vs0, d0, ds0, p0, q0, hargs, rfl, rfl, h0, r0⟩ := trodAll_cons hA
  obtain ⟨rfl, rfl, rfl⟩ := trodAll_nil r0
  obtain rfl : args = #[v0] := by cases args; simp_all
  obtain ⟨rfl, rfl⟩ := trodVars_none hV
  have k0 := h0
  have lt0 : ∀ x ∈ p0, x.block < W.heap.size := by obtain ⟨m, hm⟩ := k0; exact DataW.trod_lt m _ _ _ hm
  obtain ⟨fn0, fd0, fa0, len0, cap0, z0, x0, w0, rfl⟩ := file_open (hval 0 24 v0 rfl rfl) h0 lt0
  clear hA0 hval0
  refine (walk HC HL fn0 fd0 fa0 len0 cap0 z0 W hG x0 w0).mono fun e W' ⟨he, bel⟩ => ?_
  subst he
  exact ⟨_, rfl, _, _, _, [], _, [], hW', trodAll_mk1 (shut_bool Tryd.underlying4 _), (trodAll_cons_mk (Below.trod laidOut (by kernel_rfl) (of_decide_eq_true (by kernel_rfl)) k0 bel lt0) trodAll_mk0), rfl, bel.frame _, fun h => by cases h⟩

theorem over (HC : UnitC G12) (HL : SplitC G12) : Rows.unitEitherRow.holds Tryd.pinned (OpenSpec.ofChange Rows.unitEitherSpec) :=
  OpenClaim.holds_of_wide 6 Tryd.f6 rfl rfl rfl rfl rfl rfl rfl ⟨rfl, rfl, rfl, rfl, rfl⟩ rfl rfl rfl rfl rfl (by kernel_rfl) Tryd.func6 (by kernel_rfl)
    (of_decide_eq_true (by kernel_rfl)) (by unfold Func.isWrapper; first | (rw [if_pos (by decide +kernel)]; kernel_rfl) | (rw [if_neg (by decide +kernel)]; exact ⟨rfl, rfl⟩))
    (fun os started H enc _ => lifted HC HL os started H enc)

/-- The row's statement. -/
theorem row_holds : Rows.UnitEitherSaid := over unitC linesC.split
/-- The statement: the row, its table tied to the program's text. -/
theorem proved : Rows.UnitEitherCardSaid :=
  Claim7.holds_tied_plain_at .later [] [.data, .pinned] true Rows.unitEitherCard.stood.harness Rows.unitEitherCard.stood.looks
    row_holds (fun _ h => by cases h) (by kernel_rfl) (fun _ h => by cases h) unitEither_row_tie rfl ⟨rfl, rfl⟩ (by kernel_rfl) rfl
    (fun f fn hf hfn => by
      obtain rfl : f = 6 := Option.some.inj ((show Tryd.prog.funcNamed "vestibule/vestibulelaw13.UnitEither" = some 6 by kernel_rfl).symm.trans hf) |>.symm
      obtain rfl : fn = Tryd.f6 := (Option.some.inj (Tryd.func6.symm.trans hfn)).symm
      exact ⟨by kernel_rfl, fun j t ht => by
        have hm : t ∈ Tryd.f6.params.toList := by simpa using Array.mem_of_getElem? ht
        have hall : (Tryd.f6.params.toList.all fun u => !Tryd.prog.wantsStandIn u) = true := by kernel_rfl
        exact (show Tryd.prog.wantsStandIn t = false by simpa using List.all_eq_true.1 hall t hm)⟩)
    (by kernel_rfl)
#print axioms proved
end Go.Proofs.YtifjnioichfodaaDoor.unitEither
