/- The statement UnitLines holds, over what the calls have to return: what a line is. -/
import Derived.Test.YtifjnioichfodaaDoorRows
import Derived.Test.YtifjnioichfodaaDoorCards
import Derived.Test.YtifjnioichfodaaDoorTie
import Derived.SevenTiedAt
import Derived.Test.YtifjnioichfodaaDoorFr
import Derived.Test.YtifjnioichfodaaDoorZn
import Derived.Test.YtifjnioichfodaaDoorXf
import Derived.Test.YtifjnioichfodaaDoorYw
import Derived.Test.YtifjnioichfodaaDoorYh
namespace Go.Proofs.YtifjnioichfodaaDoor.unitLines
open Go.ChangeShapes Go.WideShapes Go.ChangeAt Go.RowKit
open Go.ChangeMaps (open_string shut_string)
set_option linter.unusedVariables false
attribute [local go_sem ↓] Go.wp_at_zero Go.wp_at_succ
set_option linter.unusedSimpArgs false
set_option maxRecDepth 100000 in
set_option maxHeartbeats 8000000 in
theorem walk {G : World → Prop} (HC : UnitC G) (a0 : ByteArray) (w : World) (hG : G w) (w0 : a0.size ≤ maxLen) :
    Calls Tryd.prog 4 #[.string a0] w fun e w' => e = .returned (.bool true) ∧ Below w.heap.size w w' := by
  by_cases hlong : (2000 : Int) < a0.size
  · clear HC hG w0
    go_enter Tryd.func4, Tryd.ntmps4
    go_wp2_with fail
    go_ret
    exact ⟨rfl, Below.refl _ _⟩
  have hs : (a0.size : Int) ≤ 2000 := by omega
  have HON := Lib.hid (fun (w w' : World) => HC.on (w := w) (w' := w'))
  have HG := Lib.hid hG
  have HS := Lib.hid (fun (W : World) (g : G W) => HC.section_ a0 W g (by omega))
  have HA := Lib.hid (fun (W : World) (g : G W) => HC.assignment a0 W g (by omega))
  have RS := Lib.hid (fun (W : World) => refSection a0 w0 W)
  have RA := Lib.hid (fun (W : World) => refAssignment a0 w0 W)
  have HW := Lib.hid (fun (W : World) (g : G W) => awake13_any HC W g)
  obtain ⟨x, hx⟩ : ∃ x, x = bs (secV a0.data.toList) := ⟨_, rfl⟩
  obtain ⟨p, hp⟩ : ∃ x, x = (secL a0.data.toList).isSome := ⟨_, rfl⟩
  obtain ⟨y, hy⟩ : ∃ x, x = bs (asgK a0.data.toList) := ⟨_, rfl⟩
  obtain ⟨z, hz⟩ : ∃ x, x = bs (asgW a0.data.toList) := ⟨_, rfl⟩
  obtain ⟨q, hq⟩ : ∃ x, x = (asgL a0.data.toList).isSome := ⟨_, rfl⟩
  rw [← hx, ← hp] at HS RS
  rw [← hy, ← hz, ← hq] at HA RA
  have t1 : (x.toList == x.toList) = true := by simp
  have t2 : (y.toList == y.toList) = true := by simp
  have t3 : (z.toList == z.toList) = true := by simp
  have t4 : (p == p) = true := by simp
  have t5 : (q == q) = true := by simp
  clear HC hG w0 hlong hx hp hy hz hq
  go_enter Tryd.func4, Tryd.ntmps4
  go_wp2_with (first
    | (go_at_call 13; ((with_reducible refine (HS.out _ HG.out).mono ?_); rintro e v1 ⟨rfl, b1⟩); have B1 := Lib.hid b1; have G1 := Lib.hid (HON.out _ _ HG.out b1); clear b1)
    | (go_at_call 14; ((with_reducible refine (RS.out _).mono ?_); rintro e v2 ⟨rfl, rfl⟩))
    | (go_at_call 15; ((with_reducible refine (HA.out _ G1.out).mono ?_); rintro e v3 ⟨rfl, b3⟩); have B3 := Lib.hid (thn13 B1.out b3); have G3 := Lib.hid (HON.out _ _ HG.out B3.out); clear b3)
    | (go_at_call 16; ((with_reducible refine (RA.out _).mono ?_); rintro e v4 ⟨rfl, b4⟩); have B4 := Lib.hid (thn13 B3.out b4); have G4 := Lib.hid (HON.out _ _ HG.out B4.out); clear b4)
    | (go_at_call 12; ((with_reducible refine (HW.out _ G4.out).mono ?_); rintro e v5 ⟨rfl, b5⟩); have B5 := Lib.hid (thn13 B4.out b5); clear b5))
  go_ret
  exact ⟨by first | rfl | simp, B5.out⟩

set_option maxRecDepth 100000 in
theorem lifted (HC : UnitC G12) (os : Os) (started : os.Started) (H : Type) (enc : TypeId × Value → H) :
    ReturnsInHanded {} Tryd.checked os 4 .any (fun w args => (Rows.unitLinesSpec.pre enc Tryd.prog Tryd.f4 [] false w args ∧ laidMetH Tryd.prog listed12 w) ∧ sizedMet enc Tryd.prog Tryd.f4 (OpenSpec.ofChange Rows.unitLinesSpec) false w args)
      (Rows.unitLinesSpec.post enc Tryd.prog Tryd.f4 false true false false) := by
  refine returnsInHanded_of_change_and (C := Tryd.checked) (X := fun w _ => laidMetH Tryd.prog listed12 w) (fun _ _ _ hh h => h.of_heap hh) ownKnob_none started (by kernel_rfl) Tryd.func4
    (ChangeSpec.witness_shaped (enc := enc) (C := Tryd.checked) (os := os) (X := fun w _ => laidMetH Tryd.prog listed12 w) false (World.laidAll Tryd.prog os listed12) #[.string ⟨#[]⟩] 8 (World.laidAll_os _ _ _) (World.shaped_of_ZipB (by kernel_rfl) (by kernel_rfl)) (by kernel_rfl) (by kernel_rfl) (by kernel_rfl) (by rw [MakeChecks.laidMetH_plain _ _ _ (by kernel_rfl)]; exact laidMet_laidAll _ (by kernel_rfl) (by kernel_rfl))) ?_
  intro W base args ds gs before hval0 hW _ _ hL _
  have hG : G12 W := of_laid12 hL
  have hval : ∀ (j : Nat) t v, Tryd.f4.params[j]? = some t → args[j]? = some v → Value.okWide Tryd.prog W .any base t v := hval0
  have hW' := hW
  obtain ⟨p, q, hA0, hV, rfl, hfz, hnd⟩ := hW
  have hA : DataW.TrodAll enc Tryd.prog W 0 (fun _ => true) true Tryd.f4.params.toList args.toList ds p := hA0
  rw [Tryd.params4] at hA hval
  obtain ⟨v0, vs0, d0, ds0, p0, q0, hargs, rfl, rfl, h0, r0⟩ := trodAll_cons hA
  obtain ⟨rfl, rfl, rfl⟩ := trodAll_nil r0
  obtain rfl : args = #[v0] := by cases args; simp_all
  obtain ⟨rfl, rfl⟩ := trodVars_none hV
  obtain ⟨a0, rfl, rfl, rfl, w0⟩ := open_string Tryd.underlying9 (hval 0 9 v0 rfl rfl) h0
  clear hA0 hval0
  simp only [List.append_nil] at hW'
  refine (walk HC a0 W hG w0).mono fun e W' ⟨he, bel⟩ => ?_
  subst he
  exact ⟨_, rfl, _, _, _, [], [], [], hW', trodAll_mk1 (shut_bool Tryd.underlying4 _), (trodAll_cons_mk (shut_string Tryd.underlying9 w0) trodAll_mk0), rfl, bel.frame _, fun h => by cases h⟩

theorem over (HC : UnitC G12) : Rows.unitLinesRow.holds Tryd.pinned (OpenSpec.ofChange Rows.unitLinesSpec) :=
  OpenClaim.holds_of_wide 4 Tryd.f4 rfl rfl rfl rfl rfl rfl rfl ⟨rfl, rfl, rfl, rfl, rfl⟩ rfl rfl rfl rfl rfl (by kernel_rfl) Tryd.func4 (by kernel_rfl)
    (of_decide_eq_true (by kernel_rfl)) (by unfold Func.isWrapper; first | (rw [if_pos (by decide +kernel)]; kernel_rfl) | (rw [if_neg (by decide +kernel)]; exact ⟨rfl, rfl⟩))
    (fun os started H enc _ => lifted HC os started H enc)

/-- The row's statement. -/
theorem row_holds : Rows.UnitLinesSaid := over unitC
/-- The statement: the row, its table tied to the program's text. -/
theorem proved : Rows.UnitLinesCardSaid :=
  Claim7.holds_tied_plain_at .later [] [.data, .pinned] true Rows.unitLinesCard.stood.harness Rows.unitLinesCard.stood.looks
    row_holds (fun _ h => by cases h) (by kernel_rfl) (fun _ h => by cases h) unitLines_row_tie rfl ⟨rfl, rfl⟩ (by kernel_rfl) rfl
    (fun f fn hf hfn => by
      obtain rfl : f = 4 := Option.some.inj ((show Tryd.prog.funcNamed "vestibule/vestibulelaw13.UnitLines" = some 4 by kernel_rfl).symm.trans hf) |>.symm
      obtain rfl : fn = Tryd.f4 := (Option.some.inj (Tryd.func4.symm.trans hfn)).symm
      exact ⟨by kernel_rfl, fun j t ht => by
        have hm : t ∈ Tryd.f4.params.toList := by simpa using Array.mem_of_getElem? ht
        have hall : (Tryd.f4.params.toList.all fun u => !Tryd.prog.wantsStandIn u) = true := by kernel_rfl
        exact (show Tryd.prog.wantsStandIn t = false by simpa using List.all_eq_true.1 hall t hm)⟩)
    (by kernel_rfl)
#print axioms proved
end Go.Proofs.YtifjnioichfodaaDoor.unitLines
