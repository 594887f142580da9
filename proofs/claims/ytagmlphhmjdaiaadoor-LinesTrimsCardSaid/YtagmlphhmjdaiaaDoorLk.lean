/- The statement LinesTrims holds, over what the calls have to return: what is left of a text without white space at both ends, and whether it is a comment, is as the document says. -/
import Derived.Test.YtagmlphhmjdaiaaDoorRows
import Derived.Test.YtagmlphhmjdaiaaDoorCards
import Derived.Test.YtagmlphhmjdaiaaDoorTie
import Derived.SevenTiedAt
import Derived.Test.YtagmlphhmjdaiaaDoorFr
import Derived.Test.YtagmlphhmjdaiaaDoorZn
import Derived.Test.YtagmlphhmjdaiaaDoorZm
import Derived.Test.YtagmlphhmjdaiaaDoorLj
namespace Go.Proofs.YtagmlphhmjdaiaaDoor.linesTrims
open Go.ChangeShapes Go.WideShapes Go.ChangeAt Go.RowKit
open Go.ChangeMaps (open_string shut_string)
set_option linter.unusedVariables false
attribute [local go_sem ↓] Go.wp_at_zero Go.wp_at_succ
set_option maxRecDepth 100000 in
set_option maxHeartbeats 4000000 in
theorem walk {G : World → Prop} (HC : LinesC G) (a0 : ByteArray) (w : World) (hG : G w) (w0 : a0.size ≤ maxLen) :
    Calls Tryd.prog 4 #[.string a0] w fun e w' => e = .returned (.bool true) ∧ Below w.heap.size w w' := by
  by_cases hlong : (2000 : Int) < a0.size
  · clear HC hG w0
    go_enter Tryd.func4, Tryd.ntmps4
    go_wp2_with fail
    go_ret
    exact ⟨rfl, Below.refl _ _⟩
  have hs : (a0.size : Int) ≤ 2000 := by omega
  have HON := Lib.hid (fun (w w' : World) => HC.on (w := w) (w' := w'))
  have HG := Lib.hid hG
  have HT := Lib.hid (fun (W : World) (g : G W) => HC.trim a0 W g w0)
  have RT := Lib.hid (fun (W : World) => refTrim a0 w0 W)
  have HM := Lib.hid (fun (W : World) (g : G W) => HC.comment a0 W g w0)
  have RM := Lib.hid (fun (W : World) => refComment a0 w0 W)
  have HA := Lib.hid (fun (W : World) (g : G W) => awake12_any HC W g)
  obtain ⟨t, ht⟩ : ∃ t, t = bs (trimL a0.data.toList) := ⟨_, rfl⟩
  obtain ⟨c, hc⟩ : ∃ c, c = comL a0.data.toList := ⟨_, rfl⟩
  rw [← ht] at HT RT
  rw [← hc] at HM RM
  have t1 : (t.toList == t.toList) = true := by simp
  have t2 : (c == c) = true := by simp
  clear HC hG w0 hlong ht hc
  go_enter Tryd.func4, Tryd.ntmps4
  go_wp2_with (first
    | (go_at_call 13; ((with_reducible refine (HT.out _ HG.out).mono ?_); rintro e v1 ⟨rfl, b1⟩); have G1 := HON.out _ _ HG.out b1)
    | (go_at_call 14; ((with_reducible refine (RT.out _).mono ?_); rintro e v2 ⟨rfl, rfl⟩))
    | (go_at_call 15; ((with_reducible refine (HM.out _ G1).mono ?_); rintro e v3 ⟨rfl, b3⟩); have G3 := HON.out _ _ G1 b3; have B3 := thn b1 b3)
    | (go_at_call 16; ((with_reducible refine (RM.out _).mono ?_); rintro e v4 ⟨rfl, rfl⟩))
    | (go_at_call 12; ((with_reducible refine (HA.out _ G3).mono ?_); rintro e v5 ⟨rfl, b5⟩); have B5 := thn B3 b5))
  go_ret
  exact ⟨by first | rfl | simp, B5⟩

set_option maxRecDepth 100000 in
theorem lifted (HC : LinesC G12) (os : Os) (started : os.Started) (H : Type) (enc : TypeId × Value → H) :
    ReturnsInHanded {} Tryd.checked os 4 .any (fun w args => (Rows.linesTrimsSpec.pre enc Tryd.prog Tryd.f4 [] false w args ∧ laidMetH Tryd.prog listed12 w) ∧ sizedMet enc Tryd.prog Tryd.f4 (OpenSpec.ofChange Rows.linesTrimsSpec) false w args)
      (Rows.linesTrimsSpec.post enc Tryd.prog Tryd.f4 false true false false) := by
  refine returnsInHanded_of_change_and (C := Tryd.checked) (X := fun w _ => laidMetH Tryd.prog listed12 w) (fun _ _ _ hh h => h.of_heap hh) ownKnob_none started (by kernel_rfl) Tryd.func4
    (ChangeSpec.witness_shaped (enc := enc) (C := Tryd.checked) (os := os) (X := fun w _ => laidMetH Tryd.prog listed12 w) false (World.laidAll Tryd.prog os listed12) #[.string ⟨#[]⟩] 8 (World.laidAll_os _ _ _) (World.shaped_of_ZipB (by kernel_rfl) (by kernel_rfl)) (by kernel_rfl) (by kernel_rfl) (by kernel_rfl) (by rw [MakeChecks.laidMetH_plain _ _ _ (by kernel_rfl)]; exact laidMet_laidAll _ (by kernel_rfl) (by kernel_rfl))) ?_
  intro W base args ds gs before hval0 hW _ _ hL _
  have hG : G12 W := of_laid12 hL
  have hval : ∀ (j : Nat) t v, Tryd.f4.params[j]? = some t → args[j]? = some v → Value.okWide Tryd.prog W .any base t v := hval0
  have hW' := hW
  obtain ⟨p, q, hA0, hV, rfl, hfz, hnd⟩ := hW
  have hA : DataW.TrodAll enc Tryd.prog W 0 (fun _ => true) true Tryd.f4.params.toList args.toList ds p := hA0
  rw [Tryd.params4] at hA hval
  obtain ⟨v0, vs0, d0, ds0, p0, q0, hargs, rfl, rfl, h0, r0⟩ := trodAll_cons hA
  obtain ⟨rfl, rfl, rfl⟩ := trodAll_nil r0
  obtain rfl : args = #[v0] := by cases args; simp_all
  obtain ⟨rfl, rfl⟩ := trodVars_none hV
  obtain ⟨a0, rfl, rfl, rfl, w0⟩ := open_string Tryd.underlying9 (hval 0 9 v0 rfl rfl) h0
  clear hA0 hval0
  simp only [List.append_nil] at hW'
  refine (walk HC a0 W hG w0).mono fun e W' ⟨he, bel⟩ => ?_
  subst he
  exact ⟨_, rfl, _, _, _, [], [], [], hW', trodAll_mk1 (shut_bool Tryd.underlying4 _), (trodAll_cons_mk (shut_string Tryd.underlying9 w0) trodAll_mk0), rfl, bel.frame _, fun h => by cases h⟩

theorem over (HC : LinesC G12) : Rows.linesTrimsRow.holds Tryd.pinned (OpenSpec.ofChange Rows.linesTrimsSpec) :=
  OpenClaim.holds_of_wide 4 Tryd.f4 rfl rfl rfl rfl rfl rfl rfl ⟨rfl, rfl, rfl, rfl, rfl⟩ rfl rfl rfl rfl rfl (by kernel_rfl) Tryd.func4 (by kernel_rfl)
    (of_decide_eq_true (by kernel_rfl)) (by unfold Func.isWrapper; first | (rw [if_pos (by decide +kernel)]; kernel_rfl) | (rw [if_neg (by decide +kernel)]; exact ⟨rfl, rfl⟩))
    (fun os started H enc _ => lifted HC os started H enc)

/-- The row's statement. -/
theorem row_holds : Rows.LinesTrimsSaid := over linesC
/-- The statement: the row, its table tied to the program's text. -/
theorem proved : Rows.LinesTrimsCardSaid :=
  Claim7.holds_tied_plain_at .later [] [.data, .pinned] true Rows.linesTrimsCard.stood.harness Rows.linesTrimsCard.stood.looks
    row_holds (fun _ h => by cases h) (by kernel_rfl) (fun _ h => by cases h) linesTrims_row_tie rfl ⟨rfl, rfl⟩ (by kernel_rfl) rfl
    (fun f fn hf hfn => by
      obtain rfl : f = 4 := Option.some.inj ((show Tryd.prog.funcNamed "vestibule/vestibulelaw12.LinesTrims" = some 4 by kernel_rfl).symm.trans hf) |>.symm
      obtain rfl : fn = Tryd.f4 := (Option.some.inj (Tryd.func4.symm.trans hfn)).symm
      exact ⟨by kernel_rfl, fun j t ht => by
        have hm : t ∈ Tryd.f4.params.toList := by simpa using Array.mem_of_getElem? ht
        have hall : (Tryd.f4.params.toList.all fun u => !Tryd.prog.wantsStandIn u) = true := by kernel_rfl
        exact (show Tryd.prog.wantsStandIn t = false by simpa using List.all_eq_true.1 hall t hm)⟩)
    (by kernel_rfl)
#print axioms proved
end Go.Proofs.YtagmlphhmjdaiaaDoor.linesTrims
