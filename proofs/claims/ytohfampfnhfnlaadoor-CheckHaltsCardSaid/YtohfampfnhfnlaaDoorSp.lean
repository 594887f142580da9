/- The statement CheckHalts holds, over what the calls have to return: a program that is taken tells an answer, within as many steps as it has instructions. -/
import Derived.Test.YtohfampfnhfnlaaDoorRows
import Derived.Test.YtohfampfnhfnlaaDoorCards
import Derived.Test.YtohfampfnhfnlaaDoorTie
import Derived.SevenTiedAt
import Derived.Test.YtohfampfnhfnlaaDoorWd
import Derived.Test.YtohfampfnhfnlaaDoorLw
import Derived.Test.YtohfampfnhfnlaaDoorUc
import Derived.Test.YtohfampfnhfnlaaDoorSa
import Derived.Test.YtohfampfnhfnlaaDoorId
import Derived.Deep.RegionHeld3
import Derived.BigQuiet
import Derived.Deep.QuietTactic
import Derived.Test.YtohfampfnhfnlaaDoorSo
import Derived.Test.YtohfampfnhfnlaaDoorFi
import Derived.Test.YtohfampfnhfnlaaDoorVh
import Derived.Test.YtohfampfnhfnlaaDoorNp
import Derived.Test.YtohfampfnhfnlaaDoorDd
namespace Go.Proofs.YtohfampfnhfnlaaDoor.checkHalts
open Go.ChangeShapes Go.WideShapes Go.ChangeAt Go.RowKit
open Go.ChangeMaps (open_string shut_string)
set_option linter.unusedVariables false
attribute [local go_sem ↓] Go.wp_at_zero Go.wp_at_succ
set_option maxRecDepth 100000 in
set_option maxHeartbeats 16000000 in
theorem walk {G : World → Prop} (HC : CheckC G) (HR : VmC G) (a0 : Option Addr) (len0 cap0 : Nat) (z0 : List Ins) (a1 : Dat) (w : World) (hG : G w) (w0 : IsInsns w a0 len0 cap0 z0) (w1 : a1.Ok) :
    Calls Tryd.prog 6 #[.slice a0 len0 cap0, datV a1] w fun e w' => e = .returned (.bool true) ∧ Below w.heap.size w w' := by
  have bx := BoxD.new w a1
  have HB0 := Lib.hid (show Below w.heap.size w (w.alloc (.cells (datC a1) 43)) from (Below.refl _ _).alloc (Nat.le_refl _) _)
  have hG1 := HC.al hG (.cells (datC a1) 43)
  have HA := Lib.hid (awake6_any HC (w.alloc (.cells (datC a1) 43)) hG1)
  have HX := Lib.hid bx
  have hmono : w.heap.size ≤ (w.alloc (.cells (datC a1) 43)).heap.size := by rw [World.size_alloc]; omega
  by_cases hbig : (300 : Int) < len0
  · clear HC HR hG w0 w1 bx hG1
    unfold datV datC at *
    go_enter Tryd.func6, Tryd.ntmps6
    go_wp2_with (go_at_call 17; ((with_reducible refine (HA.out).mono ?_); rintro e v1 ⟨rfl, b1⟩))
    go_ret
    exact ⟨rfl, HB0.out.trans (b1.mono (by simp))⟩
  have HON := Lib.hid (fun (w w' : World) => HC.on (w := w) (w' := w'))
  have HG1 := Lib.hid hG1
  have HCK := Lib.hid (fun (W : World) (g : G W) (h : RdI W W.heap.size a0 z0) => HC.check_ a0 len0 cap0 z0 W g w0.size w0.ok w0.fits w0.most w0.nil h)
  have HRN := Lib.hid (fun (W : World) (g : G W) (h : RdI W W.heap.size a0 z0) => HR.run a0 len0 cap0 z0 a1 W g w0.size (by omega) w0.ok w1 w0.fits w0.most w0.nil h)
  have HH := fun h => runL_halts w0.ok a1 h
  rw [w0.size] at HH
  obtain ⟨y, hy⟩ : ∃ y, y = (atL z0).2 := ⟨_, rfl⟩
  obtain ⟨r, hr⟩ : ∃ r, r = runL z0 a1 := ⟨_, rfl⟩
  rw [← hy] at HCK HH
  rw [← hr] at HRN HH
  have R0 := Lib.hid (w0.rd.on HB0.out)
  have e1 : (len0 : Int) ≤ 300 := by omega
  clear HC HR hG w0 w1 bx hG1 hy hr
  obtain ⟨ans, steps, pl, err⟩ := r
  unfold RunV at HRN
  simp only at HRN HH
  unfold datV at HRN ⊢
  unfold datC at HRN HB0 HG1 HA HX R0 hmono ⊢
  by_cases h0 : y = 0
  · subst h0
    obtain ⟨p1, p2, p3⟩ := HH rfl
    subst p1
    have q2 : (1 : Int) ≤ steps := by omega
    have q3 : (steps : Int) ≤ len0 := by omega
    clear HH p2 p3
    go_enter Tryd.func6, Tryd.ntmps6
    go_wp2_with (first
      | (go_at_call 17; ((with_reducible refine (HA.out).mono ?_); rintro e v1 ⟨rfl, b1⟩); have G1 := HON.out _ _ HG1.out b1; have R1 := R0.out.on b1; have B1 := HB0.out.trans (b1.mono hmono); have X1 := BoxD.on (d := a1) HX.out b1)
      | (go_at_call 13; ((with_reducible refine (HCK.out _ G1 R1).mono ?_); rintro e v2 ⟨rfl, b2⟩); have G2 := HON.out _ _ G1 b2; have R2 := R1.on b2; have B2 := thn B1 b2; have X2 := X1.on b2; obtain ⟨x0, x1, x2, x3, x4, x5, x6, x7, x8⟩ := X2.cells)
      | (go_at_call 18; ((with_reducible refine (HRN.out _ G2 R2).mono ?_); rintro e v3 ⟨rfl, b3⟩); have B3 := thn B2 b3))
    go_ret
    exact ⟨by first | rfl | simp | simp [q2], B3⟩
  · have t1 : (y != 0) = true := by simp [h0]
    clear HH HRN
    go_enter Tryd.func6, Tryd.ntmps6
    go_wp2_with (first
      | (go_at_call 17; ((with_reducible refine (HA.out).mono ?_); rintro e v1 ⟨rfl, b1⟩); have G1 := HON.out _ _ HG1.out b1; have R1 := R0.out.on b1; have B1 := HB0.out.trans (b1.mono hmono); have X1 := BoxD.on (d := a1) HX.out b1)
      | (go_at_call 13; ((with_reducible refine (HCK.out _ G1 R1).mono ?_); rintro e v2 ⟨rfl, b2⟩); have G2 := HON.out _ _ G1 b2; have R2 := R1.on b2; have B2 := thn B1 b2; have X2 := X1.on b2; obtain ⟨x0, x1, x2, x3, x4, x5, x6, x7, x8⟩ := X2.cells))
    go_ret
    exact ⟨rfl, B2⟩

set_option maxRecDepth 100000 in
theorem lifted (HC : CheckC GW) (HR : VmC GW) (os : Os) (started : os.Started) (H : Type) (enc : TypeId × Value → H) :
    ReturnsInHanded {} Tryd.checked os 6 .any (fun w args => (Rows.checkHaltsSpec.pre enc Tryd.prog Tryd.f6 [] false w args ∧ laidMetH Tryd.prog listed w) ∧ sizedMet enc Tryd.prog Tryd.f6 (OpenSpec.ofChange Rows.checkHaltsSpec) false w args)
      (Rows.checkHaltsSpec.post enc Tryd.prog Tryd.f6 false true false false) := by
  refine returnsInHanded_of_change_and (C := Tryd.checked) (X := fun w _ => laidMetH Tryd.prog listed w) (fun _ _ _ hh h => h.of_heap hh) ownKnob_none started (by kernel_rfl) Tryd.func6
    (ChangeSpec.witness_shaped (enc := enc) (C := Tryd.checked) (os := os) (X := fun w _ => laidMetH Tryd.prog listed w) false (World.doorLaid Tryd.prog 400 os) #[.slice none 0 0, .agg #[.int .u32 0, .int .u32 0, .int .u64 0, .int .u64 0, .int .u64 0, .int .u64 0, .int .u64 0, .int .u64 0, .int .u64 0]] 8 rfl (World.shaped_of_RefB (by kernel_rfl) (by kernel_rfl)) (by kernel_rfl) (by kernel_rfl) (by kernel_rfl) (door_met os _)) ?_
  intro W base args ds gs before hval0 hW _ _ hL _
  have hG : GW W := of_laid hL
  have hval : ∀ (j : Nat) t v, Tryd.f6.params[j]? = some t → args[j]? = some v → Value.okWide Tryd.prog W .any base t v := hval0
  have hW' := hW
  obtain ⟨p, q, hA0, hV, rfl, hfz, hnd⟩ := hW
  have hA : DataW.TrodAll enc Tryd.prog W 0 (fun _ => true) true Tryd.f6.params.toList args.toList ds p := hA0
  rw [Tryd.params6] at hA hval
  obtain ⟨v0, vs0, d0, ds0, p0, q0, hargs, rfl, rfl, h0, r0⟩ := trodAll_cons hA
  obtain ⟨v1, vs1, d1, ds1, p1, q1, rfl, rfl, rfl, h1, r1⟩ := trodAll_cons r0
  obtain ⟨rfl, rfl, rfl⟩ := trodAll_nil r1
  obtain rfl : args = #[v0, v1] := by cases args; simp_all
  obtain ⟨rfl, rfl⟩ := trodVars_none hV
  obtain ⟨a0, len0, cap0, rfl⟩ := okWide_slice Tryd.underlying22 (hval 0 22 v0 rfl rfl)
  have k0 := h0
  have lt0 : ∀ x ∈ p0, x.block < W.heap.size := by obtain ⟨m, hm⟩ := k0; exact DataW.trod_lt m _ _ _ hm
  obtain ⟨z0, w0⟩ := insns_open h0 lt0
  have k1 := h1
  have lt1 : ∀ x ∈ p1, x.block < W.heap.size := by obtain ⟨m, hm⟩ := k1; exact DataW.trod_lt m _ _ _ hm
  obtain ⟨a1, w1, rfl⟩ := data_open (hval 1 43 v1 rfl rfl) h1
  clear hA0 hval0
  refine (walk HC HR a0 len0 cap0 z0 a1 W hG w0 w1).mono fun e W' ⟨he, bel⟩ => ?_
  subst he
  exact ⟨_, rfl, _, _, _, [], _, [], hW', trodAll_mk1 (shut_bool Tryd.underlying4 _), (trodAll_cons_mk (Below.trod laidOut (by kernel_rfl) (of_decide_eq_true (by kernel_rfl)) k0 bel lt0) (trodAll_cons_mk (Below.trod laidOut (by kernel_rfl) (of_decide_eq_true (by kernel_rfl)) k1 bel lt1) trodAll_mk0)), rfl, bel.frame _, fun h => by cases h⟩

theorem over (HC : CheckC GW) (HR : VmC GW) : Rows.checkHaltsRow.holds Tryd.pinned (OpenSpec.ofChange Rows.checkHaltsSpec) :=
  OpenClaim.holds_of_wide 6 Tryd.f6 rfl rfl rfl rfl rfl rfl rfl ⟨rfl, rfl, rfl, rfl, rfl⟩ rfl rfl rfl rfl rfl (by kernel_rfl) Tryd.func6 (by kernel_rfl)
    (of_decide_eq_true (by kernel_rfl)) (by unfold Func.isWrapper; first | (rw [if_pos (by decide +kernel)]; kernel_rfl) | (rw [if_neg (by decide +kernel)]; exact ⟨rfl, rfl⟩))
    (fun os started H enc _ => lifted HC HR os started H enc)

/-- The row's statement. -/
theorem row_holds : Rows.CheckHaltsSaid := over checkC vmC
/-- The statement: the row, its table tied to the program's text. -/
theorem proved : Rows.CheckHaltsCardSaid :=
  Claim7.holds_tied_plain_at .later [] [.data] true Rows.checkHaltsCard.stood.harness Rows.checkHaltsCard.stood.looks
    row_holds (fun _ h => by cases h) (by kernel_rfl) (fun _ h => by cases h) checkHalts_row_tie rfl ⟨rfl, rfl⟩ (by kernel_rfl) rfl
    (fun f fn hf hfn => by
      obtain rfl : f = 6 := Option.some.inj ((show Tryd.prog.funcNamed "vestibule/vestibulelaw06.CheckHalts" = some 6 by kernel_rfl).symm.trans hf) |>.symm
      obtain rfl : fn = Tryd.f6 := (Option.some.inj (Tryd.func6.symm.trans hfn)).symm
      exact ⟨by kernel_rfl, fun j t ht => by
        have hm : t ∈ Tryd.f6.params.toList := by simpa using Array.mem_of_getElem? ht
        have hall : (Tryd.f6.params.toList.all fun u => !Tryd.prog.wantsStandIn u) = true := by kernel_rfl
        exact (show Tryd.prog.wantsStandIn t = false by simpa using List.all_eq_true.1 hall t hm)⟩)
    (by kernel_rfl)
#print axioms proved
end Go.Proofs.YtohfampfnhfnlaaDoor.checkHalts
