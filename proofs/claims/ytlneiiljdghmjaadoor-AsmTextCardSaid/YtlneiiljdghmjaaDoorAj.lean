/- The statement AsmText holds, over what the calls have to return: which programs can be written, and their text, is what the chapter says; the program stays. -/
import Derived.Test.YtlneiiljdghmjaaDoorRows
import Derived.Test.YtlneiiljdghmjaaDoorCards
import Derived.Test.YtlneiiljdghmjaaDoorTie
import Derived.SevenTiedAt
import Derived.Test.YtlneiiljdghmjaaDoorWd
import Derived.Test.YtlneiiljdghmjaaDoorLw
import Derived.Test.YtlneiiljdghmjaaDoorHt
import Derived.Test.YtlneiiljdghmjaaDoorLx
import Derived.Test.YtlneiiljdghmjaaDoorAh
import Derived.Test.YtlneiiljdghmjaaDoorFi
import Derived.Test.YtlneiiljdghmjaaDoorId
import Derived.Deep.RegionHeld3
import Derived.BigQuiet
import Derived.Deep.QuietTactic
namespace Go.Proofs.YtlneiiljdghmjaaDoor.asmText
open Go.ChangeShapes Go.WideShapes Go.ChangeAt Go.RowKit
open Go.ChangeMaps (open_string shut_string)
set_option linter.unusedVariables false
attribute [local go_sem ↓] Go.wp_at_zero Go.wp_at_succ
theorem own_most {w : World} {B n size d : Nat} {e : TypeId} {p : Option Addr} {xs : List Value} (h : w.ownsRow B e size (.slice p n d) n xs) : n ≤ d ∧ d ≤ maxLen := by
  rcases h.2 with ⟨hv, hn⟩ | ⟨g, cap, cur, hv, hg, hh, hc, hm, r⟩
  · injection hv with h1 h2 h3
    subst h3 hn
    exact ⟨Nat.le_refl _, Nat.zero_le _⟩
  · injection hv with h1 h2 h3
    subst h3
    exact ⟨hc, hm⟩
set_option maxRecDepth 100000 in
set_option maxHeartbeats 16000000 in
theorem walk {G : World → Prop} (HC : AsmA G) (a0 : Option Addr) (len0 cap0 : Nat) (z0 : List Ins) (w : World) (hG : G w) (w0 : IsInsns w a0 len0 cap0 z0) :
    Calls Tryd.prog 3 #[.slice a0 len0 cap0] w fun e w' => e = .returned (.bool true) ∧ Below w.heap.size w w' := by
  by_cases hbig : (200 : Int) < len0
  · clear HC hG w0
    go_enter Tryd.func3, Tryd.ntmps3
    go_wp2
    go_ret
    exact ⟨rfl, Below.refl _ _⟩
  · have HON := Lib.hid (fun (w w' : World) => HC.on (w := w) (w' := w'))
    have HG0 := Lib.hid hG
    have HCP := Lib.hid (fun (W : World) (h : RdI W W.heap.size a0 z0) => refCopyI_any a0 len0 cap0 z0 W w0.size (by omega) w0.nil h)
    have HSM := Lib.hid (fun (W : World) (q : Option Addr) (d : Nat) (h : RdI W W.heap.size q z0) (k : RdI W W.heap.size a0 z0) => refSameI_any q a0 len0 d len0 cap0 W.heap.size W.heap.size z0 z0 W w0.size w0.size (by omega) (by omega) h k)
    rw [show sameI z0 z0 = true from by simp [sameI]] at HSM
    have hrd := Lib.hid w0.rd
    have HCN := Lib.hid (fun (W : World) (q : Option Addr) (d : Nat) (g : G W) (h1 : len0 ≤ d) (h2 : d ≤ maxLen) (h3 : q = none → d = 0) (h : RdI W W.heap.size q z0) => HC.can q len0 d z0 W g w0.size w0.ok h1 h2 h3 h)
    have HTX := Lib.hid (fun (W : World) (q : Option Addr) (d : Nat) (g : G W) (h1 : len0 ≤ d) (h2 : d ≤ maxLen) (h3 : q = none → d = 0) (h : RdI W W.heap.size q z0) => HC.text q len0 d z0 W g w0.size w0.ok h1 h2 h3 h)
    have HRC := Lib.hid (fun (W : World) (h : RdI W W.heap.size a0 z0) => refCan a0 len0 cap0 z0 W w0.size w0.ok h)
    have HRT := Lib.hid (fun (W : World) (h : RdI W W.heap.size a0 z0) => refText a0 len0 cap0 z0 W w0.size (by omega) w0.ok h)
    unfold textE textN at HTX
    obtain ⟨cn, hcn⟩ : ∃ x, x = canL z0 := ⟨_, rfl⟩
    obtain ⟨y, hy⟩ : ∃ y, y = bs (textL z0) := ⟨_, rfl⟩
    rw [← hcn] at HCN HTX HRC
    have k1 : (len0 : Int) ≤ 200 := by omega
    have t1 : (y.toList == y.toList) = true := by simp
    have t6 : decide ((200 : Int) < len0) = false := decide_eq_false hbig
    clear HC hG w0 hcn
    cases cn with
    | true =>
      simp only [if_true] at HTX
      rw [← hy] at HTX HRT
      clear hy
      go_enter Tryd.func3, Tryd.ntmps3
      go_wp2_with (first
        | (go_at_call 9; ((with_reducible refine (HCP.out _ hrd.out).mono ?_); rintro e v1 ⟨q, d, rfl, o1, hq, b1⟩); have G1 := HON.out _ _ HG0.out b1; have R1 := hrd.out.on b1; have HQ := Lib.hid hq; have M1 := Lib.hid (own_most o1); have S1 : RdI v1 v1.heap.size q z0 := (by obtain ⟨_, _, hv, h2, _⟩ := own_shapeI o1; injection hv with h1 _ _; rw [h1]; exact h2); clear hq o1)
        | (go_at_call 10; ((with_reducible refine (HTX.out _ _ _ G1 M1.out.1 M1.out.2 HQ.out S1).mono ?_); rintro e v2 ⟨rfl, b2⟩); have G2 := HON.out _ _ G1 b2; have R2 := R1.on b2; have S2 := S1.on b2; have B2 := thn b1 b2)
        | (go_at_call 11; ((with_reducible refine (HCN.out _ _ _ G2 M1.out.1 M1.out.2 HQ.out S2).mono ?_); rintro e v3 ⟨rfl, b3⟩); have R3 := R2.on b3; have S3 := S2.on b3; have B3 := thn B2 b3)
        | (go_at_call 12; ((with_reducible refine (HRC.out _ R3).mono ?_); rintro e v4 ⟨rfl, b4⟩); have R4 := R3.on b4; have S4 := S3.on b4; have B4 := thn B3 b4)
        | (go_at_call 13; ((with_reducible refine (HSM.out _ _ _ S4 R4).mono ?_); rintro e v7 ⟨rfl, ⟨nd, rfl⟩⟩); have R5 := R4.on (below_drewN (Below.refl _ _) nd); have B5 := thn B4 (below_drewN (Below.refl _ _) nd))
        | (go_at_call 12; ((with_reducible refine (HRC.out _ R5).mono ?_); rintro e v8 ⟨rfl, b8⟩); have R6 := R5.on b8; have B6 := thn B5 b8)
        | (go_at_call 14; ((with_reducible refine (HRT.out _ R6).mono ?_); rintro e v9 ⟨rfl, b9⟩); have B7 := thn B6 b9))
      go_ret
      exact ⟨by simp, B7⟩
    | false =>
      simp only [Bool.false_eq_true, if_false] at HTX
      rw [show bs [] = ⟨#[]⟩ from rfl] at HTX
      clear hy t1 HRT
      go_enter Tryd.func3, Tryd.ntmps3
      go_wp2_with (first
        | (go_at_call 9; ((with_reducible refine (HCP.out _ hrd.out).mono ?_); rintro e v1 ⟨q, d, rfl, o1, hq, b1⟩); have G1 := HON.out _ _ HG0.out b1; have R1 := hrd.out.on b1; have HQ := Lib.hid hq; have M1 := Lib.hid (own_most o1); have S1 : RdI v1 v1.heap.size q z0 := (by obtain ⟨_, _, hv, h2, _⟩ := own_shapeI o1; injection hv with h1 _ _; rw [h1]; exact h2); clear hq o1)
        | (go_at_call 10; ((with_reducible refine (HTX.out _ _ _ G1 M1.out.1 M1.out.2 HQ.out S1).mono ?_); rintro e v2 ⟨rfl, b2⟩); have G2 := HON.out _ _ G1 b2; have R2 := R1.on b2; have S2 := S1.on b2; have B2 := thn b1 b2)
        | (go_at_call 11; ((with_reducible refine (HCN.out _ _ _ G2 M1.out.1 M1.out.2 HQ.out S2).mono ?_); rintro e v3 ⟨rfl, b3⟩); have R3 := R2.on b3; have S3 := S2.on b3; have B3 := thn B2 b3)
        | (go_at_call 12; ((with_reducible refine (HRC.out _ R3).mono ?_); rintro e v4 ⟨rfl, b4⟩); have R4 := R3.on b4; have S4 := S3.on b4; have B4 := thn B3 b4)
        | (go_at_call 13; ((with_reducible refine (HSM.out _ _ _ S4 R4).mono ?_); rintro e v7 ⟨rfl, ⟨nd, rfl⟩⟩); have R5 := R4.on (below_drewN (Below.refl _ _) nd); have B5 := thn B4 (below_drewN (Below.refl _ _) nd))
        | (go_at_call 12; ((with_reducible refine (HRC.out _ R5).mono ?_); rintro e v8 ⟨rfl, b8⟩); have R6 := R5.on b8; have B6 := thn B5 b8))
      go_ret
      exact ⟨rfl, B6⟩

set_option maxRecDepth 100000 in
theorem lifted (HC : AsmA GA) (os : Os) (started : os.Started) (H : Type) (enc : TypeId × Value → H) :
    ReturnsInHanded {} Tryd.checked os 3 .any (fun w args => (Rows.asmTextSpec.pre enc Tryd.prog Tryd.f3 [] false w args ∧ laidMetH Tryd.prog listed4 w) ∧ sizedMet enc Tryd.prog Tryd.f3 (OpenSpec.ofChange Rows.asmTextSpec) false w args)
      (Rows.asmTextSpec.post enc Tryd.prog Tryd.f3 false true false false) := by
  refine returnsInHanded_of_change_and (C := Tryd.checked) (X := fun w _ => laidMetH Tryd.prog listed4 w) (fun _ _ _ hh h => h.of_heap hh) ownKnob_none started (by kernel_rfl) Tryd.func3
    (ChangeSpec.witness_shaped (enc := enc) (C := Tryd.checked) (os := os) (X := fun w _ => laidMetH Tryd.prog listed4 w) false (World.doorLaid Tryd.prog 4000 os) #[.slice none 0 0] 8 rfl (World.shaped_of_RefB (by kernel_rfl) (by kernel_rfl)) (by kernel_rfl) (by kernel_rfl) (by kernel_rfl) (door_met4 os _)) ?_
  intro W base args ds gs before hval0 hW _ _ hL _
  have hG : GA W := of_laid4 hL
  have hval : ∀ (j : Nat) t v, Tryd.f3.params[j]? = some t → args[j]? = some v → Value.okWide Tryd.prog W .any base t v := hval0
  have hW' := hW
  obtain ⟨p, q, hA0, hV, rfl, hfz, hnd⟩ := hW
  have hA : DataW.TrodAll enc Tryd.prog W 0 (fun _ => true) true Tryd.f3.params.toList args.toList ds p := hA0
  rw [Tryd.params3] at hA hval
  obtain ⟨v0, vs0, d0, ds0, p0, q0, hargs, rfl, rfl, h0, r0⟩ := trodAll_cons hA
  obtain ⟨rfl, rfl, rfl⟩ := trodAll_nil r0
  obtain rfl : args = #[v0] := by cases args; simp_all
  obtain ⟨rfl, rfl⟩ := trodVars_none hV
  obtain ⟨a0, len0, cap0, rfl⟩ := okWide_slice Tryd.underlying22 (hval 0 22 v0 rfl rfl)
  have k0 := h0
  have lt0 : ∀ x ∈ p0, x.block < W.heap.size := by obtain ⟨m, hm⟩ := k0; exact DataW.trod_lt m _ _ _ hm
  obtain ⟨z0, w0⟩ := insns_open h0 lt0
  clear hA0 hval0
  refine (walk HC a0 len0 cap0 z0 W hG w0).mono fun e W' ⟨he, bel⟩ => ?_
  subst he
  exact ⟨_, rfl, _, _, _, [], _, [], hW', trodAll_mk1 (shut_bool Tryd.underlying4 _), (trodAll_cons_mk (Below.trod laidOut (by kernel_rfl) (of_decide_eq_true (by kernel_rfl)) k0 bel lt0) trodAll_mk0), rfl, bel.frame _, fun h => by cases h⟩

theorem over (HC : AsmA GA) : Rows.asmTextRow.holds Tryd.pinned (OpenSpec.ofChange Rows.asmTextSpec) :=
  OpenClaim.holds_of_wide 3 Tryd.f3 rfl rfl rfl rfl rfl rfl rfl ⟨rfl, rfl, rfl, rfl, rfl⟩ rfl rfl rfl rfl rfl (by kernel_rfl) Tryd.func3 (by kernel_rfl)
    (of_decide_eq_true (by kernel_rfl)) (by unfold Func.isWrapper; first | (rw [if_pos (by decide +kernel)]; kernel_rfl) | (rw [if_neg (by decide +kernel)]; exact ⟨rfl, rfl⟩))
    (fun os started H enc _ => lifted HC os started H enc)

/-- The row's statement. -/
theorem row_holds : Rows.AsmTextSaid := over asmA
/-- The statement: the row, its table tied to the program's text. -/
theorem proved : Rows.AsmTextCardSaid :=
  Claim7.holds_tied_plain_at .later [] [.data, .data, .data, .data] true Rows.asmTextCard.stood.harness Rows.asmTextCard.stood.looks
    row_holds (fun _ h => by cases h) (by kernel_rfl) (fun _ h => by cases h) asmText_row_tie rfl ⟨rfl, rfl⟩ (by kernel_rfl) rfl
    (fun f fn hf hfn => by
      obtain rfl : f = 3 := Option.some.inj ((show Tryd.prog.funcNamed "vestibule/vestibulelaw07.AsmText" = some 3 by kernel_rfl).symm.trans hf) |>.symm
      obtain rfl : fn = Tryd.f3 := (Option.some.inj (Tryd.func3.symm.trans hfn)).symm
      exact ⟨by kernel_rfl, fun j t ht => by
        have hm : t ∈ Tryd.f3.params.toList := by simpa using Array.mem_of_getElem? ht
        have hall : (Tryd.f3.params.toList.all fun u => !Tryd.prog.wantsStandIn u) = true := by kernel_rfl
        exact (show Tryd.prog.wantsStandIn t = false by simpa using List.all_eq_true.1 hall t hm)⟩)
    (by kernel_rfl)
#print axioms proved
end Go.Proofs.YtlneiiljdghmjaaDoor.asmText
