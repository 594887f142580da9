/- The statement AsmBack holds, over what the calls have to return: a program that can be written is read from its text; what is read has that text. -/
import Derived.Test.YtlneiiljdghmjaaDoorRows
import Derived.Test.YtlneiiljdghmjaaDoorCards
import Derived.Test.YtlneiiljdghmjaaDoorTie
import Derived.SevenTiedAt
import Derived.Test.YtlneiiljdghmjaaDoorWd
import Derived.Test.YtlneiiljdghmjaaDoorLw
import Derived.Test.YtlneiiljdghmjaaDoorHt
import Derived.Test.YtlneiiljdghmjaaDoorLx
import Derived.Test.YtlneiiljdghmjaaDoorAh
import Derived.Test.YtlneiiljdghmjaaDoorFi
import Derived.Test.YtlneiiljdghmjaaDoorId
import Derived.Deep.RegionHeld3
import Derived.BigQuiet
import Derived.Deep.QuietTactic
import Derived.Test.YtlneiiljdghmjaaDoorAm
namespace Go.Proofs.YtlneiiljdghmjaaDoor.asmBack
open Go.ChangeShapes Go.WideShapes Go.ChangeAt Go.RowKit
open Go.ChangeMaps (open_string shut_string)
set_option linter.unusedVariables false
attribute [local go_sem ↓] Go.wp_at_zero Go.wp_at_succ
set_option maxRecDepth 100000 in
set_option maxHeartbeats 32000000 in
theorem walk {G : World → Prop} (HC : AsmC G) (HI : SameC) (a0 : Option Addr) (len0 cap0 : Nat) (z0 : List Ins) (a1 : ByteArray) (w : World) (hG : G w) (w0 : IsInsns w a0 len0 cap0 z0) (w1 : a1.size ≤ 140737488355328) :
    Calls Tryd.prog 6 #[.slice a0 len0 cap0, .string a1] w fun e w' => e = .returned (.bool true) ∧ Below w.heap.size w w' := by
  have HA := Lib.hid (awake7_any HC w hG)
  by_cases hbig : (200 : Int) < len0
  · clear HC HI hG w0 w1
    go_enter Tryd.func6, Tryd.ntmps6
    go_wp2_with (first
      | (go_at_call 18; ((with_reducible refine (HA.out).mono ?_); rintro e v1 ⟨rfl, b1⟩)))
    go_ret
    exact ⟨rfl, b1⟩
  by_cases hlong : (3000 : Int) < a1.size
  · clear HC HI hG w0 w1
    go_enter Tryd.func6, Tryd.ntmps6
    go_wp2_with (first
      | (go_at_call 18; ((with_reducible refine (HA.out).mono ?_); rintro e v1 ⟨rfl, b1⟩)))
    go_ret
    exact ⟨rfl, b1⟩
  have HON := Lib.hid (fun (w w' : World) => HC.on (w := w) (w' := w'))
  have HG0 := Lib.hid hG
  have R0 := Lib.hid w0.rd
  have HTX := Lib.hid (fun (W : World) (g : G W) (h : RdI W W.heap.size a0 z0) => HC.text a0 len0 cap0 z0 W g w0.size w0.ok w0.fits w0.most w0.nil h)
  have HCN := Lib.hid (fun (W : World) (g : G W) (h : RdI W W.heap.size a0 z0) => HC.can a0 len0 cap0 z0 W g w0.size w0.ok w0.fits w0.most w0.nil h)
  have HSM := Lib.hid (fun (W : World) (q : Option Addr) (d : Nat) (h : RdI W W.heap.size a0 z0) (k : RdI W W.heap.size q z0) => HI a0 q len0 cap0 len0 d z0 z0 W w0.size w0.size w0.ok w0.ok (by omega) (by omega) h k)
  rw [show sameI z0 z0 = true from by simp [sameI]] at HSM
  have k1 : (len0 : Int) ≤ 200 := by omega
  have k2 : (a1.size : Int) ≤ 3000 := by omega
  unfold textE textN at HTX
  by_cases hex : ∃ q, OkL q ∧ canL q = true ∧ textL q = a1.data.toList
  · obtain ⟨q, q1, q2, q3⟩ := hex
    have ha : a1 = bs (textL q) := by rw [q3, bs_self]
    have hsz : (textL q).length ≤ 140737488355328 := by rw [q3]; exact w1
    have HPS := Lib.hid (fun (W : World) (g : G W) => parse_text HC q q1 q2 hsz W g)
    have HTQ := Lib.hid (fun (W : World) (a : Option Addr) (c : Nat) (g : G W) (h1 : q.length ≤ c) (h2 : c ≤ maxLen) (h3 : a = none → c = 0) (h : RdI W W.heap.size a q) => HC.text a q.length c q W g rfl q1 h1 h2 h3 h)
    unfold textE textN at HTQ
    rw [q2] at HTQ
    simp only [if_true] at HTQ
    rw [← ha] at HPS HTQ
    have t1 : (a1.toList == a1.toList) = true := by simp
    obtain ⟨m, hm⟩ : ∃ m, m = q.length := ⟨_, rfl⟩
    rw [← hm] at HPS HTQ
    clear ha q1 q2 q3 hsz hm w1
    cases hc : canL z0 with
    | true =>
      rw [hc] at HTX HCN
      simp only [if_true] at HTX
      have HPT := Lib.hid (fun (W : World) (g : G W) => parse_text HC z0 w0.ok hc (by have h := (can_of hc).1; have := text_le w0.ok h; unfold textL; omega) W g)
      rw [w0.size] at HPT
      obtain ⟨t, ht⟩ : ∃ t, t = bs (textL z0) := ⟨_, rfl⟩
      rw [← ht] at HTX HPT
      clear ht
      clear HC HI hG w0 hc
      go_enter Tryd.func6, Tryd.ntmps6
      go_wp2_with (first
        | (go_at_call 18; ((with_reducible refine (HA.out).mono ?_); rintro e v1 ⟨rfl, b1⟩); have G1 := HON.out _ _ HG0.out b1; have R1 := R0.out.on b1)
        | (go_at_call 10; ((with_reducible refine (HTX.out _ G1 R1).mono ?_); rintro e v2 ⟨rfl, b2⟩); have G2 := HON.out _ _ G1 b2; have R2 := R1.on b2; have B2 := thn b1 b2)
        | (go_at_call 17; ((with_reducible refine (HPT.out v2 G2).mono ?_); rintro e v3 ⟨a3, c3, rfl, r3, f3, m3, n3, b3⟩); have G3 := HON.out _ _ G2 b3; have R3 := R2.on b3; have B3 := thn B2 b3)
        | (go_at_call 19; ((with_reducible refine (HSM.out _ _ _ R3 r3).mono ?_); rintro e v4 ⟨rfl, b4⟩); have G4 := HON.out _ _ G3 b4; have R4 := R3.on b4; have B4 := thn B3 b4)
        | (go_at_call 11; ((with_reducible refine (HCN.out _ G4 R4).mono ?_); rintro e v5 ⟨rfl, b5⟩); have G5 := HON.out _ _ G4 b5; have B5 := thn B4 b5)
        | (go_at_call 17; ((with_reducible refine (HPS.out _ G5).mono ?_); rintro e v6 ⟨a6, c6, rfl, r6, f6, m6, n6, b6⟩); have G6 := HON.out _ _ G5 b6; have B6 := thn B5 b6)
        | (go_at_call 10; ((with_reducible refine (HTQ.out _ _ _ G6 f6 m6 n6 r6).mono ?_); rintro e v7 ⟨rfl, b7⟩); have B7 := thn B6 b7))
      go_ret
      exact ⟨by first | rfl | simp, B7⟩
    | false =>
      rw [hc] at HTX
      simp only [Bool.false_eq_true, if_false] at HTX
      rw [show bs [] = ⟨#[]⟩ from rfl] at HTX
      clear HC HI hG w0 hc HSM HCN
      go_enter Tryd.func6, Tryd.ntmps6
      go_wp2_with (first
        | (go_at_call 18; ((with_reducible refine (HA.out).mono ?_); rintro e v1 ⟨rfl, b1⟩); have G1 := HON.out _ _ HG0.out b1; have R1 := R0.out.on b1)
        | (go_at_call 10; ((with_reducible refine (HTX.out _ G1 R1).mono ?_); rintro e v2 ⟨rfl, b2⟩); have G2 := HON.out _ _ G1 b2; have R2 := R1.on b2; have B2 := thn b1 b2)
        | (go_at_call 17; ((with_reducible refine (HPS.out _ G2).mono ?_); rintro e v6 ⟨a6, c6, rfl, r6, f6, m6, n6, b6⟩); have G6 := HON.out _ _ G2 b6; have B6 := thn B2 b6)
        | (go_at_call 10; ((with_reducible refine (HTQ.out _ _ _ G6 f6 m6 n6 r6).mono ?_); rintro e v7 ⟨rfl, b7⟩); have B7 := thn B6 b7))
      go_ret
      exact ⟨by first | rfl | simp, B7⟩
  · have hsz : a1.data.toList.length ≤ 140737488355328 := w1
    have HPS := Lib.hid (fun (W : World) (g : G W) => parse_none HC a1.data.toList hsz (fun q h1 h2 h3 => hex ⟨q, h1, h2, h3⟩) W g)
    rw [bs_self] at HPS
    clear hex hsz w1
    cases hc : canL z0 with
    | true =>
      rw [hc] at HTX HCN
      simp only [if_true] at HTX
      have HPT := Lib.hid (fun (W : World) (g : G W) => parse_text HC z0 w0.ok hc (by have h := (can_of hc).1; have := text_le w0.ok h; unfold textL; omega) W g)
      rw [w0.size] at HPT
      obtain ⟨t, ht⟩ : ∃ t, t = bs (textL z0) := ⟨_, rfl⟩
      rw [← ht] at HTX HPT
      clear ht
      clear HC HI hG w0 hc
      go_enter Tryd.func6, Tryd.ntmps6
      go_wp2_with (first
        | (go_at_call 18; ((with_reducible refine (HA.out).mono ?_); rintro e v1 ⟨rfl, b1⟩); have G1 := HON.out _ _ HG0.out b1; have R1 := R0.out.on b1)
        | (go_at_call 10; ((with_reducible refine (HTX.out _ G1 R1).mono ?_); rintro e v2 ⟨rfl, b2⟩); have G2 := HON.out _ _ G1 b2; have R2 := R1.on b2; have B2 := thn b1 b2)
        | (go_at_call 17; ((with_reducible refine (HPT.out v2 G2).mono ?_); rintro e v3 ⟨a3, c3, rfl, r3, f3, m3, n3, b3⟩); have G3 := HON.out _ _ G2 b3; have R3 := R2.on b3; have B3 := thn B2 b3)
        | (go_at_call 19; ((with_reducible refine (HSM.out _ _ _ R3 r3).mono ?_); rintro e v4 ⟨rfl, b4⟩); have G4 := HON.out _ _ G3 b4; have R4 := R3.on b4; have B4 := thn B3 b4)
        | (go_at_call 11; ((with_reducible refine (HCN.out _ G4 R4).mono ?_); rintro e v5 ⟨rfl, b5⟩); have G5 := HON.out _ _ G4 b5; have B5 := thn B4 b5)
        | (go_at_call 17; ((with_reducible refine (HPS.out _ G5).mono ?_); rintro e v6 ⟨rfl, b6⟩); have B6 := thn B5 b6))
      go_ret
      exact ⟨by first | rfl | simp, B6⟩
    | false =>
      rw [hc] at HTX
      simp only [Bool.false_eq_true, if_false] at HTX
      rw [show bs [] = ⟨#[]⟩ from rfl] at HTX
      clear HC HI hG w0 hc HSM HCN
      go_enter Tryd.func6, Tryd.ntmps6
      go_wp2_with (first
        | (go_at_call 18; ((with_reducible refine (HA.out).mono ?_); rintro e v1 ⟨rfl, b1⟩); have G1 := HON.out _ _ HG0.out b1; have R1 := R0.out.on b1)
        | (go_at_call 10; ((with_reducible refine (HTX.out _ G1 R1).mono ?_); rintro e v2 ⟨rfl, b2⟩); have G2 := HON.out _ _ G1 b2; have R2 := R1.on b2; have B2 := thn b1 b2)
        | (go_at_call 17; ((with_reducible refine (HPS.out _ G2).mono ?_); rintro e v6 ⟨rfl, b6⟩); have B6 := thn B2 b6))
      go_ret
      exact ⟨by first | rfl | simp, B6⟩

set_option maxRecDepth 100000 in
theorem lifted (HC : AsmC GP) (HI : SameC) (os : Os) (started : os.Started) (H : Type) (enc : TypeId × Value → H) :
    ReturnsInHanded {} Tryd.checked os 6 .any (fun w args => (Rows.asmBackSpec.pre enc Tryd.prog Tryd.f6 [] false w args ∧ laidMetH Tryd.prog listed6 w) ∧ sizedMet enc Tryd.prog Tryd.f6 (OpenSpec.ofChange Rows.asmBackSpec) false w args)
      (Rows.asmBackSpec.post enc Tryd.prog Tryd.f6 false true false false) := by
  refine returnsInHanded_of_change_and (C := Tryd.checked) (X := fun w _ => laidMetH Tryd.prog listed6 w) (fun _ _ _ hh h => h.of_heap hh) ownKnob_none started (by kernel_rfl) Tryd.func6
    (ChangeSpec.witness_shaped (enc := enc) (C := Tryd.checked) (os := os) (X := fun w _ => laidMetH Tryd.prog listed6 w) false (World.doorLaid Tryd.prog 4000 os) #[.slice none 0 0, .string ⟨#[]⟩] 8 rfl (World.shaped_of_RefB (by kernel_rfl) (by kernel_rfl)) (by kernel_rfl) (by kernel_rfl) (by kernel_rfl) (door_met6 os _)) ?_
  intro W base args ds gs before hval0 hW _ hsz0 hL _
  have hG : GP W := of_laid6 hL
  have hval : ∀ (j : Nat) t v, Tryd.f6.params[j]? = some t → args[j]? = some v → Value.okWide Tryd.prog W .any base t v := hval0
  have hW' := hW
  obtain ⟨p, q, hA0, hV, rfl, hfz, hnd⟩ := hW
  have hA : DataW.TrodAll enc Tryd.prog W 0 (fun _ => true) true Tryd.f6.params.toList args.toList ds p := hA0
  have hsz : (DataW.weightsEach Tryd.prog (Tryd.f6.params.toList ++ Rows.asmBackSpec.plain.varTypes Tryd.prog) (ds ++ gs)).all (· ≤ reachBytes) = true := hsz0
  rw [Tryd.params6] at hA hval hsz
  obtain ⟨v0, vs0, d0, ds0, p0, q0, hargs, rfl, rfl, h0, r0⟩ := trodAll_cons hA
  obtain ⟨v1, vs1, d1, ds1, p1, q1, rfl, rfl, rfl, h1, r1⟩ := trodAll_cons r0
  obtain ⟨rfl, rfl, rfl⟩ := trodAll_nil r1
  obtain rfl : args = #[v0, v1] := by cases args; simp_all
  obtain ⟨rfl, rfl⟩ := trodVars_none hV
  obtain ⟨a0, len0, cap0, rfl⟩ := okWide_slice Tryd.underlying22 (hval 0 22 v0 rfl rfl)
  have k0 := h0
  have lt0 : ∀ x ∈ p0, x.block < W.heap.size := by obtain ⟨m, hm⟩ := k0; exact DataW.trod_lt m _ _ _ hm
  obtain ⟨z0, w0⟩ := insns_open h0 lt0
  obtain ⟨a1, rfl, rfl, rfl, x1⟩ := open_string Tryd.underlying9 (hval 1 9 v1 rfl rfl) h1
  have w1 : a1.size ≤ 140737488355328 := by
    have h := sized_string hsz (j := 1) (t := 9) rfl rfl
    exact Nat.le_trans (show a1.size ≤ reachBytes from h) (by decide)
  clear hA0 hval0
  refine (walk HC HI a0 len0 cap0 z0 a1 W hG w0 w1).mono fun e W' ⟨he, bel⟩ => ?_
  subst he
  exact ⟨_, rfl, _, _, _, [], _, [], hW', trodAll_mk1 (shut_bool Tryd.underlying4 _), (trodAll_cons_mk (Below.trod laidOut (by kernel_rfl) (of_decide_eq_true (by kernel_rfl)) k0 bel lt0) (trodAll_cons_mk (shut_string Tryd.underlying9 x1) trodAll_mk0)), rfl, bel.frame _, fun h => by cases h⟩

theorem over (HC : AsmC GP) (HI : SameC) : Rows.asmBackRow.holds Tryd.pinned (OpenSpec.ofChange Rows.asmBackSpec) :=
  OpenClaim.holds_of_wide 6 Tryd.f6 rfl rfl rfl rfl rfl rfl rfl ⟨rfl, rfl, rfl, rfl, rfl⟩ rfl rfl rfl rfl rfl (by kernel_rfl) Tryd.func6 (by kernel_rfl)
    (of_decide_eq_true (by kernel_rfl)) (by unfold Func.isWrapper; first | (rw [if_pos (by decide +kernel)]; kernel_rfl) | (rw [if_neg (by decide +kernel)]; exact ⟨rfl, rfl⟩))
    (fun os started H enc _ => lifted HC HI os started H enc)

/-- The row's statement. -/
theorem row_holds : Rows.AsmBackSaid := over asmC sameC
/-- The statement: the row, its table tied to the program's text. -/
theorem proved : Rows.AsmBackCardSaid :=
  Claim7.holds_tied_plain_at .later [] [.data, .data, .data, .sentinel, .sentinel, .data] true Rows.asmBackCard.stood.harness Rows.asmBackCard.stood.looks
    row_holds (fun _ h => by cases h) (by kernel_rfl) (fun _ h => by cases h) asmBack_row_tie rfl ⟨rfl, rfl⟩ (by kernel_rfl) rfl
    (fun f fn hf hfn => by
      obtain rfl : f = 6 := Option.some.inj ((show Tryd.prog.funcNamed "vestibule/vestibulelaw07.AsmBack" = some 6 by kernel_rfl).symm.trans hf) |>.symm
      obtain rfl : fn = Tryd.f6 := (Option.some.inj (Tryd.func6.symm.trans hfn)).symm
      exact ⟨by kernel_rfl, fun j t ht => by
        have hm : t ∈ Tryd.f6.params.toList := by simpa using Array.mem_of_getElem? ht
        have hall : (Tryd.f6.params.toList.all fun u => !Tryd.prog.wantsStandIn u) = true := by kernel_rfl
        exact (show Tryd.prog.wantsStandIn t = false by simpa using List.all_eq_true.1 hall t hm)⟩)
    (by kernel_rfl)
#print axioms proved
end Go.Proofs.YtlneiiljdghmjaaDoor.asmBack
