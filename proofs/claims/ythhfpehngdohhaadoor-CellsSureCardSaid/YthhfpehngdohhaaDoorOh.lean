/- The statement CellsSure holds, over what the calls have to return: the certain cells, and the places that read others, are the chapter's. -/
import Derived.Test.YthhfpehngdohhaaDoorRows
import Derived.Test.YthhfpehngdohhaaDoorCards
import Derived.Test.YthhfpehngdohhaaDoorTie
import Derived.SevenTiedAt
import Derived.Test.YthhfpehngdohhaaDoorFr
import Derived.Test.YthhfpehngdohhaaDoorLw
import Derived.Test.YthhfpehngdohhaaDoorQj
import Derived.Test.YthhfpehngdohhaaDoorOg
import Derived.Test.YthhfpehngdohhaaDoorId
import Derived.Deep.RegionHeld3
import Derived.BigQuiet
import Derived.Deep.QuietTactic
namespace Go.Proofs.YthhfpehngdohhaaDoor.cellsSure
open Go.ChangeShapes Go.WideShapes Go.ChangeAt Go.RowKit
open Go.ChangeMaps (open_string shut_string)
set_option linter.unusedVariables false
attribute [local go_sem ↓] Go.wp_at_zero Go.wp_at_succ
theorem own_most {w : World} {B n size d : Nat} {e : TypeId} {p : Option Addr} {xs : List Value} (h : w.ownsRow B e size (.slice p n d) n xs) : n ≤ d ∧ d ≤ maxLen := by
  rcases h.2 with ⟨hv, hn⟩ | ⟨g, cap, cur, hv, hg, hh, hc, hm, r⟩
  · injection hv with h1 h2 h3
    subst h3 hn
    exact ⟨Nat.le_refl _, Nat.zero_le _⟩
  · injection hv with h1 h2 h3
    subst h3
    exact ⟨hc, hm⟩

set_option maxRecDepth 100000 in
set_option maxHeartbeats 16000000 in
theorem walk {G : World → Prop} (HC : CellsC G) (a0 : Option Addr) (len0 cap0 : Nat) (z0 : List Ins) (w : World) (hG : G w) (w0 : IsInsns w a0 len0 cap0 z0) :
    Calls Tryd.prog 4 #[.slice a0 len0 cap0] w fun e w' => e = .returned (.bool true) ∧ Below w.heap.size w w' := by
  by_cases hbig : (300 : Int) < len0
  · clear HC hG w0
    go_enter Tryd.func4, Tryd.ntmps4
    go_wp2
    go_ret
    exact ⟨rfl, Below.refl _ _⟩
  · have HON := Lib.hid (fun (w w' : World) => HC.on (w := w) (w' := w'))
    have HG0 := Lib.hid hG
    have HCP := Lib.hid (fun (W : World) (h : RdI W W.heap.size a0 z0) => refCopyI_any a0 len0 cap0 z0 W w0.size (by omega) w0.nil h)
    have HSM := Lib.hid (fun (W : World) (q : Option Addr) (d : Nat) (h : RdI W W.heap.size q z0) (k : RdI W W.heap.size a0 z0) => refSameI_any q a0 len0 d len0 cap0 W.heap.size W.heap.size z0 z0 W w0.size w0.size (by omega) (by omega) h k)
    rw [show sameI z0 z0 = true from by simp [sameI]] at HSM
    have hrd := Lib.hid w0.rd
    have hx : lenX len0 = len0 := if_pos (by omega)
    have HSU := Lib.hid (fun (W : World) (q : Option Addr) (d : Nat) (g : G W) (h1 : len0 ≤ d) (h2 : d ≤ maxLen) (h3 : q = none → d = 0) (h : RdI W W.heap.size q z0) => HC.sure q len0 d z0 W g w0.size w0.ok h1 h2 h3 h)
    have HUN := Lib.hid (fun (W : World) (q : Option Addr) (d : Nat) (g : G W) (h1 : len0 ≤ d) (h2 : d ≤ maxLen) (h3 : q = none → d = 0) (h : RdI W W.heap.size q z0) => HC.unsure q len0 d z0 W g w0.size w0.ok h1 h2 h3 h)
    rw [hx] at HSU
    have hux : unsureX z0 = unsureL z0 := if_pos (by have := w0.size; omega)
    rw [hux] at HUN
    have HRS := Lib.hid (fun (W : World) (h : RdI W W.heap.size a0 z0) => refSure a0 len0 cap0 z0 W w0.size (by omega) w0.ok h)
    have HRU := Lib.hid (fun (W : World) (h : RdI W W.heap.size a0 z0) => refUnsure a0 len0 cap0 z0 W w0.size (by omega) w0.ok h)
    have hul : (unsureL z0).length ≤ len0 := by have := unsureTo_length z0 z0.length; have := w0.size; unfold unsureL; omega
    obtain ⟨l, hl⟩ : ∃ l, l = unsureL z0 := ⟨_, rfl⟩
    obtain ⟨f, hf⟩ : ∃ f, f = sureN z0 := ⟨_, rfl⟩
    rw [← hl] at HUN HRU hul
    rw [← hf] at HSU HRS
    unfold NextTo at HUN HRU
    unfold SetsTo at HSU HRS
    have HRN := Lib.hid (fun (W : World) (B c : Nat) (q : Option Addr) => rdN_of (w := W) (B := B) (c := c) (q := q) (l := l))
    obtain ⟨m, hm⟩ : ∃ m, m = l.length := ⟨_, rfl⟩
    rw [← hm] at HUN HRU hul HRN
    have HSY := Lib.hid (fun (W : World) (q1 q2 : Option Addr) (c1 c2 : Nat) (h1 : RdN W W.heap.size q1 l) (h2 : RdN W W.heap.size q2 l) => same_yes q1 q2 m c1 c2 l W hm.symm (by omega) h1 h2)
    have k1 : (len0 : Int) ≤ 300 := by omega
    have t4 : ((len0 : Int) != len0) = false := by simp
    have t6 : decide ((300 : Int) < len0) = false := decide_eq_false hbig
    clear HC hG w0 hx hux hl hf hm hul
    go_enter Tryd.func4, Tryd.ntmps4
    go_wp2_with (first
      | (go_at_call 9; ((with_reducible refine (HCP.out _ hrd.out).mono ?_); rintro e v1 ⟨q, d, rfl, o1, hq, b1⟩); have G1 := HON.out _ _ HG0.out b1; have R1 := hrd.out.on b1; have HQ := Lib.hid hq; have M1 := Lib.hid (own_most o1); have S1 : RdI v1 v1.heap.size q z0 := (by obtain ⟨_, _, hv, h2, _⟩ := own_shapeI o1; injection hv with h1 _ _; rw [h1]; exact h2); clear hq o1)
      | (go_at_call 16; ((with_reducible refine (HSU.out _ _ _ G1 M1.out.1 M1.out.2 HQ.out S1).mono ?_); rintro e v2 ⟨q2, c2, rfl, o2, b2⟩); have G2 := HON.out _ _ G1 b2; have R2 := R1.on b2; have S2 := S1.on b2; have B2 := thn b1 b2; have O2 := Lib.hid o2; clear o2)
      | (go_at_call 17; ((with_reducible refine (HRS.out _ R2).mono ?_); rintro e v3 ⟨q3, c3, rfl, o3, b3⟩); have G3 := HON.out _ _ G2 b3; have R3 := R2.on b3; have S3 := S2.on b3; have B3 := thn B2 b3; have O3 := Lib.hid o3; have O23 := Lib.hid (own_on O2.out b3); clear o3 O2)
      | (go_at_call 18; ((with_reducible refine (HUN.out _ _ _ G3 M1.out.1 M1.out.2 HQ.out S3).mono ?_); rintro e v4 ⟨q4, c4, rfl, o4, b4⟩); have R4 := R3.on b4; have S4 := S3.on b4; have B4 := thn B3 b4; have O34 := Lib.hid (own_on O3.out b4); have O24 := Lib.hid (own_on O23.out b4); have N4 := Lib.hid (HRN.out _ _ _ _ o4); clear o4 O3 O23)
      | (go_at_call 19; ((with_reducible refine (HRU.out _ R4).mono ?_); rintro e v5 ⟨q5, c5, rfl, o5, b5⟩); have R5 := R4.on b5; have S5 := S4.on b5; have B5 := thn B4 b5; have O35 := Lib.hid (own_on O34.out b5); have O25 := Lib.hid (own_on O24.out b5); have N5 := Lib.hid (HRN.out _ _ _ _ o5); have N45 := Lib.hid (rdN_on N4.out b5); clear o5 O34 O24)
      | (go_at_call 12; ((with_reducible refine (HSY.out _ _ _ _ _ N45.out N5.out).mono ?_); rintro e v6 ⟨rfl, b6⟩); have R6 := R5.on b6; have S6 := S5.on b6; have B6 := thn B5 b6; have O36 := Lib.hid (own_on O35.out b6); have O26 := Lib.hid (own_on O25.out b6); clear O35 O25)
      | (go_at_call 15; ((with_reducible refine (HSM.out _ _ _ S6 R6).mono ?_); rintro e v7 ⟨rfl, ⟨nd, rfl⟩⟩)))
    clear G1 G2 G3 R1 R2 R3 R4 R5 R6 S1 S2 S3 S4 S5 S6 HSU HUN HRS HRU HCP HSM HSY HRN N4 N5 N45
    go_loopw [6] (fun i wr => ∃ k : Nat, k ≤ len0 ∧ i = .int .i64 k ∧ Below v6.heap.size v6 wr) (fun i _ => len0 - (intOf i).toNat)
    case atStart => exact ⟨0, Nat.zero_le _, rfl, ⟨rfl, rfl, rfl, Nat.le_refl _, fun _ _ => rfl⟩⟩
    case round =>
      obtain ⟨k, hk, rfl, hb⟩ := hrel
      obtain ⟨W, rfl⟩ : ∃ wo : World, wo = wr := ⟨_, rfl⟩
      by_cases hlt : k < len0
      · have h3 := own_on O36.out hb
        have h2 := own_on O26.out hb
        obtain ⟨g3, d3, e3⟩ := own_some h3 (by omega)
        obtain ⟨g2, d2, e2⟩ := own_some h2 (by omega)
        injection e3 with e31 e32 e33
        injection e2 with e21 e22 e23
        subst e31 e21
        have c3k : W.cell? ⟨g3, k, none⟩ = some (.int .u16 ((f k : Nat) : Int)) := (h3.cellAt k (by omega)).trans (rowS_get _ hlt)
        have c2k : W.cell? ⟨g2, k, none⟩ = some (.int .u16 ((f k : Nat) : Int)) := (h2.cellAt k (by omega)).trans (rowS_get _ hlt)
        obtain ⟨x, hxx⟩ : ∃ x : Int, x = ((f k : Nat) : Int) := ⟨_, rfl⟩
        rw [← hxx] at c3k c2k
        have t5 : (x != x) = false := by simp
        have k0 : (0 : Int) ≤ k := by omega
        have k2 : (k : Int) < len0 := by omega
        clear h3 h2 hxx e32 e33 e22 e23
        go_wp2_with fail
        go_region
        go_wp2
        go_roundw
        case rel => exact ⟨k + 1, by omega, by go_num, hb.drew⟩
        case measure => simp [intOf]; omega
      · obtain rfl : k = len0 := by omega
        go_wp2_with fail
        go_ret
        exact ⟨rfl, thn B6 hb⟩

set_option maxRecDepth 100000 in
theorem lifted (HC : CellsC GW) (os : Os) (started : os.Started) (H : Type) (enc : TypeId × Value → H) :
    ReturnsInHanded {} Tryd.checked os 4 .any (fun w args => (Rows.cellsSureSpec.pre enc Tryd.prog Tryd.f4 [] false w args ∧ laidMetH Tryd.prog listed w) ∧ sizedMet enc Tryd.prog Tryd.f4 (OpenSpec.ofChange Rows.cellsSureSpec) false w args)
      (Rows.cellsSureSpec.post enc Tryd.prog Tryd.f4 false true false false) := by
  refine returnsInHanded_of_change_and (C := Tryd.checked) (X := fun w _ => laidMetH Tryd.prog listed w) (fun _ _ _ hh h => h.of_heap hh) ownKnob_none started (by kernel_rfl) Tryd.func4
    (ChangeSpec.witness_shaped (enc := enc) (C := Tryd.checked) (os := os) (X := fun w _ => laidMetH Tryd.prog listed w) false (World.doorLaid Tryd.prog 400 os) #[.slice none 0 0] 8 rfl (World.shaped_of_RefB (by kernel_rfl) (by kernel_rfl)) (by kernel_rfl) (by kernel_rfl) (by kernel_rfl) (door_met os _)) ?_
  intro W base args ds gs before hval0 hW _ _ hL _
  have hG : GW W := of_laid hL
  have hval : ∀ (j : Nat) t v, Tryd.f4.params[j]? = some t → args[j]? = some v → Value.okWide Tryd.prog W .any base t v := hval0
  have hW' := hW
  obtain ⟨p, q, hA0, hV, rfl, hfz, hnd⟩ := hW
  have hA : DataW.TrodAll enc Tryd.prog W 0 (fun _ => true) true Tryd.f4.params.toList args.toList ds p := hA0
  rw [Tryd.params4] at hA hval
  obtain ⟨v0, vs0, d0, ds0, p0, q0, hargs, rfl, rfl, h0, r0⟩ := trodAll_cons hA
  obtain ⟨rfl, rfl, rfl⟩ := trodAll_nil r0
  obtain rfl : args = #[v0] := by cases args; simp_all
  obtain ⟨rfl, rfl⟩ := trodVars_none hV
  obtain ⟨a0, len0, cap0, rfl⟩ := okWide_slice Tryd.underlying22 (hval 0 22 v0 rfl rfl)
  have k0 := h0
  have lt0 : ∀ x ∈ p0, x.block < W.heap.size := by obtain ⟨m, hm⟩ := k0; exact DataW.trod_lt m _ _ _ hm
  obtain ⟨z0, w0⟩ := insns_open h0 lt0
  clear hA0 hval0
  refine (walk HC a0 len0 cap0 z0 W hG w0).mono fun e W' ⟨he, bel⟩ => ?_
  subst he
  exact ⟨_, rfl, _, _, _, [], _, [], hW', trodAll_mk1 (shut_bool Tryd.underlying4 _), (trodAll_cons_mk (Below.trod laidOut (by kernel_rfl) (of_decide_eq_true (by kernel_rfl)) k0 bel lt0) trodAll_mk0), rfl, bel.frame _, fun h => by cases h⟩

theorem over (HC : CellsC GW) : Rows.cellsSureRow.holds Tryd.pinned (OpenSpec.ofChange Rows.cellsSureSpec) :=
  OpenClaim.holds_of_wide 4 Tryd.f4 rfl rfl rfl rfl rfl rfl rfl ⟨rfl, rfl, rfl, rfl, rfl⟩ rfl rfl rfl rfl rfl (by kernel_rfl) Tryd.func4 (by kernel_rfl)
    (of_decide_eq_true (by kernel_rfl)) (by unfold Func.isWrapper; first | (rw [if_pos (by decide +kernel)]; kernel_rfl) | (rw [if_neg (by decide +kernel)]; exact ⟨rfl, rfl⟩))
    (fun os started H enc _ => lifted HC os started H enc)

/-- The row's statement. -/
theorem row_holds : Rows.CellsSureSaid := over cellsC
/-- The statement: the row, its table tied to the program's text. -/
theorem proved : Rows.CellsSureCardSaid :=
  Claim7.holds_tied_plain_at .later [] [.data] true Rows.cellsSureCard.stood.harness Rows.cellsSureCard.stood.looks
    row_holds (fun _ h => by cases h) (by kernel_rfl) (fun _ h => by cases h) cellsSure_row_tie rfl ⟨rfl, rfl⟩ (by kernel_rfl) rfl
    (fun f fn hf hfn => by
      obtain rfl : f = 4 := Option.some.inj ((show Tryd.prog.funcNamed "vestibule/vestibulelaw05.CellsSure" = some 4 by kernel_rfl).symm.trans hf) |>.symm
      obtain rfl : fn = Tryd.f4 := (Option.some.inj (Tryd.func4.symm.trans hfn)).symm
      exact ⟨by kernel_rfl, fun j t ht => by
        have hm : t ∈ Tryd.f4.params.toList := by simpa using Array.mem_of_getElem? ht
        have hall : (Tryd.f4.params.toList.all fun u => !Tryd.prog.wantsStandIn u) = true := by kernel_rfl
        exact (show Tryd.prog.wantsStandIn t = false by simpa using List.all_eq_true.1 hall t hm)⟩)
    (by kernel_rfl)
#print axioms proved

end Go.Proofs.YthhfpehngdohhaaDoor.cellsSure
