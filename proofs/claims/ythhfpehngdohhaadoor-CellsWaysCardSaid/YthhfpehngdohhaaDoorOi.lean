/- The statement CellsWays holds, over what the calls have to return: ways lead to where the chapter says; what is reached, too. -/
import Derived.Test.YthhfpehngdohhaaDoorRows
import Derived.Test.YthhfpehngdohhaaDoorCards
import Derived.Test.YthhfpehngdohhaaDoorTie
import Derived.SevenTiedAt
import Derived.Test.YthhfpehngdohhaaDoorFr
import Derived.Test.YthhfpehngdohhaaDoorLw
import Derived.Test.YthhfpehngdohhaaDoorQj
import Derived.Test.YthhfpehngdohhaaDoorOg
import Derived.Test.YthhfpehngdohhaaDoorId
import Derived.Deep.RegionHeld3
import Derived.BigQuiet
import Derived.Deep.QuietTactic
namespace Go.Proofs.YthhfpehngdohhaaDoor.cellsWays
open Go.ChangeShapes Go.WideShapes Go.ChangeAt Go.RowKit
open Go.ChangeMaps (open_string shut_string)
set_option linter.unusedVariables false
attribute [local go_sem ↓] Go.wp_at_zero Go.wp_at_succ
theorem own_most {w : World} {B n size d : Nat} {e : TypeId} {p : Option Addr} {xs : List Value} (h : w.ownsRow B e size (.slice p n d) n xs) : n ≤ d ∧ d ≤ maxLen := by
  rcases h.2 with ⟨hv, hn⟩ | ⟨g, cap, cur, hv, hg, hh, hc, hm, r⟩
  · injection hv with h1 h2 h3
    subst h3 hn
    exact ⟨Nat.le_refl _, Nat.zero_le _⟩
  · injection hv with h1 h2 h3
    subst h3
    exact ⟨hc, hm⟩
theorem next_rd {l : List Nat} {m : Nat} {F : Nat} {args : Array Value} {W : World} (h : Calls Tryd.prog F args W (NextTo l W)) (hm : m = l.length) : Calls Tryd.prog F args W fun e w' => ∃ q c, e = .returned (.slice q m c) ∧ RdN w' w'.heap.size q l ∧ Below W.heap.size W w' := by
  subst hm
  exact h.mono fun e w' ⟨q, c, he, ho, hb⟩ => ⟨q, c, he, rdN_of ho, hb⟩
theorem keepC {v w w' : World} {p q : Addr} {u y : Value} (hb : Below w.heap.size w w') (h : w.cell? p = some u ∧ w.cell? q = some y ∧ Below v.heap.size v w) : w'.cell? p = some u ∧ w'.cell? q = some y ∧ Below v.heap.size v w' :=
  ⟨(hb.cell (World.block_lt_of_cell? w p h.1)).trans h.1, (hb.cell (World.block_lt_of_cell? w q h.2.1)).trans h.2.1, thn h.2.2 hb⟩
set_option maxRecDepth 100000 in
set_option maxHeartbeats 16000000 in
theorem walk {G : World → Prop} (HC : CellsC G) (a0 : Option Addr) (len0 cap0 : Nat) (z0 : List Ins) (a1 : Int) (w : World) (hG : G w) (w0 : IsInsns w a0 len0 cap0 z0) (w1 : (Lit.int .i64 a1).wf = true) :
    Calls Tryd.prog 3 #[.slice a0 len0 cap0, .int .i64 a1] w fun e w' => e = .returned (.bool true) ∧ Below w.heap.size w w' := by
  obtain ⟨ha1, ha2⟩ := bounds_i64 w1
  by_cases hbig : (300 : Int) < len0
  · clear HC hG w0 w1
    go_enter Tryd.func3, Tryd.ntmps3
    go_wp2
    go_ret
    exact ⟨rfl, Below.refl _ _⟩
  · have HON := Lib.hid (fun (w w' : World) => HC.on (w := w) (w' := w'))
    have HG0 := Lib.hid hG
    have HCP := Lib.hid (fun (W : World) (h : RdI W W.heap.size a0 z0) => refCopyI_any a0 len0 cap0 z0 W w0.size (by omega) w0.nil h)
    have HSM := Lib.hid (fun (W : World) (q : Option Addr) (d : Nat) (h : RdI W W.heap.size q z0) (k : RdI W W.heap.size a0 z0) => refSameI_any q a0 len0 d len0 cap0 W.heap.size W.heap.size z0 z0 W w0.size w0.size (by omega) (by omega) h k)
    rw [show sameI z0 z0 = true from by simp [sameI]] at HSM
    have hrd := Lib.hid w0.rd
    have hx : lenX len0 = len0 := if_pos (by omega)
    have HRE := Lib.hid (fun (W : World) (q : Option Addr) (d : Nat) (g : G W) (h1 : len0 ≤ d) (h2 : d ≤ maxLen) (h3 : q = none → d = 0) (h : RdI W W.heap.size q z0) => HC.reached q len0 d z0 W g w0.size w0.ok h1 h2 h3 h)
    rw [hx] at HRE
    have hnx : ∀ a, nextX z0 a = nextA z0 a := fun a => if_pos (by have := w0.size; omega)
    have HNX := Lib.hid (fun (W : World) (q : Option Addr) (d : Nat) (a : Int) (l : List Nat) (m : Nat) (hl : nextA z0 a = l) (hm : m = l.length) (ha1 : -9223372036854775808 ≤ a) (ha2 : a ≤ 9223372036854775807) (g : G W) (h1 : len0 ≤ d) (h2 : d ≤ maxLen) (h3 : q = none → d = 0) (h : RdI W W.heap.size q z0) => next_rd (l := l) (m := m) (by have h := HC.next q len0 d z0 a W g w0.size w0.ok h1 h2 h3 ha1 ha2 h; rw [hnx a, hl] at h; exact h) hm)
    have HRN := Lib.hid (fun (W : World) (a : Int) (l : List Nat) (m : Nat) (hl : nextA z0 a = l) (hm : m = l.length) (h : RdI W W.heap.size a0 z0) => next_rd (l := l) (m := m) (by have h := refNext a0 len0 cap0 z0 a W w0.size (by omega) w0.ok h; unfold NextOf at h; rw [hl] at h; exact h) hm)
    have HRR := Lib.hid (fun (W : World) (h : RdI W W.heap.size a0 z0) => refReached a0 len0 cap0 z0 W w0.size (by omega) w0.ok h)
    have HSY := Lib.hid (fun (W : World) (l : List Nat) (m : Nat) (hm : m = l.length) (hn : m ≤ 4096) (q1 q2 : Option Addr) (c1 c2 : Nat) (h1 : RdN W W.heap.size q1 l) (h2 : RdN W W.heap.size q2 l) => same_yes q1 q2 m c1 c2 l W hm.symm hn h1 h2)
    have HL2 := Lib.hid (fun (i : Nat) => nextL_length z0 i)
    have HA1 := Lib.hid ha1
    have HA2 := Lib.hid ha2
    have HLA := Lib.hid (show (nextA z0 a1).length ≤ 4096 by
      unfold nextA
      split
      · have := nextL_length z0 a1.toNat; omega
      · exact Nat.zero_le _)
    obtain ⟨l, hl⟩ : ∃ l, nextA z0 a1 = l := ⟨_, rfl⟩
    rw [hl] at HLA
    obtain ⟨m, hm⟩ : ∃ m, m = l.length := ⟨_, rfl⟩
    rw [← hm] at HLA
    have HL := Lib.hid hl
    have HM := Lib.hid hm
    obtain ⟨f, hf⟩ : ∃ f, f = reachB z0 := ⟨_, rfl⟩
    rw [← hf] at HRE HRR
    unfold BoolsTo at HRE HRR
    have k1 : (len0 : Int) ≤ 300 := by omega
    have t4 : ((len0 : Int) != len0) = false := by simp
    have t6 : decide ((300 : Int) < len0) = false := decide_eq_false hbig
    clear HC hG w0 w1 ha1 ha2 hx hnx hl hf hm
    go_enter Tryd.func3, Tryd.ntmps3
    go_wp2_with (first
      | (go_at_call 9; ((with_reducible refine (HCP.out _ hrd.out).mono ?_); rintro e v1 ⟨q, d, rfl, o1, hq, b1⟩); have G1 := HON.out _ _ HG0.out b1; have R1 := hrd.out.on b1; have HQ := Lib.hid hq; have M1 := Lib.hid (own_most o1); have S1 : RdI v1 v1.heap.size q z0 := (by obtain ⟨_, _, hv, h2, _⟩ := own_shapeI o1; injection hv with h1 _ _; rw [h1]; exact h2); clear hq o1)
      | (go_at_call 10; ((with_reducible refine (HRE.out _ _ _ G1 M1.out.1 M1.out.2 HQ.out S1).mono ?_); rintro e v2 ⟨q2, c2, rfl, o2, b2⟩); have G2 := HON.out _ _ G1 b2; have R2 := R1.on b2; have S2 := S1.on b2; have B2 := thn b1 b2; have O2 := Lib.hid o2; clear o2)
      | (go_at_call 11; ((with_reducible refine (HRR.out _ R2).mono ?_); rintro e v3 ⟨q3, c3, rfl, o3, b3⟩); have G3 := HON.out _ _ G2 b3; have R3 := R2.on b3; have S3 := S2.on b3; have B3 := thn B2 b3; have O3 := Lib.hid o3; have O23 := Lib.hid (own_on O2.out b3); clear o3 O2)
      | (go_at_call 13; ((with_reducible refine (HNX.out _ _ _ _ _ _ HL.out HM.out HA1.out HA2.out G3 M1.out.1 M1.out.2 HQ.out S3).mono ?_); rintro e v4 ⟨q4, c4, rfl, n4, b4⟩); have G4 := HON.out _ _ G3 b4; have R4 := R3.on b4; have S4 := S3.on b4; have B4 := thn B3 b4; have O34 := Lib.hid (own_on O3.out b4); have O24 := Lib.hid (own_on O23.out b4); have N4 := Lib.hid n4; clear n4 O3 O23)
      | (go_at_call 14; ((with_reducible refine (HRN.out _ _ _ _ HL.out HM.out R4).mono ?_); rintro e v5 ⟨q5, c5, rfl, n5, b5⟩); have G5 := HON.out _ _ G4 b5; have R5 := R4.on b5; have S5 := S4.on b5; have B5 := thn B4 b5; have O35 := Lib.hid (own_on O34.out b5); have O25 := Lib.hid (own_on O24.out b5); have N5 := Lib.hid n5; have N45 := Lib.hid (rdN_on N4.out b5); clear n5 O34 O24)
      | (go_at_call 12; ((with_reducible refine (HSY.out _ _ _ HM.out HLA.out _ _ _ _ N45.out N5.out).mono ?_); rintro e v6 ⟨rfl, b6⟩); have G6 := Lib.hid (HON.out _ _ G5 b6); have R6 := R5.on b6; have S6 := S5.on b6; have B6 := thn B5 b6; have O36 := Lib.hid (own_on O35.out b6); have O26 := Lib.hid (own_on O25.out b6); clear O35 O25)
      | (go_at_call 15; ((with_reducible refine (HSM.out _ _ _ S6 R6).mono ?_); rintro e v7 ⟨rfl, ⟨nd, rfl⟩⟩)))
    have RS := Lib.hid R6
    have SS := Lib.hid S6
    clear G1 G2 G3 G4 G5 R1 R2 R3 R4 R5 R6 S1 S2 S3 S4 S5 S6 HRE HRR HCP HSM N4 N5 N45 HL HM HLA HA1 HA2
    go_loopw [8] (fun i wr => ∃ k : Nat, k ≤ len0 ∧ i = .int .i64 k ∧ Below v6.heap.size v6 wr) (fun i _ => len0 - (intOf i).toNat)
    case atStart => exact ⟨0, Nat.zero_le _, rfl, ⟨rfl, rfl, rfl, Nat.le_refl _, fun _ _ => rfl⟩⟩
    case round =>
      obtain ⟨k, hk, rfl, hb⟩ := hrel
      obtain ⟨W, rfl⟩ : ∃ wo : World, wo = wr := ⟨_, rfl⟩
      by_cases hlt : k < len0
      · have h3 := own_on O36.out hb
        have h2 := own_on O26.out hb
        obtain ⟨g3, d3, e3⟩ := own_some h3 (by omega)
        obtain ⟨g2, d2, e2⟩ := own_some h2 (by omega)
        injection e3 with e31 e32 e33
        injection e2 with e21 e22 e23
        subst e31 e21
        have c3k : W.cell? ⟨g3, k, none⟩ = some (.bool (f k)) := (h3.cellAt k (by omega)).trans (rowB_get _ hlt)
        have c2k : W.cell? ⟨g2, k, none⟩ = some (.bool (f k)) := (h2.cellAt k (by omega)).trans (rowB_get _ hlt)
        obtain ⟨x, hxx⟩ : ∃ x : Bool, x = f k := ⟨_, rfl⟩
        rw [← hxx] at c3k c2k
        have t5 : (x != x) = false := by simp
        have k0 : (0 : Int) ≤ k := by omega
        have k2 : (k : Int) < len0 := by omega
        have KL := Lib.hid (show -9223372036854775808 ≤ (k : Int) by omega)
        have KH := Lib.hid (show (k : Int) ≤ 9223372036854775807 by omega)
        have hl2 := HL2.out k
        obtain ⟨lk, hlk⟩ : ∃ l, nextL z0 k = l := ⟨_, rfl⟩
        rw [hlk] at hl2
        obtain ⟨mk, hmk⟩ : ∃ m, m = lk.length := ⟨_, rfl⟩
        rw [← hmk] at hl2
        have HK := Lib.hid ((nextA_nat z0 k).trans hlk)
        have HMK := Lib.hid hmk
        have HB4 := Lib.hid (show mk ≤ 4096 by omega)
        clear h3 h2 hxx e32 e33 e22 e23 hlk hmk hl2
        go_wp2_with fail
        go_region_held3 (fun w' => w'.cell? ⟨g2, k, none⟩ = some (.bool x) ∧ w'.cell? ⟨g3, k, none⟩ = some (.bool x) ∧ Below v6.heap.size v6 w') (first | with_reducible assumption | exact ⟨c2k, c3k, hb.drew⟩ | exact keepC (by assumption) (by assumption)) (first
          | (go_at_call 13; refine (HNX.out _ _ _ _ _ _ HK.out HMK.out KL.out KH.out (HON.out _ _ G6.out (by assumption : _ ∧ _ ∧ Below _ _ _).2.2) M1.out.1 M1.out.2 HQ.out (SS.out.on (by assumption : _ ∧ _ ∧ Below _ _ _).2.2)).mono ?_; rintro e y4 ⟨p4, s4, rfl, n4, b4⟩)
          | (go_at_call 14; refine (HRN.out _ _ _ _ HK.out HMK.out (RS.out.on (by assumption : _ ∧ _ ∧ Below _ _ _).2.2)).mono ?_; rintro e y5 ⟨p5, s5, rfl, n5, b5⟩; have n45 := rdN_on n4 b5)
          | (go_at_call 12; refine (HSY.out _ _ _ HMK.out HB4.out _ _ _ _ n45 n5).mono ?_; rintro e y6 ⟨rfl, b6'⟩))
        go_wp2
        go_roundw
        case rel => exact ⟨k + 1, by omega, by go_num, (by assumption : _ ∧ _ ∧ Below _ _ _).2.2⟩
        case measure => simp [intOf]; omega
      · obtain rfl : k = len0 := by omega
        go_wp2_with fail
        go_ret
        exact ⟨rfl, thn B6 hb⟩

set_option maxRecDepth 100000 in
theorem lifted (HC : CellsC GW) (os : Os) (started : os.Started) (H : Type) (enc : TypeId × Value → H) :
    ReturnsInHanded {} Tryd.checked os 3 .any (fun w args => (Rows.cellsWaysSpec.pre enc Tryd.prog Tryd.f3 [] false w args ∧ laidMetH Tryd.prog listed w) ∧ sizedMet enc Tryd.prog Tryd.f3 (OpenSpec.ofChange Rows.cellsWaysSpec) false w args)
      (Rows.cellsWaysSpec.post enc Tryd.prog Tryd.f3 false true false false) := by
  refine returnsInHanded_of_change_and (C := Tryd.checked) (X := fun w _ => laidMetH Tryd.prog listed w) (fun _ _ _ hh h => h.of_heap hh) ownKnob_none started (by kernel_rfl) Tryd.func3
    (ChangeSpec.witness_shaped (enc := enc) (C := Tryd.checked) (os := os) (X := fun w _ => laidMetH Tryd.prog listed w) false (World.doorLaid Tryd.prog 400 os) #[.slice none 0 0, .int .i64 0] 8 rfl (World.shaped_of_RefB (by kernel_rfl) (by kernel_rfl)) (by kernel_rfl) (by kernel_rfl) (by kernel_rfl) (door_met os _)) ?_
  intro W base args ds gs before hval0 hW _ _ hL _
  have hG : GW W := of_laid hL
  have hval : ∀ (j : Nat) t v, Tryd.f3.params[j]? = some t → args[j]? = some v → Value.okWide Tryd.prog W .any base t v := hval0
  have hW' := hW
  obtain ⟨p, q, hA0, hV, rfl, hfz, hnd⟩ := hW
  have hA : DataW.TrodAll enc Tryd.prog W 0 (fun _ => true) true Tryd.f3.params.toList args.toList ds p := hA0
  rw [Tryd.params3] at hA hval
  obtain ⟨v0, vs0, d0, ds0, p0, q0, hargs, rfl, rfl, h0, r0⟩ := trodAll_cons hA
  obtain ⟨v1, vs1, d1, ds1, p1, q1, rfl, rfl, rfl, h1, r1⟩ := trodAll_cons r0
  obtain ⟨rfl, rfl, rfl⟩ := trodAll_nil r1
  obtain rfl : args = #[v0, v1] := by cases args; simp_all
  obtain ⟨rfl, rfl⟩ := trodVars_none hV
  obtain ⟨a0, len0, cap0, rfl⟩ := okWide_slice Tryd.underlying22 (hval 0 22 v0 rfl rfl)
  have k0 := h0
  have lt0 : ∀ x ∈ p0, x.block < W.heap.size := by obtain ⟨m, hm⟩ := k0; exact DataW.trod_lt m _ _ _ hm
  obtain ⟨z0, w0⟩ := insns_open h0 lt0
  obtain ⟨a1, rfl, rfl, rfl, w1⟩ := open_int Tryd.underlying3 (hval 1 3 v1 rfl rfl) h1
  clear hA0 hval0
  refine (walk HC a0 len0 cap0 z0 a1 W hG w0 w1).mono fun e W' ⟨he, bel⟩ => ?_
  subst he
  exact ⟨_, rfl, _, _, _, [], _, [], hW', trodAll_mk1 (shut_bool Tryd.underlying4 _), (trodAll_cons_mk (Below.trod laidOut (by kernel_rfl) (of_decide_eq_true (by kernel_rfl)) k0 bel lt0) (trodAll_cons_mk (shut_int Tryd.underlying3 w1) trodAll_mk0)), rfl, bel.frame _, fun h => by cases h⟩

theorem over (HC : CellsC GW) : Rows.cellsWaysRow.holds Tryd.pinned (OpenSpec.ofChange Rows.cellsWaysSpec) :=
  OpenClaim.holds_of_wide 3 Tryd.f3 rfl rfl rfl rfl rfl rfl rfl ⟨rfl, rfl, rfl, rfl, rfl⟩ rfl rfl rfl rfl rfl (by kernel_rfl) Tryd.func3 (by kernel_rfl)
    (of_decide_eq_true (by kernel_rfl)) (by unfold Func.isWrapper; first | (rw [if_pos (by decide +kernel)]; kernel_rfl) | (rw [if_neg (by decide +kernel)]; exact ⟨rfl, rfl⟩))
    (fun os started H enc _ => lifted HC os started H enc)

/-- The row's statement. -/
theorem row_holds : Rows.CellsWaysSaid := over cellsC
/-- The statement: the row, its table tied to the program's text. -/
theorem proved : Rows.CellsWaysCardSaid :=
  Claim7.holds_tied_plain_at .later [] [.data] true Rows.cellsWaysCard.stood.harness Rows.cellsWaysCard.stood.looks
    row_holds (fun _ h => by cases h) (by kernel_rfl) (fun _ h => by cases h) cellsWays_row_tie rfl ⟨rfl, rfl⟩ (by kernel_rfl) rfl
    (fun f fn hf hfn => by
      obtain rfl : f = 3 := Option.some.inj ((show Tryd.prog.funcNamed "vestibule/vestibulelaw05.CellsWays" = some 3 by kernel_rfl).symm.trans hf) |>.symm
      obtain rfl : fn = Tryd.f3 := (Option.some.inj (Tryd.func3.symm.trans hfn)).symm
      exact ⟨by kernel_rfl, fun j t ht => by
        have hm : t ∈ Tryd.f3.params.toList := by simpa using Array.mem_of_getElem? ht
        have hall : (Tryd.f3.params.toList.all fun u => !Tryd.prog.wantsStandIn u) = true := by kernel_rfl
        exact (show Tryd.prog.wantsStandIn t = false by simpa using List.all_eq_true.1 hall t hm)⟩)
    (by kernel_rfl)
#print axioms proved

end Go.Proofs.YthhfpehngdohhaaDoor.cellsWays
