/- The statement VmRuns holds: any program, run on any data, comes to what the chapter says; it stays. No condition. -/
import Derived.Test.YtinfbmfmmbibbaaDoorRows
import Derived.Test.YtinfbmfmmbibbaaDoorCards
import Derived.Test.YtinfbmfmmbibbaaDoorTie
import Derived.SevenTiedAt
import Derived.Test.YtinfbmfmmbibbaaDoorFr
import Derived.Test.YtinfbmfmmbibbaaDoorLw
import Derived.Test.YtinfbmfmmbibbaaDoorNp
import Derived.Test.YtinfbmfmmbibbaaDoorVi
import Derived.Test.YtinfbmfmmbibbaaDoorDd
import Derived.Test.YtinfbmfmmbibbaaDoorId
import Derived.Deep.RegionHeld3
import Derived.BigQuiet
import Derived.Deep.QuietTactic
namespace Go.Proofs.YtinfbmfmmbibbaaDoor.vmRuns
open Go.ChangeShapes Go.WideShapes Go.ChangeAt Go.RowKit
open Go.ChangeMaps (open_string shut_string)
set_option linter.unusedVariables false
attribute [local go_sem ↓] Go.wp_at_zero Go.wp_at_succ

theorem plV_get {l : List Nat} {i : Nat} (h : i < l.length) : (plV l)[i]? = some (.int .i64 ((l.getD i 0 : Nat) : Int)) := by
  unfold plV
  rw [List.getElem?_map, List.getD_eq_getElem?_getD, List.getElem?_eq_getElem h]; rfl
/-- The slice's cells are the places. -/
theorem pl_cells {w : World} {B c : Nat} {q : Option Addr} {l : List Nat} (h : w.ownsRow B 3 1 (.slice q l.length c) l.length (plV l)) (h0 : 0 < l.length) : ∃ g, q = some ⟨g, 0, none⟩ ∧ ∀ i, i < l.length → w.cell? ⟨g, i, none⟩ = some (.int .i64 ((l.getD i 0 : Nat) : Int)) := by
  obtain ⟨g, c', e⟩ := own_some h h0
  injection e with e1 e2 e3
  subst e1
  refine ⟨g, rfl, fun i hi => ?_⟩
  rw [h.cellAt i (by omega)]
  exact plV_get hi
theorem own_most {w : World} {B n size d : Nat} {e : TypeId} {p : Option Addr} {xs : List Value} (h : w.ownsRow B e size (.slice p n d) n xs) : n ≤ d ∧ d ≤ maxLen := by
  rcases h.2 with ⟨hv, hn⟩ | ⟨g, cap, cur, hv, hg, hh, hc, hm, r⟩
  · injection hv with h1 h2 h3
    subst h3 hn
    exact ⟨Nat.le_refl _, Nat.zero_le _⟩
  · injection hv with h1 h2 h3
    subst h3
    exact ⟨hc, hm⟩
set_option maxRecDepth 100000 in
set_option maxHeartbeats 16000000 in
theorem walk {G : World → Prop} (HC : VmC G) (a0 : Option Addr) (len0 cap0 : Nat) (z0 : List Ins) (a1 : Dat) (w : World) (hG : G w) (w0 : IsInsns w a0 len0 cap0 z0) (w1 : a1.Ok) :
    Calls Tryd.prog 3 #[.slice a0 len0 cap0, datV a1] w fun e w' => e = .returned (.bool true) ∧ Below w.heap.size w w' := by
  have bx := BoxD.new w a1
  by_cases hbig : (300 : Int) < len0
  · clear HC w1 hG w0
    unfold datV at *
    unfold datC at *
    go_enter Tryd.func3, Tryd.ntmps3
    go_wp2
    go_ret
    exact ⟨rfl, (Below.refl _ _).alloc (Nat.le_refl _) _⟩
  · have HON := Lib.hid (fun (w w' : World) => HC.on (w := w) (w' := w'))
    have HG0 := Lib.hid (HC.al hG (.cells (datC a1) 27))
    have HX := Lib.hid (fun (W : World) (q : Option Addr) (d : Nat) (g : G W) (h1 : len0 ≤ d) (h2 : d ≤ maxLen) (h3 : q = none → d = 0) (h : RdI W W.heap.size q z0) => HC.run q len0 d z0 a1 W g w0.size (by omega) w0.ok w1 h1 h2 h3 h)
    have HT := Lib.hid (fun (W : World) (q : Option Addr) (d : Nat) (g : G W) (h1 : len0 ≤ d) (h2 : d ≤ maxLen) (h3 : q = none → d = 0) (h : RdI W W.heap.size q z0) => HC.trace q len0 d z0 a1 W g w0.size (by omega) w0.ok w1 h1 h2 h3 h)
    have HV := Lib.hid (fun (W : World) (h : RdI W W.heap.size a0 z0) => refRun a0 len0 cap0 z0 a1 W w0.size (by omega) w0.ok w1 h)
    have HCP := Lib.hid (fun (W : World) (h : RdI W W.heap.size a0 z0) => refCopyI_any a0 len0 cap0 z0 W w0.size (by omega) w0.nil h)
    have HSM := Lib.hid (fun (W : World) (q : Option Addr) (d : Nat) (h : RdI W W.heap.size q z0) (k : RdI W W.heap.size a0 z0) => refSameI_any q a0 len0 d len0 cap0 W.heap.size W.heap.size z0 z0 W w0.size w0.size (by omega) (by omega) h k)
    rw [show sameI z0 z0 = true from by simp [sameI]] at HSM
    have hrd := Lib.hid w0.rd
    have good := runL_good z0 a1
    have hpn := rise_bound z0.length good.rise good.below
    have hsz := w0.size
    obtain ⟨r, hr⟩ : ∃ r, r = runL z0 a1 := ⟨_, rfl⟩
    rw [← hr] at HX HT HV hpn
    obtain ⟨ans, steps, pl, err⟩ := r
    unfold RunV at HX
    unfold TraceV at HT
    unfold RunTo at HV
    simp only at HX HT HV hpn
    clear HC good hr
    obtain ⟨m, hm⟩ : ∃ m, m = pl.length := ⟨_, rfl⟩
    rw [← hm] at HT HV hpn
    have HM := Lib.hid hm
    have k1 : (m : Int) ≤ 300 := by omega
    have t1 : (ans != ans) = false := by simp
    have t2 : ((steps : Int) != steps) = false := by simp
    have t3 : (err != err) = false := by simp
    have t4 : ((m : Int) != m) = false := by simp
    have t6 : decide ((300 : Int) < len0) = false := decide_eq_false hbig
    clear w1 hG w0 hm hpn hsz
    unfold datV at *
    unfold datC at *
    go_enter Tryd.func3, Tryd.ntmps3
    go_wp2_with (first
      | (go_at_call 8; ((with_reducible refine (HCP.out _ (hrd.out.on ((Below.refl _ _).alloc (Nat.le_refl _) _))).mono ?_); rintro e v1 ⟨q, d, rfl, o1, hq, b1⟩); have G1 := HON.out _ _ HG0.out b1; have R1 := (hrd.out.on ((Below.refl _ _).alloc (Nat.le_refl _) _)).on b1; have B1 : Below w.heap.size w v1 := ((Below.refl _ _).alloc (Nat.le_refl _) _).trans (b1.mono (by simp)); have bx1 := BoxD.on (d := a1) bx b1; have HQ := Lib.hid hq; have M1 := Lib.hid (own_most o1); have S1 : RdI v1 v1.heap.size q z0 := (by obtain ⟨_, _, hv, h2, _⟩ := own_shapeI o1; injection hv with h1 _ _; rw [h1]; exact h2); clear hq o1; obtain ⟨x0, x1, x2, x3, x4, x5, x6, x7, x8⟩ := bx1.cells)
      | (go_at_call 9; ((with_reducible refine (HX.out _ _ _ G1 M1.out.1 M1.out.2 HQ.out S1).mono ?_); rintro e v2 ⟨rfl, b2⟩); have G2 := HON.out _ _ G1 b2; have R2 := R1.on b2; have S2 := S1.on b2; have B2 := thn B1 b2; have bx2 := bx1.on b2; clear x0 x1 x2 x3 x4 x5 x6 x7 x8; obtain ⟨x0, x1, x2, x3, x4, x5, x6, x7, x8⟩ := bx2.cells)
      | (go_at_call 10; ((with_reducible refine (HT.out _ _ _ G2 M1.out.1 M1.out.2 HQ.out S2).mono ?_); rintro e v3 ⟨q3, c3, rfl, o3, b3⟩); have R3 := R2.on b3; have S3 := S2.on b3; have B3 := thn B2 b3; have bx3 := bx2.on b3; have HO3 := Lib.hid o3; clear o3 x0 x1 x2 x3 x4 x5 x6 x7 x8; obtain ⟨x0, x1, x2, x3, x4, x5, x6, x7, x8⟩ := bx3.cells)
      | (go_at_call 11; ((with_reducible refine (HV.out _ R3).mono ?_); rintro e v4 ⟨vl, rfl, o4, b4⟩); have R4 := R3.on b4; have S4 := S3.on b4; have B4 := thn B3 b4; have HO3' := Lib.hid (own_on HO3.out b4); have HO4 := Lib.hid o4; obtain ⟨q4, c4, rfl⟩ := own_form HO4.out; clear o4 x0 x1 x2 x3 x4 x5 x6 x7 x8)
      | (go_at_call 12; ((with_reducible refine (HSM.out _ _ _ S4 R4).mono ?_); rintro e v5 ⟨rfl, ⟨nd, rfl⟩⟩)))
    clear G1 G2 R1 R2 R3 R4 S1 S2 S3 S4 bx1 bx2 bx3 HX HT HV HCP HSM
    go_loopw [14] (fun i wr => ∃ k : Nat, k ≤ m ∧ i = .int .i64 k ∧ Below v4.heap.size v4 wr) (fun i _ => m - (intOf i).toNat)
    case atStart => exact ⟨0, Nat.zero_le _, rfl, ⟨rfl, rfl, rfl, Nat.le_refl _, fun _ _ => rfl⟩⟩
    case round =>
      obtain ⟨k, hk, rfl, hb⟩ := hrel
      obtain ⟨W, rfl⟩ : ∃ wo : World, wo = wr := ⟨_, rfl⟩
      by_cases hlt : k < m
      · have h3 := own_on HO3'.out hb
        have h4 := own_on HO4.out hb
        rw [HM.out] at h3 h4
        obtain ⟨g3, e3, hc3⟩ := pl_cells h3 (by have := HM.out; omega)
        obtain ⟨g4, e4, hc4⟩ := pl_cells h4 (by have := HM.out; omega)
        subst e3 e4
        have c3k := hc3 k (by have := HM.out; omega)
        have c4k := hc4 k (by have := HM.out; omega)
        obtain ⟨x, hxx⟩ : ∃ x : Int, x = ((pl.getD k 0 : Nat) : Int) := ⟨_, rfl⟩
        rw [← hxx] at c3k c4k
        have t5 : (x != x) = false := by simp
        have k0 : (0 : Int) ≤ k := by omega
        have k2 : (k : Int) < m := by omega
        clear hc3 hc4 h3 h4 hxx
        go_wp2_with fail
        go_quiet (fail)
        go_wp2
        go_roundw
        case rel => exact ⟨k + 1, by omega, by go_num, hb.trans ⟨rfl, rfl, rfl, Nat.le_refl _, fun _ _ => rfl⟩⟩
        case measure => simp [intOf]; omega
      · obtain rfl : k = m := by omega
        go_wp2_with fail
        go_ret
        exact ⟨rfl, thn B4 hb⟩

set_option maxRecDepth 100000 in
theorem lifted (HC : VmC GW) (os : Os) (started : os.Started) (H : Type) (enc : TypeId × Value → H) :
    ReturnsInHanded {} Tryd.checked os 3 .any (fun w args => (Rows.vmRunsSpec.pre enc Tryd.prog Tryd.f3 [] false w args ∧ laidMetH Tryd.prog listed w) ∧ sizedMet enc Tryd.prog Tryd.f3 (OpenSpec.ofChange Rows.vmRunsSpec) false w args)
      (Rows.vmRunsSpec.post enc Tryd.prog Tryd.f3 false true false false) := by
  refine returnsInHanded_of_change_and (C := Tryd.checked) (X := fun w _ => laidMetH Tryd.prog listed w) (fun _ _ _ hh h => h.of_heap hh) ownKnob_none started (by kernel_rfl) Tryd.func3
    (ChangeSpec.witness_shaped (enc := enc) (C := Tryd.checked) (os := os) (X := fun w _ => laidMetH Tryd.prog listed w) false (World.doorLaid Tryd.prog 400 os) #[.slice none 0 0, .agg #[.int .u32 0, .int .u32 0, .int .u64 0, .int .u64 0, .int .u64 0, .int .u64 0, .int .u64 0, .int .u64 0, .int .u64 0]] 8 rfl (World.shaped_of_RefB (by kernel_rfl) (by kernel_rfl)) (by kernel_rfl) (by kernel_rfl) (by kernel_rfl) (door_met os _)) ?_
  intro W base args ds gs before hval0 hW _ _ hL _
  have hG : GW W := of_laid hL
  have hval : ∀ (j : Nat) t v, Tryd.f3.params[j]? = some t → args[j]? = some v → Value.okWide Tryd.prog W .any base t v := hval0
  have hW' := hW
  obtain ⟨p, q, hA0, hV, rfl, hfz, hnd⟩ := hW
  have hA : DataW.TrodAll enc Tryd.prog W 0 (fun _ => true) true Tryd.f3.params.toList args.toList ds p := hA0
  rw [Tryd.params3] at hA hval
  obtain ⟨v0, vs0, d0, ds0, p0, q0, hargs, rfl, rfl, h0, r0⟩ := trodAll_cons hA
  obtain ⟨v1, vs1, d1, ds1, p1, q1, rfl, rfl, rfl, h1, r1⟩ := trodAll_cons r0
  obtain ⟨rfl, rfl, rfl⟩ := trodAll_nil r1
  obtain rfl : args = #[v0, v1] := by cases args; simp_all
  obtain ⟨rfl, rfl⟩ := trodVars_none hV
  obtain ⟨a0, len0, cap0, rfl⟩ := okWide_slice Tryd.underlying22 (hval 0 22 v0 rfl rfl)
  have k0 := h0
  have lt0 : ∀ x ∈ p0, x.block < W.heap.size := by obtain ⟨m, hm⟩ := k0; exact DataW.trod_lt m _ _ _ hm
  obtain ⟨z0, w0⟩ := insns_open h0 lt0
  have k1 := h1
  have lt1 : ∀ x ∈ p1, x.block < W.heap.size := by obtain ⟨m, hm⟩ := k1; exact DataW.trod_lt m _ _ _ hm
  obtain ⟨a1, w1, rfl⟩ := data_open (hval 1 27 v1 rfl rfl) h1
  clear hA0 hval0
  refine (walk HC a0 len0 cap0 z0 a1 W hG w0 w1).mono fun e W' ⟨he, bel⟩ => ?_
  subst he
  exact ⟨_, rfl, _, _, _, [], _, [], hW', trodAll_mk1 (shut_bool Tryd.underlying4 _), (trodAll_cons_mk (Below.trod laidOut (by kernel_rfl) (of_decide_eq_true (by kernel_rfl)) k0 bel lt0) (trodAll_cons_mk (Below.trod laidOut (by kernel_rfl) (of_decide_eq_true (by kernel_rfl)) k1 bel lt1) trodAll_mk0)), rfl, bel.frame _, fun h => by cases h⟩

theorem over (HC : VmC GW) : Rows.vmRunsRow.holds Tryd.pinned (OpenSpec.ofChange Rows.vmRunsSpec) :=
  OpenClaim.holds_of_wide 3 Tryd.f3 rfl rfl rfl rfl rfl rfl rfl ⟨rfl, rfl, rfl, rfl, rfl⟩ rfl rfl rfl rfl rfl (by kernel_rfl) Tryd.func3 (by kernel_rfl)
    (of_decide_eq_true (by kernel_rfl)) (by unfold Func.isWrapper; first | (rw [if_pos (by decide +kernel)]; kernel_rfl) | (rw [if_neg (by decide +kernel)]; exact ⟨rfl, rfl⟩))
    (fun os started H enc _ => lifted HC os started H enc)

/-- The row's statement. -/
theorem row_holds : Rows.VmRunsSaid := over vmC
/-- The statement: the row, its table tied to the program's text. -/
theorem proved : Rows.VmRunsCardSaid :=
  Claim7.holds_tied_plain_at .later [] [.data] true Rows.vmRunsCard.stood.harness Rows.vmRunsCard.stood.looks
    row_holds (fun _ h => by cases h) (by kernel_rfl) (fun _ h => by cases h) vmRuns_row_tie rfl ⟨rfl, rfl⟩ (by kernel_rfl) rfl
    (fun f fn hf hfn => by
      obtain rfl : f = 3 := Option.some.inj ((show Tryd.prog.funcNamed "vestibule/vestibulelaw04.VmRuns" = some 3 by kernel_rfl).symm.trans hf) |>.symm
      obtain rfl : fn = Tryd.f3 := (Option.some.inj (Tryd.func3.symm.trans hfn)).symm
      exact ⟨by kernel_rfl, fun j t ht => by
        have hm : t ∈ Tryd.f3.params.toList := by simpa using Array.mem_of_getElem? ht
        have hall : (Tryd.f3.params.toList.all fun u => !Tryd.prog.wantsStandIn u) = true := by kernel_rfl
        exact (show Tryd.prog.wantsStandIn t = false by simpa using List.all_eq_true.1 hall t hm)⟩)
    (by kernel_rfl)
#print axioms proved

end Go.Proofs.YtinfbmfmmbibbaaDoor.vmRuns
