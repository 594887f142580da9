/- The statement VmEnds holds: each place is done once at most, rising; there are as many steps as instructions at most. No condition. -/
import Derived.Test.YtinfbmfmmbibbaaDoorRows
import Derived.Test.YtinfbmfmmbibbaaDoorCards
import Derived.Test.YtinfbmfmmbibbaaDoorTie
import Derived.SevenTiedAt
import Derived.Test.YtinfbmfmmbibbaaDoorFr
import Derived.Test.YtinfbmfmmbibbaaDoorLw
import Derived.Test.YtinfbmfmmbibbaaDoorNp
import Derived.Test.YtinfbmfmmbibbaaDoorVi
import Derived.Test.YtinfbmfmmbibbaaDoorDd
import Derived.Test.YtinfbmfmmbibbaaDoorId
import Derived.Deep.RegionHeld3
import Derived.BigQuiet
import Derived.Deep.QuietTactic
namespace Go.Proofs.YtinfbmfmmbibbaaDoor.vmEnds
open Go.ChangeShapes Go.WideShapes Go.ChangeAt Go.RowKit
open Go.ChangeMaps (open_string shut_string)
set_option linter.unusedVariables false
attribute [local go_sem ↓] Go.wp_at_zero Go.wp_at_succ

theorem run_head (p : List Ins) (d : Dat) (h : 0 < (runL p d).pl.length) : (runL p d).pl.getD 0 0 = 0 := by
  have key : (runL p d).pl = [] ∨ [0] <+: (runL p d).pl := by
    unfold runL
    simp only [runF]
    split
    · exact Or.inl rfl
    · split
      · exact Or.inr (List.prefix_refl _)
      · exact Or.inr (List.prefix_refl _)
      · exact Or.inr (runF_ahead p d _ _ _ _ _ _ _)
  rcases key with e | ⟨t, ht⟩
  · rw [e] at h; exact absurd h (by simp)
  · rw [← ht]; rfl
theorem rise_step {l : List Nat} (h : l.Pairwise (· < ·)) {i : Nat} (hi : i + 1 < l.length) : l.getD i 0 < l.getD (i + 1) 0 := by
  have := List.pairwise_iff_getElem.1 h i (i + 1) (by omega) hi (by omega)
  rw [List.getD_eq_getElem?_getD, List.getD_eq_getElem?_getD, List.getElem?_eq_getElem (by omega), List.getElem?_eq_getElem hi]
  exact this
theorem plV_get {l : List Nat} {i : Nat} (h : i < l.length) : (plV l)[i]? = some (.int .i64 ((l.getD i 0 : Nat) : Int)) := by
  unfold plV
  rw [List.getElem?_map, List.getD_eq_getElem?_getD, List.getElem?_eq_getElem h]; rfl
/-- The slice's cells are the places. -/
theorem pl_cells {w : World} {B c : Nat} {q : Option Addr} {l : List Nat} (h : w.ownsRow B 3 1 (.slice q l.length c) l.length (plV l)) (h0 : 0 < l.length) : ∃ g, q = some ⟨g, 0, none⟩ ∧ ∀ i, i < l.length → w.cell? ⟨g, i, none⟩ = some (.int .i64 ((l.getD i 0 : Nat) : Int)) := by
  obtain ⟨g, c', e⟩ := own_some h h0
  injection e with e1 e2 e3
  subst e1
  refine ⟨g, rfl, fun i hi => ?_⟩
  rw [h.cellAt i (by omega)]
  exact plV_get hi
set_option maxRecDepth 100000 in
set_option maxHeartbeats 16000000 in
theorem walk {G : World → Prop} (HC : VmC G) (a0 : Option Addr) (len0 cap0 : Nat) (z0 : List Ins) (a1 : Dat) (w : World) (hG : G w) (w0 : IsInsns w a0 len0 cap0 z0) (w1 : a1.Ok) :
    Calls Tryd.prog 5 #[.slice a0 len0 cap0, datV a1] w fun e w' => e = .returned (.bool true) ∧ Below w.heap.size w w' := by
  have bx := BoxD.new w a1
  have HA := Lib.hid (awake4_any HC (w.alloc (.cells (datC a1) 27)) (HC.al hG _))
  have HON := Lib.hid (fun (w w' : World) => HC.on (w := w) (w' := w'))
  have HG0 := Lib.hid (HC.al hG (.cells (datC a1) 27))
  have HR := Lib.hid w0
  by_cases hbig : (300 : Int) < len0
  · clear HC w1 hG w0
    unfold datV at *
    unfold datC at *
    go_enter Tryd.func5, Tryd.ntmps5
    go_wp2_with (go_at_call 13; ((with_reducible refine (HA.out).mono ?_); rintro e v1 ⟨rfl, b1⟩))
    go_ret
    exact ⟨rfl, ((Below.refl _ _).alloc (Nat.le_refl _) _).trans (b1.mono (by simp))⟩
  · have HX := Lib.hid (fun (W : World) (g : G W) (h : RdI W W.heap.size a0 z0) => HC.run a0 len0 cap0 z0 a1 W g w0.size (by omega) w0.ok w1 w0.fits w0.most w0.nil h)
    have HT := Lib.hid (fun (W : World) (g : G W) (h : RdI W W.heap.size a0 z0) => HC.trace a0 len0 cap0 z0 a1 W g w0.size (by omega) w0.ok w1 w0.fits w0.most w0.nil h)
    have good := runL_good z0 a1
    have hpn := rise_bound z0.length good.rise good.below
    have hsz := w0.size
    have hhead := Lib.hid (run_head z0 a1)
    have hbelow : ∀ i, i < (runL z0 a1).pl.length → (runL z0 a1).pl.getD i 0 < len0 := fun i hi => by
      rw [List.getD_eq_getElem?_getD, List.getElem?_eq_getElem hi, ← hsz]; exact good.below _ (List.getElem_mem hi)
    have HBE := Lib.hid hbelow
    have HRI := Lib.hid (fun (i : Nat) => rise_step good.rise (i := i))
    obtain ⟨r, hr⟩ : ∃ r, r = runL z0 a1 := ⟨_, rfl⟩
    rw [← hr] at HX HT good hpn hhead HBE HRI
    obtain ⟨ans, steps, pl, err⟩ := r
    have g1 := good.s1
    have g2 := good.s2
    have g3 := good.e0
    have g4 := good.e1
    have g5 := good.e2
    unfold RunV at HX
    unfold TraceV at HT
    simp only at HX HT g1 g2 g3 g4 g5 hpn hhead HBE HRI
    clear HC good hr hbelow
    obtain ⟨m, hm⟩ : ∃ m, m = pl.length := ⟨_, rfl⟩
    rw [← hm] at g1 g2 g4 hpn HT
    have HM := Lib.hid hm
    have t1 : ¬ (len0 : Int) < steps := by omega
    have t2 : ¬ (m : Int) < steps := by omega
    have t3 : ¬ (steps : Int) + 1 < m := by omega
    have t6 : decide ((300 : Int) < len0) = false := decide_eq_false hbig
    have t8 : decide (len0 < steps) = false := decide_eq_false (by omega)
    have t9 : decide (m < steps) = false := decide_eq_false (by omega)
    have t7 : decide ((steps : Int) + 1 < m) = false := decide_eq_false t3
    have k1 : (m : Int) ≤ 300 := by omega
    have k2 : (steps : Int) ≤ 300 := by omega
    have hrd := Lib.hid w0.rd
    clear w1 hG w0 hm hpn hsz
    unfold datV at *
    unfold datC at *
    by_cases he : err = 0
    · have g6 : m = steps := g4 he
      subst he g6
      clear g1 g2 g3 g4 g5
      go_enter Tryd.func5, Tryd.ntmps5
      go_wp2_with (first
        | (go_at_call 13; ((with_reducible refine (HA.out).mono ?_); rintro e v1 ⟨rfl, b1⟩); have G1 := HON.out _ _ HG0.out b1; have R1 := (hrd.out.on ((Below.refl _ _).alloc (Nat.le_refl _) _)).on b1; have B1 : Below w.heap.size w v1 := ((Below.refl _ _).alloc (Nat.le_refl _) _).trans (b1.mono (by simp)); have bx1 := BoxD.on (d := a1) bx b1; obtain ⟨x0, x1, x2, x3, x4, x5, x6, x7, x8⟩ := bx1.cells)
        | (go_at_call 9; ((with_reducible refine (HX.out _ G1 R1).mono ?_); rintro e v2 ⟨rfl, b2⟩); have G2 := HON.out _ _ G1 b2; have R2 := R1.on b2; have B2 := thn B1 b2; have bx2 := bx1.on b2; clear x0 x1 x2 x3 x4 x5 x6 x7 x8; obtain ⟨x0, x1, x2, x3, x4, x5, x6, x7, x8⟩ := bx2.cells)
        | (go_at_call 10; ((with_reducible refine (HT.out _ G2 R2).mono ?_); rintro e v3 ⟨q, c, rfl, o3, b3⟩); have B3 := thn B2 b3; have HO := Lib.hid o3; clear o3 x0 x1 x2 x3 x4 x5 x6 x7 x8))
      clear G1 G2 R1 R2 bx1 bx2 HA HX HT HON HG0 HR hrd bx B1 B2 b1 b2
      go_loopw [9] (fun i wr => ∃ k : Nat, k ≤ m ∧ i = .int .i64 k ∧ Below v3.heap.size v3 wr) (fun i _ => m - (intOf i).toNat)
      case atStart => exact ⟨0, Nat.zero_le _, rfl, Below.refl _ _⟩
      case round =>
        obtain ⟨k, hk, rfl, hb⟩ := hrel
        obtain ⟨W, rfl⟩ : ∃ wo : World, wo = wr := ⟨_, rfl⟩
        by_cases hlt : k < m
        · have how := own_on HO.out hb
          rw [HM.out] at how
          obtain ⟨g, hq, hc⟩ := pl_cells how (by have := HM.out; omega)
          subst hq
          have c1 := hc k (by have := HM.out; omega)
          have hx := HBE.out k (by have := HM.out; omega)
          match k, hlt with
          | 0, hlt =>
            have hx0 : pl.getD 0 0 = 0 := hhead.out (by have := HM.out; omega)
            rw [hx0] at c1
            have l1 : (0 : Int) < len0 := by have := hx; omega
            have l2 : ¬ (len0 : Int) ≤ 0 := by omega
            have l3 : decide ((len0 : Int) ≤ 0) = false := decide_eq_false l2
            have l5 : decide (len0 = 0) = false := decide_eq_false (by omega)
            have l4 : (0 : Int) < m := by omega
            have c1' : W.cell? ⟨g, 0, none⟩ = some (.int .i64 0) := c1
            clear hx hc how hx0 c1
            go_wp2_with fail
            go_quiet (fail)
            go_wp2
            go_roundw
            case rel => exact ⟨1, by omega, by go_num, hb.trans ⟨rfl, rfl, rfl, Nat.le_refl _, fun _ _ => rfl⟩⟩
            case measure => simp [intOf]; omega
          | j + 1, hlt =>
            have c0 := hc j (by have := HM.out; omega)
            have hs := HRI.out j (by have := HM.out; omega)
            obtain ⟨x, hxx⟩ : ∃ x, x = pl.getD (j + 1) 0 := ⟨_, rfl⟩
            obtain ⟨y, hyy⟩ : ∃ y, y = pl.getD j 0 := ⟨_, rfl⟩
            rw [← hxx] at c1 hx hs
            rw [← hyy] at c0 hs
            have l1 : (x : Int) < len0 := by omega
            have l2 : ¬ (len0 : Int) ≤ x := by omega
            have l3 : decide ((len0 : Int) ≤ x) = false := decide_eq_false l2
            have l4 : (j : Int) + 1 < m := by omega
            have l5 : ¬ (x : Int) ≤ y := by omega
            have l6 : decide ((x : Int) ≤ y) = false := decide_eq_false l5
            have l7 : (0 : Int) ≤ j := by omega
            have l10 : decide ((x : Int) < 0) = false := decide_eq_false (by omega)
            have l11 : ((j : Int) + 1 == 0) = false := by simp; omega
            have l8 : decide (len0 ≤ x) = false := decide_eq_false (by omega)
            have l9 : decide (x ≤ y) = false := decide_eq_false (by omega)
            clear hxx hyy hc how hx hs hlt
            go_wp2_with fail
            go_quiet (fail)
            go_wp2
            go_roundw
            case rel => exact ⟨j + 2, by omega, by go_num, hb.trans ⟨rfl, rfl, rfl, Nat.le_refl _, fun _ _ => rfl⟩⟩
            case measure => simp [intOf]; omega
        · obtain rfl : k = m := by omega
          go_wp2_with fail
          go_ret
          exact ⟨rfl, thn B3 hb⟩
    · have g6 : ans = 0 := g3 he
      subst g6
      have t4 : (err != 0) = true := by simpa using he
      have t5 : (err == 0) = false := by simpa using he
      clear g1 g2 g3 g4 g5
      go_enter Tryd.func5, Tryd.ntmps5
      go_wp2_with (first
        | (go_at_call 13; ((with_reducible refine (HA.out).mono ?_); rintro e v1 ⟨rfl, b1⟩); have G1 := HON.out _ _ HG0.out b1; have R1 := (hrd.out.on ((Below.refl _ _).alloc (Nat.le_refl _) _)).on b1; have B1 : Below w.heap.size w v1 := ((Below.refl _ _).alloc (Nat.le_refl _) _).trans (b1.mono (by simp)); have bx1 := BoxD.on (d := a1) bx b1; obtain ⟨x0, x1, x2, x3, x4, x5, x6, x7, x8⟩ := bx1.cells)
        | (go_at_call 9; ((with_reducible refine (HX.out _ G1 R1).mono ?_); rintro e v2 ⟨rfl, b2⟩); have G2 := HON.out _ _ G1 b2; have R2 := R1.on b2; have B2 := thn B1 b2; have bx2 := bx1.on b2; clear x0 x1 x2 x3 x4 x5 x6 x7 x8; obtain ⟨x0, x1, x2, x3, x4, x5, x6, x7, x8⟩ := bx2.cells)
        | (go_at_call 10; ((with_reducible refine (HT.out _ G2 R2).mono ?_); rintro e v3 ⟨q, c, rfl, o3, b3⟩); have B3 := thn B2 b3; have HO := Lib.hid o3; clear o3 x0 x1 x2 x3 x4 x5 x6 x7 x8))
      clear G1 G2 R1 R2 bx1 bx2 HA HX HT HON HG0 HR hrd bx B1 B2 b1 b2
      go_loopw [9] (fun i wr => ∃ k : Nat, k ≤ m ∧ i = .int .i64 k ∧ Below v3.heap.size v3 wr) (fun i _ => m - (intOf i).toNat)
      case atStart => exact ⟨0, Nat.zero_le _, rfl, Below.refl _ _⟩
      case round =>
        obtain ⟨k, hk, rfl, hb⟩ := hrel
        obtain ⟨W, rfl⟩ : ∃ wo : World, wo = wr := ⟨_, rfl⟩
        by_cases hlt : k < m
        · have how := own_on HO.out hb
          rw [HM.out] at how
          obtain ⟨g, hq, hc⟩ := pl_cells how (by have := HM.out; omega)
          subst hq
          have c1 := hc k (by have := HM.out; omega)
          have hx := HBE.out k (by have := HM.out; omega)
          match k, hlt with
          | 0, hlt =>
            have hx0 : pl.getD 0 0 = 0 := hhead.out (by have := HM.out; omega)
            rw [hx0] at c1
            have l1 : (0 : Int) < len0 := by have := hx; omega
            have l2 : ¬ (len0 : Int) ≤ 0 := by omega
            have l3 : decide ((len0 : Int) ≤ 0) = false := decide_eq_false l2
            have l5 : decide (len0 = 0) = false := decide_eq_false (by omega)
            have l4 : (0 : Int) < m := by omega
            have c1' : W.cell? ⟨g, 0, none⟩ = some (.int .i64 0) := c1
            clear hx hc how hx0 c1
            go_wp2_with fail
            go_quiet (fail)
            go_wp2
            go_roundw
            case rel => exact ⟨1, by omega, by go_num, hb.trans ⟨rfl, rfl, rfl, Nat.le_refl _, fun _ _ => rfl⟩⟩
            case measure => simp [intOf]; omega
          | j + 1, hlt =>
            have c0 := hc j (by have := HM.out; omega)
            have hs := HRI.out j (by have := HM.out; omega)
            obtain ⟨x, hxx⟩ : ∃ x, x = pl.getD (j + 1) 0 := ⟨_, rfl⟩
            obtain ⟨y, hyy⟩ : ∃ y, y = pl.getD j 0 := ⟨_, rfl⟩
            rw [← hxx] at c1 hx hs
            rw [← hyy] at c0 hs
            have l1 : (x : Int) < len0 := by omega
            have l2 : ¬ (len0 : Int) ≤ x := by omega
            have l3 : decide ((len0 : Int) ≤ x) = false := decide_eq_false l2
            have l4 : (j : Int) + 1 < m := by omega
            have l5 : ¬ (x : Int) ≤ y := by omega
            have l6 : decide ((x : Int) ≤ y) = false := decide_eq_false l5
            have l7 : (0 : Int) ≤ j := by omega
            have l10 : decide ((x : Int) < 0) = false := decide_eq_false (by omega)
            have l11 : ((j : Int) + 1 == 0) = false := by simp; omega
            have l8 : decide (len0 ≤ x) = false := decide_eq_false (by omega)
            have l9 : decide (x ≤ y) = false := decide_eq_false (by omega)
            clear hxx hyy hc how hx hs hlt
            go_wp2_with fail
            go_quiet (fail)
            go_wp2
            go_roundw
            case rel => exact ⟨j + 2, by omega, by go_num, hb.trans ⟨rfl, rfl, rfl, Nat.le_refl _, fun _ _ => rfl⟩⟩
            case measure => simp [intOf]; omega
        · obtain rfl : k = m := by omega
          go_wp2_with fail
          go_ret
          exact ⟨rfl, thn B3 hb⟩

set_option maxRecDepth 100000 in
theorem lifted (HC : VmC GW) (os : Os) (started : os.Started) (H : Type) (enc : TypeId × Value → H) :
    ReturnsInHanded {} Tryd.checked os 5 .any (fun w args => (Rows.vmEndsSpec.pre enc Tryd.prog Tryd.f5 [] false w args ∧ laidMetH Tryd.prog listed w) ∧ sizedMet enc Tryd.prog Tryd.f5 (OpenSpec.ofChange Rows.vmEndsSpec) false w args)
      (Rows.vmEndsSpec.post enc Tryd.prog Tryd.f5 false true false false) := by
  refine returnsInHanded_of_change_and (C := Tryd.checked) (X := fun w _ => laidMetH Tryd.prog listed w) (fun _ _ _ hh h => h.of_heap hh) ownKnob_none started (by kernel_rfl) Tryd.func5
    (ChangeSpec.witness_shaped (enc := enc) (C := Tryd.checked) (os := os) (X := fun w _ => laidMetH Tryd.prog listed w) false (World.doorLaid Tryd.prog 400 os) #[.slice none 0 0, .agg #[.int .u32 0, .int .u32 0, .int .u64 0, .int .u64 0, .int .u64 0, .int .u64 0, .int .u64 0, .int .u64 0, .int .u64 0]] 8 rfl (World.shaped_of_RefB (by kernel_rfl) (by kernel_rfl)) (by kernel_rfl) (by kernel_rfl) (by kernel_rfl) (door_met os _)) ?_
  intro W base args ds gs before hval0 hW _ _ hL _
  have hG : GW W := of_laid hL
  have hval : ∀ (j : Nat) t v, Tryd.f5.params[j]? = some t → args[j]? = some v → Value.okWide Tryd.prog W .any base t v := hval0
  have hW' := hW
  obtain ⟨p, q, hA0, hV, rfl, hfz, hnd⟩ := hW
  have hA : DataW.TrodAll enc Tryd.prog W 0 (fun _ => true) true Tryd.f5.params.toList args.toList ds p := hA0
  rw [Tryd.params5] at hA hval
  obtain ⟨v0, vs0, d0, ds0, p0, q0, hargs, rfl, rfl, h0, r0⟩ := trodAll_cons hA
  obtain ⟨v1, vs1, d1, ds1, p1, q1, rfl, rfl, rfl, h1, r1⟩ := trodAll_cons r0
  obtain ⟨rfl, rfl, rfl⟩ := trodAll_nil r1
  obtain rfl : args = #[v0, v1] := by cases args; simp_all
  obtain ⟨rfl, rfl⟩ := trodVars_none hV
  obtain ⟨a0, len0, cap0, rfl⟩ := okWide_slice Tryd.underlying22 (hval 0 22 v0 rfl rfl)
  have k0 := h0
  have lt0 : ∀ x ∈ p0, x.block < W.heap.size := by obtain ⟨m, hm⟩ := k0; exact DataW.trod_lt m _ _ _ hm
  obtain ⟨z0, w0⟩ := insns_open h0 lt0
  have k1 := h1
  have lt1 : ∀ x ∈ p1, x.block < W.heap.size := by obtain ⟨m, hm⟩ := k1; exact DataW.trod_lt m _ _ _ hm
  obtain ⟨a1, w1, rfl⟩ := data_open (hval 1 27 v1 rfl rfl) h1
  clear hA0 hval0
  refine (walk HC a0 len0 cap0 z0 a1 W hG w0 w1).mono fun e W' ⟨he, bel⟩ => ?_
  subst he
  exact ⟨_, rfl, _, _, _, [], _, [], hW', trodAll_mk1 (shut_bool Tryd.underlying4 _), (trodAll_cons_mk (Below.trod laidOut (by kernel_rfl) (of_decide_eq_true (by kernel_rfl)) k0 bel lt0) (trodAll_cons_mk (Below.trod laidOut (by kernel_rfl) (of_decide_eq_true (by kernel_rfl)) k1 bel lt1) trodAll_mk0)), rfl, bel.frame _, fun h => by cases h⟩

theorem over (HC : VmC GW) : Rows.vmEndsRow.holds Tryd.pinned (OpenSpec.ofChange Rows.vmEndsSpec) :=
  OpenClaim.holds_of_wide 5 Tryd.f5 rfl rfl rfl rfl rfl rfl rfl ⟨rfl, rfl, rfl, rfl, rfl⟩ rfl rfl rfl rfl rfl (by kernel_rfl) Tryd.func5 (by kernel_rfl)
    (of_decide_eq_true (by kernel_rfl)) (by unfold Func.isWrapper; first | (rw [if_pos (by decide +kernel)]; kernel_rfl) | (rw [if_neg (by decide +kernel)]; exact ⟨rfl, rfl⟩))
    (fun os started H enc _ => lifted HC os started H enc)

/-- The row's statement. -/
theorem row_holds : Rows.VmEndsSaid := over vmC
/-- The statement: the row, its table tied to the program's text. -/
theorem proved : Rows.VmEndsCardSaid :=
  Claim7.holds_tied_plain_at .later [] [.data] true Rows.vmEndsCard.stood.harness Rows.vmEndsCard.stood.looks
    row_holds (fun _ h => by cases h) (by kernel_rfl) (fun _ h => by cases h) vmEnds_row_tie rfl ⟨rfl, rfl⟩ (by kernel_rfl) rfl
    (fun f fn hf hfn => by
      obtain rfl : f = 5 := Option.some.inj ((show Tryd.prog.funcNamed "vestibule/vestibulelaw04.VmEnds" = some 5 by kernel_rfl).symm.trans hf) |>.symm
      obtain rfl : fn = Tryd.f5 := (Option.some.inj (Tryd.func5.symm.trans hfn)).symm
      exact ⟨by kernel_rfl, fun j t ht => by
        have hm : t ∈ Tryd.f5.params.toList := by simpa using Array.mem_of_getElem? ht
        have hall : (Tryd.f5.params.toList.all fun u => !Tryd.prog.wantsStandIn u) = true := by kernel_rfl
        exact (show Tryd.prog.wantsStandIn t = false by simpa using List.all_eq_true.1 hall t hm)⟩)
    (by kernel_rfl)
#print axioms proved

end Go.Proofs.YtinfbmfmmbibbaaDoor.vmEnds
