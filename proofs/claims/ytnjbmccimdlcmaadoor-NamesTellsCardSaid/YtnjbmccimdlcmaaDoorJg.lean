/- The statement NamesTells holds, over what the calls have to return: numbers' names, all flags, those that are in a number. -/
import Derived.Test.YtnjbmccimdlcmaaDoorRows
import Derived.Test.YtnjbmccimdlcmaaDoorCards
import Derived.Test.YtnjbmccimdlcmaaDoorTie
import Derived.SevenTiedAt
import Derived.Test.YtnjbmccimdlcmaaDoorFr
import Derived.Test.YtnjbmccimdlcmaaDoorJr
import Derived.Test.YtnjbmccimdlcmaaDoorJq
import Derived.Test.YtnjbmccimdlcmaaDoorJe
import Derived.Deep.RegionWith
import Derived.BigQuiet
import Derived.Deep.QuietTactic
import Derived.WalkSmall
namespace Go.Proofs.YtnjbmccimdlcmaaDoor.namesTells
open Go.ChangeShapes Go.WideShapes Go.ChangeAt Go.RowKit
open Go.ChangeMaps (open_string shut_string)
set_option linter.unusedVariables false
attribute [local go_sem ↓] Go.wp_at_zero Go.wp_at_succ
set_option linter.unusedSimpArgs false
theorem thnN {u v w : World} (h : Below u.heap.size u v) (k : Below v.heap.size v w) : Below u.heap.size u w := h.trans (k.mono h.size)
theorem ownOnN {w w' : World} {B n s : Nat} {e : TypeId} {v : Value} {xs : List Value} (h : w.ownsRow B e s v n xs) (b : Below w.heap.size w w') : w'.ownsRow B e s v n xs := by
  refine ⟨h.1, ?_⟩
  rcases h.2 with h2 | ⟨g, cap, cur, hv, hgB, hg, r⟩
  · exact Or.inl h2
  · exact Or.inr ⟨g, cap, cur, hv, hgB, (b.block g (Array.getElem?_eq_some_iff.1 hg).1).trans hg, r⟩
set_option maxRecDepth 100000 in
set_option maxHeartbeats 16000000 in
theorem walk {G : World → Prop} (HC : NamesC G) (a0 : Int) (a1 : Int) (w : World) (hG : G w) (w0 : (Lit.int .u32 a0).wf = true) (w1 : (Lit.int .u64 a1).wf = true) :
    Calls Tryd.prog 4 #[.int .u32 a0, .int .u64 a1] w fun e w' => e = .returned (.bool true) ∧ Below w.heap.size w w' := by
  obtain ⟨n0, n1⟩ := bounds_u32 w0
  obtain ⟨m0, m1⟩ := bounds_u64 w1
  obtain ⟨n, rfl⟩ := Int.eq_ofNat_of_zero_le n0
  obtain ⟨x, rfl⟩ := Int.eq_ofNat_of_zero_le m0
  have hn : n < 4294967296 := by omega
  have hx : x < 18446744073709551616 := by omega
  have HON := Lib.hid (fun (w w' : World) => HC.on (w := w) (w' := w'))
  have HG := Lib.hid hG
  have HL := Lib.hid (fun (W : World) (g : G W) => HC.flags x W g hx)
  have RL := Lib.hid (fun (W : World) => refFlags10 x hx W)
  have HS := Lib.hid (fun (W : World) (g : G W) => HC.spaces W g)
  have RS := Lib.hid (fun (W : World) => refAll10 W)
  have HE := Lib.hid (fun (W : World) (g : G W) => HC.errnoName n W g hn)
  have RE := Lib.hid (fun (W : World) => refErrnoName n hn W)
  have HF := Lib.hid (fun (W : World) (g : G W) => HC.familyName n W g hn)
  have HP := Lib.hid (fun (W : World) (g : G W) => HC.spaceName x W g hx)
  have RT := Lib.hid (fun (W : World) => refFamilies W)
  have RU := Lib.hid (fun (W : World) => refSpaces W)
  have RF := Lib.hid (fun (g : Nat) (W : World) (h : RowsN W g famT) => refName famT g n W (by decide) h (by omega))
  have RP := Lib.hid (fun (g : Nat) (W : World) (h : RowsN W g spcT) => refName spcT g x W (by decide) h (by omega))
  have HA := Lib.hid (fun (W : World) (g : G W) => awake10_any HC W g)
  unfold TabTo at RT RU
  rw [Int.toNat_natCast] at RF RP
  rw [show (nameR famT n).getD ⟨#[]⟩ = nmS (nameR famT n) from rfl] at RF
  rw [show (nameR spcT x).getD ⟨#[]⟩ = nmS (nameR spcT x) from rfl] at RP
  obtain ⟨ne, hne⟩ : ∃ t, t = errnoNameR n := ⟨_, rfl⟩
  obtain ⟨nf, hnf⟩ : ∃ t, t = nmS (nameR famT n) := ⟨_, rfl⟩
  obtain ⟨np, hnp⟩ : ∃ t, t = nmS (nameR spcT x) := ⟨_, rfl⟩
  obtain ⟨L, hL⟩ : ∃ t, t = flagsR x := ⟨_, rfl⟩
  rw [← hne] at HE RE
  rw [← hnf] at HF RF
  rw [← hnp] at HP RP
  rw [← hL] at HL RL
  have hle : L.length ≤ 8 := by rw [hL]; exact flags_le x 8
  obtain ⟨c, hc⟩ : ∃ c, c = L.length := ⟨_, rfl⟩
  rw [← hc] at HL RL hle
  have HCL := Lib.hid hc
  obtain ⟨al, hal⟩ : ∃ a, a = allN := ⟨_, rfl⟩
  rw [← hal] at HS RS
  have t1 : (ne.toList == ne.toList) = true := by simp
  have t2 : (nf.toList == nf.toList) = true := by simp
  have t3 : (np.toList == np.toList) = true := by simp
  have u1 : IntKind.u64.wrap (n : Int) = n := by rw [IntKind.wrap_u64]; omega
  clear HC hG w0 w1 n0 n1 m0 m1 hne hnf hnp hL hc hal hn hx
  go_enter Tryd.func4, Tryd.ntmps4
  go_wp2_with (first
    | (go_at_call 15; ((with_reducible refine (HL.out _ HG.out).mono ?_); rintro e v1 ⟨q1, c1, rfl, o1, b1⟩); have G1 := HON.out _ _ HG.out b1)
    | (go_at_call 16; ((with_reducible refine (RL.out _).mono ?_); rintro e v2 ⟨q2, c2, rfl, o2, b2⟩); have G2 := HON.out _ _ G1 b2; have B2 := thnN b1 b2; have O12 := ownOnN o1 b2)
    | (go_at_call 17; ((with_reducible refine (HS.out _ G2).mono ?_); rintro e v3 ⟨rfl, b3⟩); have G3 := HON.out _ _ G2 b3; have B3 := thnN B2 b3)
    | (go_at_call 18; ((with_reducible refine (RS.out _).mono ?_); rintro e v4 ⟨rfl, b4⟩); have G4 := Lib.hid (HON.out _ _ G3 b4); have B4 := Lib.hid (thnN B3 b4); have O1 := Lib.hid (ownOnN O12 (thnN b3 b4)); have O2 := Lib.hid (ownOnN o2 (thnN b3 b4))))
  clear o1 o2 O12 G1 G2 G3 b1 b2 b3 b4 B2 B3
  go_loopw [7] (fun v7 wr => ∃ (k : Nat), k ≤ c ∧ v7 = .int .i64 k ∧ Hid (Below v4.heap.size v4 wr)) (fun v7 _ => c - (intOf v7).toNat)
  case atStart => exact ⟨0, by omega, rfl, Lib.hid (Below.refl _ _)⟩
  case round =>
    obtain ⟨k, hk, rfl, PB⟩ := hrel
    obtain ⟨V, rfl⟩ : ∃ wo : World, wo = wr := ⟨_, rfl⟩
    by_cases hlt : k < c
    · have hkl : L[k]? = some (L[k]'(by rw [← HCL.out]; exact hlt)) := List.getElem?_eq_getElem _
      obtain ⟨y, hy⟩ : ∃ y, y = L[k]'(by rw [← HCL.out]; exact hlt) := ⟨_, rfl⟩
      rw [← hy] at hkl
      obtain ⟨g1, d1, e1, f1, h1⟩ := O1.out.form (by omega)
      injection e1 with e11 e12 e13
      subst e11 e13
      obtain ⟨g2, d2, e2, f2, h2⟩ := O2.out.form (by omega)
      injection e2 with e21 e22 e23
      subst e21 e23
      have c0 := ((ownOnN O1.out PB.out).cellAt k (by omega)).trans (u64N_get hkl)
      have c1 := ((ownOnN O2.out PB.out).cellAt k (by omega)).trans (u64N_get hkl)
      have k1 : (k : Int) < (c : Int) := by omega
      have k0 : (0 : Int) ≤ k := by omega
      have hw1 : IntKind.i64.wrap ((k : Int) + 1) = k + 1 := by rw [IntKind.wrap_i64]; omega
      have ty : ((y : Int) != (y : Int)) = false := by simp
      clear hy hkl e12 e22 h1 h2
      go_wp2_with fail
      go_quiet (fail)
      go_wp2_with fail
      go_roundw
      case rel => exact ⟨k + 1, by omega, by go_num, Lib.hid (below_drewN PB.out _)⟩
      case measure => simp [intOf]; omega
    · obtain rfl : k = c := by omega
      have k1 : ¬ (k : Int) < (k : Int) := by omega
      have G4' := HON.out _ _ G4.out PB.out
      go_wp2_with (first
        | (go_at_call 19; ((with_reducible refine (HE.out _ G4').mono ?_); rintro e w1 ⟨rfl, a1⟩); have Ga := HON.out _ _ G4' a1)
        | (go_at_call 20; ((with_reducible refine (RE.out _).mono ?_); rintro e w2 ⟨rfl, a2⟩); have Gb := HON.out _ _ Ga a2; have Ab := thnN a1 a2)
        | (go_at_call 21; ((with_reducible refine (HF.out _ Gb).mono ?_); rintro e w3 ⟨rfl, a3⟩); have Gc := HON.out _ _ Gb a3; have Ac := thnN Ab a3)
        | (go_at_call 12; ((with_reducible refine (RT.out _).mono ?_); rintro e w4 ⟨rfl, r4, a4⟩); have Gd := HON.out _ _ Gc a4; have Ad := thnN Ac a4; have R4 := Lib.hid r4; clear r4)
        | (go_at_call 22; ((with_reducible refine (RF.out _ _ R4.out).mono ?_); rintro e w5 ⟨rfl, rfl⟩); skip)
        | (go_at_call 23; ((with_reducible refine (HP.out _ Gd).mono ?_); rintro e w6 ⟨rfl, a6⟩); have Ge := HON.out _ _ Gd a6; have Ae := thnN Ad a6)
        | (go_at_call 13; ((with_reducible refine (RU.out _).mono ?_); rintro e w7 ⟨rfl, r7, a7⟩); have Gf := HON.out _ _ Ge a7; have Af := thnN Ae a7; have R7 := Lib.hid r7; clear r7)
        | (go_at_call 22; ((with_reducible refine (RP.out _ _ R7.out).mono ?_); rintro e w8 ⟨rfl, rfl⟩); skip)
        | (go_at_call 14; ((with_reducible refine (HA.out _ Gf).mono ?_); rintro e w9 ⟨rfl, a9⟩); have Ag := thnN Af a9))
      go_ret
      exact ⟨by first | rfl | simp, thnN B4.out (thnN PB.out Ag)⟩

set_option maxRecDepth 100000 in
theorem lifted (HC : NamesC GN) (os : Os) (started : os.Started) (H : Type) (enc : TypeId × Value → H) :
    ReturnsInHanded {} Tryd.checked os 4 .any (fun w args => (Rows.namesTellsSpec.pre enc Tryd.prog Tryd.f4 [] false w args ∧ laidMetH Tryd.prog listed10 w) ∧ sizedMet enc Tryd.prog Tryd.f4 (OpenSpec.ofChange Rows.namesTellsSpec) false w args)
      (Rows.namesTellsSpec.post enc Tryd.prog Tryd.f4 false true false false) := by
  refine returnsInHanded_of_change_and (C := Tryd.checked) (X := fun w _ => laidMetH Tryd.prog listed10 w) (fun _ _ _ hh h => h.of_heap hh) ownKnob_none started (by kernel_rfl) Tryd.func4
    (ChangeSpec.witness_shaped (enc := enc) (C := Tryd.checked) (os := os) (X := fun w _ => laidMetH Tryd.prog listed10 w) false (World.doorLaid Tryd.prog 4000 os) #[.int .u32 0, .int .u64 0] 8 rfl (World.shaped_of_RefB (by kernel_rfl) (by kernel_rfl)) (by kernel_rfl) (by kernel_rfl) (by kernel_rfl) (door_met10 os _)) ?_
  intro W base args ds gs before hval0 hW _ _ hL _
  have hG : GN W := of_laid10 hL
  have hval : ∀ (j : Nat) t v, Tryd.f4.params[j]? = some t → args[j]? = some v → Value.okWide Tryd.prog W .any base t v := hval0
  have hW' := hW
  obtain ⟨p, q, hA0, hV, rfl, hfz, hnd⟩ := hW
  have hA : DataW.TrodAll enc Tryd.prog W 0 (fun _ => true) true Tryd.f4.params.toList args.toList ds p := hA0
  rw [Tryd.params4] at hA hval
  obtain ⟨v0, vs0, d0, ds0, p0, q0, hargs, rfl, rfl, h0, r0⟩ := trodAll_cons hA
  obtain ⟨v1, vs1, d1, ds1, p1, q1, rfl, rfl, rfl, h1, r1⟩ := trodAll_cons r0
  obtain ⟨rfl, rfl, rfl⟩ := trodAll_nil r1
  obtain rfl : args = #[v0, v1] := by cases args; simp_all
  obtain ⟨rfl, rfl⟩ := trodVars_none hV
  obtain ⟨a0, rfl, rfl, rfl, w0⟩ := open_int Tryd.underlying22 (hval 0 22 v0 rfl rfl) h0
  obtain ⟨a1, rfl, rfl, rfl, w1⟩ := open_int Tryd.underlying26 (hval 1 26 v1 rfl rfl) h1
  clear hA0 hval0
  simp only [List.append_nil] at hW'
  refine (walk HC a0 a1 W hG w0 w1).mono fun e W' ⟨he, bel⟩ => ?_
  subst he
  exact ⟨_, rfl, _, _, _, [], [], [], hW', trodAll_mk1 (shut_bool Tryd.underlying4 _), (trodAll_cons_mk (shut_int Tryd.underlying22 w0) (trodAll_cons_mk (shut_int Tryd.underlying26 w1) trodAll_mk0)), rfl, bel.frame _, fun h => by cases h⟩

theorem over (HC : NamesC GN) : Rows.namesTellsRow.holds Tryd.pinned (OpenSpec.ofChange Rows.namesTellsSpec) :=
  OpenClaim.holds_of_wide 4 Tryd.f4 rfl rfl rfl rfl rfl rfl rfl ⟨rfl, rfl, rfl, rfl, rfl⟩ rfl rfl rfl rfl rfl (by kernel_rfl) Tryd.func4 (by kernel_rfl)
    (of_decide_eq_true (by kernel_rfl)) (by unfold Func.isWrapper; first | (rw [if_pos (by decide +kernel)]; kernel_rfl) | (rw [if_neg (by decide +kernel)]; exact ⟨rfl, rfl⟩))
    (fun os started H enc _ => lifted HC os started H enc)

/-- The row's statement. -/
theorem row_holds : Rows.NamesTellsSaid := over namesC
/-- The statement: the row, its table tied to the program's text. -/
theorem proved : Rows.NamesTellsCardSaid :=
  Claim7.holds_tied_plain_at .later [] [.data, .data, .data, .sentinel, .sentinel, .data, .data, .data] true Rows.namesTellsCard.stood.harness Rows.namesTellsCard.stood.looks
    row_holds (fun _ h => by cases h) (by kernel_rfl) (fun _ h => by cases h) namesTells_row_tie rfl ⟨rfl, rfl⟩ (by kernel_rfl) rfl
    (fun f fn hf hfn => by
      obtain rfl : f = 4 := Option.some.inj ((show Tryd.prog.funcNamed "vestibule/vestibulelaw10.NamesTells" = some 4 by kernel_rfl).symm.trans hf) |>.symm
      obtain rfl : fn = Tryd.f4 := (Option.some.inj (Tryd.func4.symm.trans hfn)).symm
      exact ⟨by kernel_rfl, fun j t ht => by
        have hm : t ∈ Tryd.f4.params.toList := by simpa using Array.mem_of_getElem? ht
        have hall : (Tryd.f4.params.toList.all fun u => !Tryd.prog.wantsStandIn u) = true := by kernel_rfl
        exact (show Tryd.prog.wantsStandIn t = false by simpa using List.all_eq_true.1 hall t hm)⟩)
    (by kernel_rfl)
#print axioms proved
end Go.Proofs.YtnjbmccimdlcmaaDoor.namesTells
