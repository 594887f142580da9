/- The statement CallsTells holds, over what the calls have to return: the calls' names, numbers, and which call has a number, are as the document says. -/
import Derived.Test.YtijnkhenplmghaaDoorRows
import Derived.Test.YtijnkhenplmghaaDoorCards
import Derived.Test.YtijnkhenplmghaaDoorTie
import Derived.SevenTiedAt
import Derived.Test.YtijnkhenplmghaaDoorWd
import Derived.Test.YtijnkhenplmghaaDoorLy
import Derived.Test.YtijnkhenplmghaaDoorCt
import Derived.Test.YtijnkhenplmghaaDoorCe
namespace Go.Proofs.YtijnkhenplmghaaDoor.callsTells
open Go.ChangeShapes Go.WideShapes Go.ChangeAt Go.RowKit
open Go.ChangeMaps (open_string shut_string)
set_option linter.unusedVariables false
attribute [local go_sem ↓] Go.wp_at_zero Go.wp_at_succ
set_option maxRecDepth 100000 in
set_option maxHeartbeats 16000000 in
theorem walk {G : World → Prop} (HC : CallsC G) (a0 : Int) (a1 : ByteArray) (a2 : Int) (w : World) (hG : G w) (w0 : (Lit.int .i64 a0).wf = true) (w1 : a1.size ≤ maxLen) (w2 : (Lit.int .u32 a2).wf = true) :
    Calls Tryd.prog 3 #[.int .i64 a0, .string a1, .int .u32 a2] w fun e w' => e = .returned (.bool true) ∧ Below w.heap.size w w' := by
  obtain ⟨l0, l1⟩ := bounds_i64 w0
  obtain ⟨n0, n1⟩ := bounds_u32 w2
  by_cases hlong : (200 : Int) < a1.size
  · clear HC hG w0 w1 w2
    go_enter Tryd.func3, Tryd.ntmps3
    go_wp2_with fail
    go_ret
    exact ⟨rfl, Below.refl _ _⟩
  have hs : (a1.size : Int) ≤ 200 := by omega
  have HON := Lib.hid (fun (w w' : World) => HC.on (w := w) (w' := w'))
  have HG := Lib.hid hG
  have HU := Lib.hid (fun (W : World) (g : G W) => HC.number a0 a1 W g l0 l1 w1)
  have HV := Lib.hid (fun (W : World) => refNumber9 a0 a1 W)
  have HN := Lib.hid (fun (W : World) (g : G W) => HC.names W g)
  have HM := Lib.hid (fun (W : World) => refNames9 W)
  have HK := Lib.hid (fun (W : World) (g : G W) => HC.known a1 W g w1)
  have HL := Lib.hid (fun (W : World) => refKnown9 a1 W)
  have HX := Lib.hid (fun (W : World) (g : G W) => HC.name a0 a2 W g l0 l1 n0 (by omega))
  have HY := Lib.hid (fun (W : World) => refName9 a0 a2 W)
  have HA := Lib.hid (fun (W : World) (g : G W) => awake9_any HC W g)
  obtain ⟨x, hx⟩ : ∃ x, x = (numR a0 a1).1 := ⟨_, rfl⟩
  obtain ⟨y, hy⟩ : ∃ x, x = (numR a0 a1).2 := ⟨_, rfl⟩
  obtain ⟨kb, hk⟩ : ∃ x, x = knownR a1 := ⟨_, rfl⟩
  obtain ⟨nm, hn⟩ : ∃ x, x = namR a0 a2 := ⟨_, rfl⟩
  rw [← hx, ← hy] at HU HV
  rw [← hk] at HK HL
  rw [← hn] at HX HY
  have t1 : (x != x) = false := by simp
  have t2 : (y != y) = false := by simp
  have t3 : (kb != kb) = false := by simp
  have t4 : (nm.toList == nm.toList) = true := by simp
  clear HC hG w0 w1 w2 hx hy hk hn l0 l1 n0 n1
  go_enter Tryd.func3, Tryd.ntmps3
  go_wp2_with (first
    | (go_at_call 7; ((with_reducible refine (HU.out _ HG.out).mono ?_); rintro e v1 ⟨rfl, b1⟩); have G1 := HON.out _ _ HG.out b1)
    | (go_at_call 8; ((with_reducible refine (HV.out _).mono ?_); rintro e v2 ⟨rfl, b2⟩); have G2 := HON.out _ _ G1 b2; have B2 := b1.trans (b2.mono b1.size))
    | (go_at_call 9; ((with_reducible refine (HN.out _ G2).mono ?_); rintro e v3 ⟨q3, c3, rfl, o3, b3⟩); have G3 := HON.out _ _ G2 b3; have B3 := B2.trans (b3.mono B2.size); obtain ⟨g3, d3, e3, f3, h3⟩ := o3.form (by omega); injection e3 with e31 e32 e33; subst e31 e33; clear e32)
    | (go_at_call 10; ((with_reducible refine (HM.out _).mono ?_); rintro e v4 ⟨q4, c4, rfl, o4, b4⟩); have G4 := HON.out _ _ G3 b4; have B4 := B3.trans (b4.mono B3.size); have o34 := ownOn9 o3 b4; obtain ⟨g4, d4, e4, f4, h4⟩ := o4.form (by omega); injection e4 with e41 e42 e43; subst e41 e43; clear e42)
    | (go_at_call 11; ((with_reducible refine (HK.out _ G4).mono ?_); rintro e v5 ⟨rfl, b5⟩); have G5 := HON.out _ _ G4 b5; have B5 := B4.trans (b5.mono B4.size); have o35 := ownOn9 o34 b5; have o45 := ownOn9 o4 b5)
    | (go_at_call 12; ((with_reducible refine (HL.out _).mono ?_); rintro e v6 ⟨rfl, b6⟩); have G6 := Lib.hid (HON.out _ _ G5 b6); have B6 := Lib.hid (B5.trans (b6.mono B5.size)); have O3 := Lib.hid (ownOn9 o35 b6); have O4 := Lib.hid (ownOn9 o45 b6)))
  clear o3 o34 o35 o4 o45 f3 h3 f4 h4 G1 G2 G3 G4 G5 b1 b2 b3 b4 b5 b6 B2 B3 B4 B5
  go_loopw [13] (fun v13 wr => ∃ (k : Nat), k ≤ 40 ∧ v13 = .int .i64 k ∧ Hid (Below v6.heap.size v6 wr)) (fun v13 _ => 40 - (intOf v13).toNat)
  case atStart => exact ⟨0, by omega, rfl, Lib.hid (Below.refl _ _)⟩
  case round =>
    obtain ⟨k, hk, rfl, PB⟩ := hrel
    obtain ⟨V, rfl⟩ : ∃ wo : World, wo = wr := ⟨_, rfl⟩
    by_cases hlt : k < 40
    · have k1 : (k : Int) < 40 := by omega
      have k0 : (0 : Int) ≤ k := by omega
      have hl : callN.length = 40 := rfl
      have c3' : V.cell? ⟨g3, k, none⟩ = some (.string (callN.getD k ⟨#[]⟩)) := ((ownOn9 O3.out PB.out).cellAt k (by omega)).trans (sV_get (by omega))
      have c4' : V.cell? ⟨g4, k, none⟩ = some (.string (callN.getD k ⟨#[]⟩)) := ((ownOn9 O4.out PB.out).cellAt k (by omega)).trans (sV_get (by omega))
      obtain ⟨z, hz⟩ : ∃ z, z = callN.getD k ⟨#[]⟩ := ⟨_, rfl⟩
      rw [← hz] at c3' c4'
      have tz : (z.toList != z.toList) = false := by simp
      have tz2 : (z.toList == z.toList) = true := by simp
      clear hz hl
      go_wp2_with fail
      go_quiet (fail)
      go_wp2_with fail
      go_roundw
      case rel => exact ⟨k + 1, by omega, by go_num, Lib.hid (below_drewN PB.out _)⟩
      case measure => simp [intOf]; omega
    · obtain rfl : k = 40 := by omega
      have B7 := Lib.hid (B6.out.trans (PB.out.mono B6.out.size))
      have G7 := Lib.hid (HON.out _ _ G6.out PB.out)
      go_wp2_with (first
        | (go_at_call 13; ((with_reducible refine (HX.out _ G7.out).mono ?_); rintro e v7 ⟨rfl, b7⟩); have G8 := HON.out _ _ G7.out b7; have B8 := B7.out.trans (b7.mono B7.out.size))
        | (go_at_call 14; ((with_reducible refine (HY.out _).mono ?_); rintro e v8 ⟨rfl, b8⟩); have G9 := HON.out _ _ G8 b8; have B9 := B8.trans (b8.mono B8.size))
        | (go_at_call 15; ((with_reducible refine (HA.out _ G9).mono ?_); rintro e v9 ⟨rfl, b9⟩); have B10 := B9.trans (b9.mono B9.size)))
      go_ret
      exact ⟨by first | rfl | simp, B10⟩

set_option maxRecDepth 100000 in
theorem lifted (HC : CallsC GA8) (os : Os) (started : os.Started) (H : Type) (enc : TypeId × Value → H) :
    ReturnsInHanded {} Tryd.checked os 3 .any (fun w args => (Rows.callsTellsSpec.pre enc Tryd.prog Tryd.f3 [] false w args ∧ laidMetH Tryd.prog listed8 w) ∧ sizedMet enc Tryd.prog Tryd.f3 (OpenSpec.ofChange Rows.callsTellsSpec) false w args)
      (Rows.callsTellsSpec.post enc Tryd.prog Tryd.f3 false true false false) := by
  refine returnsInHanded_of_change_and (C := Tryd.checked) (X := fun w _ => laidMetH Tryd.prog listed8 w) (fun _ _ _ hh h => h.of_heap hh) ownKnob_none started (by kernel_rfl) Tryd.func3
    (ChangeSpec.witness_shaped (enc := enc) (C := Tryd.checked) (os := os) (X := fun w _ => laidMetH Tryd.prog listed8 w) false (World.doorLaid Tryd.prog 4000 os) #[.int .i64 0, .string ⟨#[]⟩, .int .u32 0] 8 rfl (World.shaped_of_RefB (by kernel_rfl) (by kernel_rfl)) (by kernel_rfl) (by kernel_rfl) (by kernel_rfl) (door_met8 os _)) ?_
  intro W base args ds gs before hval0 hW _ _ hL _
  have hG : GA8 W := of_laid8 hL
  have hval : ∀ (j : Nat) t v, Tryd.f3.params[j]? = some t → args[j]? = some v → Value.okWide Tryd.prog W .any base t v := hval0
  have hW' := hW
  obtain ⟨p, q, hA0, hV, rfl, hfz, hnd⟩ := hW
  have hA : DataW.TrodAll enc Tryd.prog W 0 (fun _ => true) true Tryd.f3.params.toList args.toList ds p := hA0
  rw [Tryd.params3] at hA hval
  obtain ⟨v0, vs0, d0, ds0, p0, q0, hargs, rfl, rfl, h0, r0⟩ := trodAll_cons hA
  obtain ⟨v1, vs1, d1, ds1, p1, q1, rfl, rfl, rfl, h1, r1⟩ := trodAll_cons r0
  obtain ⟨v2, vs2, d2, ds2, p2, q2, rfl, rfl, rfl, h2, r2⟩ := trodAll_cons r1
  obtain ⟨rfl, rfl, rfl⟩ := trodAll_nil r2
  obtain rfl : args = #[v0, v1, v2] := by cases args; simp_all
  obtain ⟨rfl, rfl⟩ := trodVars_none hV
  obtain ⟨a0, rfl, rfl, rfl, w0⟩ := open_int Tryd.underlying3 (hval 0 3 v0 rfl rfl) h0
  obtain ⟨a1, rfl, rfl, rfl, w1⟩ := open_string Tryd.underlying9 (hval 1 9 v1 rfl rfl) h1
  obtain ⟨a2, rfl, rfl, rfl, w2⟩ := open_int Tryd.underlying22 (hval 2 22 v2 rfl rfl) h2
  clear hA0 hval0
  simp only [List.append_nil] at hW'
  refine (walk HC a0 a1 a2 W hG w0 w1 w2).mono fun e W' ⟨he, bel⟩ => ?_
  subst he
  exact ⟨_, rfl, _, _, _, [], [], [], hW', trodAll_mk1 (shut_bool Tryd.underlying4 _), (trodAll_cons_mk (shut_int Tryd.underlying3 w0) (trodAll_cons_mk (shut_string Tryd.underlying9 w1) (trodAll_cons_mk (shut_int Tryd.underlying22 w2) trodAll_mk0))), rfl, bel.frame _, fun h => by cases h⟩

theorem over (HC : CallsC GA8) : Rows.callsTellsRow.holds Tryd.pinned (OpenSpec.ofChange Rows.callsTellsSpec) :=
  OpenClaim.holds_of_wide 3 Tryd.f3 rfl rfl rfl rfl rfl rfl rfl ⟨rfl, rfl, rfl, rfl, rfl⟩ rfl rfl rfl rfl rfl (by kernel_rfl) Tryd.func3 (by kernel_rfl)
    (of_decide_eq_true (by kernel_rfl)) (by unfold Func.isWrapper; first | (rw [if_pos (by decide +kernel)]; kernel_rfl) | (rw [if_neg (by decide +kernel)]; exact ⟨rfl, rfl⟩))
    (fun os started H enc _ => lifted HC os started H enc)

/-- The row's statement. -/
theorem row_holds : Rows.CallsTellsSaid := over callsC
/-- The statement: the row, its table tied to the program's text. -/
theorem proved : Rows.CallsTellsCardSaid :=
  Claim7.holds_tied_plain_at .later [] [.data] true Rows.callsTellsCard.stood.harness Rows.callsTellsCard.stood.looks
    row_holds (fun _ h => by cases h) (by kernel_rfl) (fun _ h => by cases h) callsTells_row_tie rfl ⟨rfl, rfl⟩ (by kernel_rfl) rfl
    (fun f fn hf hfn => by
      obtain rfl : f = 3 := Option.some.inj ((show Tryd.prog.funcNamed "vestibule/vestibulelaw09.CallsTells" = some 3 by kernel_rfl).symm.trans hf) |>.symm
      obtain rfl : fn = Tryd.f3 := (Option.some.inj (Tryd.func3.symm.trans hfn)).symm
      exact ⟨by kernel_rfl, fun j t ht => by
        have hm : t ∈ Tryd.f3.params.toList := by simpa using Array.mem_of_getElem? ht
        have hall : (Tryd.f3.params.toList.all fun u => !Tryd.prog.wantsStandIn u) = true := by kernel_rfl
        exact (show Tryd.prog.wantsStandIn t = false by simpa using List.all_eq_true.1 hall t hm)⟩)
    (by kernel_rfl)
#print axioms proved
end Go.Proofs.YtijnkhenplmghaaDoor.callsTells
