/- The statement CallsKnown holds, over what the calls have to return: a name is known just if it is one of all, it is on an architecture just if it is among all of that. -/
import Derived.Test.YtijnkhenplmghaaDoorRows
import Derived.Test.YtijnkhenplmghaaDoorCards
import Derived.Test.YtijnkhenplmghaaDoorTie
import Derived.SevenTiedAt
import Derived.Test.YtijnkhenplmghaaDoorWd
import Derived.Test.YtijnkhenplmghaaDoorLy
import Derived.Test.YtijnkhenplmghaaDoorCt
import Derived.Test.YtijnkhenplmghaaDoorCe
import Derived.Test.YtijnkhenplmghaaDoorCg
namespace Go.Proofs.YtijnkhenplmghaaDoor.callsKnown
open Go.ChangeShapes Go.WideShapes Go.ChangeAt Go.RowKit
open Go.ChangeMaps (open_string shut_string)
set_option linter.unusedVariables false
attribute [local go_sem ↓] Go.wp_at_zero Go.wp_at_succ
theorem geq9 (t : TypeId) (a b : ByteArray) : binOp .geq t (.string a) (.string b) = pure (.bool !(Go.Op.bytesLess a.toList b.toList)) := by simp [binOp, Op.stringOp]
attribute [local go_sem] geq9
theorem rise9 : ∀ m, m < 39 → Go.Op.bytesLess (callN.getD m ⟨#[]⟩).toList (callN.getD (m + 1) ⟨#[]⟩).toList = true := by decide +kernel
set_option maxRecDepth 100000 in
set_option maxHeartbeats 16000000 in
theorem walk {G : World → Prop} (HC : CallsC G) (a0 : ByteArray) (a1 : Int) (w : World) (hG : G w) (w0 : a0.size ≤ maxLen) (w1 : (Lit.int .i64 a1).wf = true) :
    Calls Tryd.prog 6 #[.string a0, .int .i64 a1] w fun e w' => e = .returned (.bool true) ∧ Below w.heap.size w w' := by
  obtain ⟨l0, l1⟩ := bounds_i64 w1
  have HON := Lib.hid (fun (w w' : World) => HC.on (w := w) (w' := w'))
  have HG := Lib.hid hG
  have HAW := Lib.hid (fun (W : World) (g : G W) => awake9_any HC W g)
  by_cases hlong : (200 : Int) < a0.size
  · clear HC hG w0 w1
    go_enter Tryd.func6, Tryd.ntmps6
    go_wp2_with (go_at_call 15; ((with_reducible refine (HAW.out _ HG.out).mono ?_); rintro e v9 ⟨rfl, b9⟩))
    go_ret
    exact ⟨rfl, b9⟩
  have hs : (a0.size : Int) ≤ 200 := by omega
  have HN := Lib.hid (fun (W : World) (g : G W) => HC.names W g)
  have HA := Lib.hid (fun (W : World) (g : G W) => HC.all a1 W g l0 l1)
  have HU := Lib.hid (fun (W : World) (g : G W) => HC.number a1 a0 W g l0 l1 w0)
  have HK := Lib.hid (fun (W : World) (g : G W) => HC.known a0 W g w0)
  have HLE := Lib.hid (allT_length a1 40)
  have HE1 := Lib.hid (inN_all a0)
  have HE2 := Lib.hid (inA_all a1 a0)
  have HE3 := Lib.hid (in_known a1 a0)
  obtain ⟨L, hL⟩ : ∃ x, x = allT a1 40 := ⟨_, rfl⟩
  obtain ⟨x, hx⟩ : ∃ x, x = (numR a1 a0).1 := ⟨_, rfl⟩
  obtain ⟨y, hy⟩ : ∃ x, x = (numR a1 a0).2 := ⟨_, rfl⟩
  obtain ⟨kb, hkb⟩ : ∃ x, x = knownR a0 := ⟨_, rfl⟩
  rw [← hx, ← hy] at HU
  rw [← hL] at HA HLE HE2
  rw [← hy] at HE2 HE3
  rw [← hkb] at HK HE1 HE3
  obtain ⟨n, hn⟩ : ∃ x, x = L.length := ⟨_, rfl⟩
  rw [← hn] at HA HLE HE2
  have HNL := Lib.hid hn
  have n40 : n ≤ 40 := HLE.out
  clear HC hG w0 w1 hx hy hkb hL l0 l1 hn HLE
  go_enter Tryd.func6, Tryd.ntmps6
  go_wp2_with (go_at_call 9; ((with_reducible refine (HN.out _ HG.out).mono ?_); rintro e v3 ⟨q3, c3, rfl, o3, b3⟩); obtain ⟨g3, d3, e3, f3, h3⟩ := o3.form (by omega); injection e3 with e31 e32 e33; subst e31 e33; clear e32)
  have O3 := Lib.hid o3
  have G3 := Lib.hid (HON.out _ _ HG.out b3)
  have B3 := Lib.hid b3
  clear o3 b3 f3 h3
  go_loopw [6, 7] (fun v6 v7 wr => ∃ (k : Nat), k ≤ 40 ∧ v7 = .int .i64 k ∧ v6 = .bool (inN a0 k) ∧ Hid (Below v3.heap.size v3 wr)) (fun _ v7 _ => 40 - (intOf v7).toNat)
  case atStart => exact ⟨0, by omega, rfl, rfl, Lib.hid (Below.refl _ _)⟩
  case round =>
    obtain ⟨k, hk, rfl, rfl, PB⟩ := hrel
    obtain ⟨V, rfl⟩ : ∃ wo : World, wo = wr := ⟨_, rfl⟩
    by_cases hlt : k < 40
    · have hl : callN.length = 40 := rfl
      have c1 : V.cell? ⟨g3, k, none⟩ = some (.string (callN.getD k ⟨#[]⟩)) := ((ownOn9 O3.out PB.out).cellAt k (by omega)).trans (sV_get (by omega))
      have HI := Lib.hid (show inN a0 (k + 1) = (inN a0 k || decide (callN.getD k ⟨#[]⟩ = a0)) from inN_succ a0 k)
      obtain ⟨b, hb⟩ : ∃ b, b = inN a0 k := ⟨_, rfl⟩
      rw [← hb] at HI ⊢
      clear hb
      have HD := Lib.hid (show decide (callN.getD k ⟨#[]⟩ = a0) = ((callN.getD k ⟨#[]⟩).toList == a0.toList) from by
        rw [Bool.eq_iff_iff, decide_eq_true_eq, beq_iff_eq]
        exact ⟨fun h => by rw [h], list_of_bytes9⟩)
      match k, hk, hlt with
      | 0, hk, hlt =>
        obtain ⟨z, hz⟩ : ∃ z, z = callN.getD 0 ⟨#[]⟩ := ⟨_, rfl⟩
        rw [← hz] at c1 HI HD
        clear hz hl hk hlt
        obtain ⟨t, ht⟩ : ∃ t, t = (z.toList == a0.toList) := ⟨_, rfl⟩
        rw [← ht] at HD
        have ht2 := ht.symm
        clear ht
        have k0 : ((0 : Nat) : Int) = 0 := rfl
        cases b <;> cases t
        all_goals
          go_wp2_with fail
          go_quiet (fail)
          go_wp2_with fail
          go_roundw
          case rel => exact ⟨1, by omega, by go_num, by rw [HI.out, HD.out]; rfl, Lib.hid (below_drewN PB.out _)⟩
          case measure => simp [intOf]
      | m + 1, hk, hlt =>
        have c0 : V.cell? ⟨g3, m, none⟩ = some (.string (callN.getD m ⟨#[]⟩)) := ((ownOn9 O3.out PB.out).cellAt m (by omega)).trans (sV_get (by omega))
        have hr := rise9 m (by omega)
        obtain ⟨z, hz⟩ : ∃ z, z = callN.getD (m + 1) ⟨#[]⟩ := ⟨_, rfl⟩
        obtain ⟨z0, hz0⟩ : ∃ z, z = callN.getD m ⟨#[]⟩ := ⟨_, rfl⟩
        rw [← hz] at c1 HI HD hr
        rw [← hz0] at c0 hr
        obtain ⟨t, ht⟩ : ∃ t, t = (z.toList == a0.toList) := ⟨_, rfl⟩
        rw [← ht] at HD
        have ht2 := ht.symm
        clear ht hz hz0 hl
        generalize hJ : m + 1 = J at c1 hk hlt HI ⊢
        have hwm : IntKind.i64.wrap (m : Int) = m := by rw [IntKind.wrap_i64]; omega
        have m1 : (J : Int) - 1 = m := by omega
        have m2 : (0 : Int) < (J : Int) := by omega
        have m3 : (J : Int) < 40 := by omega
        have m4 : (m : Int) < 40 := by omega
        have m5 : (0 : Int) ≤ (m : Int) := by omega
        have m6 : (0 : Int) ≤ (J : Int) := by omega
        have mN : m < 40 := by omega
        have j0 : 0 < J := by omega
        have hw1 : IntKind.i64.wrap ((J : Int) + 1) = J + 1 := by rw [IntKind.wrap_i64]; omega
        clear hJ
        cases b <;> cases t
        all_goals
          go_wp2_with fail
          go_quiet (fail)
          go_wp2_with fail
          go_roundw
          case rel => exact ⟨J + 1, by omega, by go_num, by rw [HI.out, HD.out]; rfl, Lib.hid (below_drewN PB.out _)⟩
          case measure => simp [intOf]; omega
    · obtain rfl : k = 40 := by omega
      have G4 := Lib.hid (HON.out _ _ G3.out PB.out)
      have B4 := Lib.hid (B3.out.trans (PB.out.mono B3.out.size))
      have HI := Lib.hid HE1.out
      rw [HE1.out]
      clear O3 PB G3 B3 HE1
      go_wp2_with (go_at_call 16; ((with_reducible refine (HA.out _ G4.out).mono ?_); rintro e v4 ⟨q4, c4, rfl, o4, b4⟩))
      have O4 := Lib.hid o4
      have G5 := Lib.hid (HON.out _ _ G4.out b4)
      have B5 := Lib.hid (B4.out.trans (b4.mono B4.out.size))
      clear o4 b4 B4 G4
      go_loopw [9, 10] (fun v9 v10 wr => ∃ (k : Nat), k ≤ n ∧ v10 = .int .i64 k ∧ v9 = .bool (inA L a0 k) ∧ Hid (Below v4.heap.size v4 wr)) (fun _ v10 _ => n - (intOf v10).toNat)
      case atStart => exact ⟨0, by omega, rfl, rfl, Lib.hid (Below.refl _ _)⟩
      case round =>
        obtain ⟨k, hk, rfl, rfl, PB⟩ := hrel
        obtain ⟨V, rfl⟩ : ∃ wo : World, wo = wr := ⟨_, rfl⟩
        by_cases hlt : k < n
        · obtain ⟨g4, d4, e4, f4, h4⟩ := O4.out.form (by omega)
          injection e4 with e41 e42 e43
          subst e41 e43
          clear e42 f4 h4
          have c1 := ((ownOn9 O4.out PB.out).cellAt (k * 2) (by omega)).trans (esV_get (by rw [← HNL.out]; exact hlt)).1
          have HI := Lib.hid (show inA L a0 (k + 1) = (inA L a0 k || decide ((L.getD k d0).1 = a0)) from inA_succ L a0 k)
          have HD := Lib.hid (show decide ((L.getD k d0).1 = a0) = ((L.getD k d0).1.toList == a0.toList) from by
            rw [Bool.eq_iff_iff, decide_eq_true_eq, beq_iff_eq]
            exact ⟨fun h => by rw [h], list_of_bytes9⟩)
          obtain ⟨b, hb⟩ : ∃ b, b = inA L a0 k := ⟨_, rfl⟩
          rw [← hb] at HI ⊢
          obtain ⟨z, hz⟩ : ∃ z, z = (L.getD k d0).1 := ⟨_, rfl⟩
          rw [← hz] at c1 HI HD
          obtain ⟨t, ht⟩ : ∃ t, t = (z.toList == a0.toList) := ⟨_, rfl⟩
          rw [← ht] at HD
          have ht2 := ht.symm
          have k1 : (k : Int) < (n : Int) := by omega
          have k0 : (0 : Int) ≤ k := by omega
          have hw1 : IntKind.i64.wrap ((k : Int) + 1) = k + 1 := by rw [IntKind.wrap_i64]; omega
          clear ht hz hb
          cases b <;> cases t
          all_goals
            go_wp2_with fail
            go_roundw
            case rel => exact ⟨k + 1, by omega, by go_num, by rw [HI.out, HD.out]; rfl, PB⟩
            case measure => simp [intOf]; omega
        · obtain rfl : k = n := by omega
          have G6 := Lib.hid (HON.out _ _ G5.out PB.out)
          have B6 := Lib.hid (B5.out.trans (PB.out.mono B5.out.size))
          rw [HE2.out]
          have HE4 := Lib.hid (fun h : y = 0 => HE3.out h)
          have e1 : (kb == kb) = true := by simp
          have e2 : (y == 0) = decide (y = 0) := rfl
          have e3 : (decide (y = 0) == decide (y = 0)) = true := by simp
          have e4 : (kb || !decide (y = 0)) = true := by
            by_cases h : y = 0
            · rw [HE4.out h]; rfl
            · simp [h]
          by_cases hy : y = 0
          · subst hy
            obtain rfl := HE4.out rfl
            clear HE2 HE3 HE4 e1 e2 e3 e4
            go_wp2_with (first
              | (go_at_call 7; ((with_reducible refine (HU.out _ G6.out).mono ?_); rintro e v7 ⟨rfl, b7⟩); have G7 := HON.out _ _ G6.out b7; have B7 := B6.out.trans (b7.mono B6.out.size))
              | (go_at_call 11; ((with_reducible refine (HK.out _ G7).mono ?_); rintro e v8 ⟨rfl, b8⟩); have G8 := HON.out _ _ G7 b8; have B8 := B7.trans (b8.mono B7.size))
              | (go_at_call 15; ((with_reducible refine (HAW.out _ G8).mono ?_); rintro e v9 ⟨rfl, b9⟩); have B9 := B8.trans (b9.mono B8.size)))
            go_ret
            exact ⟨rfl, B9⟩
          · clear HE2 HE3 HE4 e2 e3 e4
            have hyb : decide (y = 0) = false := decide_eq_false hy
            have hyc : (y == 0) = false := beq_eq_false_iff_ne.2 hy
            rw [hyb]
            cases kb
            all_goals
              go_wp2_with (first
                | (go_at_call 7; ((with_reducible refine (HU.out _ G6.out).mono ?_); rintro e v7 ⟨rfl, b7⟩); have G7 := HON.out _ _ G6.out b7; have B7 := B6.out.trans (b7.mono B6.out.size))
                | (go_at_call 11; ((with_reducible refine (HK.out _ G7).mono ?_); rintro e v8 ⟨rfl, b8⟩); have G8 := HON.out _ _ G7 b8; have B8 := B7.trans (b8.mono B7.size))
                | (go_at_call 15; ((with_reducible refine (HAW.out _ G8).mono ?_); rintro e v9 ⟨rfl, b9⟩); have B9 := B8.trans (b9.mono B8.size)))
              go_ret
              exact ⟨rfl, B9⟩

set_option maxRecDepth 100000 in
theorem lifted (HC : CallsC GA8) (os : Os) (started : os.Started) (H : Type) (enc : TypeId × Value → H) :
    ReturnsInHanded {} Tryd.checked os 6 .any (fun w args => (Rows.callsKnownSpec.pre enc Tryd.prog Tryd.f6 [] false w args ∧ laidMetH Tryd.prog listed8 w) ∧ sizedMet enc Tryd.prog Tryd.f6 (OpenSpec.ofChange Rows.callsKnownSpec) false w args)
      (Rows.callsKnownSpec.post enc Tryd.prog Tryd.f6 false true false false) := by
  refine returnsInHanded_of_change_and (C := Tryd.checked) (X := fun w _ => laidMetH Tryd.prog listed8 w) (fun _ _ _ hh h => h.of_heap hh) ownKnob_none started (by kernel_rfl) Tryd.func6
    (ChangeSpec.witness_shaped (enc := enc) (C := Tryd.checked) (os := os) (X := fun w _ => laidMetH Tryd.prog listed8 w) false (World.doorLaid Tryd.prog 4000 os) #[.string ⟨#[]⟩, .int .i64 0] 8 rfl (World.shaped_of_RefB (by kernel_rfl) (by kernel_rfl)) (by kernel_rfl) (by kernel_rfl) (by kernel_rfl) (door_met8 os _)) ?_
  intro W base args ds gs before hval0 hW _ _ hL _
  have hG : GA8 W := of_laid8 hL
  have hval : ∀ (j : Nat) t v, Tryd.f6.params[j]? = some t → args[j]? = some v → Value.okWide Tryd.prog W .any base t v := hval0
  have hW' := hW
  obtain ⟨p, q, hA0, hV, rfl, hfz, hnd⟩ := hW
  have hA : DataW.TrodAll enc Tryd.prog W 0 (fun _ => true) true Tryd.f6.params.toList args.toList ds p := hA0
  rw [Tryd.params6] at hA hval
  obtain ⟨v0, vs0, d0, ds0, p0, q0, hargs, rfl, rfl, h0, r0⟩ := trodAll_cons hA
  obtain ⟨v1, vs1, d1, ds1, p1, q1, rfl, rfl, rfl, h1, r1⟩ := trodAll_cons r0
  obtain ⟨rfl, rfl, rfl⟩ := trodAll_nil r1
  obtain rfl : args = #[v0, v1] := by cases args; simp_all
  obtain ⟨rfl, rfl⟩ := trodVars_none hV
  obtain ⟨a0, rfl, rfl, rfl, w0⟩ := open_string Tryd.underlying9 (hval 0 9 v0 rfl rfl) h0
  obtain ⟨a1, rfl, rfl, rfl, w1⟩ := open_int Tryd.underlying3 (hval 1 3 v1 rfl rfl) h1
  clear hA0 hval0
  simp only [List.append_nil] at hW'
  refine (walk HC a0 a1 W hG w0 w1).mono fun e W' ⟨he, bel⟩ => ?_
  subst he
  exact ⟨_, rfl, _, _, _, [], [], [], hW', trodAll_mk1 (shut_bool Tryd.underlying4 _), (trodAll_cons_mk (shut_string Tryd.underlying9 w0) (trodAll_cons_mk (shut_int Tryd.underlying3 w1) trodAll_mk0)), rfl, bel.frame _, fun h => by cases h⟩

theorem over (HC : CallsC GA8) : Rows.callsKnownRow.holds Tryd.pinned (OpenSpec.ofChange Rows.callsKnownSpec) :=
  OpenClaim.holds_of_wide 6 Tryd.f6 rfl rfl rfl rfl rfl rfl rfl ⟨rfl, rfl, rfl, rfl, rfl⟩ rfl rfl rfl rfl rfl (by kernel_rfl) Tryd.func6 (by kernel_rfl)
    (of_decide_eq_true (by kernel_rfl)) (by unfold Func.isWrapper; first | (rw [if_pos (by decide +kernel)]; kernel_rfl) | (rw [if_neg (by decide +kernel)]; exact ⟨rfl, rfl⟩))
    (fun os started H enc _ => lifted HC os started H enc)

/-- The row's statement. -/
theorem row_holds : Rows.CallsKnownSaid := over callsC
/-- The statement: the row, its table tied to the program's text. -/
theorem proved : Rows.CallsKnownCardSaid :=
  Claim7.holds_tied_plain_at .later [] [.data] true Rows.callsKnownCard.stood.harness Rows.callsKnownCard.stood.looks
    row_holds (fun _ h => by cases h) (by kernel_rfl) (fun _ h => by cases h) callsKnown_row_tie rfl ⟨rfl, rfl⟩ (by kernel_rfl) rfl
    (fun f fn hf hfn => by
      obtain rfl : f = 6 := Option.some.inj ((show Tryd.prog.funcNamed "vestibule/vestibulelaw09.CallsKnown" = some 6 by kernel_rfl).symm.trans hf) |>.symm
      obtain rfl : fn = Tryd.f6 := (Option.some.inj (Tryd.func6.symm.trans hfn)).symm
      exact ⟨by kernel_rfl, fun j t ht => by
        have hm : t ∈ Tryd.f6.params.toList := by simpa using Array.mem_of_getElem? ht
        have hall : (Tryd.f6.params.toList.all fun u => !Tryd.prog.wantsStandIn u) = true := by kernel_rfl
        exact (show Tryd.prog.wantsStandIn t = false by simpa using List.all_eq_true.1 hall t hm)⟩)
    (by kernel_rfl)
#print axioms proved
end Go.Proofs.YtijnkhenplmghaaDoor.callsKnown
