/- The statement ValuesWords holds, over what the calls have to return: a value's words, whether it says yes, what is behind its first byte. -/
import Derived.Test.YtfmfjnnbldmdlaaDoorRows
import Derived.Test.YtfmfjnnbldmdlaaDoorCards
import Derived.Test.YtfmfjnnbldmdlaaDoorTie
import Derived.SevenTiedAt
import Derived.Test.YtfmfjnnbldmdlaaDoorFr
import Derived.Test.YtfmfjnnbldmdlaaDoorKy
import Derived.Test.YtfmfjnnbldmdlaaDoorKh
import Derived.BigQuiet
import Derived.Deep.QuietTactic
namespace Go.Proofs.YtfmfjnnbldmdlaaDoor.valuesWords
open Go.ChangeShapes Go.WideShapes Go.ChangeAt Go.RowKit
open Go.ChangeMaps (open_string shut_string)
set_option linter.unusedVariables false
attribute [local go_sem ↓] Go.wp_at_zero Go.wp_at_succ
set_option maxRecDepth 100000 in
set_option maxHeartbeats 8000000 in
theorem walk {G : World → Prop} (HC : ValuesC G) (a0 : ByteArray) (w : World) (hG : G w) (w0 : a0.size ≤ maxLen) :
    Calls Tryd.prog 3 #[.string a0] w fun e w' => e = .returned (.bool true) ∧ Below w.heap.size w w' := by
  by_cases hlong : (2000 : Int) < a0.size
  · clear HC hG w0
    go_enter Tryd.func3, Tryd.ntmps3
    go_wp2_with fail
    go_ret
    exact ⟨rfl, Below.refl _ _⟩
  have hs : (a0.size : Int) ≤ 2000 := by omega
  have HON := Lib.hid (fun (w w' : World) => HC.on (w := w) (w' := w'))
  have HG := Lib.hid hG
  have HW := Lib.hid (fun (W : World) (g : G W) => HC.words a0 W g (by omega))
  have RW := Lib.hid (fun (W : World) => refWords a0 (by omega) W)
  have HB := Lib.hid (fun (W : World) (g : G W) => HC.bool a0 W g (by omega))
  have RB := Lib.hid (fun (W : World) => refBool a0 W)
  have HT := Lib.hid (fun (W : World) (g : G W) => HC.turned a0 W g (by omega))
  have RT := Lib.hid (fun (W : World) => refTurned a0 w0 W)
  have HA := Lib.hid (fun (W : World) (g : G W) => awake15_any HC W g)
  have hl2 : (wdL a0.data.toList).length ≤ a0.size := by have := wdL_len a0.data.toList; simpa using this
  obtain ⟨L, hL⟩ : ∃ L, L = wdL a0.data.toList := ⟨_, rfl⟩
  rw [← hL] at HW RW hl2
  obtain ⟨n, hn⟩ : ∃ n, n = L.length := ⟨_, rfl⟩
  have HN := Lib.hid hn
  rw [← hn] at HW RW hl2
  obtain ⟨b0, hb0⟩ : ∃ b, b = (boolR a0).getD false := ⟨_, rfl⟩
  obtain ⟨e0', he0⟩ : ∃ b, b = boolE a0 := ⟨_, rfl⟩
  rw [← hb0, ← he0] at HB RB
  obtain ⟨u, hu⟩ : ∃ b, b = (turnR a0).1 := ⟨_, rfl⟩
  obtain ⟨v, hv⟩ : ∃ b, b = (turnR a0).2 := ⟨_, rfl⟩
  rw [← hu, ← hv] at HT RT
  have t1 : (b0 == b0) = true := by simp
  have t3 : (e0' == e0') = true := by simp
  have t4 : (u.toList == u.toList) = true := by simp
  have t5 : (v == v) = true := by simp
  have hn2 : n ≤ 2000 := by omega
  clear HC hG w0 hlong hL hn hb0 he0 hu hv hl2
  go_enter Tryd.func3, Tryd.ntmps3
  go_wp2_with (first
    | (go_at_call 7; ((with_reducible refine (HW.out _ HG.out).mono ?_); rintro e v1 ⟨q1, k1', rfl, r1, b1⟩); have B1 := Lib.hid b1; have G1 := Lib.hid (HON.out _ _ HG.out b1); have V1 := Lib.hid r1; clear b1 r1)
    | (go_at_call 8; ((with_reducible refine (RW.out _).mono ?_); rintro e v2 ⟨q2, k2', rfl, r2, b2⟩); have B2 := Lib.hid b2; have G2 := Lib.hid (HON.out _ _ G1.out b2); have V2 := Lib.hid (WdsAt.of_own r2 HN.out); clear b2 r2))
  go_loopw [5] (fun v5 wr => ∃ k : Nat, k ≤ n ∧ v5 = .int .i64 k ∧ Hid (Below v2.heap.size v2 wr)) (fun v5 _ => n - (intOf v5).toNat)
  case atStart => exact ⟨0, by omega, rfl, Lib.hid (Below.refl _ _)⟩
  case round =>
    obtain ⟨k, hk, rfl, PB⟩ := hrel
    obtain ⟨W, rfl⟩ : ∃ wo : World, wo = wr := ⟨_, rfl⟩
    by_cases hlt : k < n
    · have hx : L[k]? = some (L[k]'(by rw [← HN.out]; exact hlt)) := List.getElem?_eq_getElem _
      obtain ⟨p, hp⟩ : ∃ p, p = L[k]'(by rw [← HN.out]; exact hlt) := ⟨_, rfl⟩
      rw [← hp] at hx
      obtain ⟨g1, o1, rfl, d1⟩ := V1.out k p hx
      obtain ⟨g2, o2, rfl, d2⟩ := V2.out k p hx
      have c1 := ((thn B2.out PB.out).cell (World.block_lt_of_cell? v1 _ d1)).trans d1
      have c2 := (PB.out.cell (World.block_lt_of_cell? v2 _ d2)).trans d2
      obtain ⟨y, hy⟩ : ∃ x, x = bs p := ⟨_, rfl⟩
      rw [← hy] at c1 c2
      have k1 : (k : Int) < n := by omega
      have k0 : (0 : Int) ≤ k := by omega
      have hw1 : IntKind.i64.wrap ((k : Int) + 1) = k + 1 := by rw [IntKind.wrap_i64]; omega
      have t2 : (y.toList == y.toList) = true := by simp
      clear hx hp d1 d2 hy
      go_wp2_with fail
      go_quiet (fail)
      go_wp2_with fail
      go_roundw
      case rel => exact ⟨k + 1, by omega, by go_num, Lib.hid (Go.below_drewN PB.out _)⟩
      case measure => first | (simp [intOf]; done) | (simp [intOf]; omega)
    · obtain rfl : k = n := by omega
      have kk : ¬ (k : Int) < k := by omega
      have G3 := Lib.hid (HON.out _ _ G2.out PB.out)
      have B3 := Lib.hid (thn (thn B1.out B2.out) PB.out)
      go_wp2_with (first
        | (go_at_call 9; ((with_reducible refine (HB.out _ G3.out).mono ?_); rintro e v3 ⟨rfl, b3⟩); have B4 := Lib.hid (thn B3.out b3); have G4 := Lib.hid (HON.out _ _ HG.out B4.out); clear b3)
        | (go_at_call 10; ((with_reducible refine (RB.out _).mono ?_); rintro e v4 ⟨rfl, rfl⟩))
        | (go_at_call 11; ((with_reducible refine (HT.out _ G4.out).mono ?_); rintro e v5 ⟨rfl, b5⟩); have B5 := Lib.hid (thn B4.out b5); have G5 := Lib.hid (HON.out _ _ HG.out B5.out); clear b5)
        | (go_at_call 12; ((with_reducible refine (RT.out _).mono ?_); rintro e v6 ⟨rfl, rfl⟩))
        | (go_at_call 13; ((with_reducible refine (HA.out _ G5.out).mono ?_); rintro e v7 ⟨rfl, b7⟩); have B7 := Lib.hid (thn B5.out b7); clear b7))
      go_ret
      exact ⟨by first | rfl | simp, B7.out⟩

set_option maxRecDepth 100000 in
theorem lifted (HC : ValuesC G15) (os : Os) (started : os.Started) (H : Type) (enc : TypeId × Value → H) :
    ReturnsInHanded {} Tryd.checked os 3 .any (fun w args => (Rows.valuesWordsSpec.pre enc Tryd.prog Tryd.f3 [] false w args ∧ laidMetH Tryd.prog listed15 w) ∧ sizedMet enc Tryd.prog Tryd.f3 (OpenSpec.ofChange Rows.valuesWordsSpec) false w args)
      (Rows.valuesWordsSpec.post enc Tryd.prog Tryd.f3 false true false false) := by
  refine returnsInHanded_of_change_and (C := Tryd.checked) (X := fun w _ => laidMetH Tryd.prog listed15 w) (fun _ _ _ hh h => h.of_heap hh) ownKnob_none started (by kernel_rfl) Tryd.func3
    (ChangeSpec.witness_shaped (enc := enc) (C := Tryd.checked) (os := os) (X := fun w _ => laidMetH Tryd.prog listed15 w) false (World.doorLaid Tryd.prog 4000 os) #[.string ⟨#[]⟩] 8 rfl (World.shaped_of_RefB (by kernel_rfl) (by kernel_rfl)) (by kernel_rfl) (by kernel_rfl) (by kernel_rfl) (door_met15 os _)) ?_
  intro W base args ds gs before hval0 hW _ _ hL _
  have hG : G15 W := of_laid15 hL
  have hval : ∀ (j : Nat) t v, Tryd.f3.params[j]? = some t → args[j]? = some v → Value.okWide Tryd.prog W .any base t v := hval0
  have hW' := hW
  obtain ⟨p, q, hA0, hV, rfl, hfz, hnd⟩ := hW
  have hA : DataW.TrodAll enc Tryd.prog W 0 (fun _ => true) true Tryd.f3.params.toList args.toList ds p := hA0
  rw [Tryd.params3] at hA hval
  obtain ⟨v0, vs0, d0, ds0, p0, q0, hargs, rfl, rfl, h0, r0⟩ := trodAll_cons hA
  obtain ⟨rfl, rfl, rfl⟩ := trodAll_nil r0
  obtain rfl : args = #[v0] := by cases args; simp_all
  obtain ⟨rfl, rfl⟩ := trodVars_none hV
  obtain ⟨a0, rfl, rfl, rfl, w0⟩ := open_string Tryd.underlying9 (hval 0 9 v0 rfl rfl) h0
  clear hA0 hval0
  simp only [List.append_nil] at hW'
  refine (walk HC a0 W hG w0).mono fun e W' ⟨he, bel⟩ => ?_
  subst he
  exact ⟨_, rfl, _, _, _, [], [], [], hW', trodAll_mk1 (shut_bool Tryd.underlying4 _), (trodAll_cons_mk (shut_string Tryd.underlying9 w0) trodAll_mk0), rfl, bel.frame _, fun h => by cases h⟩

theorem over (HC : ValuesC G15) : Rows.valuesWordsRow.holds Tryd.pinned (OpenSpec.ofChange Rows.valuesWordsSpec) :=
  OpenClaim.holds_of_wide 3 Tryd.f3 rfl rfl rfl rfl rfl rfl rfl ⟨rfl, rfl, rfl, rfl, rfl⟩ rfl rfl rfl rfl rfl (by kernel_rfl) Tryd.func3 (by kernel_rfl)
    (of_decide_eq_true (by kernel_rfl)) (by unfold Func.isWrapper; first | (rw [if_pos (by decide +kernel)]; kernel_rfl) | (rw [if_neg (by decide +kernel)]; exact ⟨rfl, rfl⟩))
    (fun os started H enc _ => lifted HC os started H enc)

/-- The row's statement. -/
theorem row_holds : Rows.ValuesWordsSaid := over valuesC
/-- The statement: the row, its table tied to the program's text. -/
theorem proved : Rows.ValuesWordsCardSaid :=
  Claim7.holds_tied_plain_at .later [] [.data, .data, .data, .sentinel, .sentinel, .data, .data] true Rows.valuesWordsCard.stood.harness Rows.valuesWordsCard.stood.looks
    row_holds (fun _ h => by cases h) (by kernel_rfl) (fun _ h => by cases h) valuesWords_row_tie rfl ⟨rfl, rfl⟩ (by kernel_rfl) rfl
    (fun f fn hf hfn => by
      obtain rfl : f = 3 := Option.some.inj ((show Tryd.prog.funcNamed "vestibule/vestibulelaw15.ValuesWords" = some 3 by kernel_rfl).symm.trans hf) |>.symm
      obtain rfl : fn = Tryd.f3 := (Option.some.inj (Tryd.func3.symm.trans hfn)).symm
      exact ⟨by kernel_rfl, fun j t ht => by
        have hm : t ∈ Tryd.f3.params.toList := by simpa using Array.mem_of_getElem? ht
        have hall : (Tryd.f3.params.toList.all fun u => !Tryd.prog.wantsStandIn u) = true := by kernel_rfl
        exact (show Tryd.prog.wantsStandIn t = false by simpa using List.all_eq_true.1 hall t hm)⟩)
    (by kernel_rfl)
#print axioms proved
end Go.Proofs.YtfmfjnnbldmdlaaDoor.valuesWords
