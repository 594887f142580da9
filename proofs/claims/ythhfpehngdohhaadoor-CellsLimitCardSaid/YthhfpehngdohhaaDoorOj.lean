/- The statement CellsLimit holds, over what the calls have to return: of more than MaxInsns instructions nothing is told, of as many all is. -/
import Derived.Test.YthhfpehngdohhaaDoorRows
import Derived.Test.YthhfpehngdohhaaDoorCards
import Derived.Test.YthhfpehngdohhaaDoorTie
import Derived.SevenTiedAt
import Derived.Test.YthhfpehngdohhaaDoorFr
import Derived.Test.YthhfpehngdohhaaDoorLw
import Derived.Test.YthhfpehngdohhaaDoorQj
import Derived.Test.YthhfpehngdohhaaDoorOg
import Derived.Test.YthhfpehngdohhaaDoorId
import Derived.Deep.RegionHeld3
import Derived.BigQuiet
import Derived.Deep.QuietTactic
namespace Go.Proofs.YthhfpehngdohhaaDoor.cellsLimit
open Go.ChangeShapes Go.WideShapes Go.ChangeAt Go.RowKit
open Go.ChangeMaps (open_string shut_string)
set_option linter.unusedVariables false
attribute [local go_sem ↓] Go.wp_at_zero Go.wp_at_succ

theorem made_insns (n : Nat) : (madeCells (Value.agg #[.int .u16 0, .int .u8 0, .int .u8 0, .int .u32 0]).cells (n * 4)).toList = progC (List.replicate n ⟨0, 0, 0, 0⟩) := by
  apply List.ext_getElem?
  intro j
  by_cases hj : j < n * 4
  · obtain ⟨i, r, rfl, hr⟩ : ∃ i r, j = i * 4 + r ∧ r < 4 := ⟨j / 4, j % 4, by omega, by omega⟩
    rw [progC_get (l := List.replicate n ⟨0, 0, 0, 0⟩) (i := i) (by rw [List.length_replicate]; omega) r hr]
    have hm : (i * 4 + r) % 4 = r := by omega
    rcases r with _ | _ | _ | _ | r
    all_goals first | omega | skip
    all_goals
      simp [madeCells, Value.cells, hj, hm, insC]
      try exact ⟨i * 4, by rw [List.getElem?_range (by omega)], by rw [Nat.mul_mod_left]; rfl⟩
  · rw [List.getElem?_eq_none (by simp [madeCells]; omega), List.getElem?_eq_none (by rw [progC_length, List.length_replicate]; omega)]
/-- i instructions tax, and zeros behind them. -/
def mix (n i : Nat) : List Ins := List.replicate i ⟨7, 0, 0, 0⟩ ++ List.replicate (n - i) ⟨0, 0, 0, 0⟩
theorem mix_zero (n : Nat) : mix n 0 = List.replicate n ⟨0, 0, 0, 0⟩ := by simp [mix]
theorem mix_all (n : Nat) : mix n n = List.replicate n ⟨7, 0, 0, 0⟩ := by simp [mix]
theorem mix_length {n i : Nat} (h : i ≤ n) : (mix n i).length = n := by unfold mix; rw [List.length_append, List.length_replicate, List.length_replicate]; omega
theorem mix_set {n i : Nat} (h : i < n) : (progC (mix n i)).set (i * 4) (.int .u16 7) = progC (mix n (i + 1)) := by
  obtain ⟨m, rfl⟩ : ∃ m, n = i + 1 + m := ⟨n - (i + 1), by omega⟩
  unfold mix
  rw [show i + 1 + m - i = m + 1 by omega, show i + 1 + m - (i + 1) = m by omega, List.replicate_succ, List.replicate_succ', progC_app, progC_app, progC_app]
  rw [List.set_append_right _ _ (by rw [progC_length, List.length_replicate]; omega), progC_length, List.length_replicate, Nat.sub_self, List.append_assoc]
  rfl
theorem mix_cell {n i : Nat} (h : i < n) : (progC (mix n i))[i * 4]? = some (.int .u16 0) := by
  obtain ⟨m, rfl⟩ : ∃ m, n = i + 1 + m := ⟨n - (i + 1), by omega⟩
  unfold mix
  rw [show i + 1 + m - i = m + 1 by omega, List.replicate_succ, progC_app, List.getElem?_append_right (by rw [progC_length, List.length_replicate]; omega), progC_length, List.length_replicate, Nat.sub_self]
  rfl
theorem okl_tax (n : Nat) : OkL (List.replicate n ⟨7, 0, 0, 0⟩) := fun x hx => by
  rw [List.eq_of_mem_replicate hx]
  exact ⟨by decide, by decide, by decide, by decide, by decide, by decide, by decide, by decide⟩
set_option maxRecDepth 100000 in
set_option maxHeartbeats 16000000 in
theorem short_ {G : World → Prop} (HC : CellsC G) (n : Nat) (w : World) (hG : G w) (h1 : 4090 ≤ n) (h2 : n ≤ 4096) :
    Calls Tryd.prog 5 #[.int .i64 n] w fun e w' => e = .returned (.bool true) ∧ Below w.heap.size w w' := by
  obtain ⟨i0, hi, hz0, hz1, hz2⟩ := info_parts insn_info
  have HI := Lib.hid hi
  have H0 := Lib.hid hz0
  have H1 := Lib.hid hz1
  have hm0 : i0.bytes * n ≤ 281474976710656 := by rw [hz2]; omega
  have hm1 : n ≤ maxLen := by unfold maxLen; omega
  have HON := Lib.hid (fun (w w' : World) => HC.on (w := w) (w' := w'))
  have HG0 := Lib.hid hG
  have HLR := Lib.hid (show (List.replicate n (⟨7, 0, 0, 0⟩ : Ins)).length = n from List.length_replicate ..)
  have HRE := Lib.hid (fun (W : World) (s : Nat) (g : G W) (h : RdI W W.heap.size (some ⟨s, 0, none⟩) (List.replicate n ⟨7, 0, 0, 0⟩)) => HC.reached (some ⟨s, 0, none⟩) n n _ W g (List.length_replicate ..) (okl_tax n) (Nat.le_refl _) hm1 (fun h => by cases h) h)
  have HSU := Lib.hid (fun (W : World) (s : Nat) (g : G W) (h : RdI W W.heap.size (some ⟨s, 0, none⟩) (List.replicate n ⟨7, 0, 0, 0⟩)) => HC.sure (some ⟨s, 0, none⟩) n n _ W g (List.length_replicate ..) (okl_tax n) (Nat.le_refl _) hm1 (fun h => by cases h) h)
  have HNX := Lib.hid (fun (W : World) (s : Nat) (g : G W) (h : RdI W W.heap.size (some ⟨s, 0, none⟩) (List.replicate n ⟨7, 0, 0, 0⟩)) => HC.next (some ⟨s, 0, none⟩) n n _ 5 W g (List.length_replicate ..) (okl_tax n) (Nat.le_refl _) hm1 (fun h => by cases h) (by decide) (by decide) h)
  rw [show lenX n = n from if_pos h2] at HRE HSU
  rw [show nextX (List.replicate n (⟨7, 0, 0, 0⟩ : Ins)) 5 = [6] from by
    unfold nextX
    rw [if_pos (by rw [HLR.out]; exact h2), show (5 : Int) = ((5 : Nat) : Int) from rfl, nextA_nat, next_tax (by omega), if_pos (by omega)]] at HNX
  have t1 : ((n : Int) == n) = true := by simp
  have t2 : (0 : Int) ≤ (n : Int) - 1 := by omega
  have t3 : (n : Int) - 1 < n := by omega
  unfold BoolsTo at HRE
  unfold SetsTo at HSU
  unfold NextTo at HNX
  have a1 : (4090 : Int) ≤ n := by omega
  have a2 : (n : Int) ≤ 4100 := by omega
  clear hi hz0 hz1 hz2 HC hG HLR
  go_enter Tryd.func5, Tryd.ntmps5
  go_wp2_with (first
    | ((with_reducible show wpList _ _ _ (⟨some 15, _, _, _, _, _⟩ :: _) _ _)
       refine wpList_make_full _ rfl _ _ 22 rfl w.heap.size 38 i0 _ 4 Tryd.underlying22 HI.out H0.out H1.out .i64 .i64 n n n rfl rfl rfl rfl hm0 hm1 (Nat.le_refl _) ?_
       intro w1 o1 g1
       have b1 : Below w.heap.size w w1 := (Below.refl _ _).grown g1 (Nat.le_refl _) (by intro k hk; cases hk)
       rw [made_insns, ← mix_zero] at o1
       have O1 := Lib.hid o1
       have B1 := Lib.hid b1
       clear o1 g1 b1))
  go_loopw [4] (fun v4 wr => ∃ i : Nat, i ≤ n ∧ v4 = .int .i64 i ∧ Hid (wr.ownsRow w.heap.size 38 4 (.slice (some ⟨w.heap.size, 0, none⟩) n n) n (progC (mix n i))) ∧ Hid (Below w.heap.size w wr)) (fun v4 _ => n - (intOf v4).toNat)
  case atStart => exact ⟨0, Nat.zero_le _, rfl, O1, B1⟩
  case round =>
    clear O1 B1
    obtain ⟨i, hi, rfl, P1, P2⟩ := hrel
    obtain ⟨W, rfl⟩ : ∃ wo : World, wo = wr := ⟨_, rfl⟩
    by_cases hlt : i < n
    · have s1 : W.cell? ⟨w.heap.size, i * 4, none⟩ = some (.int .u16 0) := (P1.out.cellAt (i * 4) (by omega)).trans (mix_cell hlt)
      have f1 := P1.out.frozenAt (i * 4)
      have i1 : (i : Int) < n := by omega
      have i2 : (0 : Int) ≤ i := by omega
      have U1 := Lib.hid (P1.out.stored (i * 4) (.int .u16 7)).1
      rw [mix_set hlt] at U1
      have BB := Lib.hid (P2.out.setCell (p := ⟨w.heap.size, i * 4, none⟩) (Nat.le_refl _) (.int .u16 7))
      go_wp2_with fail
      go_roundw
      case rel => exact ⟨i + 1, by omega, by go_num, U1, BB⟩
      case measure => simp [intOf]; omega
    · obtain rfl : n = i := by omega
      rw [mix_all] at P1
      have RD := Lib.hid (show RdI W W.heap.size (some ⟨w.heap.size, 0, none⟩) (List.replicate n ⟨7, 0, 0, 0⟩) from by
        obtain ⟨_, _, hv, h2, _⟩ := own_shapeI P1.out
        injection hv with h1 _ _
        rw [h1]; exact h2)
      have G1 := HON.out _ _ HG0.out P2.out
      go_wp2_with (first
        | (go_at_call 10; ((with_reducible refine (HRE.out _ _ G1 RD.out).mono ?_); rintro e v2 ⟨q2, c2, rfl, o2, b2⟩); have G2 := HON.out _ _ G1 b2; have R2 := RD.out.on b2; have O2 := Lib.hid o2; clear o2)
        | (go_at_call 16; ((with_reducible refine (HSU.out _ _ G2 R2).mono ?_); rintro e v3 ⟨q3, c3, rfl, o3, b3⟩); have G3 := HON.out _ _ G2 b3; have R3 := R2.on b3; have O3 := Lib.hid o3; have O23 := Lib.hid (own_on O2.out b3); clear o3 O2)
        | (go_at_call 13; ((with_reducible refine (HNX.out _ _ G3 R3).mono ?_); rintro e v4 ⟨q4, c4, rfl, o4, b4⟩); have h3 := own_on O3.out b4; have h2 := own_on O23.out b4; obtain ⟨g3, d3, e3⟩ := own_some h3 (by omega); obtain ⟨g2, d2, e2⟩ := own_some h2 (by omega); injection e3 with e31 e32 e33; injection e2 with e21 e22 e23; subst e31 e21; have c3k : v4.cell? ⟨g3, n - 1, none⟩ = some (.int .u16 0) := (h3.cellAt _ (by omega)).trans ((rowS_get _ (by omega)).trans (by rw [sure_tax (by omega)]; rfl)); have c2k : v4.cell? ⟨g2, n - 1, none⟩ = some (.bool true) := (h2.cellAt _ (by omega)).trans ((rowB_get _ (by omega)).trans (by rw [reach_tax (by omega)])); clear h3 h2 o4 e32 e33 e22 e23 O3 O23))
      go_ret
      exact ⟨rfl, thn (thn (thn P2.out b2) b3) b4⟩
set_option maxRecDepth 100000 in
set_option maxHeartbeats 16000000 in
theorem long_ {G : World → Prop} (HC : CellsC G) (n : Nat) (w : World) (hG : G w) (h1 : 4096 < n) (h2 : n ≤ 4100) :
    Calls Tryd.prog 5 #[.int .i64 n] w fun e w' => e = .returned (.bool true) ∧ Below w.heap.size w w' := by
  obtain ⟨i0, hi, hz0, hz1, hz2⟩ := info_parts insn_info
  have HI := Lib.hid hi
  have H0 := Lib.hid hz0
  have H1 := Lib.hid hz1
  have hm0 : i0.bytes * n ≤ 281474976710656 := by rw [hz2]; omega
  have hm1 : n ≤ maxLen := by unfold maxLen; omega
  have HON := Lib.hid (fun (w w' : World) => HC.on (w := w) (w' := w'))
  have HG0 := Lib.hid hG
  have HLR := Lib.hid (show (List.replicate n (⟨7, 0, 0, 0⟩ : Ins)).length = n from List.length_replicate ..)
  have HRE := Lib.hid (fun (W : World) (s : Nat) (g : G W) (h : RdI W W.heap.size (some ⟨s, 0, none⟩) (List.replicate n ⟨7, 0, 0, 0⟩)) => HC.reached (some ⟨s, 0, none⟩) n n _ W g (List.length_replicate ..) (okl_tax n) (Nat.le_refl _) hm1 (fun h => by cases h) h)
  have HSU := Lib.hid (fun (W : World) (s : Nat) (g : G W) (h : RdI W W.heap.size (some ⟨s, 0, none⟩) (List.replicate n ⟨7, 0, 0, 0⟩)) => HC.sure (some ⟨s, 0, none⟩) n n _ W g (List.length_replicate ..) (okl_tax n) (Nat.le_refl _) hm1 (fun h => by cases h) h)
  have HNX := Lib.hid (fun (W : World) (s : Nat) (g : G W) (h : RdI W W.heap.size (some ⟨s, 0, none⟩) (List.replicate n ⟨7, 0, 0, 0⟩)) => HC.next (some ⟨s, 0, none⟩) n n _ 5 W g (List.length_replicate ..) (okl_tax n) (Nat.le_refl _) hm1 (fun h => by cases h) (by decide) (by decide) h)
  rw [show lenX n = 0 from if_neg (by omega)] at HRE HSU
  rw [show nextX (List.replicate n (⟨7, 0, 0, 0⟩ : Ins)) 5 = [] from by
    unfold nextX
    rw [if_neg (by rw [HLR.out]; omega)]] at HNX
  unfold BoolsTo at HRE
  unfold SetsTo at HSU
  unfold NextTo at HNX
  have a1 : (4090 : Int) ≤ n := by omega
  have a2 : (n : Int) ≤ 4100 := by omega
  clear hi hz0 hz1 hz2 HC hG HLR
  go_enter Tryd.func5, Tryd.ntmps5
  go_wp2_with (first
    | ((with_reducible show wpList _ _ _ (⟨some 15, _, _, _, _, _⟩ :: _) _ _)
       refine wpList_make_full _ rfl _ _ 22 rfl w.heap.size 38 i0 _ 4 Tryd.underlying22 HI.out H0.out H1.out .i64 .i64 n n n rfl rfl rfl rfl hm0 hm1 (Nat.le_refl _) ?_
       intro w1 o1 g1
       have b1 : Below w.heap.size w w1 := (Below.refl _ _).grown g1 (Nat.le_refl _) (by intro k hk; cases hk)
       rw [made_insns, ← mix_zero] at o1
       have O1 := Lib.hid o1
       have B1 := Lib.hid b1
       clear o1 g1 b1))
  go_loopw [4] (fun v4 wr => ∃ i : Nat, i ≤ n ∧ v4 = .int .i64 i ∧ Hid (wr.ownsRow w.heap.size 38 4 (.slice (some ⟨w.heap.size, 0, none⟩) n n) n (progC (mix n i))) ∧ Hid (Below w.heap.size w wr)) (fun v4 _ => n - (intOf v4).toNat)
  case atStart => exact ⟨0, Nat.zero_le _, rfl, O1, B1⟩
  case round =>
    clear O1 B1
    obtain ⟨i, hi, rfl, P1, P2⟩ := hrel
    obtain ⟨W, rfl⟩ : ∃ wo : World, wo = wr := ⟨_, rfl⟩
    by_cases hlt : i < n
    · have s1 : W.cell? ⟨w.heap.size, i * 4, none⟩ = some (.int .u16 0) := (P1.out.cellAt (i * 4) (by omega)).trans (mix_cell hlt)
      have f1 := P1.out.frozenAt (i * 4)
      have i1 : (i : Int) < n := by omega
      have i2 : (0 : Int) ≤ i := by omega
      have U1 := Lib.hid (P1.out.stored (i * 4) (.int .u16 7)).1
      rw [mix_set hlt] at U1
      have BB := Lib.hid (P2.out.setCell (p := ⟨w.heap.size, i * 4, none⟩) (Nat.le_refl _) (.int .u16 7))
      go_wp2_with fail
      go_roundw
      case rel => exact ⟨i + 1, by omega, by go_num, U1, BB⟩
      case measure => simp [intOf]; omega
    · obtain rfl : n = i := by omega
      rw [mix_all] at P1
      have RD := Lib.hid (show RdI W W.heap.size (some ⟨w.heap.size, 0, none⟩) (List.replicate n ⟨7, 0, 0, 0⟩) from by
        obtain ⟨_, _, hv, h2, _⟩ := own_shapeI P1.out
        injection hv with h1 _ _
        rw [h1]; exact h2)
      have G1 := HON.out _ _ HG0.out P2.out
      go_wp2_with (first
        | (go_at_call 10; ((with_reducible refine (HRE.out _ _ G1 RD.out).mono ?_); rintro e v2 ⟨q2, c2, rfl, o2, b2⟩); have G2 := HON.out _ _ G1 b2; have R2 := RD.out.on b2; have O2 := Lib.hid o2; clear o2)
        | (go_at_call 16; ((with_reducible refine (HSU.out _ _ G2 R2).mono ?_); rintro e v3 ⟨q3, c3, rfl, o3, b3⟩); have G3 := HON.out _ _ G2 b3; have R3 := R2.on b3; have O3 := Lib.hid o3; have O23 := Lib.hid (own_on O2.out b3); clear o3 O2)
        | (go_at_call 13; ((with_reducible refine (HNX.out _ _ G3 R3).mono ?_); rintro e v4 ⟨q4, c4, rfl, o4, b4⟩)))
      go_ret
      exact ⟨rfl, thn (thn (thn P2.out b2) b3) b4⟩
theorem walk {G : World → Prop} (HC : CellsC G) (a0 : Int) (w : World) (hG : G w) (w0 : (Lit.int .i64 a0).wf = true) :
    Calls Tryd.prog 5 #[.int .i64 a0] w fun e w' => e = .returned (.bool true) ∧ Below w.heap.size w w' := by
  by_cases h : 4090 ≤ a0 ∧ a0 ≤ 4100
  · obtain ⟨n, rfl⟩ := Int.eq_ofNat_of_zero_le (show 0 ≤ a0 by omega)
    by_cases h2 : n ≤ 4096
    · exact short_ HC n w hG (by omega) h2
    · exact long_ HC n w hG (by omega) (by omega)
  · clear HC hG
    by_cases h1 : a0 < 4090
    · go_enter Tryd.func5, Tryd.ntmps5
      go_wp2_with fail
      go_ret
      exact ⟨rfl, Below.refl _ _⟩
    · have h2 : 4100 < a0 := by omega
      go_enter Tryd.func5, Tryd.ntmps5
      go_wp2_with fail
      go_ret
      exact ⟨rfl, Below.refl _ _⟩

set_option maxRecDepth 100000 in
theorem lifted (HC : CellsC GW) (os : Os) (started : os.Started) (H : Type) (enc : TypeId × Value → H) :
    ReturnsInHanded {} Tryd.checked os 5 .any (fun w args => (Rows.cellsLimitSpec.pre enc Tryd.prog Tryd.f5 [] false w args ∧ laidMetH Tryd.prog listed w) ∧ sizedMet enc Tryd.prog Tryd.f5 (OpenSpec.ofChange Rows.cellsLimitSpec) false w args)
      (Rows.cellsLimitSpec.post enc Tryd.prog Tryd.f5 false true false false) := by
  refine returnsInHanded_of_change_and (C := Tryd.checked) (X := fun w _ => laidMetH Tryd.prog listed w) (fun _ _ _ hh h => h.of_heap hh) ownKnob_none started (by kernel_rfl) Tryd.func5
    (ChangeSpec.witness_shaped (enc := enc) (C := Tryd.checked) (os := os) (X := fun w _ => laidMetH Tryd.prog listed w) false (World.doorLaid Tryd.prog 400 os) #[.int .i64 0] 8 rfl (World.shaped_of_RefB (by kernel_rfl) (by kernel_rfl)) (by kernel_rfl) (by kernel_rfl) (by kernel_rfl) (door_met os _)) ?_
  intro W base args ds gs before hval0 hW _ _ hL _
  have hG : GW W := of_laid hL
  have hval : ∀ (j : Nat) t v, Tryd.f5.params[j]? = some t → args[j]? = some v → Value.okWide Tryd.prog W .any base t v := hval0
  have hW' := hW
  obtain ⟨p, q, hA0, hV, rfl, hfz, hnd⟩ := hW
  have hA : DataW.TrodAll enc Tryd.prog W 0 (fun _ => true) true Tryd.f5.params.toList args.toList ds p := hA0
  rw [Tryd.params5] at hA hval
  obtain ⟨v0, vs0, d0, ds0, p0, q0, hargs, rfl, rfl, h0, r0⟩ := trodAll_cons hA
  obtain ⟨rfl, rfl, rfl⟩ := trodAll_nil r0
  obtain rfl : args = #[v0] := by cases args; simp_all
  obtain ⟨rfl, rfl⟩ := trodVars_none hV
  obtain ⟨a0, rfl, rfl, rfl, w0⟩ := open_int Tryd.underlying3 (hval 0 3 v0 rfl rfl) h0
  clear hA0 hval0
  simp only [List.append_nil] at hW'
  refine (walk HC a0 W hG w0).mono fun e W' ⟨he, bel⟩ => ?_
  subst he
  exact ⟨_, rfl, _, _, _, [], [], [], hW', trodAll_mk1 (shut_bool Tryd.underlying4 _), (trodAll_cons_mk (shut_int Tryd.underlying3 w0) trodAll_mk0), rfl, bel.frame _, fun h => by cases h⟩

theorem over (HC : CellsC GW) : Rows.cellsLimitRow.holds Tryd.pinned (OpenSpec.ofChange Rows.cellsLimitSpec) :=
  OpenClaim.holds_of_wide 5 Tryd.f5 rfl rfl rfl rfl rfl rfl rfl ⟨rfl, rfl, rfl, rfl, rfl⟩ rfl rfl rfl rfl rfl (by kernel_rfl) Tryd.func5 (by kernel_rfl)
    (of_decide_eq_true (by kernel_rfl)) (by unfold Func.isWrapper; first | (rw [if_pos (by decide +kernel)]; kernel_rfl) | (rw [if_neg (by decide +kernel)]; exact ⟨rfl, rfl⟩))
    (fun os started H enc _ => lifted HC os started H enc)

/-- The row's statement. -/
theorem row_holds : Rows.CellsLimitSaid := over cellsC
/-- The statement: the row, its table tied to the program's text. -/
theorem proved : Rows.CellsLimitCardSaid :=
  Claim7.holds_tied_plain_at .later [] [.data] true Rows.cellsLimitCard.stood.harness Rows.cellsLimitCard.stood.looks
    row_holds (fun _ h => by cases h) (by kernel_rfl) (fun _ h => by cases h) cellsLimit_row_tie rfl ⟨rfl, rfl⟩ (by kernel_rfl) rfl
    (fun f fn hf hfn => by
      obtain rfl : f = 5 := Option.some.inj ((show Tryd.prog.funcNamed "vestibule/vestibulelaw05.CellsLimit" = some 5 by kernel_rfl).symm.trans hf) |>.symm
      obtain rfl : fn = Tryd.f5 := (Option.some.inj (Tryd.func5.symm.trans hfn)).symm
      exact ⟨by kernel_rfl, fun j t ht => by
        have hm : t ∈ Tryd.f5.params.toList := by simpa using Array.mem_of_getElem? ht
        have hall : (Tryd.f5.params.toList.all fun u => !Tryd.prog.wantsStandIn u) = true := by kernel_rfl
        exact (show Tryd.prog.wantsStandIn t = false by simpa using List.all_eq_true.1 hall t hm)⟩)
    (by kernel_rfl)
#print axioms proved

end Go.Proofs.YthhfpehngdohhaaDoor.cellsLimit
