/- The statement CheckLimit holds, over what the calls have to return: a program of just MaxInsns instructions may be taken, one of one more not. -/
import Derived.Test.YtohfampfnhfnlaaDoorRows
import Derived.Test.YtohfampfnhfnlaaDoorCards
import Derived.Test.YtohfampfnhfnlaaDoorTie
import Derived.SevenTiedAt
import Derived.Test.YtohfampfnhfnlaaDoorWd
import Derived.Test.YtohfampfnhfnlaaDoorLw
import Derived.Test.YtohfampfnhfnlaaDoorUc
import Derived.Test.YtohfampfnhfnlaaDoorSi
import Derived.Test.YtohfampfnhfnlaaDoorSa
import Derived.Test.YtohfampfnhfnlaaDoorId
import Derived.Deep.RegionHeld3
import Derived.BigQuiet
import Derived.Deep.QuietTactic
namespace Go.Proofs.YtohfampfnhfnlaaDoor.checkLimit
open Go.ChangeShapes Go.WideShapes Go.ChangeAt Go.RowKit
open Go.ChangeMaps (open_string shut_string)
set_option linter.unusedVariables false
attribute [local go_sem ↓] Go.wp_at_zero Go.wp_at_succ
theorem made_insns (n : Nat) : (madeCells (Value.agg #[.int .u16 0, .int .u8 0, .int .u8 0, .int .u32 0]).cells (n * 4)).toList = progC (List.replicate n ⟨0, 0, 0, 0⟩) := by
  apply List.ext_getElem?
  intro j
  by_cases hj : j < n * 4
  · obtain ⟨i, r, rfl, hr⟩ : ∃ i r, j = i * 4 + r ∧ r < 4 := ⟨j / 4, j % 4, by omega, by omega⟩
    rw [progC_get (l := List.replicate n ⟨0, 0, 0, 0⟩) (i := i) (by rw [List.length_replicate]; omega) r hr]
    have hm : (i * 4 + r) % 4 = r := by omega
    rcases r with _ | _ | _ | _ | r
    all_goals first | omega | skip
    all_goals
      simp [madeCells, Value.cells, hj, hm, insC]
      try exact ⟨i * 4, by rw [List.getElem?_range (by omega)], by rw [Nat.mul_mod_left]; rfl⟩
  · rw [List.getElem?_eq_none (by simp [madeCells]; omega), List.getElem?_eq_none (by rw [progC_length, List.length_replicate]; omega)]
/-- i instructions tax, and zeros behind them. -/
def mix (n i : Nat) : List Ins := List.replicate i ⟨7, 0, 0, 0⟩ ++ List.replicate (n - i) ⟨0, 0, 0, 0⟩
theorem mix_zero (n : Nat) : mix n 0 = List.replicate n ⟨0, 0, 0, 0⟩ := by simp [mix]
theorem mix_all (n : Nat) : mix n n = List.replicate n ⟨7, 0, 0, 0⟩ := by simp [mix]
theorem mix_length {n i : Nat} (h : i ≤ n) : (mix n i).length = n := by unfold mix; rw [List.length_append, List.length_replicate, List.length_replicate]; omega
theorem mix_set {n i : Nat} (h : i < n) : (progC (mix n i)).set (i * 4) (.int .u16 7) = progC (mix n (i + 1)) := by
  obtain ⟨m, rfl⟩ : ∃ m, n = i + 1 + m := ⟨n - (i + 1), by omega⟩
  unfold mix
  rw [show i + 1 + m - i = m + 1 by omega, show i + 1 + m - (i + 1) = m by omega, List.replicate_succ, List.replicate_succ', progC_app, progC_app, progC_app]
  rw [List.set_append_right _ _ (by rw [progC_length, List.length_replicate]; omega), progC_length, List.length_replicate, Nat.sub_self, List.append_assoc]
  rfl
theorem mix_cell {n i : Nat} (h : i < n) : (progC (mix n i))[i * 4]? = some (.int .u16 0) := by
  obtain ⟨m, rfl⟩ : ∃ m, n = i + 1 + m := ⟨n - (i + 1), by omega⟩
  unfold mix
  rw [show i + 1 + m - i = m + 1 by omega, List.replicate_succ, progC_app, List.getElem?_append_right (by rw [progC_length, List.length_replicate]; omega), progC_length, List.length_replicate, Nat.sub_self]
  rfl
/-- Instructions tax, and an answer at the end. -/
def tay (m : Nat) : List Ins := List.replicate m ⟨7, 0, 0, 0⟩ ++ [⟨6, 0, 0, 0⟩]
theorem tay_length (m : Nat) : (tay m).length = m + 1 := by unfold tay; rw [List.length_append, List.length_replicate]; rfl
theorem tay_set (m : Nat) : (progC (List.replicate (m + 1) ⟨7, 0, 0, 0⟩)).set (m * 4) (.int .u16 6) = progC (tay m) := by
  unfold tay
  rw [List.replicate_succ', progC_app, progC_app]
  rw [List.set_append_right _ _ (by rw [progC_length, List.length_replicate]; omega), progC_length, List.length_replicate, Nat.sub_self]
  rfl
theorem tay_cell (m : Nat) : (progC (List.replicate (m + 1) ⟨7, 0, 0, 0⟩))[m * 4]? = some (.int .u16 7) := by
  rw [List.replicate_succ', progC_app, List.getElem?_append_right (by rw [progC_length, List.length_replicate]; omega), progC_length, List.length_replicate, Nat.sub_self]
  rfl
theorem tay_cases {m i : Nat} {x : Ins} (h : (tay m)[i]? = some x) : x = ⟨7, 0, 0, 0⟩ ∨ x = ⟨6, 0, 0, 0⟩ := by
  have := List.mem_of_getElem? h
  unfold tay at this
  rcases List.mem_append.1 this with h | h
  · exact Or.inl (List.eq_of_mem_replicate h)
  · exact Or.inr (List.mem_singleton.1 h)
theorem okl_tay (m : Nat) : OkL (tay m) := fun x hx => by
  obtain ⟨i, hi⟩ := List.getElem?_of_mem hx
  rcases tay_cases hi with h | h <;> rw [h] <;> exact ⟨by decide, by decide, by decide, by decide, by decide, by decide, by decide, by decide⟩
theorem at_zero {p : List Ins} (h : (atL p).2 = 0) : atL p = (0, 0) := by
  obtain ⟨h0, h1, h2, h3⟩ := atL_ok.1 h
  unfold atL
  rw [if_neg (by omega), badTo_none.2 (fun i x _ hx => h1 i x hx)]
  simp only [h2, h3]
  rfl
theorem tay_taken {m : Nat} (h : m + 1 ≤ 4096) : atL (tay m) = (0, 0) := by
  refine at_zero (atL_ok.2 ⟨⟨by rw [tay_length]; omega, by rw [tay_length]; exact h⟩, fun i x hx => ?_, ?_, unsure_nil.2 fun i hi => ?_⟩)
  · rcases tay_cases hx with e | e <;> rw [e]
    · exact oneE_plain (by decide +kernel) (by decide +kernel) (by decide) (by decide) (by decide) (by decide) (by decide)
    · exact oneE_plain (by decide +kernel) (by decide +kernel) (by decide) (by decide) (by decide) (by decide) (by decide)
  · unfold lastC
    rw [tay_length, Nat.add_sub_cancel]
    have : (tay m)[m]? = some ⟨6, 0, 0, 0⟩ := by
      unfold tay
      rw [List.getElem?_append_right (by rw [List.length_replicate]; exact Nat.le_refl _), List.length_replicate, Nat.sub_self]; rfl
    rw [this]
    show clsI 6 = 5
    decide +kernel
  · unfold unsureB
    cases hx : (tay m)[i]? with
    | none => rfl
    | some x =>
      rcases tay_cases hx with e | e <;> rw [e] <;> simp
theorem tay_long {m : Nat} (h : 4096 < m + 1) : atL (tay m) = (0, 60) := at_size (Or.inr (by rw [tay_length]; exact h))
set_option maxRecDepth 100000 in
set_option maxHeartbeats 16000000 in
theorem short_ {G : World → Prop} (HC : CheckC G) (n m : Nat) (hnm : n = m + 1) (w : World) (hG : G w) (h1 : 4090 ≤ n) (h2 : n ≤ 4096) :
    Calls Tryd.prog 5 #[.int .i64 n] w fun e w' => e = .returned (.bool true) ∧ Below w.heap.size w w' := by
  obtain ⟨i0, hi, hz0, hz1, hz2⟩ := info_parts insn_info
  have HI := Lib.hid hi
  have H0 := Lib.hid hz0
  have H1 := Lib.hid hz1
  have hm0 : i0.bytes * n ≤ 281474976710656 := by rw [hz2]; omega
  have hm1 : n ≤ maxLen := by unfold maxLen; omega
  have HON := Lib.hid (fun (w w' : World) => HC.on (w := w) (w' := w'))
  have HG0 := Lib.hid hG
  have HAT := Lib.hid (fun (W : World) (s : Nat) (g : G W) (h : RdI W W.heap.size (some ⟨s, 0, none⟩) (tay m)) => HC.at_ (some ⟨s, 0, none⟩) n n _ W g (by rw [tay_length]; exact hnm.symm) (okl_tay m) (Nat.le_refl _) hm1 (fun h => by cases h) h)
  rw [show atL (tay m) = (0, 0) from by exact tay_taken (by omega)] at HAT
  have HNM := Lib.hid hnm
  have a1 : (4090 : Int) ≤ n := by omega
  have a2 : (n : Int) ≤ 4100 := by omega
  have a3 : (n : Int) - 1 = m := by omega
  have a4 : (m : Int) < n := by omega
  have a5 : (0 : Int) ≤ m := by omega
  clear hi hz0 hz1 hz2 HC hG hnm
  go_enter Tryd.func5, Tryd.ntmps5
  go_wp2_with (first
    | ((with_reducible show wpList _ _ _ (⟨some 14, _, _, _, _, _⟩ :: _) _ _)
       refine wpList_make_full _ rfl _ _ 22 rfl w.heap.size 35 i0 _ 4 Tryd.underlying22 HI.out H0.out H1.out .i64 .i64 n n n rfl rfl rfl rfl hm0 hm1 (Nat.le_refl _) ?_
       intro w1 o1 g1
       have b1 : Below w.heap.size w w1 := (Below.refl _ _).grown g1 (Nat.le_refl _) (by intro k hk; cases hk)
       rw [made_insns, ← mix_zero] at o1
       have O1 := Lib.hid o1
       have B1 := Lib.hid b1
       clear o1 g1 b1))
  go_loopw [4] (fun v4 wr => ∃ i : Nat, i ≤ n ∧ v4 = .int .i64 i ∧ Hid (wr.ownsRow w.heap.size 35 4 (.slice (some ⟨w.heap.size, 0, none⟩) n n) n (progC (mix n i))) ∧ Hid (Below w.heap.size w wr)) (fun v4 _ => n - (intOf v4).toNat)
  case atStart => exact ⟨0, Nat.zero_le _, rfl, O1, B1⟩
  case round =>
    clear O1 B1
    obtain ⟨i, hi, rfl, P1, P2⟩ := hrel
    obtain ⟨W, rfl⟩ : ∃ wo : World, wo = wr := ⟨_, rfl⟩
    by_cases hlt : i < n
    · have s1 : W.cell? ⟨w.heap.size, i * 4, none⟩ = some (.int .u16 0) := (P1.out.cellAt (i * 4) (by omega)).trans (mix_cell hlt)
      have f1 := P1.out.frozenAt (i * 4)
      have i1 : (i : Int) < n := by omega
      have i2 : (0 : Int) ≤ i := by omega
      have U1 := Lib.hid (P1.out.stored (i * 4) (.int .u16 7)).1
      rw [mix_set hlt] at U1
      have BB := Lib.hid (P2.out.setCell (p := ⟨w.heap.size, i * 4, none⟩) (Nat.le_refl _) (.int .u16 7))
      go_wp2_with fail
      go_roundw
      case rel => exact ⟨i + 1, by omega, by go_num, U1, BB⟩
      case measure => simp [intOf]; omega
    · obtain rfl : n = i := by omega
      rw [mix_all, show List.replicate n (⟨7, 0, 0, 0⟩ : Ins) = List.replicate (m + 1) ⟨7, 0, 0, 0⟩ by rw [HNM.out]] at P1
      have s1 : W.cell? ⟨w.heap.size, m * 4, none⟩ = some (.int .u16 7) := (P1.out.cellAt (m * 4) (by have := HNM.out; omega)).trans (tay_cell m)
      have f1 := P1.out.frozenAt (m * 4)
      have U1 := Lib.hid (P1.out.stored (m * 4) (.int .u16 6)).1
      rw [tay_set] at U1
      have BB := Lib.hid (P2.out.setCell (p := ⟨w.heap.size, m * 4, none⟩) (Nat.le_refl _) (.int .u16 6))
      have RD := Lib.hid (show RdI (W.setCell ⟨w.heap.size, m * 4, none⟩ (.int .u16 6)) (W.setCell ⟨w.heap.size, m * 4, none⟩ (.int .u16 6)).heap.size (some ⟨w.heap.size, 0, none⟩) (tay m) from by
        obtain ⟨_, _, hv, h2, _⟩ := own_shapeI U1.out
        injection hv with h1 _ _
        rw [h1]; exact h2)
      have G1 := Lib.hid (HON.out _ _ HG0.out BB.out)
      clear P1 P2
      go_wp2_with (go_at_call 11; ((with_reducible refine (HAT.out _ _ G1.out RD.out).mono ?_); rintro e v2 ⟨rfl, b2⟩))
      go_ret
      exact ⟨rfl, thn BB.out b2⟩
set_option maxRecDepth 100000 in
set_option maxHeartbeats 16000000 in
theorem long_ {G : World → Prop} (HC : CheckC G) (n m : Nat) (hnm : n = m + 1) (w : World) (hG : G w) (h1 : 4096 < n) (h2 : n ≤ 4100) :
    Calls Tryd.prog 5 #[.int .i64 n] w fun e w' => e = .returned (.bool true) ∧ Below w.heap.size w w' := by
  obtain ⟨i0, hi, hz0, hz1, hz2⟩ := info_parts insn_info
  have HI := Lib.hid hi
  have H0 := Lib.hid hz0
  have H1 := Lib.hid hz1
  have hm0 : i0.bytes * n ≤ 281474976710656 := by rw [hz2]; omega
  have hm1 : n ≤ maxLen := by unfold maxLen; omega
  have HON := Lib.hid (fun (w w' : World) => HC.on (w := w) (w' := w'))
  have HG0 := Lib.hid hG
  have HAT := Lib.hid (fun (W : World) (s : Nat) (g : G W) (h : RdI W W.heap.size (some ⟨s, 0, none⟩) (tay m)) => HC.at_ (some ⟨s, 0, none⟩) n n _ W g (by rw [tay_length]; exact hnm.symm) (okl_tay m) (Nat.le_refl _) hm1 (fun h => by cases h) h)
  rw [show atL (tay m) = (0, 60) from by exact tay_long (by omega)] at HAT
  have HNM := Lib.hid hnm
  have a1 : (4090 : Int) ≤ n := by omega
  have a2 : (n : Int) ≤ 4100 := by omega
  have a3 : (n : Int) - 1 = m := by omega
  have a4 : (m : Int) < n := by omega
  have a5 : (0 : Int) ≤ m := by omega
  clear hi hz0 hz1 hz2 HC hG hnm
  go_enter Tryd.func5, Tryd.ntmps5
  go_wp2_with (first
    | ((with_reducible show wpList _ _ _ (⟨some 14, _, _, _, _, _⟩ :: _) _ _)
       refine wpList_make_full _ rfl _ _ 22 rfl w.heap.size 35 i0 _ 4 Tryd.underlying22 HI.out H0.out H1.out .i64 .i64 n n n rfl rfl rfl rfl hm0 hm1 (Nat.le_refl _) ?_
       intro w1 o1 g1
       have b1 : Below w.heap.size w w1 := (Below.refl _ _).grown g1 (Nat.le_refl _) (by intro k hk; cases hk)
       rw [made_insns, ← mix_zero] at o1
       have O1 := Lib.hid o1
       have B1 := Lib.hid b1
       clear o1 g1 b1))
  go_loopw [4] (fun v4 wr => ∃ i : Nat, i ≤ n ∧ v4 = .int .i64 i ∧ Hid (wr.ownsRow w.heap.size 35 4 (.slice (some ⟨w.heap.size, 0, none⟩) n n) n (progC (mix n i))) ∧ Hid (Below w.heap.size w wr)) (fun v4 _ => n - (intOf v4).toNat)
  case atStart => exact ⟨0, Nat.zero_le _, rfl, O1, B1⟩
  case round =>
    clear O1 B1
    obtain ⟨i, hi, rfl, P1, P2⟩ := hrel
    obtain ⟨W, rfl⟩ : ∃ wo : World, wo = wr := ⟨_, rfl⟩
    by_cases hlt : i < n
    · have s1 : W.cell? ⟨w.heap.size, i * 4, none⟩ = some (.int .u16 0) := (P1.out.cellAt (i * 4) (by omega)).trans (mix_cell hlt)
      have f1 := P1.out.frozenAt (i * 4)
      have i1 : (i : Int) < n := by omega
      have i2 : (0 : Int) ≤ i := by omega
      have U1 := Lib.hid (P1.out.stored (i * 4) (.int .u16 7)).1
      rw [mix_set hlt] at U1
      have BB := Lib.hid (P2.out.setCell (p := ⟨w.heap.size, i * 4, none⟩) (Nat.le_refl _) (.int .u16 7))
      go_wp2_with fail
      go_roundw
      case rel => exact ⟨i + 1, by omega, by go_num, U1, BB⟩
      case measure => simp [intOf]; omega
    · obtain rfl : n = i := by omega
      rw [mix_all, show List.replicate n (⟨7, 0, 0, 0⟩ : Ins) = List.replicate (m + 1) ⟨7, 0, 0, 0⟩ by rw [HNM.out]] at P1
      have s1 : W.cell? ⟨w.heap.size, m * 4, none⟩ = some (.int .u16 7) := (P1.out.cellAt (m * 4) (by have := HNM.out; omega)).trans (tay_cell m)
      have f1 := P1.out.frozenAt (m * 4)
      have U1 := Lib.hid (P1.out.stored (m * 4) (.int .u16 6)).1
      rw [tay_set] at U1
      have BB := Lib.hid (P2.out.setCell (p := ⟨w.heap.size, m * 4, none⟩) (Nat.le_refl _) (.int .u16 6))
      have RD := Lib.hid (show RdI (W.setCell ⟨w.heap.size, m * 4, none⟩ (.int .u16 6)) (W.setCell ⟨w.heap.size, m * 4, none⟩ (.int .u16 6)).heap.size (some ⟨w.heap.size, 0, none⟩) (tay m) from by
        obtain ⟨_, _, hv, h2, _⟩ := own_shapeI U1.out
        injection hv with h1 _ _
        rw [h1]; exact h2)
      have G1 := Lib.hid (HON.out _ _ HG0.out BB.out)
      clear P1 P2
      go_wp2_with (go_at_call 11; ((with_reducible refine (HAT.out _ _ G1.out RD.out).mono ?_); rintro e v2 ⟨rfl, b2⟩))
      go_ret
      exact ⟨rfl, thn BB.out b2⟩
theorem walk {G : World → Prop} (HC : CheckC G) (a0 : Int) (w : World) (hG : G w) (w0 : (Lit.int .i64 a0).wf = true) :
    Calls Tryd.prog 5 #[.int .i64 a0] w fun e w' => e = .returned (.bool true) ∧ Below w.heap.size w w' := by
  by_cases h : 4090 ≤ a0 ∧ a0 ≤ 4100
  · obtain ⟨n, rfl⟩ := Int.eq_ofNat_of_zero_le (show 0 ≤ a0 by omega)
    by_cases h2 : n ≤ 4096
    · exact short_ HC n (n - 1) (by omega) w hG (by omega) h2
    · exact long_ HC n (n - 1) (by omega) w hG (by omega) (by omega)
  · clear HC hG
    by_cases h1 : a0 < 4090
    · go_enter Tryd.func5, Tryd.ntmps5
      go_wp2_with fail
      go_ret
      exact ⟨rfl, Below.refl _ _⟩
    · have h2 : 4100 < a0 := by omega
      go_enter Tryd.func5, Tryd.ntmps5
      go_wp2_with fail
      go_ret
      exact ⟨rfl, Below.refl _ _⟩

set_option maxRecDepth 100000 in
theorem lifted (HC : CheckC GW) (os : Os) (started : os.Started) (H : Type) (enc : TypeId × Value → H) :
    ReturnsInHanded {} Tryd.checked os 5 .any (fun w args => (Rows.checkLimitSpec.pre enc Tryd.prog Tryd.f5 [] false w args ∧ laidMetH Tryd.prog listed w) ∧ sizedMet enc Tryd.prog Tryd.f5 (OpenSpec.ofChange Rows.checkLimitSpec) false w args)
      (Rows.checkLimitSpec.post enc Tryd.prog Tryd.f5 false true false false) := by
  refine returnsInHanded_of_change_and (C := Tryd.checked) (X := fun w _ => laidMetH Tryd.prog listed w) (fun _ _ _ hh h => h.of_heap hh) ownKnob_none started (by kernel_rfl) Tryd.func5
    (ChangeSpec.witness_shaped (enc := enc) (C := Tryd.checked) (os := os) (X := fun w _ => laidMetH Tryd.prog listed w) false (World.doorLaid Tryd.prog 400 os) #[.int .i64 0] 8 rfl (World.shaped_of_RefB (by kernel_rfl) (by kernel_rfl)) (by kernel_rfl) (by kernel_rfl) (by kernel_rfl) (door_met os _)) ?_
  intro W base args ds gs before hval0 hW _ _ hL _
  have hG : GW W := of_laid hL
  have hval : ∀ (j : Nat) t v, Tryd.f5.params[j]? = some t → args[j]? = some v → Value.okWide Tryd.prog W .any base t v := hval0
  have hW' := hW
  obtain ⟨p, q, hA0, hV, rfl, hfz, hnd⟩ := hW
  have hA : DataW.TrodAll enc Tryd.prog W 0 (fun _ => true) true Tryd.f5.params.toList args.toList ds p := hA0
  rw [Tryd.params5] at hA hval
  obtain ⟨v0, vs0, d0, ds0, p0, q0, hargs, rfl, rfl, h0, r0⟩ := trodAll_cons hA
  obtain ⟨rfl, rfl, rfl⟩ := trodAll_nil r0
  obtain rfl : args = #[v0] := by cases args; simp_all
  obtain ⟨rfl, rfl⟩ := trodVars_none hV
  obtain ⟨a0, rfl, rfl, rfl, w0⟩ := open_int Tryd.underlying3 (hval 0 3 v0 rfl rfl) h0
  clear hA0 hval0
  simp only [List.append_nil] at hW'
  refine (walk HC a0 W hG w0).mono fun e W' ⟨he, bel⟩ => ?_
  subst he
  exact ⟨_, rfl, _, _, _, [], [], [], hW', trodAll_mk1 (shut_bool Tryd.underlying4 _), (trodAll_cons_mk (shut_int Tryd.underlying3 w0) trodAll_mk0), rfl, bel.frame _, fun h => by cases h⟩

theorem over (HC : CheckC GW) : Rows.checkLimitRow.holds Tryd.pinned (OpenSpec.ofChange Rows.checkLimitSpec) :=
  OpenClaim.holds_of_wide 5 Tryd.f5 rfl rfl rfl rfl rfl rfl rfl ⟨rfl, rfl, rfl, rfl, rfl⟩ rfl rfl rfl rfl rfl (by kernel_rfl) Tryd.func5 (by kernel_rfl)
    (of_decide_eq_true (by kernel_rfl)) (by unfold Func.isWrapper; first | (rw [if_pos (by decide +kernel)]; kernel_rfl) | (rw [if_neg (by decide +kernel)]; exact ⟨rfl, rfl⟩))
    (fun os started H enc _ => lifted HC os started H enc)

/-- The row's statement. -/
theorem row_holds : Rows.CheckLimitSaid := over checkC
/-- The statement: the row, its table tied to the program's text. -/
theorem proved : Rows.CheckLimitCardSaid :=
  Claim7.holds_tied_plain_at .later [] [.data] true Rows.checkLimitCard.stood.harness Rows.checkLimitCard.stood.looks
    row_holds (fun _ h => by cases h) (by kernel_rfl) (fun _ h => by cases h) checkLimit_row_tie rfl ⟨rfl, rfl⟩ (by kernel_rfl) rfl
    (fun f fn hf hfn => by
      obtain rfl : f = 5 := Option.some.inj ((show Tryd.prog.funcNamed "vestibule/vestibulelaw06.CheckLimit" = some 5 by kernel_rfl).symm.trans hf) |>.symm
      obtain rfl : fn = Tryd.f5 := (Option.some.inj (Tryd.func5.symm.trans hfn)).symm
      exact ⟨by kernel_rfl, fun j t ht => by
        have hm : t ∈ Tryd.f5.params.toList := by simpa using Array.mem_of_getElem? ht
        have hall : (Tryd.f5.params.toList.all fun u => !Tryd.prog.wantsStandIn u) = true := by kernel_rfl
        exact (show Tryd.prog.wantsStandIn t = false by simpa using List.all_eq_true.1 hall t hm)⟩)
    (by kernel_rfl)
#print axioms proved
end Go.Proofs.YtohfampfnhfnlaaDoor.checkLimit
