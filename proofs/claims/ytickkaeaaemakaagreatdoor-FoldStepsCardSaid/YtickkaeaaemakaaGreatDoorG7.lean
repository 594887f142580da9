/- The landed groups.Expand: what a group has, in new memory. No condition. -/
import Derived.Test.YtickkaeaaemakaaGreatDoorG4
namespace Go.Proofs.YtickkaeaaemakaaGreatDoor
open Go.RowKit
set_option linter.unusedVariables false
set_option linter.unusedSimpArgs false
attribute [local go_sem ↓] Go.wp_at_zero Go.wp_at_succ

set_option maxHeartbeats 4000000 in
theorem expn_none (s : ByteArray) (w : World) (h : memR s = []) : Calls Tryz.prog 71 #[.string s] w fun e w' => ∃ v, e = .returned (.tuple #[v, .int .i64 110]) ∧ StrsAt w' v [] ∧ (∀ g, v.ownBlock = some g → w.heap.size ≤ g) ∧ Below w.heap.size w w' := by
  have HD := Lib.hid (deep_l s w)
  rw [deep_none h] at HD
  clear h
  go_enter Tryz.func71, Tryz.ntmps71
  go_wp2_with (go_at_call 85; ((with_reducible refine (HD.out).mono ?_); rintro e W ⟨rfl, b1⟩))
  go_ret2
  exact ⟨_, rfl, StrsAt.nil _, (fun g e => by cases e), b1⟩
set_option maxHeartbeats 4000000 in
theorem expn_deep (s : ByteArray) (w : World) (h : memR s ≠ []) (hd : 4 < deepR s) : Calls Tryz.prog 71 #[.string s] w fun e w' => ∃ v, e = .returned (.tuple #[v, .int .i64 111]) ∧ StrsAt w' v [] ∧ (∀ g, v.ownBlock = some g → w.heap.size ≤ g) ∧ Below w.heap.size w w' := by
  have HD := Lib.hid (deep_l s w)
  obtain ⟨d, hdd⟩ : ∃ d, d = deepR s := ⟨_, rfl⟩
  rw [← hdd] at HD hd
  have i1 : (4 : Int) < d := by omega
  have i2 : (d : Int) > 4 := by omega
  have i3 : ((d : Int) == 0) = false := beq_eq_false_iff_ne.2 (by omega)
  have i4 : ¬ (d : Int) = 0 := by omega
  clear h hd hdd
  go_enter Tryz.func71, Tryz.ntmps71
  go_wp2_with (go_at_call 85; ((with_reducible refine (HD.out).mono ?_); rintro e W ⟨rfl, b1⟩))
  go_ret2
  exact ⟨_, rfl, StrsAt.nil _, (fun g e => by cases e), b1⟩
set_option maxHeartbeats 8000000 in
theorem expn_all (s : ByteArray) (w : World) (h : memR s ≠ []) (hd : ¬ 4 < deepR s) : Calls Tryz.prog 71 #[.string s] w fun e w' => ∃ v, e = .returned (.tuple #[v, .int .i64 0]) ∧ StrsAt w' v (expL s) ∧ (∀ g, v.ownBlock = some g → w.heap.size ≤ g) ∧ Below w.heap.size w w' := by
  obtain ⟨hx1, hx2, hx3⟩ := exp_at h hd
  have HD := Lib.hid (deep_l s w)
  have HT := Lib.hid (fun W => tableH W)
  have HE := Lib.hid (fun (base B f e t : Nat) (W : World) (l : List ByteArray) (v : Value) (hX : XBox W base B f e t l) (hN : NamesIn base f W v [s]) (hl : l.length + (exF 8 [s]).length ≤ 1000) => expand_all11 base B f e t 7 [s] (fun x _ => by have := deep_le x; omega) (by show 1 ≤ 8; decide) W l v hX hN hl)
  have HS := Lib.hid (fun (V : World) (B g cap n : Nat) (hn : n = (exF 8 [s]).length) (h : V.ownsRow B 9 1 (.slice (some ⟨g, 0, none⟩) n cap) n (sG (exF 8 [s]))) (hl : n ≤ 1000000) (hB : B ≤ V.heap.size) => sort_S V B g cap n (exF 8 [s]) hn h hl hB)
  have HO := Lib.hid (fun (V : World) (B g cap n : Nat) (hn : n = (exF 8 [s]).length) (hH : Holds11 V g s) (hg : B ≤ g) (hV : g < V.heap.size) (hcap : n ≤ cap) (hl : n ≤ 900) => comp_at s hx1 V B g cap n hn hH hg hV hcap hl)
  obtain ⟨n, hn⟩ : ∃ n, n = (exF 8 [s]).length := ⟨_, rfl⟩
  have HN := Lib.hid hn
  rw [← hn] at hx2 hx3
  have H2 := Lib.hid hx2
  have HL0 := Lib.hid (show ([] : List ByteArray).length + (exF 8 [s]).length ≤ 1000 by show 0 + _ ≤ 1000; rw [← hn]; omega)
  have HM := Lib.hid (show n ≤ 1000000 by omega)
  have H3 := Lib.hid hx3
  have hp := deep_pos h
  obtain ⟨d, hdd⟩ : ∃ d, d = deepR s := ⟨_, rfl⟩
  rw [← hdd] at HD hd hp
  have i2 : ¬ (d : Int) > 4 := by omega
  have i3 : ((d : Int) == 0) = false := beq_eq_false_iff_ne.2 (by omega)
  have i4 : ¬ (d : Int) = 0 := by omega
  have i5 : (d : Int) ≤ 4 := by omega
  clear h hd hdd hx1 hx2 hx3 hn hp
  go_enter Tryz.func71, Tryz.ntmps71
  go_wp2_with (first
    | (go_at_call 85; ((with_reducible refine (HD.out).mono ?_); rintro e W0 ⟨rfl, b0⟩); have B0 := Lib.hid b0; clear b0)
    | (go_at_call 86; ((with_reducible refine (HT.out _).mono ?_); rintro e W ⟨rfl, t1, b1⟩); have T1 := Lib.hid t1; have B1 := Lib.hid (thnH B0.out b1); clear t1 b1)
    | (go_at_call 87; obtain ⟨dx, nx, bx⟩ := exp_world W s W0.heap.size _ _ _ _ T1.out rfl; ((with_reducible refine (HE.out _ _ _ _ _ _ _ _ dx nx HL0.out).mono ?_); rintro r Y ⟨rfl, x3, k3⟩); rw [List.nil_append] at x3; obtain ⟨fv, hf1, hf2⟩ := x3.found; rw [← HN.out] at hf2; obtain ⟨g, cap, rfl, hcap, hg⟩ := own_form hf2 H2.out; have y1 := (cell_of_row Y (W.heap.size + 1) 0 _ _ (0, 0) hf1).trans (show _ = some _ from rfl); have BY := Lib.hid (thnH B1.out (bx.trans (k3.below (by omega) (by omega)))); have XY := Lib.hid x3; have OY := Lib.hid hf2; have GC := Lib.hid (And.intro hcap hg); have HW := Lib.hid (show w.heap.size ≤ (W.heap.size + 1 + 1 + 1 + 1) by have := B1.out.size; omega); clear x3 hf1 hf2 hcap hg k3 bx dx nx)
    | (go_at_call 89; ((with_reducible refine (HS.out Y (W.heap.size + 1 + 1 + 1 + 1) g cap n HN.out OY.out HM.out XY.out.lt.2.2.2.2).mono ?_); rintro r Z ⟨rfl, hh, hg, bz⟩); have y2 := (bz.cell (p := ⟨W.heap.size + 1, 0, none⟩) (show W.heap.size + 1 < (W.heap.size + 1 + 1 + 1 + 1) by omega)).trans y1; have HZ := Lib.hid hh; have GZ := Lib.hid hg; have BZ := Lib.hid (BY.out.trans (bz.mono HW.out)); clear hh hg bz)
    | (go_at_call 90; ((with_reducible refine (HO.out Z (W.heap.size + 1 + 1 + 1 + 1) g cap n HN.out HZ.out GC.out.2 GZ.out GC.out.1 H3.out).mono ?_); rintro r U ⟨m, rfl, s5, b5⟩); have S5 := Lib.hid s5; have B5 := Lib.hid (BZ.out.trans (b5.mono HW.out)); clear s5 b5))
  go_ret2
  exact ⟨_, rfl, S5.out, (fun k e => by have e2 : g = k := Option.some.inj e; have := GC.out.2; have := HW.out; omega), B5.out⟩
theorem expand_n (s : ByteArray) (w : World) : Calls Tryz.prog 71 #[.string s] w fun e w' => ∃ v, e = .returned (.tuple #[v, .int .i64 (expE s)]) ∧ StrsAt w' v (expL s) ∧ (∀ g, v.ownBlock = some g → w.heap.size ≤ g) ∧ Below w.heap.size w w' := by
  unfold expE expL
  by_cases h : memR s = []
  · rw [if_pos h, if_pos (Or.inl h)]
    exact expn_none s w h
  · rw [if_neg h]
    by_cases hd : 4 < deepR s
    · rw [if_pos hd, if_pos (Or.inr hd)]
      exact expn_deep s w h hd
    · rw [if_neg hd, if_neg (by rintro (h1 | h1); exact h h1; exact hd h1)]
      have h2 := expn_all s w h hd
      unfold expL at h2
      rw [if_neg (by rintro (h1 | h1); exact h h1; exact hd h1)] at h2
      exact h2
end Go.Proofs.YtickkaeaaemakaaGreatDoor
