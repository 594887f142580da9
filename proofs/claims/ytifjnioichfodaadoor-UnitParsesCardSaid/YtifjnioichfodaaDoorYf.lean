/- What the document's own Parse returns; whether assignments, and notes, are the same. Condition: bytes that lie in memory. -/
import Derived.Test.YtifjnioichfodaaDoorYe
import Derived.Deep.QuietTactic
import Derived.BigQuiet
import Derived.WalkSmall
namespace Go.Proofs.YtifjnioichfodaaDoor
open Go.RowKit
set_option linter.unusedVariables false
set_option linter.unusedSimpArgs false
attribute [local go_sem ↓] Go.wp_at_zero Go.wp_at_succ

theorem refParse13 (fn : ByteArray) (dir : Int) (a0 : Option Addr) (n cap : Nat) (l : List UInt8) (w : World) (hl : l.length = n) (hn : n ≤ 1000000) (hc : n ≤ cap) (hm : cap ≤ maxLen) (hr : RdB w w.heap.size a0 l) : Calls Tryd.prog 9 #[.agg #[.string fn, .int .i64 dir, .slice a0 n cap]] w fun e w' =>
    ∃ va vn, e = .returned (.tuple #[va, vn]) ∧ RowsAt 5 encA w' va (filA fn l) ∧ RowsAt 4 encN w' vn (filN fn l) ∧ Below w.heap.size w w' := by
  unfold filA filN
  by_cases hE : splE l = 0
  · rw [if_neg (fun h => h hE), if_neg (fun h => h hE)]
    exact parse_go fn dir a0 n cap l w hl hn hc hm hr hE
  · rw [if_pos hE, if_pos hE]
    exact parse_err fn dir a0 n cap l w hl hn hc hm hr hE
set_option maxHeartbeats 4000000 in
theorem sameA_yes (u v : Value) (O : List Asn) (w : World) (hu : RowsAt 5 encA w u O) (hv : RowsAt 5 encA w v O) (hO : O.length ≤ 1000000) : Calls Tryd.prog 10 #[u, v] w fun e w' => e = .returned (.bool true) ∧ Below w.heap.size w w' := by
  obtain ⟨q1, c1, rfl, hr1⟩ := hu
  obtain ⟨q2, c2, rfl, hr2⟩ := hv
  have H1 := Lib.hid hr1
  have H2 := Lib.hid hr2
  obtain ⟨n, hn⟩ : ∃ n, n = O.length := ⟨_, rfl⟩
  have HN := Lib.hid hn
  rw [← hn] at hO ⊢
  clear hr1 hr2 hn
  have t1 : ((n : Int) != (n : Int)) = false := by simp
  go_enter Tryd.func10, Tryd.ntmps10
  go_wp2_with fail
  go_loopw [5] (fun v5 wr => ∃ k : Nat, k ≤ n ∧ v5 = .int .i64 k ∧ Hid (Below w.heap.size w wr)) (fun v5 _ => n - (intOf v5).toNat)
  case atStart => exact ⟨0, by omega, rfl, Lib.hid (Below.refl _ _)⟩
  case round =>
    obtain ⟨k, hk, rfl, PB⟩ := hrel
    obtain ⟨V, rfl⟩ : ∃ wo : World, wo = wr := ⟨_, rfl⟩
    by_cases hlt : k < n
    · have hx : O[k]? = some (O[k]'(by rw [← HN.out]; exact hlt)) := List.getElem?_eq_getElem _
      obtain ⟨p, hp⟩ : ∃ p, p = O[k]'(by rw [← HN.out]; exact hlt) := ⟨_, rfl⟩
      rw [← hp] at hx
      obtain ⟨g1, o1, rfl, d1⟩ := H1.out k p hx
      obtain ⟨g2, o2, rfl, d2⟩ := H2.out k p hx
      have x0 := (PB.out.cell (World.block_lt_of_cell? w _ (d1 0 _ rfl))).trans (d1 0 _ rfl)
      have x1 := (PB.out.cell (World.block_lt_of_cell? w _ (d1 1 _ rfl))).trans (d1 1 _ rfl)
      have x2 := (PB.out.cell (World.block_lt_of_cell? w _ (d1 2 _ rfl))).trans (d1 2 _ rfl)
      have x3 := (PB.out.cell (World.block_lt_of_cell? w _ (d1 3 _ rfl))).trans (d1 3 _ rfl)
      have x4 := (PB.out.cell (World.block_lt_of_cell? w _ (d1 4 _ rfl))).trans (d1 4 _ rfl)
      have y0 := (PB.out.cell (World.block_lt_of_cell? w _ (d2 0 _ rfl))).trans (d2 0 _ rfl)
      have y1 := (PB.out.cell (World.block_lt_of_cell? w _ (d2 1 _ rfl))).trans (d2 1 _ rfl)
      have y2 := (PB.out.cell (World.block_lt_of_cell? w _ (d2 2 _ rfl))).trans (d2 2 _ rfl)
      have y3 := (PB.out.cell (World.block_lt_of_cell? w _ (d2 3 _ rfl))).trans (d2 3 _ rfl)
      have y4 := (PB.out.cell (World.block_lt_of_cell? w _ (d2 4 _ rfl))).trans (d2 4 _ rfl)
      rw [Nat.add_zero] at x0 y0
      have k1 : (k : Int) < n := by omega
      have k0 : (0 : Int) ≤ k := by omega
      have hw1 : IntKind.i64.wrap ((k : Int) + 1) = k + 1 := by rw [IntKind.wrap_i64]; omega
      obtain ⟨f0, f1, f2, f3, f4⟩ := p
      clear hx hp d1 d2
      have e0 : (f0.toList == f0.toList) = true := by simp
      have e1 : (f1 == f1) = true := by simp
      have e2 : (f2.toList == f2.toList) = true := by simp
      have e3 : (f3.toList == f3.toList) = true := by simp
      have e4 : (f4.toList == f4.toList) = true := by simp
      go_wp2_with fail
      go_quiet (fail)
      go_wp2_with fail
      go_roundw
      case rel => exact ⟨k + 1, by omega, by go_num, Lib.hid (Go.below_drewN PB.out _)⟩
      case measure => simp [intOf]; omega
    · obtain rfl : k = n := by omega
      have k1 : ¬ (k : Int) < k := by omega
      go_wp2_with fail
      go_ret
      exact ⟨rfl, PB.out⟩
set_option maxHeartbeats 4000000 in
theorem sameN_yes (u v : Value) (O : List Nte) (w : World) (hu : RowsAt 4 encN w u O) (hv : RowsAt 4 encN w v O) (hO : O.length ≤ 1000000) : Calls Tryd.prog 11 #[u, v] w fun e w' => e = .returned (.bool true) ∧ Below w.heap.size w w' := by
  obtain ⟨q1, c1, rfl, hr1⟩ := hu
  obtain ⟨q2, c2, rfl, hr2⟩ := hv
  have H1 := Lib.hid hr1
  have H2 := Lib.hid hr2
  obtain ⟨n, hn⟩ : ∃ n, n = O.length := ⟨_, rfl⟩
  have HN := Lib.hid hn
  rw [← hn] at hO ⊢
  clear hr1 hr2 hn
  have t1 : ((n : Int) != (n : Int)) = false := by simp
  go_enter Tryd.func11, Tryd.ntmps11
  go_wp2_with fail
  go_loopw [5] (fun v5 wr => ∃ k : Nat, k ≤ n ∧ v5 = .int .i64 k ∧ Hid (Below w.heap.size w wr)) (fun v5 _ => n - (intOf v5).toNat)
  case atStart => exact ⟨0, by omega, rfl, Lib.hid (Below.refl _ _)⟩
  case round =>
    obtain ⟨k, hk, rfl, PB⟩ := hrel
    obtain ⟨V, rfl⟩ : ∃ wo : World, wo = wr := ⟨_, rfl⟩
    by_cases hlt : k < n
    · have hx : O[k]? = some (O[k]'(by rw [← HN.out]; exact hlt)) := List.getElem?_eq_getElem _
      obtain ⟨p, hp⟩ : ∃ p, p = O[k]'(by rw [← HN.out]; exact hlt) := ⟨_, rfl⟩
      rw [← hp] at hx
      obtain ⟨g1, o1, rfl, d1⟩ := H1.out k p hx
      obtain ⟨g2, o2, rfl, d2⟩ := H2.out k p hx
      have x0 := (PB.out.cell (World.block_lt_of_cell? w _ (d1 0 _ rfl))).trans (d1 0 _ rfl)
      have x1 := (PB.out.cell (World.block_lt_of_cell? w _ (d1 1 _ rfl))).trans (d1 1 _ rfl)
      have x2 := (PB.out.cell (World.block_lt_of_cell? w _ (d1 2 _ rfl))).trans (d1 2 _ rfl)
      have x3 := (PB.out.cell (World.block_lt_of_cell? w _ (d1 3 _ rfl))).trans (d1 3 _ rfl)
      have y0 := (PB.out.cell (World.block_lt_of_cell? w _ (d2 0 _ rfl))).trans (d2 0 _ rfl)
      have y1 := (PB.out.cell (World.block_lt_of_cell? w _ (d2 1 _ rfl))).trans (d2 1 _ rfl)
      have y2 := (PB.out.cell (World.block_lt_of_cell? w _ (d2 2 _ rfl))).trans (d2 2 _ rfl)
      have y3 := (PB.out.cell (World.block_lt_of_cell? w _ (d2 3 _ rfl))).trans (d2 3 _ rfl)
      rw [Nat.add_zero] at x0 y0
      have k1 : (k : Int) < n := by omega
      have k0 : (0 : Int) ≤ k := by omega
      have hw1 : IntKind.i64.wrap ((k : Int) + 1) = k + 1 := by rw [IntKind.wrap_i64]; omega
      obtain ⟨f0, f1, f2, f3⟩ := p
      clear hx hp d1 d2
      have e0 : (f0.toList == f0.toList) = true := by simp
      have e1 : (f1 == f1) = true := by simp
      have e2 : (f2 == f2) = true := by simp
      have e3 : (f3.toList == f3.toList) = true := by simp
      go_wp2_with fail
      go_quiet (fail)
      go_wp2_with fail
      go_roundw
      case rel => exact ⟨k + 1, by omega, by go_num, Lib.hid (Go.below_drewN PB.out _)⟩
      case measure => simp [intOf]; omega
    · obtain rfl : k = n := by omega
      have k1 : ¬ (k : Int) < k := by omega
      go_wp2_with fail
      go_ret
      exact ⟨rfl, PB.out⟩
end Go.Proofs.YtifjnioichfodaaDoor
