/- The calls of the landed package calls, but for its lists, at any row: as the chapter says. -/
import Derived.Test.YtijnkhenplmghaaDoorCn
namespace Go.Proofs.YtijnkhenplmghaaDoor
open Go.RowKit
set_option linter.unusedVariables false
attribute [local go_sem ↓] Go.wp_at_zero Go.wp_at_succ

theorem okT_nat (i j : Nat) (hi : i < 6) : okT (i : Int) j = decide (0 ≤ nrT j i) := by
  unfold okT
  rw [decide_eq_true (show (0 : Int) ≤ i by omega), decide_eq_true (show (i : Int) < 6 by omega), Int.toNat_natCast]; rfl
theorem okT_out (a : Int) (j : Nat) (h : ¬ (0 ≤ a ∧ a < 6)) : okT a j = false := by
  unfold okT
  by_cases h0 : 0 ≤ a
  · rw [decide_eq_false (show ¬ a < 6 by omega), Bool.and_false]; rfl
  · rw [decide_eq_false h0]; rfl
theorem onN_nat (i j : Nat) (hi : i < 6) : onN (i : Int) j = if 0 ≤ nrT j i then nrT j i else 0 := by
  unfold onN
  rw [okT_nat i j hi, Int.toNat_natCast]
  by_cases h : 0 ≤ nrT j i
  · rw [decide_eq_true h, if_pos rfl, if_pos h]
  · rw [decide_eq_false h, if_neg (by decide), if_neg h]
theorem onN_out (a : Int) (j : Nat) (h : ¬ (0 ≤ a ∧ a < 6)) : onN a j = 0 := by
  unfold onN; rw [okT_out a j h]; rfl
theorem on9_any (a : Int) (j : Nat) (hj : j < 40) (w : World) (hG : GA8 w) : Calls Tryd.prog 19 #[.agg (rL j).toArray, .int .i64 a] w fun e w' => e = .returned (.tuple #[.int .u32 (onN a j), .bool (okT a j)]) ∧ Below w.heap.size w w' := by
  rw [rL_is j hj]
  by_cases h : 0 ≤ a ∧ a < 6
  · obtain ⟨i, rfl⟩ := Int.eq_ofNat_of_zero_le h.1
    have hi : i < 6 := by omega
    have hn := (nrT_lt j hj i hi).2
    obtain ⟨l0, l1, l2, l3⟩ := mN_lim j hj i hi
    rw [okT_nat i j hi, onN_nat i j hi]
    by_cases g : mN j i = -1
    · have g2 := l2.1 g
      rw [if_neg (by omega), decide_eq_false (by omega)]
      rcases (by omega : i = 0 ∨ i = 1 ∨ i = 2 ∨ i = 3 ∨ i = 4 ∨ i = 5) with rfl | rfl | rfl | rfl | rfl | rfl
      · exact on9_0_0 _ _ _ _ _ _ _ g w hG
      · exact on9_1_0 _ _ _ _ _ _ _ g w hG
      · exact on9_2_0 _ _ _ _ _ _ _ g w hG
      · exact on9_3_0 _ _ _ _ _ _ _ g w hG
      · exact on9_4_0 _ _ _ _ _ _ _ g w hG
      · exact on9_5_0 _ _ _ _ _ _ _ g w hG
    · have g2 := l3 g
      have g3 : nrT j i ≠ -1 := fun e => g (l2.2 e)
      rw [if_pos (by omega), decide_eq_true (by omega), g2]
      rcases (by omega : i = 0 ∨ i = 1 ∨ i = 2 ∨ i = 3 ∨ i = 4 ∨ i = 5) with rfl | rfl | rfl | rfl | rfl | rfl
      · rw [if_neg (by decide), Int.add_zero]; exact on9_0_1 _ _ _ _ _ _ _ (by omega) l1 w hG
      · rw [if_neg (by decide), Int.add_zero]; exact on9_1_1 _ _ _ _ _ _ _ (by omega) l1 w hG
      · rw [if_pos rfl]; exact on9_2_1 _ _ _ _ _ _ _ (by omega) l1 w hG
      · rw [if_neg (by decide), Int.add_zero]; exact on9_3_1 _ _ _ _ _ _ _ (by omega) l1 w hG
      · rw [if_neg (by decide), Int.add_zero]; exact on9_4_1 _ _ _ _ _ _ _ (by omega) l1 w hG
      · rw [if_neg (by decide), Int.add_zero]; exact on9_5_1 _ _ _ _ _ _ _ (by omega) l1 w hG
  · rw [okT_out a j h, onN_out a j h]
    exact on9_out _ _ _ _ _ _ _ a h w hG
/-- The test of a name. -/
theorem nclos (j : Nat) (hj : j < 40) (s : ByteArray) (b : Nat) (w : World) (hb : w.cell? ⟨b, 0, none⟩ = some (.string s)) : Calls Tryd.prog 27 #[.agg (rL j).toArray, .pointer (some ⟨b, 0, none⟩)] w fun e w' =>
    e = .returned (.bool (decide (nmT j = s))) ∧ Below w.heap.size w w' := by
  rw [rL_is j hj]
  have hv := Lib.hid (show decide (nmT j = s) = ((nmT j).toList == s.toList) from by
    rw [Bool.eq_iff_iff, decide_eq_true_iff, beq_iff_eq]
    exact ⟨fun h => by rw [h], list_of_bytes9⟩)
  generalize nmT j = x at hv ⊢
  generalize mN j 0 = n0
  generalize mN j 1 = n1
  generalize mN j 2 = n2
  generalize mN j 3 = n3
  generalize mN j 4 = n4
  generalize mN j 5 = n5
  have hlt : b < w.heap.size := World.block_lt_of_cell? w _ hb
  have hb2 : (w.alloc (.cells #[.string x, .int .i16 n0, .int .i16 n1, .int .i16 n2, .int .i16 n3, .int .i16 n4, .int .i16 n5] 46)).cell? ⟨b, 0, none⟩ = some (.string s) := (World.cell?_alloc_lt w _ _ (by exact hlt)).trans hb
  have hne : b ≠ w.heap.size := by omega
  clear hj
  go_enter Tryd.func27, Tryd.ntmps27
  go_wp2
  go_ret
  exact ⟨by rw [hv.out]; rfl, (Below.refl _ _).alloc (Nat.le_refl _) _⟩
/-- The test of a number. -/
theorem mclos (j : Nat) (hj : j < 40) (a nr : Int) (b c : Nat) (w : World) (hG : GA8 w) (hb : w.cell? ⟨b, 0, none⟩ = some (.int .i64 a)) (hc : w.cell? ⟨c, 0, none⟩ = some (.int .u32 nr)) :
    Calls Tryd.prog 23 #[.agg (rL j).toArray, .pointer (some ⟨b, 0, none⟩), .pointer (some ⟨c, 0, none⟩)] w fun e w' => e = .returned (.bool (okT a j && decide (onN a j = nr))) ∧ Below w.heap.size w w' := by
  have HN := Lib.hid (fun W g => on9_any a j hj W g)
  rw [rL_is j hj] at HN ⊢
  generalize nmT j = x at HN ⊢
  generalize mN j 0 = n0 at HN
  generalize mN j 1 = n1 at HN
  generalize mN j 2 = n2 at HN
  generalize mN j 3 = n3 at HN
  generalize mN j 4 = n4 at HN
  generalize mN j 5 = n5 at HN
  generalize onN a j = y at HN ⊢
  generalize okT a j = z at HN ⊢
  have HG := Lib.hid (hG.al (.cells #[.string x, .int .i16 n0, .int .i16 n1, .int .i16 n2, .int .i16 n3, .int .i16 n4, .int .i16 n5] 46))
  have hlt : b < w.heap.size := World.block_lt_of_cell? w _ hb
  have hb2 : (w.alloc (.cells #[.string x, .int .i16 n0, .int .i16 n1, .int .i16 n2, .int .i16 n3, .int .i16 n4, .int .i16 n5] 46)).cell? ⟨b, 0, none⟩ = some (.int .i64 a) := (World.cell?_alloc_lt w _ _ (by exact hlt)).trans hb
  have hclt : c < w.heap.size := World.block_lt_of_cell? w _ hc
  have hc2 : (w.alloc (.cells #[.string x, .int .i16 n0, .int .i16 n1, .int .i16 n2, .int .i16 n3, .int .i16 n4, .int .i16 n5] 46)).cell? ⟨c, 0, none⟩ = some (.int .u32 nr) := (World.cell?_alloc_lt w _ _ (by exact hclt)).trans hc
  have hsz : (w.alloc (.cells #[.string x, .int .i16 n0, .int .i16 n1, .int .i16 n2, .int .i16 n3, .int .i16 n4, .int .i16 n5] 46)).heap.size = w.heap.size + 1 := World.size_alloc _ _
  have hne : b ≠ w.heap.size := by omega
  have hnc : c ≠ w.heap.size := by omega
  have hdec : decide (y = nr) = (y == nr) := by rw [Bool.eq_iff_iff, decide_eq_true_iff, beq_iff_eq]
  clear hj hG
  cases z
  · go_enter Tryd.func23, Tryd.ntmps23
    go_wp2_with (go_at_call 19; ((with_reducible refine (HN.out _ HG.out).mono ?_); rintro e w1 ⟨rfl, b1⟩); have hc3 := (b1.cell (p := ⟨c, 0, none⟩) (by rw [hsz]; exact Nat.lt_succ_of_lt hclt)).trans hc2)
    go_ret
    exact ⟨rfl, thn9 ((Below.refl _ _).alloc (Nat.le_refl _) _) b1⟩
  · go_enter Tryd.func23, Tryd.ntmps23
    go_wp2_with (go_at_call 19; ((with_reducible refine (HN.out _ HG.out).mono ?_); rintro e w1 ⟨rfl, b1⟩); have hc3 := (b1.cell (p := ⟨c, 0, none⟩) (by rw [hsz]; exact Nat.lt_succ_of_lt hclt)).trans hc2)
    go_ret
    exact ⟨by rw [hdec]; rfl, thn9 ((Below.refl _ _).alloc (Nat.le_refl _) _) b1⟩
/-- The row that find finds. -/
def rowR (p : Nat → Bool) : List Value := match firstT p 40 with | some j => rL j | none => [.string ⟨#[]⟩, .int .i16 0, .int .i16 0, .int .i16 0, .int .i16 0, .int .i16 0, .int .i16 0]
theorem row_there9 {V : World} {g : Nat} (h : V.heap[g]? = some (.cells #[.string ⟨#[]⟩, .int .i16 0, .int .i16 0, .int .i16 0, .int .i16 0, .int .i16 0, .int .i16 0] 46 (0, 0))) : V.there g 0 7 := fun j hj => by
  refine ⟨?_, frozen_of_row _ _ _ _ _ h⟩
  rw [cell_of_row _ _ (0 + j) _ _ (0, 0) h]
  match j, hj with
  | 0, _ => rfl
  | 1, _ => rfl
  | 2, _ => rfl
  | 3, _ => rfl
  | 4, _ => rfl
  | 5, _ => rfl
  | 6, _ => rfl
  | j + 7, hj => omega
theorem one9 (x : ByteArray) (n0 n1 n2 n3 n4 n5 : Int) : (#[.string x, .int .i16 n0, .int .i16 n1, .int .i16 n2, .int .i16 n3, .int .i16 n4, .int .i16 n5] : Array Value).all (·.oneCell') = true := by kernel_rfl
/-- A row, stored into the result's own cells. -/
theorem ret9 {w V : World} {g : Nat} (h : V.heap[g]? = some (.cells #[.string ⟨#[]⟩, .int .i16 0, .int .i16 0, .int .i16 0, .int .i16 0, .int .i16 0, .int .i16 0] 46 (0, 0))) (hB : Below w.heap.size w V) (hg : w.heap.size ≤ g) (x : ByteArray) (n0 n1 n2 n3 n4 n5 : Int) :
    (loadVar 46 ⟨g, 0, none⟩).run Tryd.prog (V.setCells g 0 [.string x, .int .i16 n0, .int .i16 n1, .int .i16 n2, .int .i16 n3, .int .i16 n4, .int .i16 n5]) = .ok (.agg #[.string x, .int .i16 n0, .int .i16 n1, .int .i16 n2, .int .i16 n3, .int .i16 n4, .int .i16 n5]) (V.setCells g 0 [.string x, .int .i16 n0, .int .i16 n1, .int .i16 n2, .int .i16 n3, .int .i16 n4, .int .i16 n5]) ∧ Below w.heap.size w (V.setCells g 0 [.string x, .int .i16 n0, .int .i16 n1, .int .i16 n2, .int .i16 n3, .int .i16 n4, .int .i16 n5]) := by
  have hinf : (Tryd.prog.info? 46).map (·.size) = some 7 := by kernel_rfl
  exact ⟨run_loadVar_mid (P := Tryd.prog) _ g 0 46 [.string x, .int .i16 n0, .int .i16 n1, .int .i16 n2, .int .i16 n3, .int .i16 n4, .int .i16 n5] _ (World.rangeAt_setCells_same V g 0 [.string x, .int .i16 n0, .int .i16 n1, .int .i16 n2, .int .i16 n3, .int .i16 n4, .int .i16 n5] (row_there9 h)) Tryd.underlying46 rfl hinf, below_setCells9 hg _ _ _ hB⟩
end Go.Proofs.YtijnkhenplmghaaDoor
