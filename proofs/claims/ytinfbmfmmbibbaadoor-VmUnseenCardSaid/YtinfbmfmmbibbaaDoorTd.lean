/- What the calls of the landed package data return: Word, Low, High, and the number of two words in a row. Condition: each number fits its kind. -/
import Derived.Test.YtinfbmfmmbibbaaDoorTc
namespace Go.Proofs.YtinfbmfmmbibbaaDoor
open Go.RowKit
set_option linter.unusedVariables false
attribute [local go_sem ↓] Go.wp_at_zero Go.wp_at_succ

theorem tblC_eq (d : Dat) : tblC d = #[.int .u32 ((tblL d).getD 0 0), .int .u32 ((tblL d).getD 1 0), .int .u32 ((tblL d).getD 2 0), .int .u32 ((tblL d).getD 3 0), .int .u32 ((tblL d).getD 4 0), .int .u32 ((tblL d).getD 5 0), .int .u32 ((tblL d).getD 6 0), .int .u32 ((tblL d).getD 7 0), .int .u32 ((tblL d).getD 8 0), .int .u32 ((tblL d).getD 9 0), .int .u32 ((tblL d).getD 10 0), .int .u32 ((tblL d).getD 11 0), .int .u32 ((tblL d).getD 12 0), .int .u32 ((tblL d).getD 13 0), .int .u32 ((tblL d).getD 14 0), .int .u32 ((tblL d).getD 15 0)] := rfl
theorem tblC_get (d : Dat) {k : Nat} (hk : k < 16) : (tblC d)[k]? = some (.int .u32 ((tblL d).getD k 0)) := by
  match k, hk with
  | 0, _ => rfl
  | 1, _ => rfl
  | 2, _ => rfl
  | 3, _ => rfl
  | 4, _ => rfl
  | 5, _ => rfl
  | 6, _ => rfl
  | 7, _ => rfl
  | 8, _ => rfl
  | 9, _ => rfl
  | 10, _ => rfl
  | 11, _ => rfl
  | 12, _ => rfl
  | 13, _ => rfl
  | 14, _ => rfl
  | 15, _ => rfl
  | k + 16, hk => omega
theorem tbl_there (W : World) : (W.alloc (.cells #[.int .u32 0, .int .u32 0, .int .u32 0, .int .u32 0, .int .u32 0, .int .u32 0, .int .u32 0, .int .u32 0, .int .u32 0, .int .u32 0, .int .u32 0, .int .u32 0, .int .u32 0, .int .u32 0, .int .u32 0, .int .u32 0] 107)).there W.heap.size 0 16 := fun j hj => by
  refine ⟨?_, frozen_of_row _ _ _ _ _ (heap_alloc_new W _)⟩
  rw [cell_of_row _ _ (0 + j) _ _ (0, 0) (heap_alloc_new W _)]
  match j, hj with
  | 0, _ => rfl
  | 1, _ => rfl
  | 2, _ => rfl
  | 3, _ => rfl
  | 4, _ => rfl
  | 5, _ => rfl
  | 6, _ => rfl
  | 7, _ => rfl
  | 8, _ => rfl
  | 9, _ => rfl
  | 10, _ => rfl
  | 11, _ => rfl
  | 12, _ => rfl
  | 13, _ => rfl
  | 14, _ => rfl
  | 15, _ => rfl
  | j + 16, hj => omega
set_option maxRecDepth 100000 in
set_option maxHeartbeats 4000000 in
theorem word_in (a0 : Dat) (k : Nat) (a : Int) (w : World) (h : a0.Ok) (hk : k < 16) (ha : a = 4 * (k : Int)) : Calls Tryd.prog 64 #[datV a0, .int .u32 a] w fun e w' =>
    e = .returned (.tuple #[.int .u32 ((tblL a0).getD k 0), .int .i64 0]) ∧ Below w.heap.size w w' := by
  have HT := Lib.hid (fun W => tableOf_any a0 W h)
  have hg := tblC_get a0 hk
  have hsz : (tblC a0).size = 16 := rfl
  have hth : ∀ W : World, (W.alloc (.cells #[.int .u32 0, .int .u32 0, .int .u32 0, .int .u32 0, .int .u32 0, .int .u32 0, .int .u32 0, .int .u32 0, .int .u32 0, .int .u32 0, .int .u32 0, .int .u32 0, .int .u32 0, .int .u32 0, .int .u32 0, .int .u32 0] 107)).there W.heap.size 0 (tblC a0).size := fun W => tbl_there W
  have HG : Hid (∀ W : World, ((W.alloc (.cells #[.int .u32 0, .int .u32 0, .int .u32 0, .int .u32 0, .int .u32 0, .int .u32 0, .int .u32 0, .int .u32 0, .int .u32 0, .int .u32 0, .int .u32 0, .int .u32 0, .int .u32 0, .int .u32 0, .int .u32 0, .int .u32 0] 107)).setCells W.heap.size 0 (tblC a0).toList).cell? ⟨W.heap.size, k, none⟩ = some (.int .u32 ((tblL a0).getD k 0))) := Lib.hid (fun W => by
    have := World.rangeAt_setCells_same (W.alloc (.cells #[.int .u32 0, .int .u32 0, .int .u32 0, .int .u32 0, .int .u32 0, .int .u32 0, .int .u32 0, .int .u32 0, .int .u32 0, .int .u32 0, .int .u32 0, .int .u32 0, .int .u32 0, .int .u32 0, .int .u32 0, .int .u32 0] 107)) W.heap.size 0 (tblC a0).toList (hth W) k _ (by simpa using hg)
    rwa [Nat.zero_add] at this)
  have hone : (tblC a0).all (·.oneCell') = true := all_oneCell_toArray (fun v hv => by obtain ⟨x, _, rfl⟩ := List.mem_map.1 hv; rfl)
  have hinf : (Tryd.prog.info? 107).map (·.size) = some (tblC a0).size := by rw [hsz]; kernel_rfl
  have HTH := Lib.hid hth
  have HON := Lib.hid hone
  have HIN := Lib.hid hinf
  obtain ⟨x, hx⟩ : ∃ x, x = (tblL a0).getD k 0 := ⟨_, rfl⟩
  rw [← hx] at HG ⊢
  have t1 : (a % 4 != 0) = false := by simp; omega
  have t2 : ¬ (63 : Int) < a := by omega
  have t3 : a / 4 = k := by omega
  have k0 : (0 : Int) ≤ k := by omega
  have k1 : (k : Int) < 16 := by omega
  have k2 : 0 ≤ a := by omega
  have k3 : a < 64 := by omega
  clear ha hk hx hg h hsz hth hone hinf
  unfold datV datC at *
  go_enter Tryd.func64, Tryd.ntmps64
  go_wp2_with (first
    | (go_at_call 67; ((with_reducible refine (HT.out _).mono ?_); rintro e w1 ⟨rfl, b1⟩); have hc := HG.out w1)
    | ((with_reducible show wpList _ _ _ (⟨none, .store 107 (.tmp 6) (.tmp 15), _, _, _, _⟩ :: _) _ _)
       refine wpList_store_mid rfl 107 (.tmp 6) (.tmp 15) rfl w1.heap.size 0 (tblC a0) rfl rfl (HTH.out w1) HIN.out HON.out ?_))
  go_ret2
  exact ⟨rfl, below_setCells (by have := b1.size; simp at this; omega) _ _ _ ((((Below.refl _ _).alloc (Nat.le_refl _) _).trans (b1.mono (by simp))).alloc (by have := b1.size; simp at this; omega) _)⟩
theorem wordC : DWordC := by
  intro d a w h h0 h1
  by_cases hm : a % 4 = 0
  · by_cases h2 : a < 64
    · obtain ⟨e1, e2⟩ := wordV_tbl h h0 hm h2
      obtain ⟨k, rfl⟩ : ∃ k : Nat, a = 4 * (k : Int) := ⟨(a / 4).toNat, by omega⟩
      rw [e1, e2, show (4 * (k : Int) / 4).toNat = k by omega]
      exact word_in d k _ w h (by omega) rfl
    · obtain ⟨e1, e2⟩ := word_no (d := d) (a := a) (by omega)
      rw [e1, e2]
      have t1 : (a % 4 != 0) = false := by simp; omega
      have t2 : (63 : Int) < a := by omega
      clear e1 e2 h
      unfold datV datC
      go_enter Tryd.func64, Tryd.ntmps64
      go_wp2
      go_ret2
      exact ⟨rfl, (Below.refl _ _).alloc (Nat.le_refl _) _⟩
  · obtain ⟨e1, e2⟩ := word_no (d := d) (a := a) (by omega)
    rw [e1, e2]
    have t1 : (a % 4 != 0) = true := by simp; omega
    clear e1 e2 h
    unfold datV datC
    go_enter Tryd.func64, Tryd.ntmps64
    go_wp2
    go_ret2
    exact ⟨rfl, (Below.refl _ _).alloc (Nat.le_refl _) _⟩
end Go.Proofs.YtinfbmfmmbibbaaDoor
