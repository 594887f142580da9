/- What the calls of the landed package data return: Print. Condition: each number fits its kind. -/
import Derived.Test.YthoichjomfdgjaaTd
namespace Go.Proofs.Ythoichjomfdgjaa
open Go.RowKit
set_option linter.unusedVariables false
attribute [local go_sem ↓] Go.wp_at_zero Go.wp_at_succ

/-- The slice leads to the bytes, in another block than M. -/
def RdX (w : World) (M : Nat) (p : Option Addr) (xs : List Int) : Prop :=
  0 < xs.length → ∃ b o, p = some ⟨b, o, none⟩ ∧ b < w.heap.size ∧ b ≠ M ∧ ∀ i, i < xs.length → w.cell? ⟨b, o + i, none⟩ = some (.int .u8 (xs.getD i 0))
theorem RdX.rd {w : World} {M : Nat} {p : Option Addr} {xs : List Int} (h : RdX w M p xs) : Rd w w.heap.size p xs := fun hn => by
  obtain ⟨b, o, e, hb, _, hc⟩ := h hn
  exact ⟨b, o, e, hb, hc⟩
theorem RdX.on {w w' : World} {M : Nat} {p : Option Addr} {xs : List Int} (h : RdX w M p xs) (hb : Below w.heap.size w w') : RdX w' M p xs := fun hn => by
  obtain ⟨b, o, e, h1, h2, hc⟩ := h hn
  exact ⟨b, o, e, Nat.lt_of_lt_of_le h1 hb.size, h2, fun i hi => (hb.cell (p := ⟨b, o + i, none⟩) h1).trans (hc i hi)⟩
theorem RdX.set_ {w : World} {M : Nat} {p : Option Addr} {xs : List Int} (h : RdX w M p xs) (j : Nat) (u : Value) : RdX (w.setCell ⟨M, j, none⟩ u) M p xs := fun hn => by
  obtain ⟨b, o, e, h1, h2, hc⟩ := h hn
  refine ⟨b, o, e, by simpa [World.setCell] using h1, h2, fun i hi => ?_⟩
  rw [World.cell?_setCell_other w _ _ u (fun e => h2 (by injection e with e; exact e.symm))]
  exact hc i hi
theorem RdX.own {w w' : World} {g n c M : Nat} {e : TypeId} {xs : List Int} (h : w'.ownsRow w.heap.size e 1 (.slice (some ⟨g, 0, none⟩) n c) n (bv xs)) (hM : M < w.heap.size) : RdX w' M (some ⟨g, 0, none⟩) xs := fun hn => by
  obtain ⟨b, o, e, hb, hc⟩ := Rd.of_own h hn
  have hl := h.lt g rfl
  injection e with e
  injection e with e1 e2 _
  subst e1 e2
  exact ⟨_, _, rfl, hb, by omega, hc⟩
/-- After k rounds: the block M, of n slices, holds the slices of the first k lists. -/
structure StP (w : World) (M n : Nat) (e : TypeId) (z : List (List Int)) (k : Nat) : Prop where
  row : ∃ vals : List Value, w.heap[M]? = some (.cells vals.toArray e (0, 0)) ∧ vals.length = n ∧
    ∀ j, j < k → ∃ g, vals[j]? = some (.slice (some ⟨g, 0, none⟩) (z.getD j []).length (z.getD j []).length) ∧ RdX w M (some ⟨g, 0, none⟩) (z.getD j [])
theorem StP.lt {w : World} {M n k : Nat} {e : TypeId} {z : List (List Int)} (h : StP w M n e z k) : M < w.heap.size := by
  obtain ⟨vals, h1, _⟩ := h.row
  exact lt_of_block h1
theorem StP.on {w w' : World} {M n k : Nat} {e : TypeId} {z : List (List Int)} (h : StP w M n e z k) (hb : Below w.heap.size w w') : StP w' M n e z k := by
  have hl := h.lt
  obtain ⟨vals, h1, h2, h3⟩ := h.row
  refine ⟨vals, (hb.block M hl).trans h1, h2, fun j hj => ?_⟩
  obtain ⟨g, h4, h5⟩ := h3 j hj
  exact ⟨g, h4, h5.on hb⟩
theorem StP.cell {w : World} {M n k : Nat} {e : TypeId} {z : List (List Int)} (h : StP w M n e z k) (j : Nat) (hj : j < n) : (∃ v, w.cell? ⟨M, j, none⟩ = some v) ∧ w.frozen? ⟨M, j, none⟩ = false := by
  obtain ⟨vals, h1, h2, h3⟩ := h.row
  refine ⟨?_, frozen_of_row w M j vals.toArray _ h1⟩
  rw [cell_of_row w M j vals.toArray _ (0, 0) h1, List.getElem?_toArray]
  exact ⟨_, List.getElem?_eq_getElem (by omega)⟩
theorem StP.step {w : World} {M n k g l : Nat} {e : TypeId} {z : List (List Int)} (h : StP w M n e z k) (hk : k < n) (hl : (z.getD k []).length = l) (hr : RdX w M (some ⟨g, 0, none⟩) (z.getD k [])) :
    StP (w.setCell ⟨M, k, none⟩ (.slice (some ⟨g, 0, none⟩) l l)) M n e z (k + 1) := by
  subst hl
  obtain ⟨vals, h1, h2, h3⟩ := h.row
  refine ⟨vals.set k (.slice (some ⟨g, 0, none⟩) (z.getD k []).length (z.getD k []).length), ?_, by simpa using h2, fun j hj => ?_⟩
  · have := heap_setCell_same w M k vals.toArray e (.slice (some ⟨g, 0, none⟩) (z.getD k []).length (z.getD k []).length) h1
    simpa using this
  · by_cases e : j = k
    · subst e
      exact ⟨g, by rw [List.getElem?_set_self (by omega)], hr.set_ _ _⟩
    · obtain ⟨g', h4, h5⟩ := h3 j (by omega)
      exact ⟨g', by rw [List.getElem?_set_ne (by omega)]; exact h4, h5.set_ _ _⟩
theorem StP.rdl {w : World} {M n : Nat} {e : TypeId} {z : List (List Int)} (h : StP w M n e z n) (hz : z.length = n) : RdL w w.heap.size (some ⟨M, 0, none⟩) z := fun hn => by
  have hl := h.lt
  obtain ⟨vals, h1, h2, h3⟩ := h.row
  refine ⟨M, 0, rfl, hl, fun i hi => ?_⟩
  obtain ⟨g, h4, h5⟩ := h3 i (by omega)
  refine ⟨some ⟨g, 0, none⟩, (z.getD i []).length, ?_, h5.rd, fun h => by cases h⟩
  rw [Nat.zero_add, cell_of_row w M i vals.toArray _ (0, 0) h1, List.getElem?_toArray]
  exact h4
theorem StP.new (w : World) (vals : List Value) (e : TypeId) (z : List (List Int)) : StP (w.alloc (.cells vals.toArray e)) w.heap.size vals.length e z 0 :=
  ⟨_, heap_alloc_new w _, rfl, fun j hj => absurd hj (by omega)⟩
theorem tbl_index0 (d : Dat) (w : World) : (Instr.index 50 (.agg (tblC d)) (.int .i64 0)).run Try.prog w = .ok (.int .u32 ((tblL d).getD 0 0)) w := by kernel_rfl
theorem tbl_index1 (d : Dat) (w : World) : (Instr.index 50 (.agg (tblC d)) (.int .i64 1)).run Try.prog w = .ok (.int .u32 ((tblL d).getD 1 0)) w := by kernel_rfl
theorem tbl_index2 (d : Dat) (w : World) : (Instr.index 50 (.agg (tblC d)) (.int .i64 2)).run Try.prog w = .ok (.int .u32 ((tblL d).getD 2 0)) w := by kernel_rfl
theorem tbl_index3 (d : Dat) (w : World) : (Instr.index 50 (.agg (tblC d)) (.int .i64 3)).run Try.prog w = .ok (.int .u32 ((tblL d).getD 3 0)) w := by kernel_rfl
theorem tbl_index4 (d : Dat) (w : World) : (Instr.index 50 (.agg (tblC d)) (.int .i64 4)).run Try.prog w = .ok (.int .u32 ((tblL d).getD 4 0)) w := by kernel_rfl
theorem tbl_index5 (d : Dat) (w : World) : (Instr.index 50 (.agg (tblC d)) (.int .i64 5)).run Try.prog w = .ok (.int .u32 ((tblL d).getD 5 0)) w := by kernel_rfl
theorem tbl_index6 (d : Dat) (w : World) : (Instr.index 50 (.agg (tblC d)) (.int .i64 6)).run Try.prog w = .ok (.int .u32 ((tblL d).getD 6 0)) w := by kernel_rfl
theorem tbl_index7 (d : Dat) (w : World) : (Instr.index 50 (.agg (tblC d)) (.int .i64 7)).run Try.prog w = .ok (.int .u32 ((tblL d).getD 7 0)) w := by kernel_rfl
theorem tbl_index8 (d : Dat) (w : World) : (Instr.index 50 (.agg (tblC d)) (.int .i64 8)).run Try.prog w = .ok (.int .u32 ((tblL d).getD 8 0)) w := by kernel_rfl
theorem tbl_index9 (d : Dat) (w : World) : (Instr.index 50 (.agg (tblC d)) (.int .i64 9)).run Try.prog w = .ok (.int .u32 ((tblL d).getD 9 0)) w := by kernel_rfl
theorem tbl_index10 (d : Dat) (w : World) : (Instr.index 50 (.agg (tblC d)) (.int .i64 10)).run Try.prog w = .ok (.int .u32 ((tblL d).getD 10 0)) w := by kernel_rfl
theorem tbl_index11 (d : Dat) (w : World) : (Instr.index 50 (.agg (tblC d)) (.int .i64 11)).run Try.prog w = .ok (.int .u32 ((tblL d).getD 11 0)) w := by kernel_rfl
theorem tbl_index12 (d : Dat) (w : World) : (Instr.index 50 (.agg (tblC d)) (.int .i64 12)).run Try.prog w = .ok (.int .u32 ((tblL d).getD 12 0)) w := by kernel_rfl
theorem tbl_index13 (d : Dat) (w : World) : (Instr.index 50 (.agg (tblC d)) (.int .i64 13)).run Try.prog w = .ok (.int .u32 ((tblL d).getD 13 0)) w := by kernel_rfl
theorem tbl_index14 (d : Dat) (w : World) : (Instr.index 50 (.agg (tblC d)) (.int .i64 14)).run Try.prog w = .ok (.int .u32 ((tblL d).getD 14 0)) w := by kernel_rfl
theorem tbl_index15 (d : Dat) (w : World) : (Instr.index 50 (.agg (tblC d)) (.int .i64 15)).run Try.prog w = .ok (.int .u32 ((tblL d).getD 15 0)) w := by kernel_rfl
theorem tbl_index (d : Dat) {k : Nat} (hk : k < 16) (w : World) : (Instr.index 50 (.agg (tblC d)) (.int .i64 k)).run Try.prog w = .ok (.int .u32 ((tblL d).getD k 0)) w := by
  match k, hk with
  | 0, _ => exact tbl_index0 d w
  | 1, _ => exact tbl_index1 d w
  | 2, _ => exact tbl_index2 d w
  | 3, _ => exact tbl_index3 d w
  | 4, _ => exact tbl_index4 d w
  | 5, _ => exact tbl_index5 d w
  | 6, _ => exact tbl_index6 d w
  | 7, _ => exact tbl_index7 d w
  | 8, _ => exact tbl_index8 d w
  | 9, _ => exact tbl_index9 d w
  | 10, _ => exact tbl_index10 d w
  | 11, _ => exact tbl_index11 d w
  | 12, _ => exact tbl_index12 d w
  | 13, _ => exact tbl_index13 d w
  | 14, _ => exact tbl_index14 d w
  | 15, _ => exact tbl_index15 d w
  | k + 16, hk => omega
theorem tbl_piece (d : Dat) {k : Nat} (hk : k < 16) : ((tblL d).map (putL 4)).getD k [] = putL 4 ((tblL d).getD k 0) := by
  match k, hk with
  | 0, _ => rfl
  | 1, _ => rfl
  | 2, _ => rfl
  | 3, _ => rfl
  | 4, _ => rfl
  | 5, _ => rfl
  | 6, _ => rfl
  | 7, _ => rfl
  | 8, _ => rfl
  | 9, _ => rfl
  | 10, _ => rfl
  | 11, _ => rfl
  | 12, _ => rfl
  | 13, _ => rfl
  | 14, _ => rfl
  | 15, _ => rfl
  | k + 16, hk => omega
set_option maxRecDepth 100000 in
set_option maxHeartbeats 4000000 in
theorem printC : DPrintC := by
  intro d w h
  have HT := Lib.hid (fun W => tableOf_any d W h)
  have HK := Lib.hid (fun (k : Nat) (hk : k < 16) => tblL_ok h hk)
  have HX := Lib.hid (fun (k : Nat) (hk : k < 16) => tbl_index d hk)
  have HP := Lib.hid (fun (k : Nat) (hk : k < 16) => tbl_piece d hk)
  have HZ := Lib.hid (show ((tblL d).map (putL 4)).length = 16 by rw [List.length_map, tblL_length])
  have HF := Lib.hid (tblL_bytes d)
  have HN := Lib.hid (StP.new (w.alloc (.cells (datC d) 26)) [.slice none 0 0, .slice none 0 0, .slice none 0 0, .slice none 0 0, .slice none 0 0, .slice none 0 0, .slice none 0 0, .slice none 0 0, .slice none 0 0, .slice none 0 0, .slice none 0 0, .slice none 0 0, .slice none 0 0, .slice none 0 0, .slice none 0 0, .slice none 0 0] 48 ((tblL d).map (putL 4)))
  obtain ⟨z, hz⟩ : ∃ z, z = (tblL d).map (putL 4) := ⟨_, rfl⟩
  rw [← hz] at HP HZ HF HN
  unfold datV datC at *
  clear hz h
  go_enter Try.func8, Try.ntmps8
  go_wp2_with (go_at_call 21; ((with_reducible refine (HT.out _).mono ?_); rintro e w1 ⟨rfl, b1⟩); have hst := HN.out.on b1; have hb0 : Below w.heap.size w w1 := (((Below.refl _ _).alloc (Nat.le_refl _) _).alloc (by simp) _).trans (b1.mono (by simp; omega)))
  go_loopw [4, 5, 8] (fun _ _ i wr => ∃ k : Nat, k ≤ 16 ∧ i = .int .i64 k ∧ StP wr (w.heap.size + 1) 16 48 z k ∧ Below w.heap.size w wr) (fun _ _ i _ => 16 - (intOf i).toNat)
  case atStart => exact ⟨0, by omega, rfl, by simpa using hst, hb0⟩
  case round =>
    clear hst hb0
    obtain ⟨k, hk, rfl, hst, hb⟩ := hrel
    obtain ⟨W, rfl⟩ : ∃ wo : World, wo = wr := ⟨_, rfl⟩
    by_cases hlt : k < 16
    · have hix := HX.out k hlt
      have hpc := HP.out k hlt
      obtain ⟨x, hx⟩ : ∃ x, x = (tblL d).getD k 0 := ⟨_, rfl⟩
      obtain ⟨x0, x1⟩ := HK.out k hlt
      rw [← hx] at hix hpc x0 x1
      have HQ := Lib.hid (fun W => Put32_any x W x0)
      have HC := Lib.hid hpc
      clear hx hpc
      go_wp2_with (go_at_call 22; ((with_reducible refine (HQ.out _).mono ?_); rintro e w2 ⟨g2, rfl, o2, b2⟩); have hs2 := hst.on b2; obtain ⟨⟨u, hu⟩, hf⟩ := hs2.cell k hlt; have hx2 := RdX.own (M := w.heap.size + 1) o2 hst.lt)
      go_roundw
      case rel => exact ⟨k + 1, by omega, by go_num, hs2.step hlt (by rw [HC.out, putL_length]) (by rw [HC.out]; exact hx2), (thn hb b2).setCell (by simp) _⟩
      case measure => simp [intOf]; omega
    · obtain rfl : k = 16 := by omega
      have HC := Lib.hid (Cat_any (some ⟨w.heap.size + 1, 0, none⟩) 16 16 z W HZ.out (by omega) (by rw [HF.out, datB_length]; omega) (hst.rdl HZ.out))
      rw [HF.out, datB_length] at HC
      have hz := hb.size
      go_wp2_with (go_at_call 23; ((with_reducible refine (HC.out).mono ?_); rintro e w2 ⟨g2, rfl, o2, b2⟩))
      go_ret
      exact ⟨_, 64, rfl, own_mono o2 hz, thn hb b2⟩
end Go.Proofs.Ythoichjomfdgjaa
