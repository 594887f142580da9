/- The table of the landed groups as it lies in memory; what members, Members, Known, Names return of it. No condition. The landed groups.Deep: how deep a group is. No condition. -/
import Derived.Test.YtlenjfodjkhpmaaGreatDoorGf
import Derived.Deep.QuietTactic
import Derived.BigQuiet
import Derived.WalkSmall
import Derived.Laws.OwnMore
import Derived.Laws.Cover3
import Derived.Deep.RegionWith
import Derived.Laws.EntriesVeiled
namespace Go.Proofs.YtlenjfodjkhpmaaGreatDoor
set_option maxRecDepth 100000
open Go.Lib (hid)
open Go.RowKit
set_option linter.unusedVariables false
set_option linter.unusedSimpArgs false
attribute [local go_sem ↓] Go.wp_at_zero Go.wp_at_succ

theorem thnH {w V W : World} (a : Below w.heap.size w V) (b : Below V.heap.size V W) : Below w.heap.size w W := a.trans (b.mono a.size)
structure PH (w : World) (k : Nat) (W : World) : Prop where
 size : W.heap.size = w.heap.size + k
 below : Below w.heap.size w W
 rows : ∀ j, j < k → W.heap[w.heap.size + j]? = some (.cells (gRow j) 9 (0, 0))
theorem PH.zero (w : World) : PH w 0 w := ⟨rfl, Below.refl _ _, fun j hj => absurd hj (by omega)⟩
theorem PH.next {w W : World} {k : Nat} (h : PH w k W) : PH w (k + 1) (W.alloc (.cells (gRow k) 9)) := by
 refine ⟨by rw [World.size_alloc, h.size]; omega, h.below.alloc h.below.size _, fun j hj => ?_⟩
 by_cases e : j = k
 ·subst e; rw [← h.size]; exact heap_alloc_new W _
 ·rw [Below.heap_alloc _ _ _ (by rw [h.size]; omega)]; exact h.rows j (by omega)
theorem wpList_rowH {ops : Array Oper} {rest : List Oper} {op : Oper} {a : Act} {w W : World} {j n : Nat} {Q : Exit → Act → World → Prop} (hp : PH w j W) (hj : j < 18) (hn : n = (gL j).length) (hgd : op.guard = none)
 (hr : (execOp a.eval op).run Tryz.prog W = .ok (.value (.slice (some ⟨W.heap.size, 0, none⟩) n n)) (W.alloc (.cells (gRow j) 9)))
 (h : ∀ W', PH w (j + 1) W' → wpList Tryz.prog ops Q rest (a.put op.dst (.slice (some ⟨w.heap.size + j, 0, none⟩) n n)) W') : wpList Tryz.prog ops Q (op :: rest) a W :=
 wpList_plain hgd fun _ hK => by
  unfold Oper.wp; rw [hr, hp.size]; exact hK _ _ (h _ hp.next)
theorem wpList_bldH {ops : Array Oper} {rest : List Oper} {op : Oper} {a : Act} {w W : World} {j n : Nat} {Q : Exit → Act → World → Prop} (hp : PH w (j + 1) W) (hgd : op.guard = none)
 (hr : (execOp a.eval op).run Tryz.prog W = .ok (.value (.agg #[.string (gN j), .slice (some ⟨w.heap.size + j, 0, none⟩) n n])) W)
 (h : wpList Tryz.prog ops Q rest (a.put op.dst (.agg #[.string (gN j), .slice (some ⟨w.heap.size + j, 0, none⟩) n n])) W) : wpList Tryz.prog ops Q (op :: rest) a W :=
 wpList_plain hgd fun _ hK => by
  unfold Oper.wp; rw [hr]; exact hK _ _ h
theorem wpList_tabH {ops : Array Oper} {rest : List Oper} {op : Oper} {a : Act} {w W : World} {Q : Exit → Act → World → Prop} (hp : PH w 18 W) (hgd : op.guard = none)
 (hr : (execOp a.eval op).run Tryz.prog W = .ok (.value (.slice (some ⟨W.heap.size, 0, none⟩) 18 18)) (W.alloc (.cells (gC w.heap.size) 305)))
 (h : wpList Tryz.prog ops Q rest (a.put op.dst (.slice (some ⟨w.heap.size + 18, 0, none⟩) 18 18)) (W.alloc (.cells (gC w.heap.size) 305))) : wpList Tryz.prog ops Q (op :: rest) a W :=
 wpList_plain hgd fun _ hK => by
  unfold Oper.wp; rw [hr, hp.size]; exact hK _ _ h
structure TabH (w : World) (B : Nat) : Prop where
 tab : w.heap[B + 18]? = some (.cells (gC B) 305 (0, 0))
 row : ∀ j, j < 18 → w.heap[B + j]? = some (.cells (gRow j) 9 (0, 0))
theorem TabH.on {w w' : World} {B n : Nat} (h : TabH w B) (hn : B + 18 < n) (hb : Below n w w') : TabH w' B :=
 ⟨(hb.block _ hn).trans h.tab, fun j hj => (hb.block _ (by omega)).trans (h.row j hj)⟩
theorem TabH.lt {w : World} {B : Nat} (h : TabH w B) : B + 18 < w.heap.size := (Array.getElem?_eq_some_iff.1 h.tab).1
theorem TabH.next {w w' : World} {B : Nat} (h : TabH w B) (hb : Below w.heap.size w w') : TabH w' B := h.on h.lt hb
theorem TabH.name {w : World} {B : Nat} (h : TabH w B) {j : Nat} (hj : j < 18) : w.cell? ⟨B + 18, j * 2, none⟩ = some (.string (gN j)) := by
 rw [cell_of_row _ _ _ _ _ (0, 0) h.tab]; exact (gC_get _ j hj).1
theorem TabH.list {w : World} {B : Nat} (h : TabH w B) {j : Nat} (hj : j < 18) : w.cell? ⟨B + 18, j * 2 + 1, none⟩ = some (.slice (some ⟨B + j, 0, none⟩) (gL j).length (gL j).length) := by
 rw [cell_of_row _ _ _ _ _ (0, 0) h.tab]; exact (gC_get _ j hj).2
set_option maxHeartbeats 32000000 in
theorem tableH (w : World) : Calls Tryz.prog 241 #[] w fun e w' => e = .returned (.slice (some ⟨w.heap.size + 18, 0, none⟩) 18 18) ∧ TabH w' w.heap.size ∧ Below w.heap.size w w' := by
 have HP := PH.zero w
 go_enter Tryz.func241, Tryz.ntmps241
 go_upto_region 1 with fail
 refine wp_region_lit ?_
 refine wpList_rowH (n := 3) HP (by decide) (by decide) rfl (by kernel_rfl) ?_
 clear HP
 intro W0 HP
 refine wpList_bldH HP (n := 3) rfl (by kernel_rfl) ?_
 refine wpList_rowH (n := 2) HP (by decide) (by decide) rfl (by kernel_rfl) ?_
 clear HP
 intro W1 HP
 refine wpList_bldH HP (n := 2) rfl (by kernel_rfl) ?_
 refine wpList_rowH (n := 2) HP (by decide) (by decide) rfl (by kernel_rfl) ?_
 clear HP
 intro W2 HP
 refine wpList_bldH HP (n := 2) rfl (by kernel_rfl) ?_
 refine wpList_rowH (n := 4) HP (by decide) (by decide) rfl (by kernel_rfl) ?_
 clear HP
 intro W3 HP
 refine wpList_bldH HP (n := 4) rfl (by kernel_rfl) ?_
 refine wpList_rowH (n := 6) HP (by decide) (by decide) rfl (by kernel_rfl) ?_
 clear HP
 intro W4 HP
 refine wpList_bldH HP (n := 6) rfl (by kernel_rfl) ?_
 refine wpList_rowH (n := 3) HP (by decide) (by decide) rfl (by kernel_rfl) ?_
 clear HP
 intro W5 HP
 refine wpList_bldH HP (n := 3) rfl (by kernel_rfl) ?_
 refine wpList_rowH (n := 2) HP (by decide) (by decide) rfl (by kernel_rfl) ?_
 clear HP
 intro W6 HP
 refine wpList_bldH HP (n := 2) rfl (by kernel_rfl) ?_
 refine wpList_rowH (n := 2) HP (by decide) (by decide) rfl (by kernel_rfl) ?_
 clear HP
 intro W7 HP
 refine wpList_bldH HP (n := 2) rfl (by kernel_rfl) ?_
 refine wpList_rowH (n := 2) HP (by decide) (by decide) rfl (by kernel_rfl) ?_
 clear HP
 intro W8 HP
 refine wpList_bldH HP (n := 2) rfl (by kernel_rfl) ?_
 refine wpList_rowH (n := 2) HP (by decide) (by decide) rfl (by kernel_rfl) ?_
 clear HP
 intro W9 HP
 refine wpList_bldH HP (n := 2) rfl (by kernel_rfl) ?_
 refine wpList_rowH (n := 2) HP (by decide) (by decide) rfl (by kernel_rfl) ?_
 clear HP
 intro W10 HP
 refine wpList_bldH HP (n := 2) rfl (by kernel_rfl) ?_
 refine wpList_rowH (n := 1) HP (by decide) (by decide) rfl (by kernel_rfl) ?_
 clear HP
 intro W11 HP
 refine wpList_bldH HP (n := 1) rfl (by kernel_rfl) ?_
 refine wpList_rowH (n := 4) HP (by decide) (by decide) rfl (by kernel_rfl) ?_
 clear HP
 intro W12 HP
 refine wpList_bldH HP (n := 4) rfl (by kernel_rfl) ?_
 refine wpList_rowH (n := 6) HP (by decide) (by decide) rfl (by kernel_rfl) ?_
 clear HP
 intro W13 HP
 refine wpList_bldH HP (n := 6) rfl (by kernel_rfl) ?_
 refine wpList_rowH (n := 8) HP (by decide) (by decide) rfl (by kernel_rfl) ?_
 clear HP
 intro W14 HP
 refine wpList_bldH HP (n := 8) rfl (by kernel_rfl) ?_
 refine wpList_rowH (n := 1) HP (by decide) (by decide) rfl (by kernel_rfl) ?_
 clear HP
 intro W15 HP
 refine wpList_bldH HP (n := 1) rfl (by kernel_rfl) ?_
 refine wpList_rowH (n := 2) HP (by decide) (by decide) rfl (by kernel_rfl) ?_
 clear HP
 intro W16 HP
 refine wpList_bldH HP (n := 2) rfl (by kernel_rfl) ?_
 refine wpList_rowH (n := 5) HP (by decide) (by decide) rfl (by kernel_rfl) ?_
 clear HP
 intro W17 HP
 refine wpList_bldH HP (n := 5) rfl (by kernel_rfl) ?_
 refine wpList_tabH HP rfl (by kernel_rfl) ?_
 refine wpList_as11 rfl (.slice (some ⟨w.heap.size + 18, 0, none⟩) 18 18) (by kernel_rfl) ?_
 rename_i K hK
 show K _ _
 refine hK _ _ ?_
 have hT : TabH (W17.alloc (.cells (gC w.heap.size) 305)) w.heap.size := ⟨by rw [← HP.size]; exact heap_alloc_new _ _, fun j hj => by
  rw [Below.heap_alloc _ _ _ (by rw [HP.size]; omega)]; exact HP.rows j hj⟩
 have hB : Below w.heap.size w (W17.alloc (.cells (gC w.heap.size) 305)) := HP.below.alloc HP.below.size _
 generalize W17.alloc (.cells (gC w.heap.size) 305) = W at hT hB ⊢
 refine wp_ret ?_
 show bodyPost Tryz.prog Tryz.f241 (fun e w' => e = .returned (.slice (some ⟨w.heap.size + 18, 0, none⟩) 18 18) ∧ TabH w' w.heap.size ∧ Below w.heap.size w w') .ret _ W
 exact bodyPost_ret (v := .slice (some ⟨w.heap.size + 18, 0, none⟩) 18 18) (by kernel_rfl) (by kernel_rfl) ⟨rfl, hT, hB⟩
theorem gL_tab : ∀ j, j < 18 → 0 < (gL j).length ∧ (gL j).length ≤ 8 := by decide +kernel
def MemV (B : Nat) (s : ByteArray) (v : Value) : Prop := (memR s = [] ∧ v = .slice none 0 0) ∨ ∃ j, j < 18 ∧ memR s = gL j ∧ v = .slice (some ⟨B + j, 0, none⟩) (gL j).length (gL j).length
theorem MemV.own {w : World} {B base : Nat} {s : ByteArray} {v : Value} (m : MemV B s v) (h : TabH w B) (hB : base ≤ B) : w.ownsRow base 9 1 v (memR s).length (sG (memR s)) := by
 rcases m with ⟨e, rfl⟩ | ⟨j, hj, e, rfl⟩
 ·rw [e]; exact World.ownsRow_nil _ _ _ _
 ·rw [e]
  have hl := (gL_tab j hj).2
  have hz : (gRow j).size = (gL j).length * 1 := by unfold gRow; simp
  refine ⟨by rw [sG_length, Nat.mul_one], .inr ⟨B + j, (gL j).length, gRow j, rfl, by omega, h.row j hj, Nat.le_refl _, by unfold maxLen; omega, hz, ?_⟩⟩
  rw [List.take_of_length_le (by rw [Array.length_toList, hz]; exact Nat.le_refl _)]; rfl
set_option maxHeartbeats 4000000 in
theorem membersH (s : ByteArray) (w : World) (B : Nat) (h : TabH w B) : Calls Tryz.prog 243 #[.slice (some ⟨B + 18, 0, none⟩) 18 18, .string s] w fun e w' => ∃ v, e = .returned v ∧ MemV B s v ∧ Below w.heap.size w w' := by
 have HT := hid h
 have HD := hid (show memIn (grpT.drop 0) s = memR s from rfl)
 have HM := hid (fun (v : Value) (m : MemV B s v) => m)
 unfold MemV at HM ⊢
 obtain ⟨r, hr⟩ : ∃ r, r = memR s := ⟨_, rfl⟩
 rw [← hr] at HD HM ⊢
 clear hr h
 go_enter Tryz.func243, Tryz.ntmps243
 go_wp2
 go_loopw [9] (fun i wr => ∃ k : Nat, k ≤ 18 ∧ i = .int .i64 k ∧ Hid (memIn (grpT.drop k) s = r) ∧ Hid (Below w.heap.size w wr)) (fun i _ => 18 - (intOf i).toNat)
 case atStart => exact ⟨0, by omega, rfl, HD, hid (Below.refl _ _)⟩
 case round =>
  obtain ⟨k, hk, rfl, hm, hB⟩ := hrel
  have hsz := hB.out.size
  by_cases hlt : k < 18
  ·have HW := HT.out.next hB.out
   have c0 := HW.name hlt
   have c1 := HW.list hlt
   have HA := hid (mem_at hlt s)
   have k1 : (k : Int) < 18 := by omega
   have k0 : (0 : Int) ≤ k := by omega
   have HF := hid (show ∀ (n : Nat), n = (gL k).length → r = gL k → ∃ v, Ending.returned (.slice (some ⟨B + k, 0, none⟩) n n) = .returned v ∧ (r = [] ∧ v = .slice none 0 0 ∨ ∃ j, j < 18 ∧ r = gL j ∧ v = .slice (some ⟨B + j, 0, none⟩) (gL j).length (gL j).length) from fun n hn e => ⟨_, rfl, Or.inr ⟨k, hlt, e, by rw [hn]⟩⟩)
   obtain ⟨x, hx⟩ : ∃ x, x = gN k := ⟨_, rfl⟩
   rw [← hx] at c0 HA
   obtain ⟨n, hn⟩ : ∃ n, n = (gL k).length := ⟨_, rfl⟩
   have HN := hid hn
   rw [← hn] at c1
   have HB2 := hid (hB.out.alloc hsz (.cells #[.string x, .slice (some ⟨B + k, 0, none⟩) n n] 305))
   clear hx hn HW
   by_cases hs : x = s
   ·subst hs
    have hv := hid (show r = gL k by rw [← hm.out, HA.out, if_pos rfl])
    have t1 : (x.toList == x.toList) = true := by simp
    clear HA hm
    go_wp2
    go_ret
    obtain ⟨v, e1, e2⟩ := HF.out n HN.out hv.out
    exact ⟨v, e1, e2, HB2.out⟩
   ·have hv := hid (show memIn (grpT.drop (k + 1)) s = r by rw [← hm.out, HA.out, if_neg hs])
    have hb : (x.toList == s.toList) = false := beq_eq_false_iff_ne.2 (fun e => hs (list_of_bytes11 e))
    clear HA hm hs HF
    go_wp2
    go_roundw
    case rel => exact ⟨k + 1, by omega, by go_num, hv, HB2⟩
    case measure => simp [intOf]; omega
  ·obtain rfl : k = 18 := by omega
   have hv := hid (show r = [] from hm.out.symm)
   go_wp2
   go_ret
   exact ⟨_, rfl, Or.inl ⟨hv.out, rfl⟩, hB.out⟩
theorem neq_nil (w : World) (a : Option Addr) (l c : Nat) : (binOp .neq 44 (.slice a l c) (.slice none 0 0)).run Tryz.prog w = .ok (.bool (!a.isNone)) w := run_neq_slice_nil w _ _ a l c Tryz.underlying44
set_option maxRecDepth 100000
open Go.Lib (hid)
open Go.RowKit
set_option linter.unusedVariables false
set_option linter.unusedSimpArgs false
attribute [local go_sem ↓] Go.wp_at_zero Go.wp_at_succ

theorem MemV.strs {w : World} {B : Nat} {s : ByteArray} {v : Value} (m : MemV B s v) (h : TabH w B) : StrsAt w v (memR s) := strs_own (m.own h (Nat.le_refl _))
theorem members_none (s : ByteArray) (w : World) (B : Nat) (h : TabH w B) (h0 : memR s = []) : Calls Tryz.prog 243 #[.slice (some ⟨B + 18, 0, none⟩) 18 18, .string s] w fun e w' => e = .returned (.slice none 0 0) ∧ Below w.heap.size w w' :=
 (membersH s w B h).mono fun e w' ⟨v, e1, m, b⟩ => by
   rcases m with ⟨_, rfl⟩ | ⟨j, hj, e2, _⟩
   ·exact ⟨e1, b⟩
   ·have := (gL_tab j hj).1; rw [← e2, h0] at this; exact absurd this (by decide)
theorem members_some (s : ByteArray) (w : World) (B : Nat) (h : TabH w B) (h0 : memR s ≠ []) : Calls Tryz.prog 243 #[.slice (some ⟨B + 18, 0, none⟩) 18 18, .string s] w fun e w' => ∃ g n, e = .returned (.slice (some ⟨g, 0, none⟩) n n) ∧ MemV B s (.slice (some ⟨g, 0, none⟩) n n) ∧ Below w.heap.size w w' :=
 (membersH s w B h).mono fun e w' ⟨v, e1, m, b⟩ => by
   rcases m with ⟨e2, _⟩ | ⟨j, hj, e2, rfl⟩
   ·exact absurd e2 h0
   ·exact ⟨_, _, e1, Or.inr ⟨j, hj, e2, rfl⟩, b⟩
def upM (a : Nat) (t : ByteArray) : Nat := if a < deepR t then deepR t else a
def dpL (l : List ByteArray) : Nat := l.foldl upM 0
def dpTo (l : List ByteArray) (k : Nat) : Nat := (l.take k).foldl upM 0
theorem dpTo_step {l : List ByteArray} {k : Nat} {t : ByteArray} (h : l[k]? = some t) : dpTo l (k + 1) = upM (dpTo l k) t := by
 unfold dpTo
 rw [List.take_add_one, h, List.foldl_append]; rfl
theorem upM_le (b : Nat) : ∀ (l : List ByteArray), (∀ t ∈ l, deepR t ≤ b) → ∀ a, a ≤ b → l.foldl upM a ≤ b
 | [], _, a, h => h
 | t :: r, hl, a, h => upM_le b r (fun t ht => hl t (List.mem_cons_of_mem _ ht)) _ (by
     unfold upM
     split
     ·exact hl t (List.mem_cons_self ..)
     ·exact h)
theorem dpTo_le (l : List ByteArray) (k : Nat) : dpTo l k ≤ 6 := upM_le 6 _ (fun t _ => deep_le t) 0 (Nat.zero_le _)
theorem dpL_le (l : List ByteArray) : dpL l ≤ 6 := upM_le 6 _ (fun t _ => deep_le t) 0 (Nat.zero_le _)
theorem dp_tab : (grpT.all fun e => decide (1 + dpL (memR e.1) = deepR e.1)) = true := by kernel_rfl
theorem dp_at {t : ByteArray} (h : memR t ≠ []) : 1 + dpL (memR t) = deepR t := by
 obtain ⟨e, he, rfl⟩ := mem_some h
 exact of_decide_eq_true (List.all_eq_true.1 dp_tab e he)
structure DBox (w : World) (B p q : Nat) : Prop where
 tab : TabH w B
 c1 : w.cell? ⟨p, 0, none⟩ = some (.slice (some ⟨B + 18, 0, none⟩) 18 18)
 c2 : w.cell? ⟨q, 0, none⟩ = some (.func (.func 260) #[] #[.pointer (some ⟨p, 0, none⟩), .pointer (some ⟨q, 0, none⟩)])
theorem DBox.on {w w' : World} {B p q : Nat} (h : DBox w B p q) (hb : Below w.heap.size w w') : DBox w' B p q :=
 ⟨h.tab.next hb, (hb.cell (World.block_lt_of_cell? w _ h.c1)).trans h.c1, (hb.cell (World.block_lt_of_cell? w _ h.c2)).trans h.c2⟩
set_option maxHeartbeats 4000000 in
theorem deepest_at (M : List ByteArray) (n : Nat) (hn : n = M.length) (w : World) (B p q : Nat) (v : Value) (hD : DBox w B p q) (hv : StrsAt w v M)
 (ih : ∀ t ∈ M, memR t ≠ [] → ∀ W u, DBox W B p q → StrsAt W u (memR t) → Calls Tryz.prog 260 #[u, .pointer (some ⟨p, 0, none⟩), .pointer (some ⟨q, 0, none⟩)] W fun e w' => e = .returned (.int .i64 (dpL (memR t) : Nat)) ∧ Below W.heap.size W w') (hn8 : n ≤ 8) :
 Calls Tryz.prog 260 #[v, .pointer (some ⟨p, 0, none⟩), .pointer (some ⟨q, 0, none⟩)] w fun e w' => e = .returned (.int .i64 (dpL M : Nat)) ∧ Below w.heap.size w w' := by
 obtain ⟨a0, c, rfl, hr⟩ := hv
 have HC := hid hr
 have HD := hid hD
 have HI := hid ih
 have HN := hid hn
 have HV := hid (show dpTo M M.length = dpL M by unfold dpTo dpL; rw [List.take_length])
 have HM0 := hid (fun (s : ByteArray) (W : World) (h : TabH W B) (h0 : memR s = []) => members_none s W B h h0)
 have HM1 := hid (fun (s : ByteArray) (W : World) (h : TabH W B) (h0 : memR s ≠ []) => members_some s W B h h0)
 have NQ := fun (W : World) (a : Option Addr) (l c : Nat) => neq_nil W a l c
 obtain ⟨dd, hdd⟩ : ∃ d, d = dpL M := ⟨_, rfl⟩
 rw [← hdd] at HV ⊢
 rw [← hn] at HV ⊢
 clear hr hD ih hdd hn
 go_enter Tryz.func260, Tryz.ntmps260
 go_wp2_with fail
 go_loopw [5, 11] (fun v5 v11 wr => ∃ k : Nat, k ≤ n ∧ v11 = .int .i64 k ∧ v5 = .int .i64 (dpTo M k : Nat) ∧ Hid (Below w.heap.size w wr)) (fun _ v11 _ => n - (intOf v11).toNat)
 case atStart => exact ⟨0, by omega, rfl, rfl, hid (Below.refl _ _)⟩
 case round =>
  obtain ⟨k, hk, rfl, rfl, PB⟩ := hrel
  obtain ⟨V, rfl⟩ : ∃ wo : World, wo = wr := ⟨_, rfl⟩
  by_cases hlt : k < n
  ·have hx : M[k]? = some (M[k]'(by rw [← HN.out]; exact hlt)) := List.getElem?_eq_getElem _
   obtain ⟨t, ht⟩ : ∃ t, t = M[k]'(by rw [← HN.out]; exact hlt) := ⟨_, rfl⟩
   rw [← ht] at hx
   obtain ⟨g, o, rfl, hc⟩ := HC.out k t hx
   have c0 := (PB.out.cell (World.block_lt_of_cell? w _ hc)).trans hc
   have DV := hid (HD.out.on PB.out)
   have c1 := DV.out.c1
   have HR := hid (HI.out t (List.mem_of_getElem? hx))
   have HS := hid (dpTo_step hx)
   have d2 := dpTo_le M k
   obtain ⟨m, hm⟩ : ∃ m, m = dpTo M k := ⟨_, rfl⟩
   rw [← hm] at d2 HS ⊢
   have k1 : (k : Int) < n := by omega
   have k0 : (0 : Int) ≤ k := by omega
   have hsz := PB.out.size
   clear hx ht hc hm
   by_cases hmt : memR t = []
   ·have HM := hid (HM0.out t V DV.out.tab hmt)
    have hv := hid (show dpTo M (k + 1) = m by rw [HS.out]; unfold upM; rw [deep_none hmt, if_neg (by omega)])
    clear hmt HS
    go_wp2_with (go_at_call 243; ((with_reducible refine (HM.out).mono ?_); rintro e X ⟨rfl, b2⟩); have B2 := hid (PB.out.trans (b2.mono hsz)); clear b2)
    go_roundw
    case rel => exact ⟨k + 1, by omega, by go_num, by rw [hv.out], B2⟩
    case measure => simp [intOf]; omega
   ·have HM := hid (HM1.out t V DV.out.tab hmt)
    have HR2 := hid (HR.out hmt)
    have hdp := hid (dp_at hmt)
    have d1 := dpL_le (memR t)
    obtain ⟨d, hd⟩ : ∃ d, d = dpL (memR t) := ⟨_, rfl⟩
    rw [← hd] at HR2 hdp d1
    have u1 : IntKind.i64.wrap (1 + (d : Int)) = 1 + d := by rw [IntKind.wrap_i64]; omega
    clear hmt HR hd
    have hv := hid (show ((dpTo M (k + 1) : Nat) : Int) = max (m : Int) (1 + d) by rw [HS.out]; unfold upM; have := hdp.out; split <;> omega)
    clear HS hdp
    go_wp2_with (first
     | (go_at_call 243; ((with_reducible refine (HM.out).mono ?_); rintro e X ⟨g2, n2, rfl, m2, b2⟩); have D2 := hid (DV.out.on b2); have S2 := hid (m2.strs D2.out.tab); have x2 := D2.out.c2; have B2 := hid (PB.out.trans (b2.mono hsz)); clear m2 b2)
     | (go_at_call 260; ((with_reducible refine (HR2.out _ _ D2.out S2.out).mono ?_); rintro e Y ⟨rfl, b3⟩); have B3 := hid (B2.out.trans (b3.mono B2.out.size)); clear b3))
    go_roundw
    case rel => exact ⟨k + 1, by omega, by go_num, by rw [hv.out], B3⟩
    case measure => simp [intOf]; omega
  ·obtain rfl : k = n := by omega
   have k1 : ¬ (k : Int) < k := by omega
   go_wp2_with fail
   go_ret
   exact ⟨by first | (rw [HV.out]; done) | (rw [HV.out]; rfl), PB.out⟩
theorem deepest (b : Nat) : ∀ (M : List ByteArray), (∀ t ∈ M, deepR t ≤ b) → M.length ≤ 8 → ∀ (w : World) (B p q : Nat) (v : Value), DBox w B p q → StrsAt w v M → Calls Tryz.prog 260 #[v, .pointer (some ⟨p, 0, none⟩), .pointer (some ⟨q, 0, none⟩)] w fun e w' => e = .returned (.int .i64 (dpL M : Nat)) ∧ Below w.heap.size w w' := by
 induction b with
 | zero =>
  intro M hM h8 w B p q v hD hv
  exact deepest_at M _ rfl w B p q v hD hv (fun t ht h0 => absurd (dp_at h0) (by have := hM t ht; omega)) h8
 | succ b ih =>
  intro M hM h8 w B p q v hD hv
  exact deepest_at M _ rfl w B p q v hD hv (fun t ht h0 W u hW hu => ih (memR t) (fun x hx => by have := deep_lt hx; have := hM t ht; omega) (mem_le t) W B p q u hW hu) h8
theorem deep_world (W : World) (s : ByteArray) (B : Nat) (t1 t2 t3 : TypeId) (u : Value) (hT : TabH W B) (hu : u = .func (.func 260) #[] #[.pointer (some ⟨W.heap.size, 0, none⟩), .pointer (some ⟨W.heap.size + 1, 0, none⟩)]) :
 DBox (((W.alloc (.cells #[.slice (some ⟨B + 18, 0, none⟩) 18 18] t1)).alloc (.cells #[u] t2)).alloc (.cells #[.string s] t3)) B W.heap.size (W.heap.size + 1) ∧
 StrsAt (((W.alloc (.cells #[.slice (some ⟨B + 18, 0, none⟩) 18 18] t1)).alloc (.cells #[u] t2)).alloc (.cells #[.string s] t3)) (.slice (some ⟨W.heap.size + 1 + 1, 0, none⟩) 1 1) [s] ∧
 Below W.heap.size W (((W.alloc (.cells #[.slice (some ⟨B + 18, 0, none⟩) 18 18] t1)).alloc (.cells #[u] t2)).alloc (.cells #[.string s] t3)) := by
 obtain ⟨X, hX⟩ : ∃ X, X = W.alloc (.cells #[.slice (some ⟨B + 18, 0, none⟩) 18 18] t1) := ⟨_, rfl⟩
 obtain ⟨Y, hY⟩ : ∃ Y, Y = X.alloc (.cells #[u] t2) := ⟨_, rfl⟩
 obtain ⟨Z, hZ⟩ : ∃ Z, Z = Y.alloc (.cells #[.string s] t3) := ⟨_, rfl⟩
 rw [← hX, ← hY, ← hZ]
 have sX : X.heap.size = W.heap.size + 1 := by rw [hX, World.size_alloc]
 have sY : Y.heap.size = W.heap.size + 1 + 1 := by rw [hY, World.size_alloc, sX]
 have b1 : Below W.heap.size W X := by rw [hX]; exact (Below.refl _ W).alloc (Nat.le_refl _) _
 have b2 : Below X.heap.size X Y := by rw [hY]; exact (Below.refl _ X).alloc (Nat.le_refl _) _
 have b3 : Below Y.heap.size Y Z := by rw [hZ]; exact (Below.refl _ Y).alloc (Nat.le_refl _) _
 have r1 : X.heap[W.heap.size]? = some (.cells #[.slice (some ⟨B + 18, 0, none⟩) 18 18] t1 (0, 0)) := by rw [hX]; exact heap_alloc_new W _
 have r2 : Y.heap[W.heap.size + 1]? = some (.cells #[u] t2 (0, 0)) := by rw [hY, ← sX]; exact heap_alloc_new X _
 have r3 : Z.heap[W.heap.size + 1 + 1]? = some (.cells #[.string s] t3 (0, 0)) := by rw [hZ, ← sY]; exact heap_alloc_new Y _
 have b13 : Below X.heap.size X Z := thnH b2 b3
 have b0 : Below W.heap.size W Z := thnH b1 b13
 refine ⟨⟨hT.next b0, ?_, ?_⟩, ?_, b0⟩
 ·rw [cell_of_row Z _ _ _ _ (0, 0) ((b13.block _ (by omega)).trans r1)]; rfl
 ·rw [cell_of_row Z _ _ _ _ (0, 0) ((b3.block _ (by omega)).trans r2), hu]; rfl
 ·refine ⟨_, _, rfl, fun k x hk => ⟨_, _, rfl, ?_⟩⟩
  rw [cell_of_row Z _ _ _ _ (0, 0) r3]
  cases k with
  | zero => have := Option.some.inj hk; subst this; rfl
  | succ k => simp at hk
set_option maxHeartbeats 4000000 in
theorem deep_l (s : ByteArray) (w : World) : Calls Tryz.prog 240 #[.string s] w fun e w' => e = .returned (.int .i64 (deepR s : Nat)) ∧ Below w.heap.size w w' := by
 have HT := hid (tableH w)
 have HV : dpL [s] = deepR s := by
  show (if 0 < deepR s then deepR s else 0) = deepR s
  split <;> omega
 have HD := hid (fun (W : World) (p q : Nat) (v : Value) (h : DBox W w.heap.size p q) (hv : StrsAt W v [s]) => deepest 6 [s] (fun t _ => deep_le t) (by show 1 ≤ 8; decide) W w.heap.size p q v h hv)
 rw [HV] at HD
 clear HV
 go_enter Tryz.func240, Tryz.ntmps240
 go_wp2_with (first
  | (go_at_call 241; ((with_reducible refine (HT.out).mono ?_); rintro e W ⟨rfl, t1, b1⟩); have T1 := hid t1; have B1 := hid b1; clear t1 b1)
  | (go_at_call 260; obtain ⟨dx, sx, bx⟩ := deep_world W s w.heap.size _ _ _ _ T1.out rfl; ((with_reducible refine (HD.out _ _ _ _ dx sx).mono ?_); rintro e Y ⟨rfl, b3⟩); have B3 := hid (thnH (thnH B1.out bx) b3); clear b3))
 go_ret
 exact ⟨rfl, B3.out⟩
end Go.Proofs.YtlenjfodjkhpmaaGreatDoor
