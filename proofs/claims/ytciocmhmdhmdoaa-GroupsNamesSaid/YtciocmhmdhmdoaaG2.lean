/- The table of the landed groups as it lies in memory; what members, Members, Known, Names return of it. No condition. -/
import Derived.Test.YtciocmhmdhmdoaaGd
import Derived.Deep.QuietTactic
import Derived.BigQuiet
import Derived.WalkSmall
import Derived.Laws.OwnMore
import Derived.Laws.Cover3
namespace Go.Proofs.Ytciocmhmdhmdoaa
open Go.RowKit
set_option linter.unusedVariables false
set_option linter.unusedSimpArgs false
attribute [local go_sem ↓] Go.wp_at_zero Go.wp_at_succ

theorem thnH {w V W : World} (a : Below w.heap.size w V) (b : Below V.heap.size V W) : Below w.heap.size w W := a.trans (b.mono a.size)
/-- So many groups' lists lie in memory, one behind the other, in blocks of their own. -/
structure PH (w : World) (k : Nat) (W : World) : Prop where
  size : W.heap.size = w.heap.size + k
  below : Below w.heap.size w W
  rows : ∀ j, j < k → W.heap[w.heap.size + j]? = some (.cells (gRow j) 9 (0, 0))
theorem PH.zero (w : World) : PH w 0 w := ⟨rfl, Below.refl _ _, fun j hj => absurd hj (by omega)⟩
theorem PH.next {w W : World} {k : Nat} (h : PH w k W) : PH w (k + 1) (W.alloc (.cells (gRow k) 9)) := by
  refine ⟨by rw [World.size_alloc, h.size]; omega, h.below.alloc h.below.size _, fun j hj => ?_⟩
  by_cases e : j = k
  · subst e; rw [← h.size]; exact heap_alloc_new W _
  · rw [Below.heap_alloc _ _ _ (by rw [h.size]; omega)]; exact h.rows j (by omega)
theorem wpList_rowH {ops : Array Oper} {rest : List Oper} {op : Oper} {a : Act} {w W : World} {j n : Nat} {Q : Exit → Act → World → Prop} (hp : PH w j W) (hj : j < 18) (hn : n = (gL j).length) (hgd : op.guard = none)
    (hr : (execOp a.eval op).run Try.prog W = .ok (.value (.slice (some ⟨W.heap.size, 0, none⟩) n n)) (W.alloc (.cells (gRow j) 9)))
    (h : ∀ W', PH w (j + 1) W' → wpList Try.prog ops Q rest (a.put op.dst (.slice (some ⟨w.heap.size + j, 0, none⟩) n n)) W') : wpList Try.prog ops Q (op :: rest) a W :=
  wpList_plain hgd fun _ hK => by
    unfold Oper.wp; rw [hr, hp.size]; exact hK _ _ (h _ hp.next)
theorem wpList_bldH {ops : Array Oper} {rest : List Oper} {op : Oper} {a : Act} {w W : World} {j n : Nat} {Q : Exit → Act → World → Prop} (hp : PH w (j + 1) W) (hgd : op.guard = none)
    (hr : (execOp a.eval op).run Try.prog W = .ok (.value (.agg #[.string (gN j), .slice (some ⟨w.heap.size + j, 0, none⟩) n n])) W)
    (h : wpList Try.prog ops Q rest (a.put op.dst (.agg #[.string (gN j), .slice (some ⟨w.heap.size + j, 0, none⟩) n n])) W) : wpList Try.prog ops Q (op :: rest) a W :=
  wpList_plain hgd fun _ hK => by
    unfold Oper.wp; rw [hr]; exact hK _ _ h
theorem wpList_tabH {ops : Array Oper} {rest : List Oper} {op : Oper} {a : Act} {w W : World} {Q : Exit → Act → World → Prop} (hp : PH w 18 W) (hgd : op.guard = none)
    (hr : (execOp a.eval op).run Try.prog W = .ok (.value (.slice (some ⟨W.heap.size, 0, none⟩) 18 18)) (W.alloc (.cells (gC w.heap.size) 50)))
    (h : wpList Try.prog ops Q rest (a.put op.dst (.slice (some ⟨w.heap.size + 18, 0, none⟩) 18 18)) (W.alloc (.cells (gC w.heap.size) 50))) : wpList Try.prog ops Q (op :: rest) a W :=
  wpList_plain hgd fun _ hK => by
    unfold Oper.wp; rw [hr, hp.size]; exact hK _ _ h
/-- The table lies in memory, from a block on. -/
structure TabH (w : World) (B : Nat) : Prop where
  tab : w.heap[B + 18]? = some (.cells (gC B) 50 (0, 0))
  row : ∀ j, j < 18 → w.heap[B + j]? = some (.cells (gRow j) 9 (0, 0))
theorem TabH.on {w w' : World} {B n : Nat} (h : TabH w B) (hn : B + 18 < n) (hb : Below n w w') : TabH w' B :=
  ⟨(hb.block _ hn).trans h.tab, fun j hj => (hb.block _ (by omega)).trans (h.row j hj)⟩
theorem TabH.lt {w : World} {B : Nat} (h : TabH w B) : B + 18 < w.heap.size := (Array.getElem?_eq_some_iff.1 h.tab).1
theorem TabH.next {w w' : World} {B : Nat} (h : TabH w B) (hb : Below w.heap.size w w') : TabH w' B := h.on h.lt hb
theorem TabH.name {w : World} {B : Nat} (h : TabH w B) {j : Nat} (hj : j < 18) : w.cell? ⟨B + 18, j * 2, none⟩ = some (.string (gN j)) := by
  rw [cell_of_row _ _ _ _ _ (0, 0) h.tab]; exact (gC_get _ j hj).1
theorem TabH.list {w : World} {B : Nat} (h : TabH w B) {j : Nat} (hj : j < 18) : w.cell? ⟨B + 18, j * 2 + 1, none⟩ = some (.slice (some ⟨B + j, 0, none⟩) (gL j).length (gL j).length) := by
  rw [cell_of_row _ _ _ _ _ (0, 0) h.tab]; exact (gC_get _ j hj).2
set_option maxRecDepth 100000 in
set_option maxHeartbeats 32000000 in
theorem tableH (w : World) : Calls Try.prog 20 #[] w fun e w' => e = .returned (.slice (some ⟨w.heap.size + 18, 0, none⟩) 18 18) ∧ TabH w' w.heap.size ∧ Below w.heap.size w w' := by
  have HP := PH.zero w
  go_enter Try.func20, Try.ntmps20
  go_upto_region 1 with fail
  refine wp_region_lit ?_
  refine wpList_rowH (n := 3) HP (by decide) (by decide) rfl (by kernel_rfl) ?_
  clear HP
  intro W0 HP
  refine wpList_bldH HP (n := 3) rfl (by kernel_rfl) ?_
  refine wpList_rowH (n := 2) HP (by decide) (by decide) rfl (by kernel_rfl) ?_
  clear HP
  intro W1 HP
  refine wpList_bldH HP (n := 2) rfl (by kernel_rfl) ?_
  refine wpList_rowH (n := 2) HP (by decide) (by decide) rfl (by kernel_rfl) ?_
  clear HP
  intro W2 HP
  refine wpList_bldH HP (n := 2) rfl (by kernel_rfl) ?_
  refine wpList_rowH (n := 4) HP (by decide) (by decide) rfl (by kernel_rfl) ?_
  clear HP
  intro W3 HP
  refine wpList_bldH HP (n := 4) rfl (by kernel_rfl) ?_
  refine wpList_rowH (n := 6) HP (by decide) (by decide) rfl (by kernel_rfl) ?_
  clear HP
  intro W4 HP
  refine wpList_bldH HP (n := 6) rfl (by kernel_rfl) ?_
  refine wpList_rowH (n := 3) HP (by decide) (by decide) rfl (by kernel_rfl) ?_
  clear HP
  intro W5 HP
  refine wpList_bldH HP (n := 3) rfl (by kernel_rfl) ?_
  refine wpList_rowH (n := 2) HP (by decide) (by decide) rfl (by kernel_rfl) ?_
  clear HP
  intro W6 HP
  refine wpList_bldH HP (n := 2) rfl (by kernel_rfl) ?_
  refine wpList_rowH (n := 2) HP (by decide) (by decide) rfl (by kernel_rfl) ?_
  clear HP
  intro W7 HP
  refine wpList_bldH HP (n := 2) rfl (by kernel_rfl) ?_
  refine wpList_rowH (n := 2) HP (by decide) (by decide) rfl (by kernel_rfl) ?_
  clear HP
  intro W8 HP
  refine wpList_bldH HP (n := 2) rfl (by kernel_rfl) ?_
  refine wpList_rowH (n := 2) HP (by decide) (by decide) rfl (by kernel_rfl) ?_
  clear HP
  intro W9 HP
  refine wpList_bldH HP (n := 2) rfl (by kernel_rfl) ?_
  refine wpList_rowH (n := 2) HP (by decide) (by decide) rfl (by kernel_rfl) ?_
  clear HP
  intro W10 HP
  refine wpList_bldH HP (n := 2) rfl (by kernel_rfl) ?_
  refine wpList_rowH (n := 1) HP (by decide) (by decide) rfl (by kernel_rfl) ?_
  clear HP
  intro W11 HP
  refine wpList_bldH HP (n := 1) rfl (by kernel_rfl) ?_
  refine wpList_rowH (n := 4) HP (by decide) (by decide) rfl (by kernel_rfl) ?_
  clear HP
  intro W12 HP
  refine wpList_bldH HP (n := 4) rfl (by kernel_rfl) ?_
  refine wpList_rowH (n := 6) HP (by decide) (by decide) rfl (by kernel_rfl) ?_
  clear HP
  intro W13 HP
  refine wpList_bldH HP (n := 6) rfl (by kernel_rfl) ?_
  refine wpList_rowH (n := 8) HP (by decide) (by decide) rfl (by kernel_rfl) ?_
  clear HP
  intro W14 HP
  refine wpList_bldH HP (n := 8) rfl (by kernel_rfl) ?_
  refine wpList_rowH (n := 1) HP (by decide) (by decide) rfl (by kernel_rfl) ?_
  clear HP
  intro W15 HP
  refine wpList_bldH HP (n := 1) rfl (by kernel_rfl) ?_
  refine wpList_rowH (n := 2) HP (by decide) (by decide) rfl (by kernel_rfl) ?_
  clear HP
  intro W16 HP
  refine wpList_bldH HP (n := 2) rfl (by kernel_rfl) ?_
  refine wpList_rowH (n := 5) HP (by decide) (by decide) rfl (by kernel_rfl) ?_
  clear HP
  intro W17 HP
  refine wpList_bldH HP (n := 5) rfl (by kernel_rfl) ?_
  refine wpList_tabH HP rfl (by kernel_rfl) ?_
  refine wpList_as rfl (.slice (some ⟨w.heap.size + 18, 0, none⟩) 18 18) (by kernel_rfl) ?_
  rename_i K hK
  show K _ _
  refine hK _ _ ?_
  have hT : TabH (W17.alloc (.cells (gC w.heap.size) 50)) w.heap.size := ⟨by rw [← HP.size]; exact heap_alloc_new _ _, fun j hj => by
    rw [Below.heap_alloc _ _ _ (by rw [HP.size]; omega)]; exact HP.rows j hj⟩
  have hB : Below w.heap.size w (W17.alloc (.cells (gC w.heap.size) 50)) := HP.below.alloc HP.below.size _
  generalize W17.alloc (.cells (gC w.heap.size) 50) = W at hT hB ⊢
  refine wp_ret ?_
  show bodyPost Try.prog Try.f20 (fun e w' => e = .returned (.slice (some ⟨w.heap.size + 18, 0, none⟩) 18 18) ∧ TabH w' w.heap.size ∧ Below w.heap.size w w') .ret _ W
  exact bodyPost_ret (v := .slice (some ⟨w.heap.size + 18, 0, none⟩) 18 18) (by kernel_rfl) (by kernel_rfl) ⟨rfl, hT, hB⟩
theorem gL_tab : ∀ j, j < 18 → 0 < (gL j).length ∧ (gL j).length ≤ 8 := by decide +kernel
/-- What a group names, as the table holds it. -/
def MemV (B : Nat) (s : ByteArray) (v : Value) : Prop := (memR s = [] ∧ v = .slice none 0 0) ∨ ∃ j, j < 18 ∧ memR s = gL j ∧ v = .slice (some ⟨B + j, 0, none⟩) (gL j).length (gL j).length
theorem MemV.own {w : World} {B base : Nat} {s : ByteArray} {v : Value} (m : MemV B s v) (h : TabH w B) (hB : base ≤ B) : w.ownsRow base 9 1 v (memR s).length (sG (memR s)) := by
  rcases m with ⟨e, rfl⟩ | ⟨j, hj, e, rfl⟩
  · rw [e]; exact World.ownsRow_nil _ _ _ _
  · rw [e]
    have hl := (gL_tab j hj).2
    have hz : (gRow j).size = (gL j).length * 1 := by unfold gRow; simp
    refine ⟨by rw [sG_length, Nat.mul_one], .inr ⟨B + j, (gL j).length, gRow j, rfl, by omega, h.row j hj, Nat.le_refl _, by unfold maxLen; omega, hz, ?_⟩⟩
    rw [List.take_of_length_le (by rw [Array.length_toList, hz]; exact Nat.le_refl _)]; rfl
set_option maxHeartbeats 4000000 in
theorem membersH (s : ByteArray) (w : World) (B : Nat) (h : TabH w B) : Calls Try.prog 22 #[.slice (some ⟨B + 18, 0, none⟩) 18 18, .string s] w fun e w' => ∃ v, e = .returned v ∧ MemV B s v ∧ Below w.heap.size w w' := by
  have HT := Lib.hid h
  have HD := Lib.hid (show memIn (grpT.drop 0) s = memR s from rfl)
  have HM := Lib.hid (fun (v : Value) (m : MemV B s v) => m)
  unfold MemV at HM ⊢
  obtain ⟨r, hr⟩ : ∃ r, r = memR s := ⟨_, rfl⟩
  rw [← hr] at HD HM ⊢
  clear hr h
  go_enter Try.func22, Try.ntmps22
  go_wp2
  go_loopw [9] (fun i wr => ∃ k : Nat, k ≤ 18 ∧ i = .int .i64 k ∧ Hid (memIn (grpT.drop k) s = r) ∧ Hid (Below w.heap.size w wr)) (fun i _ => 18 - (intOf i).toNat)
  case atStart => exact ⟨0, by omega, rfl, HD, Lib.hid (Below.refl _ _)⟩
  case round =>
    obtain ⟨k, hk, rfl, hm, hB⟩ := hrel
    have hsz := hB.out.size
    by_cases hlt : k < 18
    · have HW := HT.out.next hB.out
      have c0 := HW.name hlt
      have c1 := HW.list hlt
      have HA := Lib.hid (mem_at hlt s)
      have k1 : (k : Int) < 18 := by omega
      have k0 : (0 : Int) ≤ k := by omega
      have HF := Lib.hid (show ∀ (n : Nat), n = (gL k).length → r = gL k → ∃ v, Ending.returned (.slice (some ⟨B + k, 0, none⟩) n n) = .returned v ∧ (r = [] ∧ v = .slice none 0 0 ∨ ∃ j, j < 18 ∧ r = gL j ∧ v = .slice (some ⟨B + j, 0, none⟩) (gL j).length (gL j).length) from fun n hn e => ⟨_, rfl, Or.inr ⟨k, hlt, e, by rw [hn]⟩⟩)
      obtain ⟨x, hx⟩ : ∃ x, x = gN k := ⟨_, rfl⟩
      rw [← hx] at c0 HA
      obtain ⟨n, hn⟩ : ∃ n, n = (gL k).length := ⟨_, rfl⟩
      have HN := Lib.hid hn
      rw [← hn] at c1
      have HB2 := Lib.hid (hB.out.alloc hsz (.cells #[.string x, .slice (some ⟨B + k, 0, none⟩) n n] 50))
      clear hx hn HW
      by_cases hs : x = s
      · subst hs
        have hv := Lib.hid (show r = gL k by rw [← hm.out, HA.out, if_pos rfl])
        have t1 : (x.toList == x.toList) = true := by simp
        clear HA hm
        go_wp2
        go_ret
        obtain ⟨v, e1, e2⟩ := HF.out n HN.out hv.out
        exact ⟨v, e1, e2, HB2.out⟩
      · have hv := Lib.hid (show memIn (grpT.drop (k + 1)) s = r by rw [← hm.out, HA.out, if_neg hs])
        have hb : (x.toList == s.toList) = false := beq_eq_false_iff_ne.2 (fun e => hs (list_of_bytes11 e))
        clear HA hm hs HF
        go_wp2
        go_roundw
        case rel => exact ⟨k + 1, by omega, by go_num, hv, HB2⟩
        case measure => simp [intOf]; omega
    · obtain rfl : k = 18 := by omega
      have hv := Lib.hid (show r = [] from hm.out.symm)
      go_wp2
      go_ret
      exact ⟨_, rfl, Or.inl ⟨hv.out, rfl⟩, hB.out⟩
theorem mems_l (s : ByteArray) (w : World) : Calls Try.prog 17 #[.string s] w fun e w' => ∃ v, e = .returned v ∧ TabH w' w.heap.size ∧ MemV w.heap.size s v ∧ Below w.heap.size w w' := by
  have HT := Lib.hid (tableH w)
  have HM := Lib.hid (fun (W : World) (h : TabH W w.heap.size) => membersH s W w.heap.size h)
  go_enter Try.func17, Try.ntmps17
  go_wp2_with (first
    | (go_at_call 20; ((with_reducible refine (HT.out).mono ?_); rintro e W ⟨rfl, t1, b1⟩); have T1 := Lib.hid t1; have B1 := Lib.hid b1; clear t1 b1)
    | (go_at_call 22; ((with_reducible refine (HM.out _ T1.out).mono ?_); rintro e X ⟨v, rfl, m2, b2⟩); have M2 := Lib.hid m2; have T2 := Lib.hid (T1.out.next b2); have B2 := Lib.hid (thnH B1.out b2); clear m2 b2))
  go_ret
  exact ⟨_, rfl, T2.out, M2.out, B2.out⟩
theorem members_l (s : ByteArray) (w : World) : Calls Try.prog 17 #[.string s] w fun e w' => ∃ v, e = .returned v ∧ w'.ownsRow w.heap.size 9 1 v (memR s).length (sG (memR s)) ∧ Below w.heap.size w w' :=
  (mems_l s w).mono fun e w' ⟨v, e1, t, m, b⟩ => ⟨v, e1, m.own t (Nat.le_refl _), b⟩
theorem neq_nil (w : World) (a : Option Addr) (l c : Nat) : (binOp .neq 22 (.slice a l c) (.slice none 0 0)).run Try.prog w = .ok (.bool (!a.isNone)) w := run_neq_slice_nil w _ _ a l c Try.underlying22
theorem known_l (s : ByteArray) (w : World) : Calls Try.prog 15 #[.string s] w fun e w' => e = .returned (.bool (!(memR s).isEmpty)) ∧ Below w.heap.size w w' := by
  by_cases h : memR s = []
  · have HM := Lib.hid ((mems_l s w).mono (R' := fun e w' => e = .returned (.slice none 0 0) ∧ Below w.heap.size w w') fun e w' ⟨v, e1, t, m, b⟩ => by
      rcases m with ⟨_, rfl⟩ | ⟨j, hj, e2, _⟩
      · exact ⟨e1, b⟩
      · have := (gL_tab j hj).1; rw [← e2, h] at this; exact absurd this (by decide))
    rw [h]
    clear h
    have NQ := fun (W : World) (a : Option Addr) (l c : Nat) => neq_nil W a l c
    go_enter Try.func15, Try.ntmps15
    go_wp2_with (go_at_call 17; ((with_reducible refine (HM.out).mono ?_); rintro e X ⟨rfl, b2⟩))
    go_ret
    exact ⟨rfl, b2⟩
  · have HM := Lib.hid ((mems_l s w).mono (R' := fun e w' => ∃ q n c, e = .returned (.slice (some q) n c) ∧ Below w.heap.size w w') fun e w' ⟨v, e1, t, m, b⟩ => by
      rcases m with ⟨e2, _⟩ | ⟨j, hj, e2, rfl⟩
      · exact absurd e2 h
      · exact ⟨_, _, _, e1, b⟩)
    rw [show (memR s).isEmpty = false from by cases hh : memR s with | nil => exact absurd hh h | cons _ _ => rfl]
    clear h
    have NQ := fun (W : World) (a : Option Addr) (l c : Nat) => neq_nil W a l c
    go_enter Try.func15, Try.ntmps15
    go_wp2_with (go_at_call 17; ((with_reducible refine (HM.out).mono ?_); rintro e X ⟨q, n, c, rfl, b2⟩))
    go_ret
    exact ⟨rfl, b2⟩
def nmG : List ByteArray := grpT.map (·.1)
theorem news_g1 (w : World) (o : Obj) (x : ByteArray) (t : TypeId) : ∀ j u, (sG [x])[j]? = some u → ((w.alloc o).alloc (.cells #[.string x] t)).cell? ((⟨w.heap.size + 1, 0, none⟩ : Addr).add j) = some u := by
  rw [← World.size_alloc w o]; exact news_g _ x t
theorem nmG_len : nmG.length = 18 := rfl
theorem own_low11 {w : World} {B B' n s : Nat} {e : TypeId} {v : Value} {xs : List Value} (h : w.ownsRow B e s v n xs) (hB : B' ≤ B) : w.ownsRow B' e s v n xs := by
  refine ⟨h.1, ?_⟩
  rcases h.2 with h0 | ⟨g, cap, cur, hv, hb, h3⟩
  · exact .inl h0
  · exact .inr ⟨g, cap, cur, hv, Nat.le_trans hB hb, h3⟩
theorem nmG_at {k : Nat} (hk : k < 18) : nmG.take (k + 1) = nmG.take k ++ [gN k] := by
  rw [List.take_add_one]
  unfold nmG
  rw [List.getElem?_map, gT_at hk]; rfl
theorem nmG_take {k : Nat} (hk : k ≤ 18) : (nmG.take k).length = k := by rw [List.length_take, nmG_len]; omega
set_option maxRecDepth 100000 in
set_option maxHeartbeats 16000000 in
theorem names_own (w : World) : Calls Try.prog 12 #[] w fun e w' => ∃ v, e = .returned v ∧ w'.ownsRow w.heap.size 9 1 v 18 (sG nmG) ∧ Below w.heap.size w w' := by
  obtain ⟨i0, hi0, hz0, hz1, hz2⟩ := info_parts str_info11
  have HI := Lib.hid hi0
  have HZ0 := Lib.hid hz0
  have HZ1 := Lib.hid hz1
  have HZ2 := Lib.hid hz2
  have HT := Lib.hid (tableH w)
  clear hi0 hz0 hz1 hz2
  go_enter Try.func12, Try.ntmps12
  go_wp2_with (go_at_call 20; ((with_reducible refine (HT.out).mono ?_); rintro e W ⟨rfl, t1, b1⟩); have T1 := Lib.hid t1; have B1 := Lib.hid b1; clear t1 b1)
  clear HT
  go_loopw [1, 6] (fun v1 v6 wr => ∃ k : Nat, k ≤ 18 ∧ v6 = .int .i64 k ∧ Hid (wr.ownsRow W.heap.size 9 1 v1 k (sG (nmG.take k))) ∧ Hid (Below W.heap.size W wr)) (fun _ v6 _ => 18 - (intOf v6).toNat)
  case atStart => exact ⟨0, by omega, rfl, Lib.hid (World.ownsRow_nil _ _ _ _), Lib.hid (Below.refl _ _)⟩
  case round =>
    obtain ⟨k, hk, rfl, PO, PB⟩ := hrel
    obtain ⟨V, rfl⟩ : ∃ wo : World, wo = wr := ⟨_, rfl⟩
    by_cases hlt : k < 18
    · have HW := T1.out.next PB.out
      have c0 := HW.name hlt
      have c1 := HW.list hlt
      have HA := Lib.hid (nmG_at hlt)
      have k1 : (k : Int) < 18 := by omega
      have k0 : (0 : Int) ≤ k := by omega
      obtain ⟨x, hx⟩ : ∃ x, x = gN k := ⟨_, rfl⟩
      rw [← hx] at c0 HA
      obtain ⟨n, hn⟩ : ∃ n, n = (gL k).length := ⟨_, rfl⟩
      rw [← hn] at c1
      have HB2 := Lib.hid (PB.out.alloc PB.out.size (.cells #[.string x, .slice (some ⟨w.heap.size + k, 0, none⟩) n n] 50))
      have PO2 := Lib.hid (PO.out.alloc (.cells #[.string x, .slice (some ⟨w.heap.size + k, 0, none⟩) n n] 50))
      clear hx hn HW
      go_wp2_with (first
        | (at_builtin
           refine wpList_append_own _ rfl (.tmp 10) (.tmp 13) 22 rfl W.heap.size 9 i0 _ 1 16 Try.underlying22 HI.out HZ0.out HZ1.out HZ2.out rfl (by omega) _ k _ rfl (PO2.out.alloc _) ⟨V.heap.size + 1, 0, none⟩ 1 1 (sG [x]) rfl rfl (news_g1 _ _ x _) (sG_one _) (by unfold maxLen; omega) (by omega) (by rw [World.size_alloc]; exact Nat.le_succ_of_le HB2.out.size) ?_
           intro v5 w5 o5 h5 _
           rw [← sG_app] at o5
           have O5 := Lib.hid o5
           have B5 := Lib.hid ((HB2.out.alloc HB2.out.size _).grown h5 (by rw [World.size_alloc]; exact Nat.le_succ_of_le HB2.out.size) (fun g hg => (PO2.out.lt g hg).1))
           clear o5 h5))
      go_roundw
      case rel => exact ⟨k + 1, by omega, by go_num, Lib.hid (by rw [HA.out]; exact O5.out), B5⟩
      case measure => simp [intOf]; omega
    · obtain rfl : k = 18 := by omega
      have hv := Lib.hid (show nmG.take 18 = nmG from List.take_of_length_le (by rw [nmG_len]; exact Nat.le_refl _))
      go_wp2
      go_ret
      exact ⟨_, rfl, by rw [← hv.out]; exact own_low11 PO.out B1.out.size, thnH B1.out PB.out⟩
theorem names_l (w : World) : Calls Try.prog 12 #[] w fun e w' => ∃ v, e = .returned v ∧ StrsAt w' v (grpT.map (·.1)) ∧ Below w.heap.size w w' :=
  (names_own w).mono fun e w' ⟨v, e1, o, b⟩ => ⟨v, e1, strs_own (l := nmG) (by rw [nmG_len]; exact o), b⟩
end Go.Proofs.Ytciocmhmdhmdoaa
