/- The landed remove: the list without the number. Conditions: at most 100,000 numbers. -/
import Derived.Test.YtlenjfodjkhpmaaGreatDoorR1
import Derived.Test.YtlenjfodjkhpmaaGreatDoorR2
import Derived.Maps.AppendAt
import Derived.Deep.QuietTactic
import Derived.BigQuiet
import Derived.Laws.Externs
namespace Go.Proofs.YtlenjfodjkhpmaaGreatDoor
set_option maxRecDepth 100000
open Go.Lib (hid)
open Go.RowKit
set_option linter.unusedVariables false
set_option linter.unusedSimpArgs false
attribute [local go_sem ↓] Go.wp_at_zero Go.wp_at_succ

theorem insU_in18 {x : Int} : ∀ {l : List Int}, (l.Pairwise fun a b => ltI a b = true) → x ∈ l → insU ltI x l = l
 | a :: r, h, hx => by
   obtain ⟨h1, h2⟩ := List.pairwise_cons.1 h
   unfold insU
   by_cases e : x = a
   ·rw [if_pos e]
   ·rw [if_neg e]
    have hr : x ∈ r := by
     rcases List.mem_cons.1 hx with h | h
     ·exact absurd h e
     ·exact h
    have h3 := h1 x hr
    have : ¬ ltI x a = true := by unfold ltI at *; simp at *; omega
    rw [if_neg this, insU_in18 h2 hr]
theorem insU_end18 {x : Int} : ∀ {l : List Int}, x ∉ l → l.findIdx? (fun y => decide (x < y)) = none → insU ltI x l = l ++ [x]
 | [], _, _ => rfl
 | a :: r, hx, h => by
   have h' := List.findIdx?_eq_none_iff.1 h
   have ha : decide (x < a) = false := h' a List.mem_cons_self
   unfold insU
   rw [if_neg (fun e => hx (by rw [e]; exact List.mem_cons_self)), if_neg (show ¬ ltI x a = true by unfold ltI; rw [ha]; exact Bool.noConfusion), insU_end18 (fun e => hx (List.mem_cons_of_mem _ e)) (List.findIdx?_eq_none_iff.2 fun y hy => h' y (List.mem_cons_of_mem _ hy))]
   rfl
theorem insU_at18 {x : Int} : ∀ {l : List Int} {k : Nat}, x ∉ l → l.findIdx? (fun y => decide (x < y)) = some k → insU ltI x l = l.take k ++ x :: l.drop k
 | [], k, _, h => by simp at h
 | a :: r, k, hx, h => by
   rw [List.findIdx?_cons] at h
   unfold insU
   rw [if_neg (fun e => hx (by rw [e]; exact List.mem_cons_self))]
   by_cases ha : decide (x < a) = true
   ·rw [ha] at h
    simp only [if_true] at h
    injection h with h
    subst h
    rw [if_pos (show ltI x a = true from ha)]
    rfl
   ·have ha : decide (x < a) = false := by simpa using ha
    rw [ha] at h
    simp only [Bool.false_eq_true, if_false] at h
    obtain ⟨k', hk, rfl⟩ := Option.map_eq_some_iff.1 h
    rw [if_neg (show ¬ ltI x a = true by unfold ltI; rw [ha]; exact Bool.noConfusion), insU_at18 (fun e => hx (List.mem_cons_of_mem _ e)) hk]
    rfl
theorem lit_own18 {T : TypeId} (W : World) (v : Value) : (W.alloc (.cells #[v] T)).heap[W.heap.size]? = some (.cells ([v] : List Value).toArray T (0, 0)) := heap_alloc_new W _
theorem grown_then18 {W V V' : World} {r : Option Nat} (h : W.grownBy V r) (b : Below V.heap.size V V') : W.grownBy V' r :=
 ⟨b.os.trans h.os, b.tape.trans h.tape, b.output.trans h.output, Nat.le_trans h.size b.size, fun k hk hne => (b.block k (Nat.lt_of_lt_of_le hk h.size)).trans (h.block k hk hne)⟩
theorem grown_cell18 {W V : World} {g : Nat} (h : W.grownBy V (some g)) (i : Nat) (v : Value) : W.grownBy (V.setCell ⟨g, i, none⟩ v) (some g) :=
 ⟨h.os, h.tape, h.output, by simp [World.setCell]; exact h.size, fun k hk hne => (heap_setCell_other V ⟨g, i, none⟩ k v (fun e => hne (by rw [e]))).trans (h.block k hk hne)⟩
theorem set_cell18 {V : World} {g : Nat} {T : TypeId} {cu : List Value} (h : V.heap[g]? = some (.cells cu.toArray T (0, 0))) (v : Value) (i : Nat) (hi : i < cu.length) : (V.setCell ⟨g, i, none⟩ v).heap[g]? = some (.cells (cu.take i ++ [v] ++ cu.drop (i + 1)).toArray T (0, 0)) :=
 set_row17 (W := V) [v] i _ V h (by show i + 1 ≤ _; omega)
set_option maxHeartbeats 4000000 in
theorem gt_c_i18 (y x : Int) (b : Nat) (W : World) (hb : W.cell? ⟨b, 0, none⟩ = some (.int .i64 x)) : Calls Tryz.prog 186 #[.int .i64 y, .pointer (some ⟨b, 0, none⟩)] W fun e w' => e = .returned (.bool (decide (x < y))) ∧ Below W.heap.size W w' := by
 go_enter Tryz.func186, Tryz.ntmps186
 go_wp2
 go_ret
 exact ⟨rfl, Below.refl _ _⟩
set_option maxHeartbeats 4000000 in
theorem insert_i18 (w : World) (B : Nat) (q : Option Addr) (n c : Nat) (L : List Int) (x : Int) (hO : w.ownsRow B 3 1 (.slice q n c) n (L.map (Value.int .i64))) (hn : n = L.length) (hb : n ≤ 50000) (hBW : B ≤ w.heap.size) (hs : L.Pairwise fun a b => ltI a b = true) :
 Calls Tryz.prog 157 #[.slice q n c, .int .i64 x] w fun e w' => ∃ q' c', e = .returned (.slice q' (insU ltI x L).length c') ∧ w'.ownsRow B 3 1 (.slice q' (insU ltI x L).length c') (insU ltI x L).length ((insU ltI x L).map (Value.int .i64)) ∧ Below B w w' ∧ KeepT 3 w w' := by
 obtain ⟨w1, hw1⟩ : ∃ X, X = w.alloc (.cells #[.int .i64 x] 3) := ⟨_, rfl⟩
 have b1 : Below w.heap.size w w1 := hw1 ▸ below16 w _
 have hbx : w1.cell? ⟨w.heap.size, 0, none⟩ = some (.int .i64 x) := by rw [hw1]; simp [go_sem]
 have hO1 := owns_on16 hO b1
 have HO1 := hid hO1
 have HBX := hid hbx
 have nA : NumsAt .i64 w1 q L := nums_own17 hO1 hn
 have HCO := hid (contains_i18 q n c L x w1 hn (by omega) nA)
 have HIF := hid (fun (W : World) (b : Below w1.heap.size w1 W) => indexf_i18 q n c L (fun y => decide (x < y)) w.heap.size W hn (by omega) (nA.on b) (fun y X bx => gt_c_i18 y x w.heap.size X (((thn16 b bx).cell (World.block_lt_of_cell? w1 _ hbx)).trans hbx)))
 have B1 := hid b1
 have HB := hid hb
 have HBW := hid hBW
 have HL := hid hn
 have HW1 := hid hw1
 by_cases hx : x ∈ L
 ·rw [insU_in18 hs hx, ← hn]
  rw [decide_eq_true hx] at HCO
  clear hw1 b1 hbx hO hO1 nA hn hb hBW hs hx HIF
  go_enter Tryz.func157, Tryz.ntmps157
  go_wp2_with (first | (go_at_call 184; rw [← HW1.out]; ((with_reducible refine (HCO.out).mono ?_); rintro e w2 ⟨rfl, b2⟩); have B2 := hid b2))
  go_ret
  exact ⟨q, c, rfl, owns_on16 HO1.out B2.out, (thn16 B1.out B2.out).mono HBW.out, KeepT.below (thn16 B1.out B2.out)⟩
 ·rw [decide_eq_false hx] at HCO
  cases hf : L.findIdx? (fun y => decide (x < y)) with
  | none =>
   rw [ix_none18 hf] at HIF
   have HE := hid (insU_end18 hx hf)
   obtain ⟨i0, hi0, hz0, hz1, hz2⟩ := info_parts (show (Tryz.prog.info? 3).map (fun i => (i.zero, i.size, i.bytes)) = some (some (.int .i64 0), 1, 8) by kernel_rfl)
   have HI := hid hi0
   have HZ0 := hid hz0
   have HZ1 := hid hz1
   have HZ2 := hid hz2
   have t1 : (-1 : Int) < 0 := by decide
   clear hw1 b1 hbx hO hO1 nA hn hb hBW hs hx hf hi0 hz0 hz1 hz2
   go_enter Tryz.func157, Tryz.ntmps157
   go_wp2_with (first
    | (go_at_call 184; rw [← HW1.out]; ((with_reducible refine (HCO.out).mono ?_); rintro e w2 ⟨rfl, b2⟩); have B2 := hid b2)
    | (go_at_call 185; ((with_reducible refine (HIF.out _ B2.out).mono ?_); rintro e w3 ⟨rfl, b3⟩); have B3 := hid (thn16 B2.out b3); have C3 := (B3.out.cell (World.block_lt_of_cell? w1 _ HBX.out)).trans HBX.out; have O3 := hid (owns_on16 (owns_on16 HO1.out B3.out) (below16 w3 (.cells #[.int .i64 x] 3))); have V3 := hid (lit_own18 (T := 3) w3 (.int .i64 x)))
    | (at_builtin
       refine wpList_append_own_at _ rfl _ _ 24 rfl B 3 i0 _ 1 8 Tryz.underlying24 HI.out HZ0.out HZ1.out HZ2.out rfl (by decide) _ _ _ rfl O3.out ⟨w3.heap.size, 0, none⟩ 1 1 [.int .i64 x] rfl rfl (cells_at18 V3.out (fun j u hu => by rw [Nat.zero_add]; exact hu)) (nums_one18 .i64 [x]) (by have := HB.out; unfold maxLen; omega) (by have := HB.out; omega) (by have := HBW.out; have := B1.out.size; have := B3.out.size; rw [World.size_alloc]; omega) ?_
       intro v' w' h1 h2 h3 h4))
   go_ret
   have hlen : (insU ltI x L).length = n + 1 := by rw [HE.out, HL.out, List.length_append]; rfl
   obtain ⟨q', c', rfl⟩ := own16 h1
   have hbn : Below B w (w3.alloc (.cells #[.int .i64 x] 3)) := ((thn16 (thn16 B1.out B3.out) (below16 w3 _)).mono HBW.out)
   refine ⟨q', c', by rw [hlen]; rfl, by rw [hlen, HE.out, List.map_append]; exact h1, hbn.grown h2 (Nat.le_trans HBW.out hbn.size) ?_, ?_⟩
   ·intro k e
    rcases O3.out.2 with ⟨hv, _⟩ | ⟨g, cap, cur, hv, hg, _⟩
    ·rw [hv] at e; cases e
    ·rw [hv] at e; injection e with e; rw [← e]; exact hg
   ·refine (KeepT.below (thn16 (thn16 B1.out B3.out) (below16 w3 (.cells #[.int .i64 x] 3)))).trans ?_
    rcases O3.out.2 with ⟨hv, _⟩ | ⟨g, cap, cur, hv, hg, hh, _⟩
    ·exact KeepT.grown0 (by rw [hv] at h2; exact h2)
    ·exact KeepT.grown hh (by rw [hv] at h2; exact h2)
  | some k =>
   rw [ix_some18 hf] at HIF
   have HE := hid (insU_at18 hx hf)
   have hkn : k < n := by rw [hn]; exact (List.findIdx?_eq_some_iff_getElem.1 hf).1
   have HIN := hid (fun (W : World) (V : Nat) (o : W.ownsRow B 3 1 (.slice q n c) n (L.map (Value.int .i64))) (hBW : B ≤ W.heap.size) (hV : W.heap[V]? = some (.cells ([.int .i64 x] : List Value).toArray 3 (0, 0))) (hne : ∀ g, q = some ⟨g, 0, none⟩ → V ≠ g) => insert_at_i18 W B q n c V k L x o hn hkn (by omega) hBW hV hne)
   have HNE := hid (show ∀ (X : World), w1.heap.size ≤ X.heap.size → ∀ g, q = some ⟨g, 0, none⟩ → X.heap.size ≠ g from fun X hX g e => by
    rcases hO1.2 with ⟨hv, _⟩ | ⟨g', cap, cur, hv, hg, hh, _⟩
    ·injection hv with e1 _ _; rw [e1] at e; cases e
    ·injection hv with e1 _ _
     rw [e1] at e
     injection e with e
     injection e with e _ _
     have := (Array.getElem?_eq_some_iff.1 hh).1
     omega)
   have t1 : ¬ (k : Int) < 0 := by omega
   have t2 : (0 : Int) ≤ k := by omega
   have HKN := hid hkn
   clear hw1 b1 hbx hO hO1 nA hn hb hBW hs hx hf hkn
   go_enter Tryz.func157, Tryz.ntmps157
   go_wp2_with (first
    | (go_at_call 184; rw [← HW1.out]; ((with_reducible refine (HCO.out).mono ?_); rintro e w2 ⟨rfl, b2⟩); have B2 := hid b2)
    | (go_at_call 185; ((with_reducible refine (HIF.out _ B2.out).mono ?_); rintro e w3 ⟨rfl, b3⟩); have B3 := hid (thn16 B2.out b3); have C3 := (B3.out.cell (World.block_lt_of_cell? w1 _ HBX.out)).trans HBX.out; have O3 := hid (owns_on16 (owns_on16 HO1.out B3.out) (below16 w3 (.cells #[.int .i64 x] 3))); have V3 := hid (lit_own18 (T := 3) w3 (.int .i64 x)))
    | (go_at_call 187; ((with_reducible refine (HIN.out _ _ O3.out (by have := HBW.out; have := B1.out.size; have := B3.out.size; rw [World.size_alloc]; omega) V3.out (HNE.out w3 B3.out.size)).mono ?_); rintro e w4 ⟨q', c', rfl, o4, b4, k4⟩)))
   go_ret
   have hlen : (insU ltI x L).length = n + 1 := by rw [HE.out, List.length_append, List.length_cons, List.length_take, List.length_drop, ← HL.out]; have := HKN.out; omega
   exact ⟨q', c', by rw [hlen]; rfl, by rw [hlen, HE.out]; exact o4, ((thn16 (thn16 B1.out B3.out) (below16 w3 _)).mono HBW.out).trans b4, (KeepT.below (thn16 (thn16 B1.out B3.out) (below16 w3 _))).trans k4⟩
set_option maxHeartbeats 4000000 in
theorem gt_c_u18 (y x : Int) (b : Nat) (W : World) (hb : W.cell? ⟨b, 0, none⟩ = some (.int .u32 x)) : Calls Tryz.prog 219 #[.int .u32 y, .pointer (some ⟨b, 0, none⟩)] W fun e w' => e = .returned (.bool (decide (x < y))) ∧ Below W.heap.size W w' := by
 go_enter Tryz.func219, Tryz.ntmps219
 go_wp2
 go_ret
 exact ⟨rfl, Below.refl _ _⟩
set_option maxHeartbeats 4000000 in
theorem insert_u18 (w : World) (B : Nat) (q : Option Addr) (n c : Nat) (L : List Int) (x : Int) (hO : w.ownsRow B 28 1 (.slice q n c) n (L.map (Value.int .u32))) (hn : n = L.length) (hb : n ≤ 50000) (hBW : B ≤ w.heap.size) (hs : L.Pairwise fun a b => ltI a b = true) :
 Calls Tryz.prog 190 #[.slice q n c, .int .u32 x] w fun e w' => ∃ q' c', e = .returned (.slice q' (insU ltI x L).length c') ∧ w'.ownsRow B 28 1 (.slice q' (insU ltI x L).length c') (insU ltI x L).length ((insU ltI x L).map (Value.int .u32)) ∧ Below B w w' ∧ KeepT 28 w w' := by
 obtain ⟨w1, hw1⟩ : ∃ X, X = w.alloc (.cells #[.int .u32 x] 28) := ⟨_, rfl⟩
 have b1 : Below w.heap.size w w1 := hw1 ▸ below16 w _
 have hbx : w1.cell? ⟨w.heap.size, 0, none⟩ = some (.int .u32 x) := by rw [hw1]; simp [go_sem]
 have hO1 := owns_on16 hO b1
 have HO1 := hid hO1
 have HBX := hid hbx
 have nA : NumsAt .u32 w1 q L := nums_own17 hO1 hn
 have HCO := hid (contains_u18 q n c L x w1 hn (by omega) nA)
 have HIF := hid (fun (W : World) (b : Below w1.heap.size w1 W) => indexf_u18 q n c L (fun y => decide (x < y)) w.heap.size W hn (by omega) (nA.on b) (fun y X bx => gt_c_u18 y x w.heap.size X (((thn16 b bx).cell (World.block_lt_of_cell? w1 _ hbx)).trans hbx)))
 have B1 := hid b1
 have HB := hid hb
 have HBW := hid hBW
 have HL := hid hn
 have HW1 := hid hw1
 by_cases hx : x ∈ L
 ·rw [insU_in18 hs hx, ← hn]
  rw [decide_eq_true hx] at HCO
  clear hw1 b1 hbx hO hO1 nA hn hb hBW hs hx HIF
  go_enter Tryz.func190, Tryz.ntmps190
  go_wp2_with (first | (go_at_call 217; rw [← HW1.out]; ((with_reducible refine (HCO.out).mono ?_); rintro e w2 ⟨rfl, b2⟩); have B2 := hid b2))
  go_ret
  exact ⟨q, c, rfl, owns_on16 HO1.out B2.out, (thn16 B1.out B2.out).mono HBW.out, KeepT.below (thn16 B1.out B2.out)⟩
 ·rw [decide_eq_false hx] at HCO
  cases hf : L.findIdx? (fun y => decide (x < y)) with
  | none =>
   rw [ix_none18 hf] at HIF
   have HE := hid (insU_end18 hx hf)
   obtain ⟨i0, hi0, hz0, hz1, hz2⟩ := info_parts (show (Tryz.prog.info? 28).map (fun i => (i.zero, i.size, i.bytes)) = some (some (.int .u32 0), 1, 4) by kernel_rfl)
   have HI := hid hi0
   have HZ0 := hid hz0
   have HZ1 := hid hz1
   have HZ2 := hid hz2
   have t1 : (-1 : Int) < 0 := by decide
   clear hw1 b1 hbx hO hO1 nA hn hb hBW hs hx hf hi0 hz0 hz1 hz2
   go_enter Tryz.func190, Tryz.ntmps190
   go_wp2_with (first
    | (go_at_call 217; rw [← HW1.out]; ((with_reducible refine (HCO.out).mono ?_); rintro e w2 ⟨rfl, b2⟩); have B2 := hid b2)
    | (go_at_call 218; ((with_reducible refine (HIF.out _ B2.out).mono ?_); rintro e w3 ⟨rfl, b3⟩); have B3 := hid (thn16 B2.out b3); have C3 := (B3.out.cell (World.block_lt_of_cell? w1 _ HBX.out)).trans HBX.out; have O3 := hid (owns_on16 (owns_on16 HO1.out B3.out) (below16 w3 (.cells #[.int .u32 x] 28))); have V3 := hid (lit_own18 (T := 28) w3 (.int .u32 x)))
    | (at_builtin
       refine wpList_append_own_at _ rfl _ _ 29 rfl B 28 i0 _ 1 4 Tryz.underlying29 HI.out HZ0.out HZ1.out HZ2.out rfl (by decide) _ _ _ rfl O3.out ⟨w3.heap.size, 0, none⟩ 1 1 [.int .u32 x] rfl rfl (cells_at18 V3.out (fun j u hu => by rw [Nat.zero_add]; exact hu)) (nums_one18 .u32 [x]) (by have := HB.out; unfold maxLen; omega) (by have := HB.out; omega) (by have := HBW.out; have := B1.out.size; have := B3.out.size; rw [World.size_alloc]; omega) ?_
       intro v' w' h1 h2 h3 h4))
   go_ret
   have hlen : (insU ltI x L).length = n + 1 := by rw [HE.out, HL.out, List.length_append]; rfl
   obtain ⟨q', c', rfl⟩ := own16 h1
   have hbn : Below B w (w3.alloc (.cells #[.int .u32 x] 28)) := ((thn16 (thn16 B1.out B3.out) (below16 w3 _)).mono HBW.out)
   refine ⟨q', c', by rw [hlen]; rfl, by rw [hlen, HE.out, List.map_append]; exact h1, hbn.grown h2 (Nat.le_trans HBW.out hbn.size) ?_, ?_⟩
   ·intro k e
    rcases O3.out.2 with ⟨hv, _⟩ | ⟨g, cap, cur, hv, hg, _⟩
    ·rw [hv] at e; cases e
    ·rw [hv] at e; injection e with e; rw [← e]; exact hg
   ·refine (KeepT.below (thn16 (thn16 B1.out B3.out) (below16 w3 (.cells #[.int .u32 x] 28)))).trans ?_
    rcases O3.out.2 with ⟨hv, _⟩ | ⟨g, cap, cur, hv, hg, hh, _⟩
    ·exact KeepT.grown0 (by rw [hv] at h2; exact h2)
    ·exact KeepT.grown hh (by rw [hv] at h2; exact h2)
  | some k =>
   rw [ix_some18 hf] at HIF
   have HE := hid (insU_at18 hx hf)
   have hkn : k < n := by rw [hn]; exact (List.findIdx?_eq_some_iff_getElem.1 hf).1
   have HIN := hid (fun (W : World) (V : Nat) (o : W.ownsRow B 28 1 (.slice q n c) n (L.map (Value.int .u32))) (hBW : B ≤ W.heap.size) (hV : W.heap[V]? = some (.cells ([.int .u32 x] : List Value).toArray 28 (0, 0))) (hne : ∀ g, q = some ⟨g, 0, none⟩ → V ≠ g) => insert_at_u18 W B q n c V k L x o hn hkn (by omega) hBW hV hne)
   have HNE := hid (show ∀ (X : World), w1.heap.size ≤ X.heap.size → ∀ g, q = some ⟨g, 0, none⟩ → X.heap.size ≠ g from fun X hX g e => by
    rcases hO1.2 with ⟨hv, _⟩ | ⟨g', cap, cur, hv, hg, hh, _⟩
    ·injection hv with e1 _ _; rw [e1] at e; cases e
    ·injection hv with e1 _ _
     rw [e1] at e
     injection e with e
     injection e with e _ _
     have := (Array.getElem?_eq_some_iff.1 hh).1
     omega)
   have t1 : ¬ (k : Int) < 0 := by omega
   have t2 : (0 : Int) ≤ k := by omega
   have HKN := hid hkn
   clear hw1 b1 hbx hO hO1 nA hn hb hBW hs hx hf hkn
   go_enter Tryz.func190, Tryz.ntmps190
   go_wp2_with (first
    | (go_at_call 217; rw [← HW1.out]; ((with_reducible refine (HCO.out).mono ?_); rintro e w2 ⟨rfl, b2⟩); have B2 := hid b2)
    | (go_at_call 218; ((with_reducible refine (HIF.out _ B2.out).mono ?_); rintro e w3 ⟨rfl, b3⟩); have B3 := hid (thn16 B2.out b3); have C3 := (B3.out.cell (World.block_lt_of_cell? w1 _ HBX.out)).trans HBX.out; have O3 := hid (owns_on16 (owns_on16 HO1.out B3.out) (below16 w3 (.cells #[.int .u32 x] 28))); have V3 := hid (lit_own18 (T := 28) w3 (.int .u32 x)))
    | (go_at_call 220; ((with_reducible refine (HIN.out _ _ O3.out (by have := HBW.out; have := B1.out.size; have := B3.out.size; rw [World.size_alloc]; omega) V3.out (HNE.out w3 B3.out.size)).mono ?_); rintro e w4 ⟨q', c', rfl, o4, b4, k4⟩)))
   go_ret
   have hlen : (insU ltI x L).length = n + 1 := by rw [HE.out, List.length_append, List.length_cons, List.length_take, List.length_drop, ← HL.out]; have := HKN.out; omega
   exact ⟨q', c', by rw [hlen]; rfl, by rw [hlen, HE.out]; exact o4, ((thn16 (thn16 B1.out B3.out) (below16 w3 _)).mono HBW.out).trans b4, (KeepT.below (thn16 (thn16 B1.out B3.out) (below16 w3 _))).trans k4⟩
set_option maxRecDepth 100000
open Go.Lib (hid)
open Go.RowKit
set_option linter.unusedVariables false
set_option linter.unusedSimpArgs false
attribute [local go_sem ↓] Go.wp_at_zero Go.wp_at_succ

set_option maxHeartbeats 4000000 in
theorem eq_c_u18 (y x : Int) (b : Nat) (W : World) (hb : W.cell? ⟨b, 0, none⟩ = some (.int .u32 x)) : Calls Tryz.prog 216 #[.int .u32 y, .pointer (some ⟨b, 0, none⟩)] W fun e w' => e = .returned (.bool (y == x)) ∧ Below W.heap.size W w' := by
 go_enter Tryz.func216, Tryz.ntmps216
 go_wp2
 go_ret
 exact ⟨rfl, Below.refl _ _⟩
theorem filter_none18 {x : Int} {L : List Int} (h : L.findIdx? (fun y => y == x) = none) : L.filter (fun y => y != x) = L := List.filter_eq_self.2 fun y hy => by
 have := List.findIdx?_eq_none_iff.1 h y hy
 show (!(y == x)) = true
 rw [this]; rfl
theorem filter_first18 {x : Int} {L : List Int} {i : Nat} (h : L.findIdx? (fun y => y == x) = some i) : (L.take (i + 1)).filter (fun y => y != x) = L.take i := by
 obtain ⟨h1, h2, h3⟩ := List.findIdx?_eq_some_iff_getElem.1 h
 rw [List.take_add_one, List.getElem?_eq_getElem h1]
 show ((L.take i ++ [L[i]]).filter fun y => y != x) = L.take i
 have hs : (L.take i).filter (fun y => y != x) = L.take i := List.filter_eq_self.2 fun y hy => by
  obtain ⟨j, hj⟩ := List.getElem?_of_mem hy
  rw [List.getElem?_take] at hj
  split at hj
  ·rename_i hji
   have := h3 j hji
   have e : L[j]'(by omega) = y := (List.getElem?_eq_some_iff.1 hj).2
   rw [e] at this
   show (!(y == x)) = true
   simpa using this
  ·cases hj
 rw [List.filter_append, hs, show ([L[i]].filter fun y => y != x) = [] from by simp [eq_of_beq h2], List.append_nil]
theorem filter_step18 {x y : Int} {L : List Int} {j : Nat} (h : L[j]? = some y) : (L.take (j + 1)).filter (fun y => y != x) = (L.take j).filter (fun y => y != x) ++ (if (y == x) = true then [] else [y]) := by
 rw [List.take_add_one, h]
 show ((L.take j ++ [y]).filter fun y => y != x) = _
 rw [List.filter_append]
 congr 1
 cases e : (y == x) with
 | true => simp [eq_of_beq e]
 | false => have : y ≠ x := ne_of_beq_false e; simp [this]
set_option maxHeartbeats 4000000 in
theorem delf_nil18 (W : World) (B b c : Nat) (x : Int) (hBW : B ≤ W.heap.size) (hbx : W.cell? ⟨b, 0, none⟩ = some (.int .u32 x)) (hc : c = 0) :
 Calls Tryz.prog 215 #[.slice none 0 c, .func (.func 216) #[] #[.pointer (some ⟨b, 0, none⟩)]] W fun e w' => ∃ q' c', e = .returned (.slice q' ((([] : List Int)).filter fun y => y != x).length c') ∧ w'.ownsRow B 28 1 (.slice q' ((([] : List Int)).filter fun y => y != x).length c') ((([] : List Int)).filter fun y => y != x).length (((([] : List Int)).filter fun y => y != x).map (Value.int .u32)) ∧ Below B W w' ∧ KeepT 28 W w' := by
 subst hc
 have HIF := hid (indexf_ur18 none 0 0 [] (fun y => y == x) b W rfl (by omega) (fun i y h => by simp at h) (fun y X bx => eq_c_u18 y x b X ((bx.cell (World.block_lt_of_cell? W _ hbx)).trans hbx)))
 rw [ix_none18 rfl] at HIF
 have HBW := hid hBW
 clear hbx hBW
 go_enter Tryz.func215, Tryz.ntmps215
 go_wp2_with (go_at_call 218; ((with_reducible refine (HIF.out).mono ?_); rintro e w1 ⟨rfl, b1⟩))
 go_ret
 exact ⟨none, 0, rfl, World.ownsRow_nil _ _ _ _, b1.mono HBW.out, KeepT.below b1⟩
theorem grown_of18 (W : World) (r : Option Nat) : W.grownBy W r := ⟨rfl, rfl, rfl, Nat.le_refl _, fun _ _ _ => rfl⟩
set_option maxHeartbeats 4000000 in
theorem delf_u18 (W : World) (B b g n c : Nat) (L : List Int) (x : Int) (hO : W.ownsRow B 28 1 (.slice (some ⟨g, 0, none⟩) n c) n (L.map (Value.int .u32))) (hn : n = L.length) (hb : n ≤ 50000) (hBW : B ≤ W.heap.size) (hbx : W.cell? ⟨b, 0, none⟩ = some (.int .u32 x)) (hne : b ≠ g) :
 Calls Tryz.prog 215 #[.slice (some ⟨g, 0, none⟩) n c, .func (.func 216) #[] #[.pointer (some ⟨b, 0, none⟩)]] W fun e w' => ∃ q' c', e = .returned (.slice q' (L.filter fun y => y != x).length c') ∧ w'.ownsRow B 28 1 (.slice q' (L.filter fun y => y != x).length c') (L.filter fun y => y != x).length ((L.filter fun y => y != x).map (Value.int .u32)) ∧ Below B W w' ∧ KeepT 28 W w' := by
 have nA : NumsAt .u32 W (some ⟨g, 0, none⟩) L := nums_own17 hO hn
 have HIF := hid (indexf_ur18 (some ⟨g, 0, none⟩) n c L (fun y => y == x) b W hn (by omega) nA (fun y X bx => eq_c_u18 y x b X ((bx.cell (World.block_lt_of_cell? W _ hbx)).trans hbx)))
 obtain ⟨cur, hB, hg, hnc, hcm, hcs, htk⟩ := own_cur18 hO
 have HBC := hid (show ∀ X, W.grownBy X (some g) → X.cell? ⟨b, 0, none⟩ = some (.int .u32 x) from fun X h => by
  have hbl := World.block_lt_of_cell? W _ hbx
  have := h.block b hbl (fun e => hne (Option.some.inj e))
  rw [← hbx]; unfold World.cell?; simp only [this])
 cases hf : L.findIdx? (fun y => y == x) with
 | none =>
  rw [ix_none18 hf] at HIF
  rw [filter_none18 hf, ← hn]
  have HO := hid hO
  have HBW := hid hBW
  clear nA hO hn hb hBW hbx hne hf hB hg hnc hcm hcs htk
  go_enter Tryz.func215, Tryz.ntmps215
  go_wp2_with (go_at_call 218; ((with_reducible refine (HIF.out).mono ?_); rintro e w1 ⟨rfl, b1⟩))
  go_ret
  exact ⟨_, _, rfl, owns_on16 HO.out b1, b1.mono HBW.out, KeepT.below b1⟩
 | some i0 =>
  rw [ix_some18 hf] at HIF
  have hi0 : i0 < n := by rw [hn]; exact (List.findIdx?_eq_some_iff_getElem.1 hf).1
  have HFF := hid (filter_first18 hf)
  have HTK := hid htk
  have HGG := hid hg
  have HCS := hid hcs
  have HL := hid hn
  have HB := hid hB
  have HBW := hid hBW
  have HCM := hid hcm
  have HZC := hid (show ∀ w, (zeroValue 28).run Tryz.prog w = .ok (.int .u32 0) w from fun w => by
   obtain ⟨i1, hi1, hz0, _, _⟩ := info_parts (show (Tryz.prog.info? 28).map (fun i => (i.zero, i.size, i.bytes)) = some (some (.int .u32 0), 1, 4) by kernel_rfl)
   simp [zeroValue, typeInfo, hi1, hz0])
  have e1 : ¬ (i0 : Int) = -1 := by omega
  have e1b : ((i0 : Int) == -1) = false := beq_eq_false_iff_ne.2 e1
  have e2 : IntKind.i64.wrap ((i0 : Int) + 1) = (i0 : Int) + 1 := by rw [IntKind.wrap_i64]; omega
  have HI0 := hid hi0
  have hcn : n ≤ c := hnc
  clear nA hO hn hBW hbx hne hf hB hg hnc hcm hcs htk hi0
  go_enter Tryz.func215, Tryz.ntmps215
  go_wp2_with (go_at_call 218; ((with_reducible refine (HIF.out).mono ?_); rintro e w1 ⟨rfl, b1⟩))
  have B1 := hid b1
  clear b1
  go_loopw [5, 6] (fun v5 v6 wr => ∃ (i j : Nat) (cu : List Value), v5 = .int .i64 i ∧ v6 = .int .i64 j ∧ i < j ∧ j ≤ n ∧ Hid (cu.length = c) ∧ Hid (cu.take i = ((L.take j).filter (fun y => y != x)).map (Value.int .u32)) ∧ Hid (∀ t, j ≤ t → t < n → cu[t]? = (L[t]?).map (Value.int .u32)) ∧ Hid (wr.heap[g]? = some (.cells cu.toArray 28 (0, 0))) ∧ Hid (W.grownBy wr (some g))) (fun _ v6 _ => n - (intOf v6).toNat)
  case atStart =>
   refine ⟨i0, i0 + 1, cur, rfl, by go_num, by omega, HI0.out, HCS, ?_, ?_, hid (blk_on HGG.out B1.out), hid (grown_then18 (grown_of18 W (some g)) B1.out)⟩
   ·refine hid ?_
    rw [HFF.out, List.map_take, ← HTK.out, List.take_take, Nat.min_eq_left (by have := HI0.out; omega)]
   ·refine hid (fun t _ ht => ?_)
    rw [← List.getElem?_map, ← HTK.out, List.getElem?_take, if_pos ht]
  case round =>
   obtain ⟨i, j, cu, rfl, rfl, hij, hjn, HCU, HTI, HRE, HG, HGR⟩ := hrel
   obtain ⟨V, rfl⟩ : ∃ wo : World, wo = wr := ⟨_, rfl⟩
   by_cases hlt : j < n
   ·obtain ⟨y, hy⟩ : ∃ y, L[j]? = some y := ⟨L[j]'(by rw [← HL.out]; exact hlt), List.getElem?_eq_getElem _⟩
    have hcj : V.cell? ⟨g, j, none⟩ = some (.int .u32 y) := (cell_of_row V g j _ _ (0, 0) HG.out).trans (by simpa [hy] using HRE.out j (Nat.le_refl _) hlt)
    have k1 : (j : Int) < n := by omega
    have k0 : (0 : Int) ≤ j := by omega
    have HK := hid (eq_c_u18 y x b V (HBC.out V HGR.out))
    have HST := hid (filter_step18 (x := x) hy)
    have e3 : IntKind.i64.wrap ((j : Int) + 1) = (j : Int) + 1 := by rw [IntKind.wrap_i64]; omega
    have HRE2 := hid (fun t (h1 : j + 1 ≤ t) (h2 : t < n) => HRE.out t (by omega) h2)
    cases e : (y == x) with
    | true =>
     rw [e] at HK
     have hst := HST.out
     rw [e, if_pos rfl, List.append_nil] at hst
     have HS2 := hid hst
     clear hst HST hy e HRE
     go_wp2_with (go_at_call 216; ((with_reducible refine (HK.out).mono ?_); rintro e w2 ⟨rfl, b2⟩); have B2 := hid b2)
     go_roundw
     case rel => exact ⟨i, j + 1, cu, rfl, by go_num, by omega, by omega, HCU, hid (by rw [HS2.out]; exact HTI.out), HRE2, hid (blk_on HG.out B2.out), hid (grown_then18 HGR.out B2.out)⟩
     case measure => first | (simp [intOf]; done) | (simp [intOf]; omega)
    | false =>
     rw [e] at HK
     have hst := HST.out
     rw [e, if_neg Bool.noConfusion] at hst
     have HS2 := hid hst
     have hic : i < cu.length := by rw [HCU.out]; omega
     obtain ⟨old, hold⟩ : ∃ o, cu[i]? = some o := ⟨cu[i], List.getElem?_eq_getElem hic⟩
     have HOLD := hid hold
     have HIC := hid hic
     have k2 : (i : Int) < n := by omega
     have k3 : (0 : Int) ≤ i := by omega
     have e4 : IntKind.i64.wrap ((i : Int) + 1) = (i : Int) + 1 := by rw [IntKind.wrap_i64]; omega
     clear hst HST hy e HRE hold hic
     go_wp2_with (go_at_call 216; ((with_reducible refine (HK.out).mono ?_); rintro e w2 ⟨rfl, b2⟩); have B2 := hid b2; have HG2 := hid (blk_on HG.out B2.out); have xi := (cell_of_row w2 g i _ _ (0, 0) HG2.out).trans (show _ = some old by simpa using HOLD.out); have xf := frozen_of_row w2 g i _ _ HG2.out)
     go_roundw
     case rel =>
      refine ⟨i + 1, j + 1, cu.take i ++ [.int .u32 y] ++ cu.drop (i + 1), by go_num, by go_num, by omega, by omega, ?_, ?_, ?_, hid (set_cell18 HG2.out _ i HIC.out), hid (grown_cell18 (grown_then18 HGR.out B2.out) i _)⟩
      ·refine hid ?_
       have h1 := HCU.out
       have h2 := HIC.out
       simp only [List.length_append, List.length_take, List.length_drop, List.length_cons, List.length_nil]
       omega
      ·refine hid ?_
       have h2 := HIC.out
       rw [HS2.out, List.map_append, ← HTI.out]
       exact List.take_left' (by simp only [List.length_append, List.length_take, List.length_cons, List.length_nil]; omega)
      ·refine hid (fun t h1 h2 => ?_)
       have h3 := HIC.out
       rw [← HRE2.out t h1 h2, List.getElem?_append_right (by simp only [List.length_append, List.length_take, List.length_cons, List.length_nil]; omega), List.getElem?_drop]
       congr 1
       simp only [List.length_append, List.length_take, List.length_cons, List.length_nil]
       omega
     case measure => first | (simp [intOf]; done) | (simp [intOf]; omega)
   ·obtain rfl : j = n := by omega
    have k1 : ¬ (j : Int) < (j : Nat) := by omega
    have hTI := HTI.out
    rw [show L.take j = L from List.take_of_length_le (by rw [← HL.out]; exact Nat.le_refl _)] at hTI
    have hicc : i ≤ c := by omega
    have hlen : (L.filter fun y => y != x).length = i := by
     have := congrArg List.length hTI
     rw [List.length_take, HCU.out, List.length_map, Nat.min_eq_left hicc] at this
     exact this.symm
    obtain ⟨D, hD⟩ : ∃ D, D = cu.take i ++ (Builtin.zeroCells (Value.int .u32 0).cells (j - i)).toList ++ cu.drop (i + (Builtin.zeroCells (Value.int .u32 0).cells (j - i)).toList.length) := ⟨_, rfl⟩
    have hil : (cu.take i).length = i := by rw [List.length_take, HCU.out, Nat.min_eq_left hicc]
    have hDl : D.length = c := by
     have h1 := HCU.out
     rw [hD]
     simp only [List.length_append, hil, zero_len18, List.length_drop]
     omega
    have hDt : D.take i = (L.filter fun y => y != x).map (Value.int .u32) := by
     rw [hD, List.append_assoc, ← hTI]
     exact List.take_left' hil
    have HCL := hid (show ∀ ty, (Builtin.clear_ #[29] ty #[.slice (some ⟨g, i, none⟩) (j - i) (c - i)]).run Tryz.prog V = .ok (.tuple #[]) (V.setRow g D.toArray) from fun ty => by
     have := run_clear_at V 29 28 ty _ Tryz.underlying29 HZC.out g i (j - i) (c - i) (by omega) cu.toArray _ HG.out (by rw [zero_len18]; simp [HCU.out]; omega) (zero_one18 _ _)
     rw [this, hD])
    have HFO := hid (own_set18 (T := 28) HG.out HB.out hicc HCM.out hDl hDt)
    have hfin : W.grownBy (V.setRow g D.toArray) (some g) := grown_set HGR.out
    have HFB := hid (below_grown18 (B := B) hfin HBW.out (fun k e => by injection e with e; rw [← e]; exact HB.out))
    have HFK := hid (KeepT.grown (T := 28) HGG.out hfin)
    have HLEN := hid hlen
    have q1 : (i : Int) ≤ j := by omega
    have q2 : (0 : Int) ≤ i := by omega
    have q3 : ¬ c = i := by omega
    have q4 : i ≤ j := by omega
    have q5 : j ≤ c := hcn
    have q6 : (i : Int) ≤ c := by omega
    clear hTI hlen hD hil hDl hDt hfin
    go_wp2_with ((with_reducible show wpList _ _ _ (⟨none, .call _, _, _, _, _⟩ :: _) _ _)
                 go_loud (refine wpList_clear16 rfl (.tmp 38) #[29] rfl rfl (HCL.out _) ?_))
    go_ret
    exact ⟨_, _, by rw [HLEN.out]; rfl, by rw [HLEN.out]; exact HFO.out, HFB.out, HFK.out⟩
set_option maxHeartbeats 4000000 in
theorem remove_u18 (w : World) (B : Nat) (q : Option Addr) (n c : Nat) (L : List Int) (x : Int) (hO : w.ownsRow B 28 1 (.slice q n c) n (L.map (Value.int .u32))) (hn : n = L.length) (hb : n ≤ 50000) (hBW : B ≤ w.heap.size) :
 Calls Tryz.prog 189 #[.slice q n c, .int .u32 x] w fun e w' => ∃ q' c', e = .returned (.slice q' (L.filter fun y => y != x).length c') ∧ w'.ownsRow B 28 1 (.slice q' (L.filter fun y => y != x).length c') (L.filter fun y => y != x).length ((L.filter fun y => y != x).map (Value.int .u32)) ∧ Below B w w' ∧ KeepT 28 w w' := by
 obtain ⟨w1, hw1⟩ : ∃ X, X = w.alloc (.cells #[.int .u32 x] 28) := ⟨_, rfl⟩
 have b1 : Below w.heap.size w w1 := hw1 ▸ below16 w _
 have hbx : w1.cell? ⟨w.heap.size, 0, none⟩ = some (.int .u32 x) := by rw [hw1]; simp [go_sem]
 have hO1 := owns_on16 hO b1
 have HD : Hid (Calls Tryz.prog 215 #[.slice q n c, .func (.func 216) #[] #[.pointer (some ⟨w.heap.size, 0, none⟩)]] w1 fun e w' => ∃ q' c', e = .returned (.slice q' (L.filter fun y => y != x).length c') ∧ w'.ownsRow B 28 1 (.slice q' (L.filter fun y => y != x).length c') (L.filter fun y => y != x).length ((L.filter fun y => y != x).map (Value.int .u32)) ∧ Below B w1 w' ∧ KeepT 28 w1 w') := hid (by
  rcases hO1.2 with ⟨hv, h0⟩ | ⟨g', cap, cur, hv, hg, hh, _⟩
  ·injection hv with e1 e2 e3
   subst e1
   obtain rfl : n = 0 := h0
   obtain rfl : L = [] := List.eq_nil_of_length_eq_zero hn.symm
   exact delf_nil18 w1 B w.heap.size c x (Nat.le_trans hBW b1.size) hbx e3
  ·injection hv with e1 e2 e3
   subst e1
   have hgl : g' < w.heap.size := by
    rcases hO.2 with ⟨hv', _⟩ | ⟨g2, cap2, cur2, hv', hg2, hh2, _⟩
    ·injection hv' with e1 _ _; cases e1
    ·injection hv' with e1 _ _
     injection e1 with e1
     injection e1 with e1 _ _
     subst e1
     exact (Array.getElem?_eq_some_iff.1 hh2).1
   exact delf_u18 w1 B w.heap.size g' n c L x hO1 hn hb (Nat.le_trans hBW b1.size) hbx (by omega))
 have B1 := hid b1
 have HBW := hid hBW
 have HW1 := hid hw1
 clear hw1 b1 hbx hO hO1 hn hb hBW
 go_enter Tryz.func189, Tryz.ntmps189
 go_wp2_with (go_at_call 215; rw [← HW1.out]; ((with_reducible refine (HD.out).mono ?_); rintro e w4 ⟨q', c', rfl, o4, b4, k4⟩))
 go_ret
 exact ⟨q', c', rfl, o4, (B1.out.mono HBW.out).trans b4, (KeepT.below B1.out).trans k4⟩
end Go.Proofs.YtlenjfodjkhpmaaGreatDoor
