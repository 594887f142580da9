/- The landed fold's Put and Take: lists in memory of their own. Conditions: lists of at most 100,000 calls. -/
import Derived.Test.YtickkaeaaemakaaGreatDoorF5
import Derived.Deep.MidRow
namespace Go.Proofs.YtickkaeaaemakaaGreatDoor
open Go.RowKit
set_option linter.unusedVariables false
set_option linter.unusedSimpArgs false
attribute [local go_sem ↓] Go.wp_at_zero Go.wp_at_succ

set_option maxRecDepth 100000 in
set_option maxHeartbeats 8000000 in
/-- Put: a copy with the call, or a copy alone of a list that may not be. -/
theorem put_c (m : Nat) (q : Option Addr) (n c : Nat) (L : List Cl) (s : ByteArray) (a : Nat) (w : World) (hmm : m < 256) (hl : n = L.length) (hn : n ≤ 100000) (ha : ∀ e ∈ L, e.2 < 4294967296) (h : LsAt w q L) : Calls Tryz.prog 21 #[lsV m q n c, .string s, .int .u32 (a : Nat)] w fun e w' => NewL2 w w' e m (putK knownR m L s a) := by
  unfold NewL2 lsV
  obtain ⟨mi, hmi⟩ : ∃ x : Int, x = (m : Nat) := ⟨_, rfl⟩
  rw [← hmi]
  obtain ⟨W, hW⟩ : ∃ W, W = (w.alloc (.cells #[.int .u8 mi, .slice q n c] 24)).alloc (.cells #[.int .u8 0, .slice none 0 0] 24) := ⟨_, rfl⟩
  have BB := Lib.hid (show Below w.heap.size w W from hW ▸ ((Below.refl _ _).alloc (Nat.le_refl _) _).alloc (by rw [World.size_alloc]; omega) _)
  have WSH := Lib.hid (show W.heap.size = w.heap.size + 2 by rw [hW, World.size_alloc, World.size_alloc])
  have P0 := Lib.hid (show W.heap[w.heap.size]? = some (.cells #[.int .u8 mi, .slice q n c] 24 (0, 0)) by rw [hW, heap_old16])
  have P1 := Lib.hid (show W.heap[w.heap.size + 1]? = some (.cells #[.int .u8 0, .slice none 0 0] 24 (0, 0)) by rw [hW, heap_new16])
  have HIN := Lib.hid (show (Tryz.prog.info? 24).map (·.size) = some 2 by kernel_rfl)
  have HCO := Lib.hid (copied_c m q n c L W hl hn (h.on BB.out))
  have HMA := Lib.hid (fun (V : World) (b : Below W.heap.size W V) => may_c m q n c L V hmm hl hn ha (h.on (thn16 BB.out b)))
  unfold NewL2 lsV at HCO
  unfold lsV at HMA
  rw [← hmi] at HCO HMA
  have HWI := Lib.hid (fun (V : World) (B : Nat) (v : Value) (k : Nat) (hO : V.ownsRow B 51 2 v k (rowC encC L)) (hk : k = L.length) (hA : Asc16 L) (hB : B ≤ V.heap.size) => with_c V B v k L s a hO hk hA (by rw [hk, ← hl]; exact hn) hB)
  have HWW := Lib.hid hW
  have HL := Lib.hid hl
  cases hm : mayR knownR m L with
  | true =>
    rw [hm] at HMA
    have HAS := Lib.hid (may_iff.1 hm).asc
    have hK : putK knownR m L s a = putC L s a := by unfold putK; rw [if_pos hm]
    rw [hK]
    obtain ⟨R, hR⟩ : ∃ R, R = putC L s a := ⟨_, rfl⟩
    rw [← hR] at HWI ⊢
    clear h hl hmi hW hm hK hR
    go_enter Tryz.func21, Tryz.ntmps21
    go_wp2_with (first
      | (go_at_call 31
         rw [← HWW.out]
         ((with_reducible refine (HCO.out).mono ?_); rintro e w1 ⟨q1, n1, c1, rfl, hn1, o1, b1⟩)
         have hs := b1.size
         have hlt : w.heap.size < w1.heap.size := by have := WSH.out; omega
         have y0 := (cell_of_row w1 w.heap.size 0 _ _ (0, 0) ((b1.block w.heap.size (by have := WSH.out; omega)).trans P0.out)).trans (show _ = some (Value.int .u8 mi) from rfl)
         have y1 := (cell_of_row w1 w.heap.size 1 _ _ (0, 0) ((b1.block w.heap.size (by have := WSH.out; omega)).trans P0.out)).trans (show _ = some (Value.slice q n c) from rfl)
         have N1 := Lib.hid hn1
         have O1 := Lib.hid o1
         have B1 := Lib.hid b1
         clear hn1 o1 b1)
      | (go_at_call 23
         ((with_reducible refine (HMA.out _ (B1.out.alloc hs (.cells #[.int .u8 mi, .slice q1 n1 c1] 24))).mono ?_); rintro e w3 ⟨rfl, b3⟩)
         have F3 := Lib.hid (blk_on16 (heap_alloc_new w1 (.cells #[.int .u8 mi, .slice q1 n1 c1] 24)) b3)
         have z1 := (cell_of_row w3 w1.heap.size 1 _ _ (0, 0) F3.out).trans (show _ = some (Value.slice q1 n1 c1) from rfl)
         have O3 := Lib.hid (owns_on16 (O1.out.alloc (.cells #[.int .u8 mi, .slice q1 n1 c1] 24)) b3)
         have B3 := Lib.hid (thn16 B1.out (thn16 (below16 w1 (.cells #[.int .u8 mi, .slice q1 n1 c1] 24)) b3))
         clear b3)
      | (go_at_call 45
         ((with_reducible refine (HWI.out _ _ _ _ O3.out N1.out HAS.out B3.out.size).mono ?_); rintro e w4 ⟨v4, n4, rfl, hn4, o4, g4, l4⟩)
         obtain ⟨q4, c4, rfl⟩ := own16 o4
         have hne : (Value.slice q1 n1 c1).ownBlock ≠ some w1.heap.size := fun e => by
           rcases O3.out.2 with ⟨hv, _⟩ | ⟨g, cap, cur, hv, _, hg, _⟩
           · rw [hv] at e; cases e
           · rw [hv] at e
             have e2 : g = w1.heap.size := Option.some.inj e
             exact ne_type16 hg F3.out (by decide) e2
         have hne2 : (Value.slice q1 n1 c1).ownBlock ≠ some (w.heap.size + 1) := fun e => by have := (O3.out.lt _ e).1; have := WSH.out; omega
         have F4 := Lib.hid ((g4.block w1.heap.size (Array.getElem?_eq_some_iff.1 F3.out).1 (fun e => hne e.symm)).trans F3.out)
         have z0 := (cell_of_row w4 w1.heap.size 0 _ _ (0, 0) F4.out).trans (show _ = some (Value.int .u8 mi) from rfl)
         have z2 := (cell_of_row w4 w1.heap.size 1 _ _ (0, 0) F4.out).trans (show _ = some (Value.slice q1 n1 c1) from rfl)
         have zf := frozen_of_row w4 w1.heap.size 1 _ _ F4.out
         have R4 := ((g4.block (w.heap.size + 1) (by have := B3.out.size; have := WSH.out; omega) (fun e => hne2 e.symm)).trans ((B3.out.block (w.heap.size + 1) (by have := WSH.out; omega)).trans P1.out))
         have BG := (thn16 BB.out B3.out).grown g4 (by have := (thn16 BB.out B3.out).size; omega) (fun k e => by have := (O3.out.lt k e).1; have := WSH.out; omega)
         have hw1 : w.heap.size ≤ w1.heap.size := by omega
         have R5 := Lib.hid ((heap_setCell_other w4 ⟨w1.heap.size, 1, none⟩ (w.heap.size + 1) (.slice q4 n4 c4) (by show w.heap.size + 1 ≠ w1.heap.size; have := WSH.out; omega)).trans R4)
         have BG5 := Lib.hid (BG.setCell (p := ⟨w1.heap.size, 1, none⟩) hw1 (.slice q4 n4 c4))
         have N4 := Lib.hid hn4
         have O5 := Lib.hid (show (w4.setCell ⟨w1.heap.size, 1, none⟩ (.slice q4 n4 c4)).ownsRow W.heap.size 51 2 (.slice q4 n4 c4) n4 (rowC encC R) from owns_same16 o4 fun g cs fz _ hg => (heap_setCell_other w4 ⟨w1.heap.size, 1, none⟩ g _ (ne_type16 hg F4.out (by decide))).trans hg)
         have ⟨hl6, hb6⟩ := retL16 R5.out BG5.out (by omega : w.heap.size ≤ w.heap.size + 1) mi q4 n4 c4
         have O6 := Lib.hid (owns_low16 (own_box16 R5.out (by decide) O5.out [.int .u8 mi, .slice q4 n4 c4]) (show w.heap.size ≤ W.heap.size by have := WSH.out; omega))
         clear hn4 o4 g4 l4 hne hne2 R4 BG hw1)
      | ((with_reducible show wpList _ _ _ (⟨none, .store 24 (.tmp 6) (.tmp 19), _, _, _, _⟩ :: _) _ _)
         refine wpList_store_mid rfl 24 (.tmp 6) (.tmp 19) rfl (w.heap.size + 1) 0 #[.int .u8 mi, .slice q4 n4 c4] rfl rfl (there16 R5.out) HIN.out (one16 _ _ _ _) ?_
         show wpList _ _ _ _ _ ((w4.setCell ⟨w1.heap.size, 1, none⟩ (.slice q4 n4 c4)).setCells (w.heap.size + 1) 0 [.int .u8 mi, .slice q4 n4 c4])
         generalize (w4.setCell ⟨w1.heap.size, 1, none⟩ (.slice q4 n4 c4)).setCells (w.heap.size + 1) 0 [.int .u8 mi, .slice q4 n4 c4] = w6 at hl6 hb6 O6 ⊢))
    (try simp only [Exit.inBlock, Exit.then])
    refine bodyPost_ret (v := .agg #[.int .u8 mi, .slice q4 n4 c4]) (results_one16 Tryz.results21 ?_ hl6) rfl ⟨q4, n4, c4, rfl, N4.out, O6.out, hb6⟩
    rfl
  | false =>
    rw [hm] at HMA
    have hK : putK knownR m L s a = L := by unfold putK; rw [if_neg (by rw [hm]; exact Bool.noConfusion)]
    rw [hK]
    clear h hl hmi hW hm hK HWI
    go_enter Tryz.func21, Tryz.ntmps21
    go_wp2_with (first
      | (go_at_call 31
         rw [← HWW.out]
         ((with_reducible refine (HCO.out).mono ?_); rintro e w1 ⟨q1, n1, c1, rfl, hn1, o1, b1⟩)
         have hs := b1.size
         have hlt : w.heap.size < w1.heap.size := by have := WSH.out; omega
         have y0 := (cell_of_row w1 w.heap.size 0 _ _ (0, 0) ((b1.block w.heap.size (by have := WSH.out; omega)).trans P0.out)).trans (show _ = some (Value.int .u8 mi) from rfl)
         have y1 := (cell_of_row w1 w.heap.size 1 _ _ (0, 0) ((b1.block w.heap.size (by have := WSH.out; omega)).trans P0.out)).trans (show _ = some (Value.slice q n c) from rfl)
         have N1 := Lib.hid hn1
         have O1 := Lib.hid o1
         have B1 := Lib.hid b1
         clear hn1 o1 b1)
      | (go_at_call 23
         ((with_reducible refine (HMA.out _ (B1.out.alloc hs (.cells #[.int .u8 mi, .slice q1 n1 c1] 24))).mono ?_); rintro e w3 ⟨rfl, b3⟩)
         have F3 := Lib.hid (blk_on16 (heap_alloc_new w1 (.cells #[.int .u8 mi, .slice q1 n1 c1] 24)) b3)
         have z0 := (cell_of_row w3 w1.heap.size 0 _ _ (0, 0) F3.out).trans (show _ = some (Value.int .u8 mi) from rfl)
         have z1 := (cell_of_row w3 w1.heap.size 1 _ _ (0, 0) F3.out).trans (show _ = some (Value.slice q1 n1 c1) from rfl)
         have O3 := Lib.hid (owns_on16 (O1.out.alloc (.cells #[.int .u8 mi, .slice q1 n1 c1] 24)) b3)
         have B3 := Lib.hid (thn16 B1.out (thn16 (below16 w1 (.cells #[.int .u8 mi, .slice q1 n1 c1] 24)) b3))
         have R5 := Lib.hid ((B3.out.block (w.heap.size + 1) (by have := WSH.out; omega)).trans P1.out)
         have ⟨hl6, hb6⟩ := retL16 R5.out (thn16 BB.out B3.out) (by omega : w.heap.size ≤ w.heap.size + 1) mi q1 n1 c1
         have O6 := Lib.hid (owns_low16 (own_box16 R5.out (by decide) O3.out [.int .u8 mi, .slice q1 n1 c1]) (show w.heap.size ≤ W.heap.size by have := WSH.out; omega))
         clear b3)
      | ((with_reducible show wpList _ _ _ (⟨none, .store 24 (.tmp 6) (.tmp 19), _, _, _, _⟩ :: _) _ _)
         refine wpList_store_mid rfl 24 (.tmp 6) (.tmp 19) rfl (w.heap.size + 1) 0 #[.int .u8 mi, .slice q1 n1 c1] rfl rfl (there16 R5.out) HIN.out (one16 _ _ _ _) ?_
         show wpList _ _ _ _ _ (w3.setCells (w.heap.size + 1) 0 [.int .u8 mi, .slice q1 n1 c1])
         generalize w3.setCells (w.heap.size + 1) 0 [.int .u8 mi, .slice q1 n1 c1] = w6 at hl6 hb6 O6 ⊢))
    (try simp only [Exit.inBlock, Exit.then])
    refine bodyPost_ret (v := .agg #[.int .u8 mi, .slice q1 n1 c1]) (results_one16 Tryz.results21 ?_ hl6) rfl ⟨q1, n1, c1, rfl, N1.out, O6.out, hb6⟩
    rfl
set_option maxRecDepth 100000 in
set_option maxHeartbeats 8000000 in
/-- Take: a copy without the call, or a copy alone of a list that may not be. -/
theorem take_c (m : Nat) (q : Option Addr) (n c : Nat) (L : List Cl) (s : ByteArray) (w : World) (hmm : m < 256) (hl : n = L.length) (hn : n ≤ 100000) (ha : ∀ e ∈ L, e.2 < 4294967296) (h : LsAt w q L) : Calls Tryz.prog 22 #[lsV m q n c, .string s] w fun e w' => NewL2 w w' e m (takeK knownR m L s) := by
  unfold NewL2 lsV
  obtain ⟨mi, hmi⟩ : ∃ x : Int, x = (m : Nat) := ⟨_, rfl⟩
  rw [← hmi]
  obtain ⟨W, hW⟩ : ∃ W, W = (w.alloc (.cells #[.int .u8 mi, .slice q n c] 24)).alloc (.cells #[.int .u8 0, .slice none 0 0] 24) := ⟨_, rfl⟩
  have BB := Lib.hid (show Below w.heap.size w W from hW ▸ ((Below.refl _ _).alloc (Nat.le_refl _) _).alloc (by rw [World.size_alloc]; omega) _)
  have WSH := Lib.hid (show W.heap.size = w.heap.size + 2 by rw [hW, World.size_alloc, World.size_alloc])
  have P0 := Lib.hid (show W.heap[w.heap.size]? = some (.cells #[.int .u8 mi, .slice q n c] 24 (0, 0)) by rw [hW, heap_old16])
  have P1 := Lib.hid (show W.heap[w.heap.size + 1]? = some (.cells #[.int .u8 0, .slice none 0 0] 24 (0, 0)) by rw [hW, heap_new16])
  have HIN := Lib.hid (show (Tryz.prog.info? 24).map (·.size) = some 2 by kernel_rfl)
  have HCO := Lib.hid (copied_c m q n c L W hl hn (h.on BB.out))
  have HMA := Lib.hid (fun (V : World) (b : Below W.heap.size W V) => may_c m q n c L V hmm hl hn ha (h.on (thn16 BB.out b)))
  unfold NewL2 lsV at HCO
  unfold lsV at HMA
  rw [← hmi] at HCO HMA
  have HWI := Lib.hid (fun (V : World) (B : Nat) (v : Value) (k : Nat) (hO : V.ownsRow B 51 2 v k (rowC encC L)) (hk : k = L.length) (hA : Asc16 L) (hB : B ≤ V.heap.size) => without_c V B v k L s hO hk hA (by rw [hk, ← hl]; exact hn) hB)
  have HWW := Lib.hid hW
  have HL := Lib.hid hl
  cases hm : mayR knownR m L with
  | true =>
    rw [hm] at HMA
    have HAS := Lib.hid (may_iff.1 hm).asc
    have hK : takeK knownR m L s = takeC L s := by unfold takeK; rw [if_pos hm]
    rw [hK]
    obtain ⟨R, hR⟩ : ∃ R, R = takeC L s := ⟨_, rfl⟩
    rw [← hR] at HWI ⊢
    clear h hl hmi hW hm hK hR
    go_enter Tryz.func22, Tryz.ntmps22
    go_wp2_with (first
      | (go_at_call 31
         rw [← HWW.out]
         ((with_reducible refine (HCO.out).mono ?_); rintro e w1 ⟨q1, n1, c1, rfl, hn1, o1, b1⟩)
         have hs := b1.size
         have hlt : w.heap.size < w1.heap.size := by have := WSH.out; omega
         have y0 := (cell_of_row w1 w.heap.size 0 _ _ (0, 0) ((b1.block w.heap.size (by have := WSH.out; omega)).trans P0.out)).trans (show _ = some (Value.int .u8 mi) from rfl)
         have y1 := (cell_of_row w1 w.heap.size 1 _ _ (0, 0) ((b1.block w.heap.size (by have := WSH.out; omega)).trans P0.out)).trans (show _ = some (Value.slice q n c) from rfl)
         have N1 := Lib.hid hn1
         have O1 := Lib.hid o1
         have B1 := Lib.hid b1
         clear hn1 o1 b1)
      | (go_at_call 23
         ((with_reducible refine (HMA.out _ (B1.out.alloc hs (.cells #[.int .u8 mi, .slice q1 n1 c1] 24))).mono ?_); rintro e w3 ⟨rfl, b3⟩)
         have F3 := Lib.hid (blk_on16 (heap_alloc_new w1 (.cells #[.int .u8 mi, .slice q1 n1 c1] 24)) b3)
         have z1 := (cell_of_row w3 w1.heap.size 1 _ _ (0, 0) F3.out).trans (show _ = some (Value.slice q1 n1 c1) from rfl)
         have O3 := Lib.hid (owns_on16 (O1.out.alloc (.cells #[.int .u8 mi, .slice q1 n1 c1] 24)) b3)
         have B3 := Lib.hid (thn16 B1.out (thn16 (below16 w1 (.cells #[.int .u8 mi, .slice q1 n1 c1] 24)) b3))
         clear b3)
      | (go_at_call 46
         ((with_reducible refine (HWI.out _ _ _ _ O3.out N1.out HAS.out B3.out.size).mono ?_); rintro e w4 ⟨v4, n4, rfl, hn4, o4, g4, l4⟩)
         obtain ⟨q4, c4, rfl⟩ := own16 o4
         have hne : (Value.slice q1 n1 c1).ownBlock ≠ some w1.heap.size := fun e => by
           rcases O3.out.2 with ⟨hv, _⟩ | ⟨g, cap, cur, hv, _, hg, _⟩
           · rw [hv] at e; cases e
           · rw [hv] at e
             have e2 : g = w1.heap.size := Option.some.inj e
             exact ne_type16 hg F3.out (by decide) e2
         have hne2 : (Value.slice q1 n1 c1).ownBlock ≠ some (w.heap.size + 1) := fun e => by have := (O3.out.lt _ e).1; have := WSH.out; omega
         have F4 := Lib.hid ((g4.block w1.heap.size (Array.getElem?_eq_some_iff.1 F3.out).1 (fun e => hne e.symm)).trans F3.out)
         have z0 := (cell_of_row w4 w1.heap.size 0 _ _ (0, 0) F4.out).trans (show _ = some (Value.int .u8 mi) from rfl)
         have z2 := (cell_of_row w4 w1.heap.size 1 _ _ (0, 0) F4.out).trans (show _ = some (Value.slice q1 n1 c1) from rfl)
         have zf := frozen_of_row w4 w1.heap.size 1 _ _ F4.out
         have R4 := ((g4.block (w.heap.size + 1) (by have := B3.out.size; have := WSH.out; omega) (fun e => hne2 e.symm)).trans ((B3.out.block (w.heap.size + 1) (by have := WSH.out; omega)).trans P1.out))
         have BG := (thn16 BB.out B3.out).grown g4 (by have := (thn16 BB.out B3.out).size; omega) (fun k e => by have := (O3.out.lt k e).1; have := WSH.out; omega)
         have hw1 : w.heap.size ≤ w1.heap.size := by omega
         have R5 := Lib.hid ((heap_setCell_other w4 ⟨w1.heap.size, 1, none⟩ (w.heap.size + 1) (.slice q4 n4 c4) (by show w.heap.size + 1 ≠ w1.heap.size; have := WSH.out; omega)).trans R4)
         have BG5 := Lib.hid (BG.setCell (p := ⟨w1.heap.size, 1, none⟩) hw1 (.slice q4 n4 c4))
         have N4 := Lib.hid hn4
         have O5 := Lib.hid (show (w4.setCell ⟨w1.heap.size, 1, none⟩ (.slice q4 n4 c4)).ownsRow W.heap.size 51 2 (.slice q4 n4 c4) n4 (rowC encC R) from owns_same16 o4 fun g cs fz _ hg => (heap_setCell_other w4 ⟨w1.heap.size, 1, none⟩ g _ (ne_type16 hg F4.out (by decide))).trans hg)
         have ⟨hl6, hb6⟩ := retL16 R5.out BG5.out (by omega : w.heap.size ≤ w.heap.size + 1) mi q4 n4 c4
         have O6 := Lib.hid (owns_low16 (own_box16 R5.out (by decide) O5.out [.int .u8 mi, .slice q4 n4 c4]) (show w.heap.size ≤ W.heap.size by have := WSH.out; omega))
         clear hn4 o4 g4 l4 hne hne2 R4 BG hw1)
      | ((with_reducible show wpList _ _ _ (⟨none, .store 24 (.tmp 4) (.tmp 15), _, _, _, _⟩ :: _) _ _)
         refine wpList_store_mid rfl 24 (.tmp 4) (.tmp 15) rfl (w.heap.size + 1) 0 #[.int .u8 mi, .slice q4 n4 c4] rfl rfl (there16 R5.out) HIN.out (one16 _ _ _ _) ?_
         show wpList _ _ _ _ _ ((w4.setCell ⟨w1.heap.size, 1, none⟩ (.slice q4 n4 c4)).setCells (w.heap.size + 1) 0 [.int .u8 mi, .slice q4 n4 c4])
         generalize (w4.setCell ⟨w1.heap.size, 1, none⟩ (.slice q4 n4 c4)).setCells (w.heap.size + 1) 0 [.int .u8 mi, .slice q4 n4 c4] = w6 at hl6 hb6 O6 ⊢))
    (try simp only [Exit.inBlock, Exit.then])
    refine bodyPost_ret (v := .agg #[.int .u8 mi, .slice q4 n4 c4]) (results_one16 Tryz.results22 ?_ hl6) rfl ⟨q4, n4, c4, rfl, N4.out, O6.out, hb6⟩
    rfl
  | false =>
    rw [hm] at HMA
    have hK : takeK knownR m L s = L := by unfold takeK; rw [if_neg (by rw [hm]; exact Bool.noConfusion)]
    rw [hK]
    clear h hl hmi hW hm hK HWI
    go_enter Tryz.func22, Tryz.ntmps22
    go_wp2_with (first
      | (go_at_call 31
         rw [← HWW.out]
         ((with_reducible refine (HCO.out).mono ?_); rintro e w1 ⟨q1, n1, c1, rfl, hn1, o1, b1⟩)
         have hs := b1.size
         have hlt : w.heap.size < w1.heap.size := by have := WSH.out; omega
         have y0 := (cell_of_row w1 w.heap.size 0 _ _ (0, 0) ((b1.block w.heap.size (by have := WSH.out; omega)).trans P0.out)).trans (show _ = some (Value.int .u8 mi) from rfl)
         have y1 := (cell_of_row w1 w.heap.size 1 _ _ (0, 0) ((b1.block w.heap.size (by have := WSH.out; omega)).trans P0.out)).trans (show _ = some (Value.slice q n c) from rfl)
         have N1 := Lib.hid hn1
         have O1 := Lib.hid o1
         have B1 := Lib.hid b1
         clear hn1 o1 b1)
      | (go_at_call 23
         ((with_reducible refine (HMA.out _ (B1.out.alloc hs (.cells #[.int .u8 mi, .slice q1 n1 c1] 24))).mono ?_); rintro e w3 ⟨rfl, b3⟩)
         have F3 := Lib.hid (blk_on16 (heap_alloc_new w1 (.cells #[.int .u8 mi, .slice q1 n1 c1] 24)) b3)
         have z0 := (cell_of_row w3 w1.heap.size 0 _ _ (0, 0) F3.out).trans (show _ = some (Value.int .u8 mi) from rfl)
         have z1 := (cell_of_row w3 w1.heap.size 1 _ _ (0, 0) F3.out).trans (show _ = some (Value.slice q1 n1 c1) from rfl)
         have O3 := Lib.hid (owns_on16 (O1.out.alloc (.cells #[.int .u8 mi, .slice q1 n1 c1] 24)) b3)
         have B3 := Lib.hid (thn16 B1.out (thn16 (below16 w1 (.cells #[.int .u8 mi, .slice q1 n1 c1] 24)) b3))
         have R5 := Lib.hid ((B3.out.block (w.heap.size + 1) (by have := WSH.out; omega)).trans P1.out)
         have ⟨hl6, hb6⟩ := retL16 R5.out (thn16 BB.out B3.out) (by omega : w.heap.size ≤ w.heap.size + 1) mi q1 n1 c1
         have O6 := Lib.hid (owns_low16 (own_box16 R5.out (by decide) O3.out [.int .u8 mi, .slice q1 n1 c1]) (show w.heap.size ≤ W.heap.size by have := WSH.out; omega))
         clear b3)
      | ((with_reducible show wpList _ _ _ (⟨none, .store 24 (.tmp 4) (.tmp 15), _, _, _, _⟩ :: _) _ _)
         refine wpList_store_mid rfl 24 (.tmp 4) (.tmp 15) rfl (w.heap.size + 1) 0 #[.int .u8 mi, .slice q1 n1 c1] rfl rfl (there16 R5.out) HIN.out (one16 _ _ _ _) ?_
         show wpList _ _ _ _ _ (w3.setCells (w.heap.size + 1) 0 [.int .u8 mi, .slice q1 n1 c1])
         generalize w3.setCells (w.heap.size + 1) 0 [.int .u8 mi, .slice q1 n1 c1] = w6 at hl6 hb6 O6 ⊢))
    (try simp only [Exit.inBlock, Exit.then])
    refine bodyPost_ret (v := .agg #[.int .u8 mi, .slice q1 n1 c1]) (results_one16 Tryz.results22 ?_ hl6) rfl ⟨q1, n1, c1, rfl, N1.out, O6.out, hb6⟩
    rfl
end Go.Proofs.YtickkaeaaemakaaGreatDoor
