/- The landed fold's Step, of a list that may not be, and of a value without words. Conditions: lists of at most 100,000 calls, values of at most 1,000 bytes. -/
import Derived.Test.YtickkaeaaemakaaGreatDoorF9
import Derived.Deep.MidRow
namespace Go.Proofs.YtickkaeaaemakaaGreatDoor
open Go.RowKit Go.Shelf
set_option linter.unusedVariables false
set_option linter.unusedSimpArgs false
attribute [local go_sem ↓] Go.wp_at_zero Go.wp_at_succ

set_option maxRecDepth 100000 in
set_option maxHeartbeats 8000000 in
theorem step_no (m : Nat) (q : Option Addr) (n cap : Nat) (L : List Cl) (v : ByteArray) (sfx : Bool) (w : World) (hG : GN w) (hmm : m < 256) (hl : n = L.length) (hn : n ≤ 100000) (ha : ∀ e ∈ L, e.2 < 4294967296) (hv : v.size ≤ 1000) (h : LsAt w q L) (hm : mayR knownR m L = false) : Calls Tryz.prog 11 #[lsV m q n cap, .string v, .bool sfx] w fun e w' => ∃ q' n' c', e = .returned (.tuple #[lsV m q' n' c', .slice none 0 0]) ∧ n' = L.length ∧ w'.ownsRow w.heap.size 51 2 (.slice q' n' c') n' (rowC encC L) ∧ Below w.heap.size w w' := by
  have HIN := Lib.hid (show (Tryz.prog.info? 24).map (·.size) = some 2 by kernel_rfl)
  unfold lsV
  obtain ⟨mi, hmi⟩ : ∃ x : Int, x = (m : Nat) := ⟨_, rfl⟩
  obtain ⟨W, hW⟩ : ∃ W, W = (w.alloc (.cells #[.int .u8 mi, .slice q n cap] 24)).alloc (.cells #[.int .u8 0, .slice none 0 0] 24) := ⟨_, rfl⟩
  have BB := Lib.hid (show Below w.heap.size w W from hW ▸ ((Below.refl _ _).alloc (Nat.le_refl _) _).alloc (by rw [World.size_alloc]; omega) _)
  have WSH := Lib.hid (show W.heap.size = w.heap.size + 2 by rw [hW, World.size_alloc, World.size_alloc])
  have P0 := Lib.hid (show W.heap[w.heap.size]? = some (.cells #[.int .u8 mi, .slice q n cap] 24 (0, 0)) by rw [hW, heap_old16])
  have P1 := Lib.hid (show W.heap[w.heap.size + 1]? = some (.cells #[.int .u8 0, .slice none 0 0] 24 (0, 0)) by rw [hW, heap_new16])
  have HMA := Lib.hid (fun (V : World) (b : Below W.heap.size W V) => may_c m q n cap L V hmm hl hn ha (h.on (thn16 BB.out b)))
  have HCO := Lib.hid (fun (V : World) (b : Below W.heap.size W V) => copied_c m q n cap L V hl hn (h.on (thn16 BB.out b)))
  unfold NewL2 lsV at HCO
  unfold lsV at HMA
  rw [← hmi] at HMA HCO
  have HWW := Lib.hid hW
  have HL := Lib.hid hl
  rw [hm] at HMA
  rw [← hmi]
  clear hG h hl hmi hm hW
  go_enter Tryz.func11, Tryz.ntmps11
  go_wp2_with (first
    | (go_at_call 23
       rw [← HWW.out]
       ((with_reducible refine (HMA.out _ (Below.refl _ _)).mono ?_); rintro e v1 ⟨rfl, b1⟩)
       have B1 := Lib.hid b1
       have z0 := (cell_of_row v1 w.heap.size 0 _ _ (0, 0) ((b1.block _ (by have := WSH.out; omega)).trans P0.out)).trans (show _ = some (Value.int .u8 mi) from rfl)
       have z1 := (cell_of_row v1 w.heap.size 1 _ _ (0, 0) ((b1.block _ (by have := WSH.out; omega)).trans P0.out)).trans (show _ = some (Value.slice q n cap) from rfl)
       skip
       clear b1)
    | (go_at_call 31
       ((with_reducible refine (HCO.out _ B1.out).mono ?_); rintro e v4 ⟨q4, n4, c4, rfl, hn4, o4, b4⟩)
       have B4 := Lib.hid (thn16 B1.out b4)
       have R4 := Lib.hid ((B4.out.block (w.heap.size + 1) (by have := WSH.out; omega)).trans P1.out)
       have N4 := Lib.hid hn4
       have ⟨hl6, hb6⟩ := retL16 R4.out (thn16 BB.out B4.out) (by omega : w.heap.size ≤ w.heap.size + 1) mi q4 n4 c4
       have O6 := Lib.hid (owns_low16 (own_box16 R4.out (by decide) o4 [.int .u8 mi, .slice q4 n4 c4]) (show w.heap.size ≤ v1.heap.size by have := WSH.out; have := B1.out.size; omega))
       clear hn4 o4 b4)
    | ((with_reducible show wpList _ _ _ (⟨none, .store 24 (.tmp 6) (.tmp 23), _, _, _, _⟩ :: _) _ _)
       refine wpList_store_mid rfl 24 (.tmp 6) (.tmp 23) rfl (w.heap.size + 1) 0 #[.int .u8 mi, .slice q4 n4 c4] rfl rfl (there16 R4.out) HIN.out (one16 _ _ _ _) ?_
       show wpList _ _ _ _ _ (v4.setCells (w.heap.size + 1) 0 [.int .u8 mi, .slice q4 n4 c4])
       generalize v4.setCells (w.heap.size + 1) 0 [.int .u8 mi, .slice q4 n4 c4] = w6 at hl6 hb6 O6 ⊢))
  (try simp only [Exit.inBlock, Exit.then])
  refine bodyPost_ret (v := .tuple #[.agg #[.int .u8 mi, .slice q4 n4 c4], .slice none 0 0]) (results_two15 Tryz.results11 rfl rfl hl6) rfl ⟨q4, n4, c4, rfl, N4.out, O6.out, hb6⟩
set_option maxRecDepth 100000 in
set_option maxHeartbeats 8000000 in
theorem step_nil (m : Nat) (q : Option Addr) (n cap : Nat) (L : List Cl) (v : ByteArray) (sfx : Bool) (w : World) (hG : GN w) (hmm : m < 256) (hl : n = L.length) (hn : n ≤ 100000) (ha : ∀ e ∈ L, e.2 < 4294967296) (hv : v.size ≤ 1000) (h : LsAt w q L) (hm : mayR knownR m L = true) (h0 : wdL v.data.toList = []) : Calls Tryz.prog 11 #[lsV m q n cap, .string v, .bool sfx] w fun e w' => e = .returned (.tuple #[lsV 0 none 0 0, .slice none 0 0]) ∧ Below w.heap.size w w' := by
  have HIN := Lib.hid (show (Tryz.prog.info? 24).map (·.size) = some 2 by kernel_rfl)
  unfold lsV
  obtain ⟨mi, hmi⟩ : ∃ x : Int, x = (m : Nat) := ⟨_, rfl⟩
  obtain ⟨W, hW⟩ : ∃ W, W = (w.alloc (.cells #[.int .u8 mi, .slice q n cap] 24)).alloc (.cells #[.int .u8 0, .slice none 0 0] 24) := ⟨_, rfl⟩
  have BB := Lib.hid (show Below w.heap.size w W from hW ▸ ((Below.refl _ _).alloc (Nat.le_refl _) _).alloc (by rw [World.size_alloc]; omega) _)
  have WSH := Lib.hid (show W.heap.size = w.heap.size + 2 by rw [hW, World.size_alloc, World.size_alloc])
  have P0 := Lib.hid (show W.heap[w.heap.size]? = some (.cells #[.int .u8 mi, .slice q n cap] 24 (0, 0)) by rw [hW, heap_old16])
  have P1 := Lib.hid (show W.heap[w.heap.size + 1]? = some (.cells #[.int .u8 0, .slice none 0 0] 24 (0, 0)) by rw [hW, heap_new16])
  have HMA := Lib.hid (fun (V : World) (b : Below W.heap.size W V) => may_c m q n cap L V hmm hl hn ha (h.on (thn16 BB.out b)))
  have HCO := Lib.hid (fun (V : World) (b : Below W.heap.size W V) => copied_c m q n cap L V hl hn (h.on (thn16 BB.out b)))
  unfold NewL2 lsV at HCO
  unfold lsV at HMA
  rw [← hmi] at HMA HCO
  have HWW := Lib.hid hW
  have HL := Lib.hid hl
  rw [hm] at HMA
  rw [← hmi]
  have HWO := Lib.hid (fun (V : World) => words_c v V (by omega))
  rw [h0] at HWO
  clear hG h hl hmi hm h0 HCO hW
  go_enter Tryz.func11, Tryz.ntmps11
  go_wp2_with (first
    | (go_at_call 23
       rw [← HWW.out]
       ((with_reducible refine (HMA.out _ (Below.refl _ _)).mono ?_); rintro e v1 ⟨rfl, b1⟩)
       have B1 := Lib.hid b1
       have z0 := (cell_of_row v1 w.heap.size 0 _ _ (0, 0) ((b1.block _ (by have := WSH.out; omega)).trans P0.out)).trans (show _ = some (Value.int .u8 mi) from rfl)
       have z1 := (cell_of_row v1 w.heap.size 1 _ _ (0, 0) ((b1.block _ (by have := WSH.out; omega)).trans P0.out)).trans (show _ = some (Value.slice q n cap) from rfl)
       skip
       clear b1)
    | (go_at_call 29
       ((with_reducible refine (HWO.out _).mono ?_); rintro e v2 ⟨q2, c2, rfl, o2, b2⟩)
       have B2 := Lib.hid (thn16 B1.out b2)
       have R4 := Lib.hid ((B2.out.block (w.heap.size + 1) (by have := WSH.out; omega)).trans P1.out)
       have ⟨hl6, hb6⟩ := retL16 R4.out (thn16 BB.out B2.out) (by omega : w.heap.size ≤ w.heap.size + 1) 0 none 0 0
       clear o2 b2)
    | ((with_reducible show wpList _ _ _ (⟨none, .store 24 (.tmp 6) (.tmp 28), _, _, _, _⟩ :: _) _ _)
       refine wpList_store_mid rfl 24 (.tmp 6) (.tmp 28) rfl (w.heap.size + 1) 0 #[.int .u8 0, .slice none 0 0] rfl rfl (there16 R4.out) HIN.out (one16 _ _ _ _) ?_
       show wpList _ _ _ _ _ (v2.setCells (w.heap.size + 1) 0 [.int .u8 0, .slice none 0 0])
       generalize v2.setCells (w.heap.size + 1) 0 [.int .u8 0, .slice none 0 0] = w6 at hl6 hb6 ⊢))
  (try simp only [Exit.inBlock, Exit.then])
  refine bodyPost_ret (v := .tuple #[.agg #[.int .u8 0, .slice none 0 0], .slice none 0 0]) (results_two15 Tryz.results11 rfl rfl hl6) rfl ⟨rfl, hb6⟩
end Go.Proofs.YtickkaeaaemakaaGreatDoor
