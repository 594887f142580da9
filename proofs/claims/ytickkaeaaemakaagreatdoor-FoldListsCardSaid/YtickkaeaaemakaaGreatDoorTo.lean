/- What the document's own Step returns: what a value makes of a list, and what is noted. Condition: a list of at most a million calls that can be read, a value of at most 1,000 bytes. -/
import Derived.Test.YtickkaeaaemakaaGreatDoorTn
import Derived.StillTailTactics
import Derived.Deep.DeepCutAuto
namespace Go.Proofs.YtickkaeaaemakaaGreatDoor
open Go.RowKit
set_option linter.unusedVariables false
set_option linter.unusedSimpArgs false
attribute [local go_sem ↓] Go.wp_at_zero Go.wp_at_succ

/-- A list and notes, as they are returned. -/
abbrev InL (q0 : Option Addr) (n0 c0 : Nat) (L0 : List Cl) : Option Addr → Nat → Nat → List Cl → Prop := fun q n c L => q = q0 ∧ n = n0 ∧ c = c0 ∧ L = L0
abbrev StepL (q0 : Option Addr) (n0 c0 : Nat) (L0 : List Cl) (w w' : World) (e : Ending) (r : (Nat × List Cl) × List (Int × ByteArray)) : Prop := ∃ q n c vN, e = .returned (.tuple #[lsV r.1.1 q n c, vN]) ∧ n = r.1.2.length ∧ ((InL q0 n0 c0 L0 q n c r.1.2 ∧ LsAt w q r.1.2) ∨ r.1.2 = [] ∨ w'.ownsRow w.heap.size 51 2 (.slice q n c) n (rowC encC r.1.2)) ∧ w'.ownsRow w.heap.size 61 4 vN r.2.length (rowC encN (r.2.map nteS)) ∧ Below w.heap.size w w'
theorem StepL.ls {q0 : Option Addr} {n0 c0 : Nat} {L0 : List Cl} {w w' : World} {q : Option Addr} {n c : Nat} {L : List Cl} (h : (InL q0 n0 c0 L0 q n c L ∧ LsAt w q L) ∨ L = [] ∨ w'.ownsRow w.heap.size 51 2 (.slice q n c) n (rowC encC L)) (hl : n = L.length) (b : Below w.heap.size w w') : LsAt w' q L := by
  rcases h with h | h | h
  · exact h.2.on b
  · rw [h]; intro k c hk; simp at hk
  · exact LsAt.of_own h hl
set_option maxRecDepth 100000 in
set_option maxHeartbeats 16000000 in
theorem refStep_no (m : Nat) (q : Option Addr) (n cap : Nat) (L : List Cl) (v : ByteArray) (sfx : Bool) (w : World) (hl : L.length = n) (hn : n ≤ 1000000) (ha : ∀ c ∈ L, c.2 < 4294967296) (h : LsAt w q L) (hm : mayR knownR m L = false) : Calls Tryz.prog 12 #[lsV m q n cap, .string v, .bool sfx] w fun e w' => StepL q n cap L w w' e ((m, L), []) := by
  have HIN := Lib.hid (show (Tryz.prog.info? 24).map (·.size) = some 2 by kernel_rfl)
  unfold StepL lsV
  obtain ⟨W, hW⟩ : ∃ W, W = (w.alloc (.cells #[.int .u8 (m : Nat), .slice q n cap] 24)).alloc (.cells #[.int .u8 0, .slice none 0 0] 24) := ⟨_, rfl⟩
  have BB := Lib.hid (show Below w.heap.size w W from hW ▸ ((Below.refl _ _).alloc (Nat.le_refl _) _).alloc (by rw [World.size_alloc]; omega) _)
  have WSH := Lib.hid (show W.heap.size = w.heap.size + 2 by rw [hW, World.size_alloc, World.size_alloc])
  have P0 := Lib.hid (show W.heap[w.heap.size]? = some (.cells #[.int .u8 (m : Nat), .slice q n cap] 24 (0, 0)) by rw [hW, heap_old16])
  have P1 := Lib.hid (show W.heap[w.heap.size + 1]? = some (.cells #[.int .u8 0, .slice none 0 0] 24 (0, 0)) by rw [hW, heap_new16])
  have HY := Lib.hid (fun (V : World) (b : Below W.heap.size W V) => refMay m q n cap L V hl hn ha (h.on (thn16 BB.out b)))
  have HR := Lib.hid h
  have HL := Lib.hid hl
  have HWW := Lib.hid hW
  clear hW
  rw [hm] at HY
  obtain ⟨mi, hmi⟩ : ∃ x : Int, x = (m : Nat) := ⟨_, rfl⟩
  rw [← hmi] at HWW P0 ⊢
  unfold lsV at HY
  rw [← hmi] at HY
  clear h hl hn ha hm hmi
  go_enter Tryz.func12, Tryz.ntmps12
  go_wp2_with (first
    | (go_at_call 24; ((with_reducible refine (HY.out _ (by rw [← HWW.out]; exact Below.refl _ _)).mono ?_); rintro e v1 ⟨rfl, b1⟩); rw [← HWW.out] at b1; have B1 := Lib.hid b1; have z0 := (cell_of_row v1 w.heap.size 0 _ _ (0, 0) ((b1.block _ (by have := WSH.out; omega)).trans P0.out)).trans (show _ = some (Value.int .u8 mi) from rfl); have z1 := (cell_of_row v1 w.heap.size 1 _ _ (0, 0) ((b1.block _ (by have := WSH.out; omega)).trans P0.out)).trans (show _ = some (Value.slice q n cap) from rfl); have F0 := Lib.hid ((b1.block (w.heap.size + 1) (by have := WSH.out; omega)).trans P1.out); have ⟨hl, hb3⟩ := retL16 F0.out (thn16 BB.out b1) (by omega : w.heap.size ≤ w.heap.size + 1) mi q n cap; have HB3 := Lib.hid hb3; clear b1)
    | ((with_reducible show wpList _ _ _ (⟨none, .store 24 (.tmp 6) (.tmp 21), _, _, _, _⟩ :: _) _ _)
       refine wpList_store_mid rfl 24 (.tmp 6) (.tmp 21) rfl (w.heap.size + 1) 0 #[.int .u8 mi, .slice q n cap] rfl rfl (there16 F0.out) HIN.out (one16 _ _ _ _) ?_
       show wpList _ _ _ _ _ (v1.setCells (w.heap.size + 1) 0 [.int .u8 mi, .slice q n cap])
       generalize v1.setCells (w.heap.size + 1) 0 [.int .u8 mi, .slice q n cap] = w3 at hl HB3 ⊢))
  exact bodyPost_ret (v := .tuple #[.agg #[.int .u8 mi, .slice q n cap], .slice none 0 0]) (results_two15 Tryz.results12 rfl rfl hl) rfl ⟨q, n, cap, _, rfl, HL.out.symm, Or.inl ⟨⟨rfl, rfl, rfl, rfl⟩, HR.out⟩, World.ownsRow_nil _ _ _ _, HB3.out⟩
theorem refWords_le {v : ByteArray} (hv : v.size ≤ 1000) : (wdL v.data.toList).length ≤ 1000 := Nat.le_trans (wdL_len _) (by simpa using hv)
set_option maxRecDepth 100000 in
set_option maxHeartbeats 16000000 in
theorem refStep_nil (m : Nat) (q : Option Addr) (n cap : Nat) (L : List Cl) (v : ByteArray) (sfx : Bool) (w : World) (hv : v.size ≤ 1000) (hl : L.length = n) (hn : n ≤ 1000000) (ha : ∀ c ∈ L, c.2 < 4294967296) (h : LsAt w q L) (hm : mayR knownR m L = true) (h0 : wdL v.data.toList = []) : Calls Tryz.prog 12 #[lsV m q n cap, .string v, .bool sfx] w fun e w' => StepL q n cap L w w' e ((0, []), []) := by
  have HIN := Lib.hid (show (Tryz.prog.info? 24).map (·.size) = some 2 by kernel_rfl)
  unfold StepL lsV
  obtain ⟨W, hW⟩ : ∃ W, W = (w.alloc (.cells #[.int .u8 (m : Nat), .slice q n cap] 24)).alloc (.cells #[.int .u8 0, .slice none 0 0] 24) := ⟨_, rfl⟩
  have BB := Lib.hid (show Below w.heap.size w W from hW ▸ ((Below.refl _ _).alloc (Nat.le_refl _) _).alloc (by rw [World.size_alloc]; omega) _)
  have WSH := Lib.hid (show W.heap.size = w.heap.size + 2 by rw [hW, World.size_alloc, World.size_alloc])
  have P0 := Lib.hid (show W.heap[w.heap.size]? = some (.cells #[.int .u8 (m : Nat), .slice q n cap] 24 (0, 0)) by rw [hW, heap_old16])
  have P1 := Lib.hid (show W.heap[w.heap.size + 1]? = some (.cells #[.int .u8 0, .slice none 0 0] 24 (0, 0)) by rw [hW, heap_new16])
  have HY := Lib.hid (fun (V : World) (b : Below W.heap.size W V) => refMay m q n cap L V hl hn ha (h.on (thn16 BB.out b)))
  have HR := Lib.hid h
  have HL := Lib.hid hl
  have HWW := Lib.hid hW
  clear hW
  rw [hm] at HY
  have HWO := Lib.hid (fun (V : World) => refWords v (by omega) V)
  rw [h0] at HWO
  obtain ⟨mi, hmi⟩ : ∃ x : Int, x = (m : Nat) := ⟨_, rfl⟩
  rw [← hmi] at HWW P0 ⊢
  unfold lsV at HY
  rw [← hmi] at HY
  clear h hl hn ha hm hmi hv h0
  go_enter Tryz.func12, Tryz.ntmps12
  go_wp2_with (first
    | (go_at_call 24; ((with_reducible refine (HY.out _ (by rw [← HWW.out]; exact Below.refl _ _)).mono ?_); rintro e v1 ⟨rfl, b1⟩); rw [← HWW.out] at b1; have B1 := Lib.hid b1; have z0 := (cell_of_row v1 w.heap.size 0 _ _ (0, 0) ((b1.block _ (by have := WSH.out; omega)).trans P0.out)).trans (show _ = some (Value.int .u8 mi) from rfl); have z1 := (cell_of_row v1 w.heap.size 1 _ _ (0, 0) ((b1.block _ (by have := WSH.out; omega)).trans P0.out)).trans (show _ = some (Value.slice q n cap) from rfl); skip; clear b1)
    | (go_at_call 37
       (with_reducible refine (HWO.out _).mono ?_)
       rintro e v2 ⟨q2, c2, rfl, o2, b2⟩
       have F0 := Lib.hid ((b2.block (w.heap.size + 1) (by have := WSH.out; have := B1.out.size; omega)).trans ((B1.out.block (w.heap.size + 1) (by have := WSH.out; omega)).trans P1.out))
       have ⟨hl, hb3⟩ := retL16 F0.out (thn16 (thn16 BB.out B1.out) b2) (by omega : w.heap.size ≤ w.heap.size + 1) 0 none 0 0
       have HB3 := Lib.hid hb3
       clear o2 b2)
    | ((with_reducible show wpList _ _ _ (⟨none, .store 24 (.tmp 6) (.tmp 26), _, _, _, _⟩ :: _) _ _)
       refine wpList_store_mid rfl 24 (.tmp 6) (.tmp 26) rfl (w.heap.size + 1) 0 #[.int .u8 0, .slice none 0 0] rfl rfl (there16 F0.out) HIN.out (one16 _ _ _ _) ?_
       show wpList _ _ _ _ _ (v2.setCells (w.heap.size + 1) 0 [.int .u8 0, .slice none 0 0])
       generalize v2.setCells (w.heap.size + 1) 0 [.int .u8 0, .slice none 0 0] = w3 at hl HB3 ⊢))
  exact bodyPost_ret (v := .tuple #[.agg #[.int .u8 0, .slice none 0 0], .slice none 0 0]) (results_two15 Tryz.results12 rfl rfl hl) rfl ⟨none, 0, 0, _, rfl, rfl, Or.inr (Or.inl (by first | trivial | rfl)), World.ownsRow_nil _ _ _ _, HB3.out⟩
end Go.Proofs.YtickkaeaaemakaaGreatDoor
