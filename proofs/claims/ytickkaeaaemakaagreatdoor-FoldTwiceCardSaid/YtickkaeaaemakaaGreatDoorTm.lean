/- What the document's own Take and Put return: the list without a call, with a call; a list that may not be as it is. Condition: a list of at most a million calls that can be read. -/
import Derived.Test.YtickkaeaaemakaaGreatDoorTl
import Derived.Test.YtickkaeaaemakaaGreatDoorTg
namespace Go.Proofs.YtickkaeaaemakaaGreatDoor
open Go.RowKit
set_option linter.unusedVariables false
set_option linter.unusedSimpArgs false
attribute [local go_sem ↓] Go.wp_at_zero Go.wp_at_succ

/-- A list as it is returned: it can be read. -/
abbrev OldL (w w' : World) (e : Ending) (m : Nat) (P : List Cl) : Prop := ∃ q n c, e = .returned (lsV m q n c) ∧ n = P.length ∧ LsAt w' q P ∧ Below w.heap.size w w'
/-- A list as it is returned: new memory. -/
abbrev NewL2 (w w' : World) (e : Ending) (m : Nat) (P : List Cl) : Prop := ∃ q n c, e = .returned (lsV m q n c) ∧ n = P.length ∧ w'.ownsRow w.heap.size 51 2 (.slice q n c) n (rowC encC P) ∧ Below w.heap.size w w'
theorem NewL2.old {w w' : World} {e : Ending} {m : Nat} {P : List Cl} (h : NewL2 w w' e m P) : OldL w w' e m P := by
  obtain ⟨q, n, c, h1, h2, h3, h4⟩ := h
  exact ⟨q, n, c, h1, h2, LsAt.of_own h3 h2, h4⟩
def takeK (K : ByteArray → Bool) (m : Nat) (L : List Cl) (s : ByteArray) : List Cl := if mayR K m L = true then takeC L s else L
def putK (K : ByteArray → Bool) (m : Nat) (L : List Cl) (s : ByteArray) (a : Nat) : List Cl := if mayR K m L = true then putC L s a else L
theorem put_back {L : List Cl} (h : Asc16 L) (s : ByteArray) (a : Nat) : putC L s a = (backC (s, a) (takeC L s).reverse).reverse := by
  have e := back_ins s a (takeC L s).reverse (by rw [List.reverse_reverse]; exact asc_take h s) (by rw [List.reverse_reverse, find_take, if_pos rfl])
  rw [e, List.reverse_reverse]; rfl
theorem back_yes (c d : Cl) (p : List Cl) (h : lt16 c.1 d.1 = true) : (backC c (p ++ [d]).reverse).reverse = (backC c p.reverse).reverse ++ [d] := by
  rw [List.reverse_append]
  show (backC c (d :: p.reverse)).reverse = _
  unfold backC
  rw [if_pos h, List.reverse_cons]
  cases p.reverse <;> rfl
theorem back_no (c d : Cl) (p : List Cl) (h : lt16 c.1 d.1 = false) : (backC c (p ++ [d]).reverse).reverse = p ++ [d, c] := by
  rw [List.reverse_append]
  show (backC c (d :: p.reverse)).reverse = _
  unfold backC
  rw [if_neg (by rw [h]; exact Bool.noConfusion)]
  simp
theorem back_nil (c : Cl) : (backC c ([] : List Cl).reverse).reverse = [c] := rfl
set_option maxRecDepth 100000 in
set_option maxHeartbeats 16000000 in
theorem refTake (m : Nat) (q : Option Addr) (n cap : Nat) (L : List Cl) (s : ByteArray) (w : World) (hl : L.length = n) (hn : n ≤ 1000000) (ha : ∀ c ∈ L, c.2 < 4294967296) (h : LsAt w q L) : Calls Tryz.prog 28 #[lsV m q n cap, .string s] w fun e w' => OldL w w' e m (takeK knownR m L s) := by
  unfold takeK
  have HIN := Lib.hid (show (Tryz.prog.info? 24).map (·.size) = some 2 by kernel_rfl)
  unfold OldL lsV
  obtain ⟨W, hW⟩ : ∃ W, W = (w.alloc (.cells #[.int .u8 (m : Nat), .slice q n cap] 24)).alloc (.cells #[.int .u8 0, .slice none 0 0] 24) := ⟨_, rfl⟩
  have BB := Lib.hid (show Below w.heap.size w W from hW ▸ ((Below.refl _ _).alloc (Nat.le_refl _) _).alloc (by rw [World.size_alloc]; omega) _)
  have WS : W.heap.size = w.heap.size + 2 := by rw [hW, World.size_alloc, World.size_alloc]
  have hp0 : W.heap[w.heap.size]? = some (.cells #[.int .u8 (m : Nat), .slice q n cap] 24 (0, 0)) := by rw [hW, heap_old16]
  have hp1 : W.heap[w.heap.size + 1]? = some (.cells #[.int .u8 0, .slice none 0 0] 24 (0, 0)) := by rw [hW, heap_new16]
  have HY := Lib.hid (fun (V : World) (b : Below W.heap.size W V) => refMay m q n cap L V hl hn ha (h.on (thn16 BB.out b)))
  have HT := Lib.hid (fun (V : World) (b : Below W.heap.size W V) => reftake m q n cap L s V hl hn (h.on (thn16 BB.out b)))
  have HR := Lib.hid h
  have HL := Lib.hid hl
  obtain ⟨mi, hmi⟩ : ∃ x : Int, x = (m : Nat) := ⟨_, rfl⟩
  have HMI := Lib.hid hmi
  unfold NewL lsV at HT
  unfold lsV at HY
  rw [← hmi] at hW hp0 HY HT ⊢
  have P0 := Lib.hid hp0
  have P1 := Lib.hid hp1
  have WSH := Lib.hid WS
  have HWW := Lib.hid hW
  clear hW
  cases hm : mayR knownR m L with
  | false =>
    rw [hm] at HY
    rw [if_neg Bool.noConfusion]
    clear h hl hn ha hp0 hp1 WS hmi HT hm
    go_enter Tryz.func28, Tryz.ntmps28
    go_wp2_with (first
      | (go_at_call 24; ((with_reducible refine (HY.out _ (by rw [← HWW.out]; exact Below.refl _ _)).mono ?_); rintro e v1 ⟨rfl, b1⟩); rw [← HWW.out] at b1; have B1 := Lib.hid b1; have z0 := (cell_of_row v1 w.heap.size 0 _ _ (0, 0) ((b1.block _ (by have := WSH.out; omega)).trans P0.out)).trans (show _ = some (Value.int .u8 mi) from rfl); have z1 := (cell_of_row v1 w.heap.size 1 _ _ (0, 0) ((b1.block _ (by have := WSH.out; omega)).trans P0.out)).trans (show _ = some (Value.slice q n cap) from rfl); have F0 := Lib.hid ((b1.block (w.heap.size + 1) (by have := WSH.out; omega)).trans P1.out); have ⟨hl, hb3⟩ := retL16 F0.out (thn16 BB.out b1) (by omega : w.heap.size ≤ w.heap.size + 1) mi q n cap; have HB3 := Lib.hid hb3; have OR := Lib.hid (show LsAt (v1.setCells (w.heap.size + 1) 0 [.int .u8 mi, .slice q n cap]) q L from HR.out.on hb3); clear b1)
      | ((with_reducible show wpList _ _ _ (⟨none, .store 24 (.tmp 4) (.tmp 8), _, _, _, _⟩ :: _) _ _)
         refine wpList_store_mid rfl 24 (.tmp 4) (.tmp 8) rfl (w.heap.size + 1) 0 #[.int .u8 mi, .slice q n cap] rfl rfl (there16 F0.out) HIN.out (one16 _ _ _ _) ?_
         show wpList _ _ _ _ _ (v1.setCells (w.heap.size + 1) 0 [.int .u8 mi, .slice q n cap])
         generalize v1.setCells (w.heap.size + 1) 0 [.int .u8 mi, .slice q n cap] = w3 at hl HB3 OR ⊢))
    exact bodyPost_ret (v := .agg #[.int .u8 mi, .slice q n cap]) (results_one16 Tryz.results28 rfl hl) rfl ⟨q, n, cap, rfl, HL.out.symm, OR.out, HB3.out⟩
  | true =>
    rw [hm] at HY
    rw [if_pos rfl]
    obtain ⟨R, hR⟩ : ∃ R, R = takeC L s := ⟨_, rfl⟩
    obtain ⟨N, hN⟩ : ∃ N, N = R.length := ⟨_, rfl⟩
    have HNN := Lib.hid hN
    rw [← hR, ← hN] at HT
    rw [← hR]
    clear h hl hn ha hp0 hp1 WS hmi hm hR hN
    go_enter Tryz.func28, Tryz.ntmps28
    go_wp2_with (first
      | (go_at_call 24; ((with_reducible refine (HY.out _ (by rw [← HWW.out]; exact Below.refl _ _)).mono ?_); rintro e v1 ⟨rfl, b1⟩); rw [← HWW.out] at b1; have B1 := Lib.hid b1; have z0 := (cell_of_row v1 w.heap.size 0 _ _ (0, 0) ((b1.block _ (by have := WSH.out; omega)).trans P0.out)).trans (show _ = some (Value.int .u8 mi) from rfl); have z1 := (cell_of_row v1 w.heap.size 1 _ _ (0, 0) ((b1.block _ (by have := WSH.out; omega)).trans P0.out)).trans (show _ = some (Value.slice q n cap) from rfl); skip; clear b1)
      | (go_at_call 42
         (with_reducible refine (HT.out _ B1.out).mono ?_)
         rintro e v2 ⟨q2, c2, rfl, o2, b2⟩
         have F0 := Lib.hid (((b2.block _ (by have := WSH.out; have := B1.out.size; omega)).trans (B1.out.block _ (by have := WSH.out; omega))).trans P1.out)
         have ⟨hl, hb3⟩ := retL16 F0.out (thn16 (thn16 BB.out B1.out) b2) (by omega : w.heap.size ≤ w.heap.size + 1) mi q2 N c2
         have HB3 := Lib.hid hb3
         have OR := Lib.hid (show LsAt (v2.setCells (w.heap.size + 1) 0 [.int .u8 mi, .slice q2 N c2]) q2 R from LsAt.of_own (owns_same16 o2 (fun g cs fz hB hg => (heap_setCells16 v2 _ _ (by have := WSH.out; have := B1.out.size; omega) _ _).trans hg)) HNN.out)
         clear o2 b2)
      | ((with_reducible show wpList _ _ _ (⟨none, .store 24 (.tmp 4) (.tmp 11), _, _, _, _⟩ :: _) _ _)
         refine wpList_store_mid rfl 24 (.tmp 4) (.tmp 11) rfl (w.heap.size + 1) 0 #[.int .u8 mi, .slice q2 N c2] rfl rfl (there16 F0.out) HIN.out (one16 _ _ _ _) ?_
         show wpList _ _ _ _ _ (v2.setCells (w.heap.size + 1) 0 [.int .u8 mi, .slice q2 N c2])
         generalize v2.setCells (w.heap.size + 1) 0 [.int .u8 mi, .slice q2 N c2] = w3 at hl HB3 OR ⊢))
    exact bodyPost_ret (v := .agg #[.int .u8 mi, .slice q2 N c2]) (results_one16 Tryz.results28 rfl hl) rfl ⟨q2, N, c2, rfl, HNN.out, OR.out, HB3.out⟩
set_option maxRecDepth 100000 in
set_option maxHeartbeats 16000000 in
theorem refPut_no (m : Nat) (q : Option Addr) (n cap : Nat) (L : List Cl) (s : ByteArray) (a : Nat) (w : World) (hl : L.length = n) (hn : n ≤ 1000000) (ha : ∀ c ∈ L, c.2 < 4294967296) (h : LsAt w q L) (hm : mayR knownR m L = false) : Calls Tryz.prog 27 #[lsV m q n cap, .string s, .int .u32 (a : Nat)] w fun e w' => OldL w w' e m L := by
  have HIN := Lib.hid (show (Tryz.prog.info? 24).map (·.size) = some 2 by kernel_rfl)
  unfold OldL lsV
  obtain ⟨W, hW⟩ : ∃ W, W = (w.alloc (.cells #[.int .u8 (m : Nat), .slice q n cap] 24)).alloc (.cells #[.int .u8 0, .slice none 0 0] 24) := ⟨_, rfl⟩
  have BB := Lib.hid (show Below w.heap.size w W from hW ▸ ((Below.refl _ _).alloc (Nat.le_refl _) _).alloc (by rw [World.size_alloc]; omega) _)
  have WS : W.heap.size = w.heap.size + 2 := by rw [hW, World.size_alloc, World.size_alloc]
  have hp0 : W.heap[w.heap.size]? = some (.cells #[.int .u8 (m : Nat), .slice q n cap] 24 (0, 0)) := by rw [hW, heap_old16]
  have hp1 : W.heap[w.heap.size + 1]? = some (.cells #[.int .u8 0, .slice none 0 0] 24 (0, 0)) := by rw [hW, heap_new16]
  have HY := Lib.hid (fun (V : World) (b : Below W.heap.size W V) => refMay m q n cap L V hl hn ha (h.on (thn16 BB.out b)))
  have HT := Lib.hid (fun (V : World) (b : Below W.heap.size W V) => reftake m q n cap L s V hl hn (h.on (thn16 BB.out b)))
  have HR := Lib.hid h
  have HL := Lib.hid hl
  obtain ⟨mi, hmi⟩ : ∃ x : Int, x = (m : Nat) := ⟨_, rfl⟩
  have HMI := Lib.hid hmi
  unfold NewL lsV at HT
  unfold lsV at HY
  rw [← hmi] at hW hp0 HY HT ⊢
  have P0 := Lib.hid hp0
  have P1 := Lib.hid hp1
  have WSH := Lib.hid WS
  have HWW := Lib.hid hW
  clear hW
  obtain ⟨ai, hai⟩ : ∃ x : Int, x = (a : Nat) := ⟨_, rfl⟩
  have HAI := Lib.hid hai
  rw [← hai]
  rw [hm] at HY
  clear h hl hn ha hp0 hp1 WS hmi HT hm hai
  go_enter Tryz.func27, Tryz.ntmps27
  go_wp2_with (first
    | (go_at_call 24; ((with_reducible refine (HY.out _ (by rw [← HWW.out]; exact Below.refl _ _)).mono ?_); rintro e v1 ⟨rfl, b1⟩); rw [← HWW.out] at b1; have B1 := Lib.hid b1; have z0 := (cell_of_row v1 w.heap.size 0 _ _ (0, 0) ((b1.block _ (by have := WSH.out; omega)).trans P0.out)).trans (show _ = some (Value.int .u8 mi) from rfl); have z1 := (cell_of_row v1 w.heap.size 1 _ _ (0, 0) ((b1.block _ (by have := WSH.out; omega)).trans P0.out)).trans (show _ = some (Value.slice q n cap) from rfl); have F0 := Lib.hid ((b1.block (w.heap.size + 1) (by have := WSH.out; omega)).trans P1.out); have ⟨hl, hb3⟩ := retL16 F0.out (thn16 BB.out b1) (by omega : w.heap.size ≤ w.heap.size + 1) mi q n cap; have HB3 := Lib.hid hb3; have OR := Lib.hid (show LsAt (v1.setCells (w.heap.size + 1) 0 [.int .u8 mi, .slice q n cap]) q L from HR.out.on hb3); clear b1)
    | ((with_reducible show wpList _ _ _ (⟨none, .store 24 (.tmp 6) (.tmp 12), _, _, _, _⟩ :: _) _ _)
       refine wpList_store_mid rfl 24 (.tmp 6) (.tmp 12) rfl (w.heap.size + 1) 0 #[.int .u8 mi, .slice q n cap] rfl rfl (there16 F0.out) HIN.out (one16 _ _ _ _) ?_
       show wpList _ _ _ _ _ (v1.setCells (w.heap.size + 1) 0 [.int .u8 mi, .slice q n cap])
       generalize v1.setCells (w.heap.size + 1) 0 [.int .u8 mi, .slice q n cap] = w3 at hl HB3 OR ⊢))
  exact bodyPost_ret (v := .agg #[.int .u8 mi, .slice q n cap]) (results_one16 Tryz.results27 rfl hl) rfl ⟨q, n, cap, rfl, HL.out.symm, OR.out, HB3.out⟩
set_option maxRecDepth 100000 in
set_option maxHeartbeats 32000000 in
theorem refPut_yes (m : Nat) (q : Option Addr) (n cap : Nat) (L : List Cl) (s : ByteArray) (a : Nat) (w : World) (hl : L.length = n) (hn : n ≤ 1000000) (ha : ∀ c ∈ L, c.2 < 4294967296) (h : LsAt w q L) (hm : mayR knownR m L = true) : Calls Tryz.prog 27 #[lsV m q n cap, .string s, .int .u32 (a : Nat)] w fun e w' => NewL2 w w' e m (putC L s a) := by
  have HIN := Lib.hid (show (Tryz.prog.info? 24).map (·.size) = some 2 by kernel_rfl)
  unfold NewL2 lsV
  obtain ⟨W, hW⟩ : ∃ W, W = (w.alloc (.cells #[.int .u8 (m : Nat), .slice q n cap] 24)).alloc (.cells #[.int .u8 0, .slice none 0 0] 24) := ⟨_, rfl⟩
  have BB := Lib.hid (show Below w.heap.size w W from hW ▸ ((Below.refl _ _).alloc (Nat.le_refl _) _).alloc (by rw [World.size_alloc]; omega) _)
  have WS : W.heap.size = w.heap.size + 2 := by rw [hW, World.size_alloc, World.size_alloc]
  have hp0 : W.heap[w.heap.size]? = some (.cells #[.int .u8 (m : Nat), .slice q n cap] 24 (0, 0)) := by rw [hW, heap_old16]
  have hp1 : W.heap[w.heap.size + 1]? = some (.cells #[.int .u8 0, .slice none 0 0] 24 (0, 0)) := by rw [hW, heap_new16]
  have HY := Lib.hid (fun (V : World) (b : Below W.heap.size W V) => refMay m q n cap L V hl hn ha (h.on (thn16 BB.out b)))
  have HT := Lib.hid (fun (V : World) (b : Below W.heap.size W V) => reftake m q n cap L s V hl hn (h.on (thn16 BB.out b)))
  have HR := Lib.hid h
  have HL := Lib.hid hl
  obtain ⟨mi, hmi⟩ : ∃ x : Int, x = (m : Nat) := ⟨_, rfl⟩
  have HMI := Lib.hid hmi
  unfold NewL lsV at HT
  unfold lsV at HY
  rw [← hmi] at hW hp0 HY HT ⊢
  have P0 := Lib.hid hp0
  have P1 := Lib.hid hp1
  have WSH := Lib.hid WS
  have HWW := Lib.hid hW
  clear hW
  obtain ⟨ai, hai⟩ : ∃ x : Int, x = (a : Nat) := ⟨_, rfl⟩
  have HAI := Lib.hid hai
  rw [← hai]
  obtain ⟨i0, hi0, hz0, hz1, hz2⟩ := info_parts cl_info
  have HI := Lib.hid hi0
  have HZ0 := Lib.hid hz0
  have HZ1 := Lib.hid hz1
  have HZ2 := Lib.hid hz2
  rw [hm] at HY
  have hpb := put_back (may_iff.1 hm).asc s a
  obtain ⟨P, hP⟩ : ∃ P, P = takeC L s := ⟨_, rfl⟩
  have hPn : P.length ≤ 1000000 := by rw [hP]; exact Nat.le_trans (take_le _ _) (by omega)
  obtain ⟨R, hR⟩ : ∃ R, R = putC L s a := ⟨_, rfl⟩
  rw [← hP, ← hR] at hpb
  rw [← hP] at HT
  rw [← hR]
  obtain ⟨N, hN⟩ : ∃ N, N = P.length := ⟨_, rfl⟩
  have HNN := Lib.hid hN
  have HPB := Lib.hid hpb
  rw [← hN] at HT hPn
  clear h hl hn ha hp0 hp1 WS hmi hm hR hN hP hpb hai hi0 hz0 hz1 hz2
  go_enter Tryz.func27, Tryz.ntmps27
  go_wp2_with (first
    | (go_at_call 24; ((with_reducible refine (HY.out _ (by rw [← HWW.out]; exact Below.refl _ _)).mono ?_); rintro e v1 ⟨rfl, b1⟩); rw [← HWW.out] at b1; have B1 := Lib.hid b1; have z0 := (cell_of_row v1 w.heap.size 0 _ _ (0, 0) ((b1.block _ (by have := WSH.out; omega)).trans P0.out)).trans (show _ = some (Value.int .u8 mi) from rfl); have z1 := (cell_of_row v1 w.heap.size 1 _ _ (0, 0) ((b1.block _ (by have := WSH.out; omega)).trans P0.out)).trans (show _ = some (Value.slice q n cap) from rfl); skip; clear b1)
    | (go_at_call 42
       (with_reducible refine (HT.out _ B1.out).mono ?_)
       rintro e v2 ⟨q2, c2, rfl, o2, b2⟩
       have B2 := Lib.hid (thn16 B1.out b2)
       have S12 := Lib.hid b2.size
       have O2 := Lib.hid o2
       clear o2 b2)
    | (at_builtin
       refine wpList_append_own _ rfl (.tmp 17) (.tmp 21) 22 rfl v1.heap.size 51 i0 _ 2 24 Tryz.underlying22 HI.out HZ0.out HZ1.out HZ2.out rfl (by omega) (.slice q2 N c2) N (rowC encC P) rfl ((O2.out.alloc _).alloc _) ⟨v2.heap.size + 1, 0, none⟩ 1 1 [.string s, .int .u32 ai] rfl rfl (by rw [show v2.heap.size + 1 = (v2.alloc (.cells #[.int .u8 mi, .slice q2 N c2] 24)).heap.size by rw [World.size_alloc]]; exact news_row _ _ _) (fun u hu => by simp only [List.mem_cons, List.mem_nil_iff, or_false] at hu; rcases hu with rfl | rfl <;> rfl) (by unfold maxLen; omega) (by omega) (by have := S12.out; rw [World.size_alloc, World.size_alloc]; omega) ?_
       intro v5 w5 o5 hg5 _
       obtain ⟨q1, q3, q4⟩ := OutC.put (c := W.heap.size) (B := v1.heap.size) (P' := P ++ [(s, a)]) (show OutC v1.heap.size v2.heap.size m (.slice q2 N c2) P ((v2.alloc (.cells #[.int .u8 mi, .slice q2 N c2] 24)).alloc (.cells #[.string s, .int .u32 ai] 51)) from ⟨by rw [heap_old16, HMI.out], by rw [← HNN.out]; exact (O2.out.alloc _).alloc _⟩) B1.out.size B2.out.size (by have := S12.out; rw [World.size_alloc, World.size_alloc]; omega) hg5 (by rw [List.length_append, List.length_singleton, rowC_app, rowC_one1, ← HNN.out]; show w5.ownsRow _ _ _ _ _ (_ ++ [.string s, .int .u32 (a : Nat)]); rw [← HAI.out]; exact o5)
       have c2 := (cell_of_row w5 v2.heap.size 1 _ _ (0, 0) q1).trans (show _ = some (Value.slice q2 N c2) from rfl)
       have f2 := frozen_of_row w5 v2.heap.size 1 _ _ q1
       obtain ⟨g5, c5, hv5, hgB, hgl⟩ := o5.form (by omega)
       subst hv5
       have HGB := Lib.hid (show W.heap.size ≤ g5 from Nat.le_trans B1.out.size hgB)
       have Q3 := Lib.hid q3
       have Q4 := Lib.hid (B2.out.trans ((((below16 v2 _).trans ((below16 _ _).mono (by rw [World.size_alloc]; omega))).mono B2.out.size).trans q4))
       clear o5 hg5 q1 q3 q4))
  generalize hNE : N + 1 = NN at Q3 Q4 ⊢
  have HNE := Lib.hid hNE
  generalize w5.setCell ⟨v2.heap.size, 1, none⟩ (.slice (some ⟨g5, 0, none⟩) NN c5) = U0 at Q3 Q4 ⊢
  have e1 : (NN : Int) - 1 = N := by omega
  have hNn : (NN : Int) ≤ 1000001 := by omega
  have hNw : IntKind.i64.wrap ((NN : Int) - 1) = N := by rw [e1, IntKind.wrap_i64]; omega
  clear hNE
  go_loopw [8] (fun v8 wr => ∃ (j : Nat) (p t : List Cl), p.length = j ∧ j ≤ N ∧ v8 = .int .i64 j ∧ Hid (R = (backC (s, a) p.reverse).reverse ++ t) ∧ Hid (OutC v1.heap.size v2.heap.size m (.slice (some ⟨g5, 0, none⟩) NN c5) (p ++ (s, a) :: t) wr) ∧ Hid (Below W.heap.size W wr)) (fun v8 _ => (intOf v8).toNat)
  case atStart => exact ⟨N, P, [], HNN.out.symm, Nat.le_refl _, by first | rfl | go_num | (rw [e1]), Lib.hid (by rw [HPB.out, List.append_nil]), Q3, Q4⟩
  case round =>
    clear Q3 Q4
    obtain ⟨j, p, t, hpj, hj, rfl, HE, PO, PB⟩ := hrel
    obtain ⟨U, rfl⟩ : ∃ wo : World, wo = wr := ⟨_, rfl⟩
    have hNl : NN = (p ++ (s, a) :: t).length := by
      obtain ⟨q', c', hq'⟩ := PO.out.form
      injection hq'
    rcases List.eq_nil_or_concat p with rfl | ⟨p', d, rfl⟩
    · obtain rfl : 0 = j := hpj
      have HV := Lib.hid (show R = [] ++ (s, a) :: t from HE.out)
      have x1 := PO.out.x1
      clear HE
      go_wp2_with fail
      go_quiet (fail)
      have PB2 := Lib.hid (Go.below_drewN PB.out nq)
      have PO2 := Lib.hid (PO.out.on (Go.below_drewN (Below.refl _ _) nq))
      clear x1 hj hNl
      generalize U.drewN nq = U2 at PB2 PO2 ⊢
      have x1 := PO2.out.x1
      have x0 : U2.cell? ⟨v2.heap.size, 0, none⟩ = some (.int .u8 mi) := by rw [HMI.out]; exact PO2.out.x0
      have F0 := Lib.hid ((PB2.out.block (w.heap.size + 1) (by have := WSH.out; omega)).trans P1.out)
      obtain ⟨hl, hb3⟩ := retL16 F0.out (thn16 BB.out PB2.out) (by omega : w.heap.size ≤ w.heap.size + 1) mi (some ⟨g5, 0, none⟩) NN c5
      have HB3 := Lib.hid hb3
      have OR0 := Lib.hid (show NN = R.length ∧ (U2.setCells (w.heap.size + 1) 0 [.int .u8 mi, .slice (some ⟨g5, 0, none⟩) NN c5]).ownsRow w.heap.size 51 2 (.slice (some ⟨g5, 0, none⟩) NN c5) NN (rowC encC R) from by
        obtain ⟨q', c', hq'⟩ := PO2.out.form
        injection hq' with h1 h2 h3
        rw [HV.out]
        refine ⟨h2, owns_low16 (owns_same16 (show U2.ownsRow v1.heap.size 51 2 (.slice (some ⟨g5, 0, none⟩) NN c5) NN _ from by have := PO2.out.row; rw [← h2] at this; exact this) (fun g cs fz hB hg => (heap_setCells16 U2 _ _ (by have := WSH.out; have := B1.out.size; omega) _ _).trans hg)) (by have := WSH.out; have := B1.out.size; omega)⟩)
      have HNR := Lib.hid OR0.out.1
      have OR := Lib.hid OR0.out.2
      clear hb3
      go_wp2_with ((with_reducible show wpList _ _ _ (⟨none, .store 24 (.tmp 6) (.tmp 68), _, _, _, _⟩ :: _) _ _)
                   refine wpList_store_mid rfl 24 (.tmp 6) (.tmp 68) rfl (w.heap.size + 1) 0 #[.int .u8 mi, .slice (some ⟨g5, 0, none⟩) NN c5] rfl rfl (there16 F0.out) HIN.out (one16 _ _ _ _) ?_
                   show wpList _ _ _ _ _ (U2.setCells (w.heap.size + 1) 0 [.int .u8 mi, .slice (some ⟨g5, 0, none⟩) NN c5])
                   generalize U2.setCells (w.heap.size + 1) 0 [.int .u8 mi, .slice (some ⟨g5, 0, none⟩) NN c5] = w3 at hl HB3 OR ⊢)
      (try simp only [Exit.inBlock, Exit.then])
      refine bodyPost_ret (v := .agg #[.int .u8 mi, .slice (some ⟨g5, 0, none⟩) NN c5]) (results_one16 Tryz.results27 ?_ hl) rfl ⟨_, NN, c5, rfl, HNR.out, OR.out, HB3.out⟩
      rfl
    · have hpl : p'.length + 1 = j := by rw [← hpj, List.concat_eq_append, List.length_append]; rfl
      rw [List.concat_eq_append] at HE PO hNl
      obtain ⟨k, hk⟩ : ∃ k, k = p'.length := ⟨_, rfl⟩
      obtain rfl : j = k + 1 := by omega
      have x1 := PO.out.x1
      have hcur : p' ++ [d] ++ (s, a) :: t = p' ++ d :: (s, a) :: t := by simp
      rw [hcur] at PO hNl
      have gd : (p' ++ d :: (s, a) :: t)[k]? = some d := by rw [hk, List.getElem?_append_right (Nat.le_refl _), Nat.sub_self]; rfl
      have gs : (p' ++ d :: (s, a) :: t)[k + 1]? = some (s, a) := by rw [hk, List.getElem?_append_right (by omega), show p'.length + 1 - p'.length = 1 by omega]; rfl
      have hNk : k + 1 < NN := by rw [hNl, hk, List.length_append, List.length_cons, List.length_cons]; omega
      have PR := (show U.ownsRow v1.heap.size 51 2 (.slice (some ⟨g5, 0, none⟩) NN c5) NN (rowC encC (p' ++ d :: (s, a) :: t)) from by have h1 := PO.out.row; rw [← hNl] at h1; exact h1)
      have ca0 := (PR.cellAt ((k + 1) * 2) (by omega)).trans (rowC_get encC_len gs 0 _ rfl)
      have ca1 := (PR.cellAt ((k + 1) * 2 + 1) (by omega)).trans (rowC_get encC_len gs 1 _ rfl)
      have cb0 := (PR.cellAt (k * 2) (by omega)).trans (rowC_get encC_len gd 0 _ rfl)
      have cb1 := (PR.cellAt (k * 2 + 1) (by omega)).trans (rowC_get encC_len gd 1 _ rfl)
      have fa0 := PR.frozenAt ((k + 1) * 2)
      have fa1 := PR.frozenAt ((k + 1) * 2 + 1)
      have fb0 := PR.frozenAt (k * 2)
      have fb1 := PR.frozenAt (k * 2 + 1)
      simp only at ca0 ca1 cb0 cb1 fa0 fa1 fb0 fb1
      obtain ⟨xb, hxb⟩ : ∃ x : Int, x = (d.2 : Nat) := ⟨_, rfl⟩
      have HXB := Lib.hid hxb
      rw [← HAI.out] at ca1
      rw [← hxb] at cb1
      have HEY := Lib.hid (fun (h : lt16 s d.1 = true) => show R = (backC (s, a) p'.reverse).reverse ++ d :: t from by rw [HE.out, back_yes _ _ _ h]; simp)
      have HEN := Lib.hid (fun (h : lt16 s d.1 = false) => show R = p' ++ d :: (s, a) :: t from by rw [HE.out, back_no _ _ _ h]; simp)
      have HK := Lib.hid hk
      obtain ⟨nb, yb⟩ := d
      simp only at cb0 HEY HEN HXB
      clear hpj hpl HE hcur gd gs hNl PR hxb hk
      have HPO := Lib.hid PO.out
      generalize hJ : k + 1 = J at ca0 ca1 fa0 fa1 hNk hj ⊢
      have hwm : IntKind.i64.wrap (k : Int) = k := by rw [IntKind.wrap_i64]; omega
      have hw2 : IntKind.i64.wrap ((J : Int) - 1) = k := by rw [IntKind.wrap_i64]; omega
      have m1 : (J : Int) - 1 = k := by omega
      have m2 : (0 : Int) < (J : Int) := by omega
      have m3 : (J : Int) < (NN : Int) := by omega
      have m4 : (k : Int) < (NN : Int) := by omega
      have m5 : (0 : Int) ≤ (k : Int) := by omega
      have m6 : (0 : Int) ≤ (J : Int) := by omega
      have mN : k < NN := by omega
      have jN : J < NN := by omega
      have j0 : 0 < J := by omega
      have HJ := Lib.hid hJ
      have HJN := Lib.hid hj
      have hgb : g5 ≠ v2.heap.size := (PO.out.own rfl).2
      clear hJ hj e1 hNw
      cases hlt2 : lt16 s nb with
      | true =>
        have hlt3 : Go.Op.bytesLess s.toList nb.toList = true := hlt2
        have HE := Lib.hid (HEY.out hlt2)
        clear HEY HEN hlt2
        go_wp2_with fail
        go_quiet (fail)
        have PB2 := Lib.hid (Go.below_drewN PB.out nq)
        have PO2 := Lib.hid (PO.out.on (Go.below_drewN (Below.refl _ _) nq))
        have K2 : ∀ p, U.cell? p = (U.drewN nq).cell? p := fun p => rfl
        have KF : ∀ p, U.frozen? p = (U.drewN nq).frozen? p := fun p => rfl
        rw [K2] at ca0 ca1 cb0 cb1 x1
        rw [KF] at fa0 fa1 fb0 fb1
        clear K2 KF
        generalize U.drewN nq = U2 at PB2 PO2 ca0 ca1 cb0 cb1 x1 fa0 fa1 fb0 fb1 ⊢
        have kb : ∀ {X : World} (o : Nat) (v : Value), X.cell? ⟨v2.heap.size, 1, none⟩ = some (.slice (some ⟨g5, 0, none⟩) NN c5) → (X.setCell ⟨g5, o, none⟩ v).cell? ⟨v2.heap.size, 1, none⟩ = some (.slice (some ⟨g5, 0, none⟩) NN c5) := fun {X} o v h => (World.cell?_setCell_other X (a := ⟨g5, o, none⟩) (b := ⟨v2.heap.size, 1, none⟩) (v := v) (h := fun e => by injection e with e _ _; exact hgb e)).trans h
        go_wp2_with fail
        refine wp_region_held_drew (S := (fun w' => w'.cell? ⟨v2.heap.size, 1, none⟩ = some (.slice (some ⟨g5, 0, none⟩) NN c5))) (by kernel_rfl) ?_ (fun hHeld => ?_)
        · exact x1
        refine take_op2 (i := 0) (v := ?_) rfl (by kernel_rfl) (by kernel_rfl) (by kernel_rfl) (fun _ _ _ h => h) (Or.inl ⟨wanted_plain rfl, ?_⟩) (by assumption) ?_
        rotate_left
        · (intro w hSw; (try dsimp only at hSw); go_simp; try with_reducible rfl)
        intro act_ hact_; simp only [Act.put, List.setIfInBounds_toArray, List.set_cons_zero, List.set_cons_succ] at hact_; subst hact_
        refine take_op2 (i := 1) (v := ?_) rfl (by kernel_rfl) (by kernel_rfl) (by kernel_rfl) (fun _ _ _ h => h) (Or.inl ⟨wanted_plain rfl, ?_⟩) (by assumption) ?_
        rotate_left
        · (intro w hSw; (try dsimp only at hSw); go_simp; try with_reducible rfl)
        intro act_ hact_; simp only [Act.put, List.setIfInBounds_toArray, List.set_cons_zero, List.set_cons_succ] at hact_; subst hact_
        refine take_op2 (i := 2) (v := ?_) rfl (by kernel_rfl) (by kernel_rfl) (by kernel_rfl) (fun _ _ _ h => h) (Or.inl ⟨wanted_plain rfl, ?_⟩) (by assumption) ?_
        rotate_left
        · (intro w hSw; (try dsimp only at hSw); go_simp; try with_reducible rfl)
        intro act_ hact_; simp only [Act.put, List.setIfInBounds_toArray, List.set_cons_zero, List.set_cons_succ] at hact_; subst hact_
        refine take_op2 (i := 3) (v := ?_) rfl (by kernel_rfl) (by kernel_rfl) (by kernel_rfl) (fun _ _ _ h => h) (Or.inl ⟨wanted_plain rfl, ?_⟩) (by assumption) ?_
        rotate_left
        · (intro w hSw; (try dsimp only at hSw); go_simp; try with_reducible rfl)
        intro act_ hact_; simp only [Act.put, List.setIfInBounds_toArray, List.set_cons_zero, List.set_cons_succ] at hact_; subst hact_
        refine take_op2 (i := 4) (v := ?_) rfl (by kernel_rfl) (by kernel_rfl) (by kernel_rfl) (fun _ _ _ h => h) (Or.inl ⟨wanted_plain rfl, ?_⟩) (by assumption) ?_
        rotate_left
        · (intro w hSw; (try dsimp only at hSw); go_simp; try with_reducible rfl)
        intro act_ hact_; simp only [Act.put, List.setIfInBounds_toArray, List.set_cons_zero, List.set_cons_succ] at hact_; subst hact_
        refine take_op2 (i := 5) (v := ?_) rfl (by kernel_rfl) (by kernel_rfl) (by kernel_rfl) (fun _ _ _ h => h) (Or.inl ⟨wanted_plain rfl, ?_⟩) (by assumption) ?_
        rotate_left
        · (intro w hSw; (try dsimp only at hSw); go_simp; try with_reducible rfl)
        intro act_ hact_; simp only [Act.put, List.setIfInBounds_toArray, List.set_cons_zero, List.set_cons_succ] at hact_; subst hact_
        refine take_op2 (i := 6) (v := ?_) rfl (by kernel_rfl) (by kernel_rfl) (by kernel_rfl) (fun _ _ _ h => h) (Or.inl ⟨wanted_plain rfl, ?_⟩) (by assumption) ?_
        rotate_left
        · (intro w hSw; (try dsimp only at hSw); go_simp; try with_reducible rfl)
        intro act_ hact_; simp only [Act.put, List.setIfInBounds_toArray, List.set_cons_zero, List.set_cons_succ] at hact_; subst hact_
        refine take_op2 (i := 7) (v := ?_) rfl (by kernel_rfl) (by kernel_rfl) (by kernel_rfl) (fun _ _ _ h => h) (Or.inl ⟨wanted_plain rfl, ?_⟩) (by assumption) ?_
        rotate_left
        · (intro w hSw; (try dsimp only at hSw); go_simp; try with_reducible rfl)
        intro act_ hact_; simp only [Act.put, List.setIfInBounds_toArray, List.set_cons_zero, List.set_cons_succ] at hact_; subst hact_
        refine take_op2 (i := 8) (v := ?_) rfl (by kernel_rfl) (by kernel_rfl) (by kernel_rfl) (fun _ _ _ h => h) (Or.inl ⟨wanted_plain rfl, ?_⟩) (by assumption) ?_
        rotate_left
        · (intro w hSw; (try dsimp only at hSw); go_simp; try with_reducible rfl)
        intro act_ hact_; simp only [Act.put, List.setIfInBounds_toArray, List.set_cons_zero, List.set_cons_succ] at hact_; subst hact_
        refine take_op2 (i := 9) (v := ?_) rfl (by kernel_rfl) (by kernel_rfl) (by kernel_rfl) (fun _ _ _ h => h) (Or.inl ⟨wanted_plain rfl, ?_⟩) (by assumption) ?_
        rotate_left
        · (intro w hSw; (try dsimp only at hSw); go_simp; try with_reducible rfl)
        intro act_ hact_; simp only [Act.put, List.setIfInBounds_toArray, List.set_cons_zero, List.set_cons_succ] at hact_; subst hact_
        refine take_op2 (i := 10) (v := ?_) rfl (by kernel_rfl) (by kernel_rfl) (by kernel_rfl) (fun _ _ _ h => h) (Or.inl ⟨wanted_plain rfl, ?_⟩) (by assumption) ?_
        rotate_left
        · (intro w hSw; (try dsimp only at hSw); go_simp; try with_reducible rfl)
        intro act_ hact_; simp only [Act.put, List.setIfInBounds_toArray, List.set_cons_zero, List.set_cons_succ] at hact_; subst hact_
        refine take_op2 (i := 11) (v := ?_) rfl (by kernel_rfl) (by kernel_rfl) (by kernel_rfl) (fun _ _ _ h => h) (Or.inl ⟨wanted_plain rfl, ?_⟩) (by assumption) ?_
        rotate_left
        · (intro w hSw; (try dsimp only at hSw); go_simp; try with_reducible rfl)
        intro act_ hact_; simp only [Act.put, List.setIfInBounds_toArray, List.set_cons_zero, List.set_cons_succ] at hact_; subst hact_
        refine take_op2 (i := 13) (v := ?_) rfl (by kernel_rfl) (by kernel_rfl) (by kernel_rfl) (fun _ _ _ h => h) (Or.inl ⟨wanted_plain rfl, ?_⟩) (by assumption) ?_
        rotate_left
        · (intro w hSw; (try dsimp only at hSw); go_simp; try with_reducible rfl)
        intro act_ hact_; simp only [Act.put, List.setIfInBounds_toArray, List.set_cons_zero, List.set_cons_succ] at hact_; subst hact_
        refine take_op2 (i := 14) (v := ?_) rfl (by kernel_rfl) (by kernel_rfl) (by kernel_rfl) (fun _ _ _ h => h) (Or.inl ⟨wanted_plain rfl, ?_⟩) (by assumption) ?_
        rotate_left
        · (intro w hSw; (try dsimp only at hSw); go_simp; try with_reducible rfl)
        intro act_ hact_; simp only [Act.put, List.setIfInBounds_toArray, List.set_cons_zero, List.set_cons_succ] at hact_; subst hact_
        refine take_op2 (i := 15) (v := ?_) rfl (by kernel_rfl) (by kernel_rfl) (by kernel_rfl) (fun _ _ _ h => h) (Or.inl ⟨wanted_plain rfl, ?_⟩) (by assumption) ?_
        rotate_left
        · (intro w hSw; (try dsimp only at hSw); go_simp; try with_reducible rfl)
        intro act_ hact_; simp only [Act.put, List.setIfInBounds_toArray, List.set_cons_zero, List.set_cons_succ] at hact_; subst hact_
        refine take_op2 (i := 16) (v := ?_) rfl (by kernel_rfl) (by kernel_rfl) (by kernel_rfl) (fun _ _ _ h => h) (Or.inl ⟨wanted_plain rfl, ?_⟩) (by assumption) ?_
        rotate_left
        · (intro w hSw; (try dsimp only at hSw); go_simp; try with_reducible rfl)
        intro act_ hact_; simp only [Act.put, List.setIfInBounds_toArray, List.set_cons_zero, List.set_cons_succ] at hact_; subst hact_
        refine wpAnyH_ready (rs := [12, 17]) (by kernel_rfl) (List.cons_ne_nil _ _) ?_
        refine AllReadyH.cons rfl (fun K hK => ?_) ?_
        · go_simp
          refine hK.out _ _ ?_ (fun hHeld => ?_)
          · exact hHeld
          clear hK K
          refine wpAnyH_ready (rs := [17]) (by kernel_rfl) (List.cons_ne_nil _ _) ?_
          refine AllReadyH.cons rfl (fun K hK => ?_) AllReadyH.nil
          go_simp
          refine hK.out _ _ ?_ (fun hHeld => ?_)
          · exact hHeld
          clear hK K
          refine take_op2 (i := 18) (v := ?_) rfl (by kernel_rfl) (by kernel_rfl) (by kernel_rfl) (fun _ _ _ h => h) (Or.inl ⟨wanted_plain rfl, ?_⟩) (by assumption) ?_
          rotate_left
          · (intro w hSw; (try dsimp only at hSw); go_simp; try with_reducible rfl)
          intro act_ hact_; simp only [Act.put, List.setIfInBounds_toArray, List.set_cons_zero, List.set_cons_succ] at hact_; subst hact_
          refine wpAnyH_ready (rs := [19]) (by kernel_rfl) (List.cons_ne_nil _ _) ?_
          refine AllReadyH.cons rfl (fun K hK => ?_) AllReadyH.nil
          go_simp
          refine hK.out _ _ ?_ (fun hHeld => ?_)
          · exact kb _ _ (kb _ _ hHeld)
          clear hK K
          refine take_op2 (i := 20) (v := ?_) rfl (by kernel_rfl) (by kernel_rfl) (by kernel_rfl) (fun _ _ _ h => h) (Or.inl ⟨wanted_plain rfl, ?_⟩) (by assumption) ?_
          rotate_left
          · (intro w hSw; (try dsimp only at hSw); go_simp; try with_reducible rfl)
          intro act_ hact_; simp only [Act.put, List.setIfInBounds_toArray, List.set_cons_zero, List.set_cons_succ] at hact_; subst hact_
          refine wpAnyH_ready (rs := [21]) (by kernel_rfl) (List.cons_ne_nil _ _) ?_
          refine AllReadyH.cons rfl (fun K hK => ?_) AllReadyH.nil
          go_simp
          refine hK.out _ _ ?_ (fun hHeld => ?_)
          · exact kb _ _ (kb _ _ hHeld)
          clear hK K
          refine wpAnyH_done (by kernel_rfl) ?_ _
          go_wp2_with fail
          go_roundw
          case rel => exact ⟨k, p', (nb, yb) :: t, HK.out.symm, by have := HJN.out; have := HJ.out; omega, by first | rfl | go_num, HE, Lib.hid (OutC.swap ((PO2.out.on ((Below.refl _ _).drew))) HK.out HJ.out.symm HXB.out HAI.out), Lib.hid (((((PB2.out.drew).setCell (p := ⟨g5, J * 2, none⟩) HGB.out _).setCell (p := ⟨g5, J * 2 + 1, none⟩) HGB.out _).setCell (p := ⟨g5, k * 2, none⟩) HGB.out _).setCell (p := ⟨g5, k * 2 + 1, none⟩) HGB.out _)⟩
          case measure => first | (simp [intOf]; have := HJ.out; omega) | (simp [intOf]; done)
        refine AllReadyH.cons rfl (fun K hK => ?_) ?_
        · go_simp
          refine hK.out _ _ ?_ (fun hHeld => ?_)
          · exact hHeld
          clear hK K
          refine wpAnyH_ready (rs := [12]) (by kernel_rfl) (List.cons_ne_nil _ _) ?_
          refine AllReadyH.cons rfl (fun K hK => ?_) AllReadyH.nil
          go_simp
          refine hK.out _ _ ?_ (fun hHeld => ?_)
          · exact hHeld
          clear hK K
          refine take_op2 (i := 18) (v := ?_) rfl (by kernel_rfl) (by kernel_rfl) (by kernel_rfl) (fun _ _ _ h => h) (Or.inl ⟨wanted_plain rfl, ?_⟩) (by assumption) ?_
          rotate_left
          · (intro w hSw; (try dsimp only at hSw); go_simp; try with_reducible rfl)
          intro act_ hact_; simp only [Act.put, List.setIfInBounds_toArray, List.set_cons_zero, List.set_cons_succ] at hact_; subst hact_
          refine wpAnyH_ready (rs := [19]) (by kernel_rfl) (List.cons_ne_nil _ _) ?_
          refine AllReadyH.cons rfl (fun K hK => ?_) AllReadyH.nil
          go_simp
          refine hK.out _ _ ?_ (fun hHeld => ?_)
          · exact kb _ _ (kb _ _ hHeld)
          clear hK K
          refine take_op2 (i := 20) (v := ?_) rfl (by kernel_rfl) (by kernel_rfl) (by kernel_rfl) (fun _ _ _ h => h) (Or.inl ⟨wanted_plain rfl, ?_⟩) (by assumption) ?_
          rotate_left
          · (intro w hSw; (try dsimp only at hSw); go_simp; try with_reducible rfl)
          intro act_ hact_; simp only [Act.put, List.setIfInBounds_toArray, List.set_cons_zero, List.set_cons_succ] at hact_; subst hact_
          refine wpAnyH_ready (rs := [21]) (by kernel_rfl) (List.cons_ne_nil _ _) ?_
          refine AllReadyH.cons rfl (fun K hK => ?_) AllReadyH.nil
          go_simp
          refine hK.out _ _ ?_ (fun hHeld => ?_)
          · exact kb _ _ (kb _ _ hHeld)
          clear hK K
          refine wpAnyH_done (by kernel_rfl) ?_ _
          go_wp2_with fail
          go_roundw
          case rel => exact ⟨k, p', (nb, yb) :: t, HK.out.symm, by have := HJN.out; have := HJ.out; omega, by first | rfl | go_num, HE, Lib.hid (OutC.swap ((PO2.out.on ((Below.refl _ _).drew))) HK.out HJ.out.symm HXB.out HAI.out), Lib.hid (((((PB2.out.drew).setCell (p := ⟨g5, J * 2, none⟩) HGB.out _).setCell (p := ⟨g5, J * 2 + 1, none⟩) HGB.out _).setCell (p := ⟨g5, k * 2, none⟩) HGB.out _).setCell (p := ⟨g5, k * 2 + 1, none⟩) HGB.out _)⟩
          case measure => first | (simp [intOf]; have := HJ.out; omega) | (simp [intOf]; done)
        exact AllReadyH.nil
        | false =>
        have hlt3 : Go.Op.bytesLess s.toList nb.toList = false := hlt2
        have HV := Lib.hid (HEN.out hlt2)
        clear HEY HEN hlt2 HPO hgb fa0 fa1 fb0 fb1
        go_wp2_with fail
        go_quiet (fail)
        have PB2 := Lib.hid (Go.below_drewN PB.out nq)
        have PO2 := Lib.hid (PO.out.on (Go.below_drewN (Below.refl _ _) nq))
        clear x1 ca0 ca1 cb0 cb1
        generalize U.drewN nq = U2 at PB2 PO2 ⊢
        have x1 := PO2.out.x1
        have x0 : U2.cell? ⟨v2.heap.size, 0, none⟩ = some (.int .u8 mi) := by rw [HMI.out]; exact PO2.out.x0
        have F0 := Lib.hid ((PB2.out.block (w.heap.size + 1) (by have := WSH.out; omega)).trans P1.out)
        obtain ⟨hl, hb3⟩ := retL16 F0.out (thn16 BB.out PB2.out) (by omega : w.heap.size ≤ w.heap.size + 1) mi (some ⟨g5, 0, none⟩) NN c5
        have HB3 := Lib.hid hb3
        have OR0 := Lib.hid (show NN = R.length ∧ (U2.setCells (w.heap.size + 1) 0 [.int .u8 mi, .slice (some ⟨g5, 0, none⟩) NN c5]).ownsRow w.heap.size 51 2 (.slice (some ⟨g5, 0, none⟩) NN c5) NN (rowC encC R) from by
          obtain ⟨q', c', hq'⟩ := PO2.out.form
          injection hq' with h1 h2 h3
          rw [HV.out]
          refine ⟨h2, owns_low16 (owns_same16 (show U2.ownsRow v1.heap.size 51 2 (.slice (some ⟨g5, 0, none⟩) NN c5) NN _ from by have := PO2.out.row; rw [← h2] at this; exact this) (fun g cs fz hB hg => (heap_setCells16 U2 _ _ (by have := WSH.out; have := B1.out.size; omega) _ _).trans hg)) (by have := WSH.out; have := B1.out.size; omega)⟩)
        have HNR := Lib.hid OR0.out.1
        have OR := Lib.hid OR0.out.2
        clear hb3
        go_wp2_with ((with_reducible show wpList _ _ _ (⟨none, .store 24 (.tmp 6) (.tmp 68), _, _, _, _⟩ :: _) _ _)
                     refine wpList_store_mid rfl 24 (.tmp 6) (.tmp 68) rfl (w.heap.size + 1) 0 #[.int .u8 mi, .slice (some ⟨g5, 0, none⟩) NN c5] rfl rfl (there16 F0.out) HIN.out (one16 _ _ _ _) ?_
                     show wpList _ _ _ _ _ (U2.setCells (w.heap.size + 1) 0 [.int .u8 mi, .slice (some ⟨g5, 0, none⟩) NN c5])
                     generalize U2.setCells (w.heap.size + 1) 0 [.int .u8 mi, .slice (some ⟨g5, 0, none⟩) NN c5] = w3 at hl HB3 OR ⊢)
        (try simp only [Exit.inBlock, Exit.then])
        refine bodyPost_ret (v := .agg #[.int .u8 mi, .slice (some ⟨g5, 0, none⟩) NN c5]) (results_one16 Tryz.results27 ?_ hl) rfl ⟨_, NN, c5, rfl, HNR.out, OR.out, HB3.out⟩
        rfl
theorem refPut16 (m : Nat) (q : Option Addr) (n cap : Nat) (L : List Cl) (s : ByteArray) (a : Nat) (w : World) (hl : L.length = n) (hn : n ≤ 1000000) (ha : ∀ c ∈ L, c.2 < 4294967296) (h : LsAt w q L) : Calls Tryz.prog 27 #[lsV m q n cap, .string s, .int .u32 (a : Nat)] w fun e w' => OldL w w' e m (putK knownR m L s a) := by
  unfold putK
  cases hm : mayR knownR m L with
  | false => rw [if_neg Bool.noConfusion]; exact refPut_no m q n cap L s a w hl hn ha h hm
  | true => rw [if_pos rfl]; exact (refPut_yes m q n cap L s a w hl hn ha h hm).mono fun e w' h => h.old
end Go.Proofs.YtickkaeaaemakaaGreatDoor
