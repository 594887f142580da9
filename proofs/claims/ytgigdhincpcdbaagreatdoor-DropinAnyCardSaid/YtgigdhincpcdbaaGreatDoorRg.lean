/- What the landed refusal and Merge return, and what all of dropin's calls return. Conditions: the library's two tables lie in their variables; files that lie in memory, at most 1,000,000 bytes each, at most 1000. -/
import Derived.Test.YtgigdhincpcdbaaGreatDoorRf
import Derived.Test.YtgigdhincpcdbaaGreatDoorXe
namespace Go.Proofs.YtgigdhincpcdbaaGreatDoor
open Go.RowKit
set_option linter.unusedVariables false
set_option linter.unusedSimpArgs false
attribute [local go_sem ↓] Go.wp_at_zero Go.wp_at_succ

theorem row_thereN {V : World} {g : Nat} (h : V.heap[g]? = some (.cells #[.string ⟨#[]⟩, .int .i64 0, .int .i64 0, .string ⟨#[]⟩] 47 (0, 0))) : V.there g 0 4 := fun j hj => by
  refine ⟨?_, frozen_of_row _ _ _ _ _ h⟩
  rw [cell_of_row _ _ (0 + j) _ _ (0, 0) h]
  match j, hj with
  | 0, _ => rfl
  | 1, _ => rfl
  | 2, _ => rfl
  | 3, _ => rfl
  | j + 4, hj => omega
theorem retN {w V : World} {g : Nat} (h : V.heap[g]? = some (.cells #[.string ⟨#[]⟩, .int .i64 0, .int .i64 0, .string ⟨#[]⟩] 47 (0, 0))) (hB : Below w.heap.size w V) (hg : w.heap.size ≤ g) (x : ByteArray) (l e : Int) (t : ByteArray) :
    (loadVar 47 ⟨g, 0, none⟩).run Tryz.prog (V.setCells g 0 [.string x, .int .i64 l, .int .i64 e, .string t]) = .ok (.agg #[.string x, .int .i64 l, .int .i64 e, .string t]) (V.setCells g 0 [.string x, .int .i64 l, .int .i64 e, .string t]) ∧ Below w.heap.size w (V.setCells g 0 [.string x, .int .i64 l, .int .i64 e, .string t]) := by
  have hinf : (Tryz.prog.info? 47).map (·.size) = some 4 := by kernel_rfl
  exact ⟨run_loadVar_mid (P := Tryz.prog) _ g 0 47 [.string x, .int .i64 l, .int .i64 e, .string t] _ (World.rangeAt_setCells_same V g 0 [.string x, .int .i64 l, .int .i64 e, .string t] (row_thereN h)) Tryz.underlying47 rfl hinf, below_setCells14 hg _ _ _ hB⟩
set_option maxRecDepth 100000 in
set_option maxHeartbeats 8000000 in
theorem refusal4 (m : Fle) (D : List Fle) (a : Option Addr) (n cap : Nat) (w : World) : Calls Tryz.prog 30 #[.agg #[.string m.name, .int .i64 m.dir, .slice m.ptr m.len m.cap], .slice a n cap, .int .i64 4] w fun e w' =>
    e = .returned (.agg #[.string m.name, .int .i64 0, .int .i64 4, .string ⟨#[]⟩]) ∧ Below w.heap.size w w' := by
  have hinf : (Tryz.prog.info? 47).map (·.size) = some 4 := by kernel_rfl
  have HIN := Lib.hid hinf
  obtain ⟨W0, hW0⟩ : ∃ W0, W0 = ((w.alloc (.cells #[.string m.name, .int .i64 m.dir, .slice m.ptr m.len m.cap] 24)).alloc (.cells #[.string ⟨#[]⟩, .int .i64 0, .int .i64 0, .string ⟨#[]⟩] 47)).alloc (.cells #[.string m.name, .int .i64 0, .int .i64 4, .string ⟨#[]⟩] 47) := ⟨_, rfl⟩
  have HRC := Lib.hid (show W0.heap[w.heap.size + 1]? = some (.cells #[.string ⟨#[]⟩, .int .i64 0, .int .i64 0, .string ⟨#[]⟩] 47 (0, 0)) from (by
    have h1 := heap_alloc_new (w.alloc (.cells #[.string m.name, .int .i64 m.dir, .slice m.ptr m.len m.cap] 24)) (.cells #[.string ⟨#[]⟩, .int .i64 0, .int .i64 0, .string ⟨#[]⟩] 47)
    rw [World.size_alloc] at h1
    rw [hW0]; exact (Below.heap_alloc ((w.alloc (.cells #[.string m.name, .int .i64 m.dir, .slice m.ptr m.len m.cap] 24)).alloc (.cells #[.string ⟨#[]⟩, .int .i64 0, .int .i64 0, .string ⟨#[]⟩] 47)) _ (w.heap.size + 1) (by rw [World.size_alloc, World.size_alloc]; exact Nat.lt_succ_self _)).trans h1))
  have HNB := Lib.hid (show W0.heap[w.heap.size + 2]? = some (.cells #[.string m.name, .int .i64 0, .int .i64 4, .string ⟨#[]⟩] 47 (0, 0)) from (by
    have h1 := heap_alloc_new ((w.alloc (.cells #[.string m.name, .int .i64 m.dir, .slice m.ptr m.len m.cap] 24)).alloc (.cells #[.string ⟨#[]⟩, .int .i64 0, .int .i64 0, .string ⟨#[]⟩] 47)) (.cells #[.string m.name, .int .i64 0, .int .i64 4, .string ⟨#[]⟩] 47)
    rw [World.size_alloc, World.size_alloc] at h1
    rw [hW0]; exact h1))
  have HB0 := Lib.hid (show Below w.heap.size w W0 from (by rw [hW0]; exact (((Below.refl w.heap.size w).alloc (Nat.le_refl _) _).alloc (by rw [World.size_alloc]; exact Nat.le_succ _) _).alloc (by rw [World.size_alloc, World.size_alloc]; omega) _))
  have HS0 := Lib.hid (show W0.heap.size = w.heap.size + 3 from (by rw [hW0, World.size_alloc, World.size_alloc, World.size_alloc]))
  have HW0 := Lib.hid hW0
  clear hinf hW0
  go_enter Tryz.func30, Tryz.ntmps30
  go_wp2_with (first
    | ((with_reducible show wpList _ _ _ (⟨none, .store 47 (.tmp 6) (.tmp 27), _, _, _, _⟩ :: _) _ _)
       rw [← HW0.out]
       obtain ⟨hld, hb3⟩ := retN HRC.out HB0.out (Nat.le_succ _) m.name 0 4 ⟨#[]⟩
       refine wpList_store_mid rfl 47 (.tmp 6) (.tmp 27) rfl (w.heap.size + 1) 0 #[.string m.name, .int .i64 0, .int .i64 4, .string ⟨#[]⟩] rfl rfl (row_thereN HRC.out) HIN.out (by kernel_rfl) ?_
       show wpList _ _ _ _ _ (W0.setCells (w.heap.size + 1) 0 [.string m.name, .int .i64 0, .int .i64 4, .string ⟨#[]⟩])
       generalize W0.setCells (w.heap.size + 1) 0 [.string m.name, .int .i64 0, .int .i64 4, .string ⟨#[]⟩] = w3 at hld hb3 ⊢))
  exact bodyPost_ret (v := .agg #[.string m.name, .int .i64 0, .int .i64 4, .string ⟨#[]⟩]) (results_row14 Tryz.results30 rfl hld) rfl ⟨rfl, hb3⟩
set_option maxRecDepth 100000 in
set_option maxHeartbeats 8000000 in
theorem refusal140 (m : Fle) (D : List Fle) (a : Option Addr) (n cap : Nat) (w : World) (h : FsAt w a n cap D) (hn : n ≤ 1000) (hbad : badN D n = true) : Calls Tryz.prog 30 #[.agg #[.string m.name, .int .i64 m.dir, .slice m.ptr m.len m.cap], .slice a n cap, .int .i64 140] w fun e w' =>
    e = .returned (.agg #[.string m.name, .int .i64 0, .int .i64 140, .string (badT D)]) ∧ Below w.heap.size w w' := by
  obtain ⟨K, hK, h1, h2⟩ := first_bad hbad
  have HW := Lib.hid (fun (W : World) (b : Below w.heap.size w W) => (wrong14 D a n cap K W (h.on b) hn (by omega) h1 (fun _ => h2)))
  rw [idxR_yes hK] at HW
  have HBT := Lib.hid (badT_at (D := D) (k := K) (by rw [h.len]; exact hK) h1 h2)
  obtain ⟨g, o, rfl, c0, _, _, hfl⟩ := h.at hK
  have HC0 := Lib.hid (fun (W : World) (b : Below w.heap.size w W) => (b.cell (World.block_lt_of_cell? w _ c0)).trans c0)
  have k0 : (0 : Int) ≤ (K : Int) := by omega
  have k1 : (K : Int) < (n : Int) := by omega
  obtain ⟨nm, hnm⟩ : ∃ x, x = (D.getD K f0).name := ⟨_, rfl⟩
  have hns := hfl.nm
  rw [← hnm] at HC0 HBT hns
  obtain ⟨t, ht⟩ : ∃ t : Nat, t = min nm.size 60 := ⟨_, rfl⟩
  have htx : badT D = nm.extract 0 t := by
    rw [HBT.out]
    have h3 := ext_bs nm 0 t
    rw [h3, ht]
    congr 1
    have h4 : nm.data.toList.length = nm.size := size_len14 nm
    show nm.data.toList.take 60 = (nm.data.toList.take (min nm.size 60)).drop 0
    rw [List.drop_zero, ← h4]
    by_cases h5 : nm.data.toList.length ≤ 60
    · rw [Nat.min_eq_left h5, List.take_of_length_le h5, List.take_length]
    · rw [Nat.min_eq_right (by omega)]
  have hmn : min (nm.size : Int) 60 = (t : Int) := by omega
  have t0 : (0 : Int) ≤ (t : Int) := by omega
  have t1 : (t : Int) ≤ nm.size := by omega
  obtain ⟨T, hT⟩ : ∃ T, T = badT D := ⟨_, rfl⟩
  rw [← hT] at htx ⊢
  have HTX := Lib.hid htx
  have HT1 := Lib.hid (And.intro ht hns)
  clear hbad hK h1 h2 h hn c0 hfl hnm hns ht htx hT
  have hinf : (Tryz.prog.info? 47).map (·.size) = some 4 := by kernel_rfl
  have HIN := Lib.hid hinf
  obtain ⟨W0, hW0⟩ : ∃ W0, W0 = ((w.alloc (.cells #[.string m.name, .int .i64 m.dir, .slice m.ptr m.len m.cap] 24)).alloc (.cells #[.string ⟨#[]⟩, .int .i64 0, .int .i64 0, .string ⟨#[]⟩] 47)).alloc (.cells #[.string m.name, .int .i64 0, .int .i64 140, .string ⟨#[]⟩] 47) := ⟨_, rfl⟩
  have HRC := Lib.hid (show W0.heap[w.heap.size + 1]? = some (.cells #[.string ⟨#[]⟩, .int .i64 0, .int .i64 0, .string ⟨#[]⟩] 47 (0, 0)) from (by
    have h1 := heap_alloc_new (w.alloc (.cells #[.string m.name, .int .i64 m.dir, .slice m.ptr m.len m.cap] 24)) (.cells #[.string ⟨#[]⟩, .int .i64 0, .int .i64 0, .string ⟨#[]⟩] 47)
    rw [World.size_alloc] at h1
    rw [hW0]; exact (Below.heap_alloc ((w.alloc (.cells #[.string m.name, .int .i64 m.dir, .slice m.ptr m.len m.cap] 24)).alloc (.cells #[.string ⟨#[]⟩, .int .i64 0, .int .i64 0, .string ⟨#[]⟩] 47)) _ (w.heap.size + 1) (by rw [World.size_alloc, World.size_alloc]; exact Nat.lt_succ_self _)).trans h1))
  have HNB := Lib.hid (show W0.heap[w.heap.size + 2]? = some (.cells #[.string m.name, .int .i64 0, .int .i64 140, .string ⟨#[]⟩] 47 (0, 0)) from (by
    have h1 := heap_alloc_new ((w.alloc (.cells #[.string m.name, .int .i64 m.dir, .slice m.ptr m.len m.cap] 24)).alloc (.cells #[.string ⟨#[]⟩, .int .i64 0, .int .i64 0, .string ⟨#[]⟩] 47)) (.cells #[.string m.name, .int .i64 0, .int .i64 140, .string ⟨#[]⟩] 47)
    rw [World.size_alloc, World.size_alloc] at h1
    rw [hW0]; exact h1))
  have HB0 := Lib.hid (show Below w.heap.size w W0 from (by rw [hW0]; exact (((Below.refl w.heap.size w).alloc (Nat.le_refl _) _).alloc (by rw [World.size_alloc]; exact Nat.le_succ _) _).alloc (by rw [World.size_alloc, World.size_alloc]; omega) _))
  have HS0 := Lib.hid (show W0.heap.size = w.heap.size + 3 from (by rw [hW0, World.size_alloc, World.size_alloc, World.size_alloc]))
  have HW0 := Lib.hid hW0
  clear hinf hW0
  go_enter Tryz.func30, Tryz.ntmps30
  go_wp2_with (first
    | (go_at_call 22
       rw [← HW0.out]
       with_reducible refine (HW.out _ HB0.out).mono ?_
       rintro e W1 ⟨rfl, b1⟩
       have d0 := HC0.out W1 (HB0.out.trans (b1.mono HB0.out.size))
       have hx := (b1.block (w.heap.size + 2) (by rw [HS0.out]; omega)).trans HNB.out
       have x0 := (cell_of_row W1 (w.heap.size + 2) 0 _ _ (0, 0) hx).trans (show _ = some (Value.string m.name) from rfl)
       have x1 := (cell_of_row W1 (w.heap.size + 2) 1 _ _ (0, 0) hx).trans (show _ = some (Value.int .i64 0) from rfl)
       have x2 := (cell_of_row W1 (w.heap.size + 2) 2 _ _ (0, 0) hx).trans (show _ = some (Value.int .i64 140) from rfl)
       have x3 := (cell_of_row W1 (w.heap.size + 2) 3 _ _ (0, 0) hx).trans (show _ = some (Value.string ⟨#[]⟩) from rfl)
       have x4 := frozen_of_row W1 (w.heap.size + 2) 3 _ _ hx
       have HX1 := Lib.hid ((b1.block (w.heap.size + 1) (by rw [HS0.out]; omega)).trans HRC.out)
       have B1 := Lib.hid (HB0.out.trans (b1.mono HB0.out.size))
       clear b1 hx)
    | ((with_reducible show wpList _ _ _ (⟨none, .store 47 (.tmp 6) (.tmp 27), _, _, _, _⟩ :: _) _ _)
       have HR2 := Lib.hid (show (W1.setCell ⟨w.heap.size + 2, 3, none⟩ (.string (nm.extract 0 t))).heap[w.heap.size + 1]? = some (.cells #[.string ⟨#[]⟩, .int .i64 0, .int .i64 0, .string ⟨#[]⟩] 47 (0, 0)) from (RowKit.Below.heap_setCell _ _ _ _ (by show w.heap.size + 1 ≠ w.heap.size + 2; omega)).trans HX1.out)
       obtain ⟨hld, hb3⟩ := retN HR2.out (B1.out.setCell (p := ⟨w.heap.size + 2, 3, none⟩) (Nat.le_add_right _ _) _) (Nat.le_succ _) m.name 0 140 (nm.extract 0 t)
       refine wpList_store_mid rfl 47 (.tmp 6) (.tmp 27) rfl (w.heap.size + 1) 0 #[.string m.name, .int .i64 0, .int .i64 140, .string (nm.extract 0 t)] rfl rfl (row_thereN HR2.out) HIN.out (by kernel_rfl) ?_
       show wpList _ _ _ _ _ ((W1.setCell ⟨w.heap.size + 2, 3, none⟩ (.string (nm.extract 0 t))).setCells (w.heap.size + 1) 0 [.string m.name, .int .i64 0, .int .i64 140, .string (nm.extract 0 t)])
       generalize (W1.setCell ⟨w.heap.size + 2, 3, none⟩ (.string (nm.extract 0 t))).setCells (w.heap.size + 1) 0 [.string m.name, .int .i64 0, .int .i64 140, .string (nm.extract 0 t)] = w3 at hld hb3 ⊢))
  exact bodyPost_ret (v := .agg #[.string m.name, .int .i64 0, .int .i64 140, .string (nm.extract 0 t)]) (results_row14 Tryz.results30 rfl hld) rfl ⟨by rw [HTX.out], hb3⟩
/-! ### Merge -/
set_option maxRecDepth 100000 in
set_option maxHeartbeats 16000000 in
theorem mergeL_no (m : Fle) (D : List Fle) (a : Option Addr) (n cap : Nat) (w : World) (hG : G12 w) (hm : FleAt w.heap.size w m) (h : FsAt w a n cap D) (hb : ∀ f ∈ m :: D, f.len ≤ 1000000 ∧ f.name.size ≤ 1000000) (hn : n ≤ 1000) (E : Int) (hE : ordE D = E) (hE0 : E ≠ 0) (T : ByteArray) (hN : mrgN m D = [⟨m.name, 0, E, T⟩]) (hR : ∀ W : World, Below w.heap.size w W → Calls Tryz.prog 30 #[.agg #[.string m.name, .int .i64 m.dir, .slice m.ptr m.len m.cap], .slice a n cap, .int .i64 E] W fun e w' => e = .returned (.agg #[.string m.name, .int .i64 0, .int .i64 E, .string T]) ∧ Below W.heap.size W w') : Calls Tryz.prog 16 #[.agg #[.string m.name, .int .i64 m.dir, .slice m.ptr m.len m.cap], .slice a n cap] w fun e w' =>
    ∃ va vn, e = .returned (.tuple #[va, vn]) ∧ RowsAt 5 encA w' va (mrgA m D) ∧ RowsAt 4 encN w' vn (mrgN m D) ∧ Below w.heap.size w w' := by
  have HO := Lib.hid (fun (W : World) (b : Below w.heap.size w W) => order14 m D a n cap W (hm.on b) (h.on b) hb hn)
  rw [hE] at HO
  have hA : mrgA m D = [] := by unfold mrgA; rw [hE, if_neg (fun h => hE0 h.1)]
  rw [hA, hN]
  have HR := Lib.hid hR
  have t1 : (E != 0) = true := by rw [bne_iff_ne]; exact hE0
  have B0 := Lib.hid ((Below.refl w.heap.size w).alloc (Nat.le_refl _) (.cells #[.string m.name, .int .i64 m.dir, .slice m.ptr m.len m.cap] 24))
  have HBX := Lib.hid (heap_alloc_new w (.cells #[.string m.name, .int .i64 m.dir, .slice m.ptr m.len m.cap] 24))
  clear hG hm h hb hn hE hE0 hN hR hA
  go_enter Tryz.func16, Tryz.ntmps16
  go_wp2_with (first
    | (go_at_call 10
       with_reducible refine (HO.out _ B0.out).mono ?_
       rintro e W1 ⟨v, L, rfl, _, _, b1⟩
       have hx := (b1.block w.heap.size (by rw [World.size_alloc]; exact Nat.lt_succ_self _)).trans HBX.out
       have x0 := (cell_of_row W1 w.heap.size 0 _ _ (0, 0) hx).trans (show _ = some (Value.string m.name) from rfl)
       have x1 := (cell_of_row W1 w.heap.size 1 _ _ (0, 0) hx).trans (show _ = some (Value.int .i64 m.dir) from rfl)
       have x2 := (cell_of_row W1 w.heap.size 2 _ _ (0, 0) hx).trans (show _ = some (Value.slice m.ptr m.len m.cap) from rfl)
       have B1 := Lib.hid (thn13 B0.out b1)
       clear b1 hx)
    | (go_at_call 30
       with_reducible refine (HR.out _ B1.out).mono ?_
       rintro e W2 ⟨rfl, b2⟩
       have B2 := Lib.hid (thn13 B1.out b2)
       clear b2))
  go_ret2
  exact ⟨_, _, rfl, RowsAt.nil _, rows_lit encN_len W2 [⟨m.name, 0, E, T⟩] 47, B2.out.alloc B2.out.size _⟩
theorem fle_lens {m : Fle} {D L : List Fle} {w W : World} {a : Option Addr} {n cap : Nat} (hm : FleAt w.heap.size w m) (h : FsAt w a n cap D) (hb : ∀ f ∈ m :: D, f.len ≤ 1000000 ∧ f.name.size ≤ 1000000) (hL : L.map Fle.fil = (ordL m D).map Fle.fil) {f : Fle} (hf : f ∈ L) (hfl : f.bytes.length = f.len) : f.len ≤ 1000000 := by
  have h1 : f.fil ∈ (ordL m D).map Fle.fil := by rw [← hL]; exact List.mem_map_of_mem hf
  obtain ⟨x, hx, he⟩ := List.mem_map.1 h1
  have hx2 := ordL_mem hx
  have hxl : x.bytes.length = x.len := by
    rcases List.mem_cons.1 hx2 with e | e
    · rw [e]; exact hm.len
    · exact (h.each x e).len
  have hxb := (hb x hx2).1
  obtain ⟨_, _, e3⟩ := fil_parts he
  rw [← hfl, ← e3, hxl]; exact hxb
set_option maxRecDepth 100000 in
set_option maxHeartbeats 64000000 in
theorem mergeL_go (m : Fle) (D : List Fle) (a : Option Addr) (n cap : Nat) (w : World) (hG : G12 w) (hm : FleAt w.heap.size w m) (h : FsAt w a n cap D) (hb : ∀ f ∈ m :: D, f.len ≤ 1000000 ∧ f.name.size ≤ 1000000) (hn : n ≤ 1000) (hE : ordE D = 0) : Calls Tryz.prog 16 #[.agg #[.string m.name, .int .i64 m.dir, .slice m.ptr m.len m.cap], .slice a n cap] w fun e w' =>
    ∃ va vn, e = .returned (.tuple #[va, vn]) ∧ RowsAt 5 encA w' va (mrgA m D) ∧ RowsAt 4 encN w' vn (mrgN m D) ∧ Below w.heap.size w w' := by
  have HO := Lib.hid (fun (W : World) (b : Below w.heap.size w W) => order14 m D a n cap W (hm.on b) (h.on b) hb hn)
  rw [hE] at HO
  have HLE := Lib.hid (fun (L : List Fle) (hL : L.map Fle.fil = (ordL m D).map Fle.fil) (f : Fle) (hf : f ∈ L) (hfl : f.bytes.length = f.len) => fle_lens (W := w) hm h hb hL hf hfl)
  have HG := Lib.hid (fun (W : World) (b : Below w.heap.size w W) => G12_on hG b)
  have hln := ordL_length m D
  have e1 : mrgN m D = (ordL m D).flatMap (fun f => filN f.name f.bytes) := by unfold mrgN; rw [if_pos hE]
  have e2 : mrgA m D = pickA ((ordL m D).flatMap (fun f => filN f.name f.bytes)) ((ordL m D).flatMap (fun f => filA f.name f.bytes)) := by
    unfold mrgA pickA
    rw [e1, hE]
    by_cases h0 : (ordL m D).flatMap (fun f => filN f.name f.bytes) = []
    · rw [if_pos ⟨rfl, h0⟩, if_pos h0]
    · rw [if_neg (fun h => h0 h.2), if_neg h0]
  rw [e1, e2]
  have HPN := Lib.hid (fun (W : World) (g : G12 W) (fn : ByteArray) (dir : Int) (a0 : Option Addr) (n cap : Nat) (l : List UInt8) (hl : l.length = n) (hn : n ≤ 140737488355328) (hr : RdB W W.heap.size a0 l) => parse_new fn dir a0 n cap l W g hl hn hr)
  have B0 := Lib.hid ((Below.refl w.heap.size w).alloc (Nat.le_refl _) (.cells #[.string m.name, .int .i64 m.dir, .slice m.ptr m.len m.cap] 24))
  obtain ⟨FA, hFA⟩ : ∃ F : Fle → List Asn, F = fun f => filA f.name f.bytes := ⟨_, rfl⟩
  obtain ⟨FN, hFN⟩ : ∃ F : Fle → List Nte, F = fun f => filN f.name f.bytes := ⟨_, rfl⟩
  have HFL := Lib.hid (fun (L : List Fle) (hL : L.map Fle.fil = (ordL m D).map Fle.fil) => (show L.flatMap FA = (ordL m D).flatMap FA ∧ L.flatMap FN = (ordL m D).flatMap FN ∧ L.length ≤ 17 from ⟨by rw [hFA]; exact flat_fil filA hL, by rw [hFN]; exact flat_fil filN hL, by rw [fil_len hL]; exact hln⟩))
  have HFA := Lib.hid (show ∀ f : Fle, filA f.name f.bytes = FA f from fun f => by rw [hFA])
  have HFN := Lib.hid (show ∀ f : Fle, filN f.name f.bytes = FN f from fun f => by rw [hFN])
  have LA0 := Lib.hid (fun (L : List Fle) (hL : L.length ≤ 17) k => (show ((L.take k).flatMap FA).length ≤ 17000 from Nat.le_trans (flat_len FA (fun f => by rw [hFA]; exact filA_len _ _) _) (by rw [List.length_take]; omega)))
  have LN0 := Lib.hid (fun (L : List Fle) (hL : L.length ≤ 17) k => (show ((L.take k).flatMap FN).length ≤ 17000 from Nat.le_trans (flat_len FN (fun f => by rw [hFN]; exact filN_len _ _) _) (by rw [List.length_take]; omega)))
  rw [← hFA, ← hFN]
  obtain ⟨OL, hOL⟩ : ∃ L, L = ordL m D := ⟨_, rfl⟩
  rw [← hOL] at HO HLE HFL ⊢
  obtain ⟨i0, hi0, hz0, hz1, hz2⟩ := info_parts asn_info
  have HI := Lib.hid hi0
  have HZ0 := Lib.hid hz0
  have HZ1 := Lib.hid hz1
  have HZ2 := Lib.hid hz2
  obtain ⟨j0, hj0, hy0, hy1, hy2⟩ := info_parts nte_info
  have JI := Lib.hid hj0
  have JZ0 := Lib.hid hy0
  have JZ1 := Lib.hid hy1
  have JZ2 := Lib.hid hy2
  clear hG h hm hb hn hE e1 e2 hln hOL hFA hFN hi0 hz0 hz1 hz2 hj0 hy0 hy1 hy2
  go_enter Tryz.func16, Tryz.ntmps16
  go_wp2_with (first
    | (go_at_call 10
       with_reducible refine (HO.out _ B0.out).mono ?_
       rintro e W ⟨v, L, rfl, nf, hfil, b1⟩
       have B1 := Lib.hid (thn13 B0.out b1)
       obtain ⟨q, c, rfl, fs⟩ := nf.fs
       have HFS := Lib.hid fs
       obtain ⟨ff1, ff2, ff3⟩ := HFL.out L hfil
       have HF1 := Lib.hid ff1.symm
       have HF2 := Lib.hid ff2.symm
       have HLF := Lib.hid (HLE.out L hfil)
       have LA := Lib.hid (LA0.out L ff3)
       have LN := Lib.hid (LN0.out L ff3)
       have HL17 := Lib.hid ff3
       clear b1 nf hfil fs ff1 ff2 ff3))
  clear HO HFL HLE LA0 LN0
  obtain ⟨N, hN⟩ : ∃ N, N = L.length := ⟨_, rfl⟩
  have HN := Lib.hid hN
  rw [← hN] at HFS HL17
  rw [← hN]
  have HBS := Lib.hid HFS.out.base
  clear hN
  go_loopw [8, 9, 29] (fun v8 v9 v29 wr => ∃ k : Nat, k ≤ N ∧ v29 = .int .i64 k ∧ Hid (OutA W.heap.size wr v8 ((L.take k).flatMap FA)) ∧ Hid (OutN W.heap.size wr v9 ((L.take k).flatMap FN)) ∧ Hid (Below W.heap.size W wr)) (fun _ _ v29 _ => N - (intOf v29).toNat)
  case atStart => exact ⟨0, Nat.zero_le _, rfl, Lib.hid (World.ownsRow_nil _ _ _ _), Lib.hid (World.ownsRow_nil _ _ _ _), Lib.hid (Below.refl _ _)⟩
  case round =>
    obtain ⟨k, hk, rfl, PA, PN, PB⟩ := hrel
    obtain ⟨V, rfl⟩ : ∃ wo : World, wo = wr := ⟨_, rfl⟩
    by_cases hlt : k < N
    · have hx : L[k]? = some (L[k]'(by rw [← HN.out]; exact hlt)) := List.getElem?_eq_getElem _
      obtain ⟨g, o, rfl, d0, d1, d2, hat⟩ := HFS.out.at hlt
      have hgd : L.getD k f0 = L[k]'(by rw [← HN.out]; exact hlt) := by rw [List.getD_eq_getElem?_getD, hx]; rfl
      rw [hgd] at d0 d1 d2 hat
      obtain ⟨f, hf⟩ : ∃ f, f = L[k]'(by rw [← HN.out]; exact hlt) := ⟨_, rfl⟩
      rw [← hf] at hx d0 d1 d2 hat
      have x0 := (PB.out.cell (World.block_lt_of_cell? W _ d0)).trans d0
      have x1 := (PB.out.cell (World.block_lt_of_cell? W _ d1)).trans d1
      have x2 := (PB.out.cell (World.block_lt_of_cell? W _ d2)).trans d2
      have k1 : (k : Int) < N := by omega
      have k0 : (0 : Int) ≤ k := by omega
      have hw1 : IntKind.i64.wrap ((k : Int) + 1) = k + 1 := by have := HL17.out; rw [IntKind.wrap_i64]; omega
      have hfb := HLF.out f (List.mem_of_getElem? hx) hat.len
      have HP := Lib.hid (fun (X : World) (b : Below W.heap.size W X) => HPN.out X (HG.out X (B1.out.trans (b.mono B1.out.size))) f.name f.dir f.ptr f.len f.cap f.bytes hat.len (by omega) (hat.rd.on b))
      rw [HFA.out f, HFN.out f] at HP
      have HTA := Lib.hid (flat_take FA hx)
      have HTN := Lib.hid (flat_take FN hx)
      have la := LA.out (k + 1)
      have ln := LN.out (k + 1)
      rw [HTA.out, List.length_append] at la
      rw [HTN.out, List.length_append] at ln
      have HLA := Lib.hid la
      have HLN2 := Lib.hid ln
      obtain ⟨TA, hTA⟩ : ∃ T, T = (L.take k).flatMap FA := ⟨_, rfl⟩
      obtain ⟨TN, hTN⟩ : ∃ T, T = (L.take k).flatMap FN := ⟨_, rfl⟩
      rw [← hTA] at PA HTA HLA
      rw [← hTN] at PN HTN HLN2
      obtain ⟨GA, hGA⟩ : ∃ T, T = FA f := ⟨_, rfl⟩
      obtain ⟨GN, hGN⟩ : ∃ T, T = FN f := ⟨_, rfl⟩
      rw [← hGA] at HP HTA HLA
      rw [← hGN] at HP HTN HLN2
      obtain ⟨fn, fd, fp, fl, fc, fb⟩ := f
      simp only at x0 x1 x2
      have HBF := Lib.hid (PB.out.alloc PB.out.size (.cells #[.string fn, .int .i64 fd, .slice fp fl fc] 24))
      clear hx hf hgd d0 d1 d2 hat hfb la ln hTA hTN hGA hGN
      go_wp2_with (first
        | (go_at_call 20
           with_reducible refine (HP.out _ HBF.out).mono ?_
           rintro e X ⟨va, vn, rfl, ra, rn, b2, _, nn⟩
           have hbv : Below V.heap.size V X := (ball V _).trans (b2.mono (by rw [World.size_alloc]; exact Nat.le_succ _))
           have NN := Lib.hid (show NewV V.heap.size vn from fun g e => Nat.le_of_succ_le (by have := nn g e; rwa [World.size_alloc] at this))
           obtain ⟨qa, ca, rfl, _⟩ := id ra
           obtain ⟨qn, cn, rfl, _⟩ := id rn
           have RA := Lib.hid ra
           have RN := Lib.hid rn
           have A2 := Lib.hid (own_on13 PA.out hbv)
           have N2 := Lib.hid (own_on13 PN.out hbv)
           have B2 := Lib.hid (thn13 PB.out hbv)
           clear ra rn b2 nn hbv)
        | (at_builtin
           refine wpList_app_r rfl (.tmp 38) (.tmp 39) 37 rfl W.heap.size 60 i0 _ 5 72 Tryz.underlying37 HI.out HZ0.out HZ1.out HZ2.out rfl (by omega) u8 TA.length (rowC encA TA) rfl A2.out qa GA.length ca (rowC encA GA) rfl (rows_news encA_len (by omega) RA.out).1 (rows_news encA_len (by omega) RA.out).2 (rowC_oneCell encA_one _) (by have := HLA.out; unfold maxLen; omega) (by have := HLA.out; omega) (B2.out.size) ?_
           intro v3 w3 o3 h3
           have O3 := Lib.hid (show OutA W.heap.size w3 v3 (TA ++ GA) from (by unfold OutA; rw [List.length_append, rowC_app]; exact o3))
           have N3 := Lib.hid (own_other N2.out A2.out (by decide) h3)
           have RN3 := Lib.hid (rows_kept RN.out NN.out (fun g hg => (PA.out.lt g hg).2) h3)
           have B3 := Lib.hid (B2.out.grown h3 B2.out.size (fun x e => (A2.out.lt x e).1))
           clear o3 h3)
        | (at_builtin
           refine wpList_app_r rfl (.tmp 41) (.tmp 42) 38 rfl W.heap.size 47 j0 _ 4 48 Tryz.underlying38 JI.out JZ0.out JZ1.out JZ2.out rfl (by omega) u9 TN.length (rowC encN TN) rfl N3.out qn GN.length cn (rowC encN GN) rfl (rows_news encN_len (by omega) RN3.out).1 (rows_news encN_len (by omega) RN3.out).2 (rowC_oneCell encN_one _) (by have := HLN2.out; unfold maxLen; omega) (by have := HLN2.out; omega) (B3.out.size) ?_
           intro v4 w4 o4 h4
           have O4 := Lib.hid (show OutN W.heap.size w4 v4 (TN ++ GN) from (by unfold OutN; rw [List.length_append, rowC_app]; exact o4))
           have A4 := Lib.hid (show OutA W.heap.size w4 v3 (TA ++ GA) from own_other O3.out N3.out (by decide) h4)
           have B4 := Lib.hid (B3.out.grown h4 B3.out.size (fun x e => (N3.out.lt x e).1))
           clear o4 h4))
      go_roundw
      case rel => exact ⟨k + 1, by omega, by go_num, Lib.hid (by rw [HTA.out]; exact A4.out), Lib.hid (by rw [HTN.out]; exact O4.out), B4⟩
      case measure => simp [intOf]; omega
    · obtain rfl : k = N := by omega
      have k1 : ¬ (k : Int) < k := by omega
      have htk : L.take k = L := List.take_of_length_le (by rw [HN.out]; exact Nat.le_refl _)
      rw [htk] at PA PN
      obtain ⟨qa, ca, rfl⟩ := out_form PA.out
      obtain ⟨qn, cn, rfl⟩ := out_form PN.out
      have HA := Lib.hid (rows_own encA_len PA.out)
      have HNT := Lib.hid (rows_own encN_len PN.out)
      have B9 := Lib.hid (thn13 B1.out PB.out)
      obtain ⟨TN, hTN⟩ : ∃ T, T = L.flatMap FN := ⟨_, rfl⟩
      rw [← hTN] at HNT ⊢
      obtain ⟨x, hx⟩ : ∃ x, x = TN.length := ⟨_, rfl⟩
      have HX := Lib.hid hx
      rw [← hx]
      rw [← hx] at HNT
      have HTN := Lib.hid hTN
      obtain ⟨TA, hTA⟩ : ∃ T, T = L.flatMap FA := ⟨_, rfl⟩
      obtain ⟨ya, hya⟩ : ∃ y, y = TA.length := ⟨_, rfl⟩
      have HTA := Lib.hid hTA
      rw [← hTA, ← hya] at HA
      rw [← hTA, ← hya]
      clear htk hTN hx hTA hya
      rename_i Q9 K9 h9
      have H9 := Lib.hid h9
      clear h9 hlt hk
      go_wp2_with fail
      refine H9.out _ _ ?_
      clear H9
      by_cases h0 : x = 0
      · have e0 := Lib.hid (show TN = [] from List.eq_nil_of_length_eq_zero (HX.out.symm.trans h0))
        have x1 : ¬ (0 : Int) < (x : Int) := by omega
        have x2 : ¬ (x : Int) > 0 := x1
        clear h0
        go_wp2_with fail
        go_ret2
        exact ⟨_, _, rfl, by rw [HF2.out, HF1.out, ← HTN.out, pickA_yes e0.out, ← HTA.out]; exact HA.out, by rw [HF2.out, ← HTN.out, e0.out]; exact RowsAt.nil _, B9.out⟩
      · have x1 : (0 : Int) < (x : Int) := by omega
        have x2 : (x : Int) > 0 := x1
        have e0 := Lib.hid (show ¬ TN = [] from fun e => h0 (by rw [HX.out, e]; rfl))
        clear h0
        go_wp2_with fail
        go_ret2
        exact ⟨_, _, rfl, by rw [HF2.out, ← HTN.out, pickA_no e0.out]; exact RowsAt.nil _, by rw [HF2.out, ← HTN.out]; exact HNT.out, B9.out⟩
theorem merge14 (m : Fle) (D : List Fle) (a : Option Addr) (n cap : Nat) (w : World) (hG : G12 w) (hm : FleAt w.heap.size w m) (h : FsAt w a n cap D) (hb : ∀ f ∈ m :: D, f.len ≤ 1000000 ∧ f.name.size ≤ 1000000) (hn : n ≤ 1000) : Calls Tryz.prog 16 #[.agg #[.string m.name, .int .i64 m.dir, .slice m.ptr m.len m.cap], .slice a n cap] w fun e w' =>
    ∃ va vn, e = .returned (.tuple #[va, vn]) ∧ RowsAt 5 encA w' va (mrgA m D) ∧ RowsAt 4 encN w' vn (mrgN m D) ∧ Below w.heap.size w w' := by
  rcases ordE_three D with hE | hE | ⟨hE, h16, hbad⟩
  · exact mergeL_go m D a n cap w hG hm h hb hn hE
  · exact mergeL_no m D a n cap w hG hm h hb hn 4 hE (by decide) ⟨#[]⟩ (by unfold mrgN; rw [hE]; rfl) (fun W b => refusal4 m D a n cap W)
  · exact mergeL_no m D a n cap w hG hm h hb hn 140 hE (by decide) (badT D) (by unfold mrgN; rw [hE]; rfl) (fun W b => refusal140 m D a n cap W (h.on b) hn (by rw [← h.len]; exact hbad))
/-- What dropin's landed calls return. -/
theorem dropinC : DropinC G12 where
  on := fun {w w'} h b => G12_on h b
  may := fun s w _ hs => (may14 s (by unfold maxLen; omega) w).mono fun e w' ⟨h1, h2⟩ => ⟨h1, by rw [← h2]; exact Below.refl _ _⟩
  order := fun m D a n cap w _ hm h hb hn => order14 m D a n cap w hm h hb hn
  merge := fun m D a n cap w hG hm h hb hn => merge14 m D a n cap w hG hm h hb hn
end Go.Proofs.YtgigdhincpcdbaaGreatDoor
