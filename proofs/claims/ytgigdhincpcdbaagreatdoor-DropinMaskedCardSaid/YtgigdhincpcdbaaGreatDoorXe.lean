/- The landed reader takes a line: what it has come to then. Conditions: the library's two tables lie in their variables; a line of at most 2^26 bytes, at most 1000 assignments and notes. What the landed Parse returns of any file, and what all of unit's calls return. Conditions: the library's two tables lie in their variables; a file of at most 2^47 bytes. -/
import Derived.Test.YtgigdhincpcdbaaGreatDoorXc
import Derived.StillTailTactics
import Derived.Deep.RegionWith
import Derived.Deep.RegionLaw
import Derived.Deep.AppendLies
import Derived.BigRegion
import Derived.Test.YtgigdhincpcdbaaGreatDoorZm
import Derived.Test.YtgigdhincpcdbaaGreatDoorYe
namespace Go.Proofs.YtgigdhincpcdbaaGreatDoor
open Go.RowKit Go.Shelf
set_option linter.unusedVariables false
set_option linter.unusedSimpArgs false
attribute [local go_sem ↓] Go.wp_at_zero Go.wp_at_succ

set_option maxRecDepth 100000 in
set_option maxHeartbeats 16000000 in
theorem take_sec {c b0 : Nat} {fn : ByteArray} {vN vA : Value} {st : US} (W0 V : World) (pn : Nat) (t : List UInt8) (hW : W0.heap.size = c) (hG : G12 W0) (hB : Below c W0 V) (hF : W0.cell? ⟨b0, 0, none⟩ = some (.string fn)) (ht : t.length ≤ 65537000) (hO : st.nts.length ≤ 1000) (hA : st.asl.length ≤ 1000) (h : UAt c b0 fn vN vA st V) {sn : List UInt8} (hs : secL t = some sn) : Calls Tryz.prog 35 #[.pointer (some ⟨c + 1, 0, none⟩), .agg #[.int .i64 ((pn : Nat) : Int), .string (bs t)]] V fun e V' => e = .returned (.tuple #[]) ∧ (∃ vN' vA', UAt c b0 fn vN' vA' (stepU fn st (pn, t)) V') ∧ Below c V V' := by
  rw [show stepU fn st (pn, t) = ⟨sn, st.asl, st.nts⟩ from stepU_sec hs]
  obtain ⟨nr, hnr⟩ : ∃ x, x = ((pn : Nat) : Int) := ⟨_, rfl⟩
  rw [← hnr]
  have HSE := Lib.hid (fun W => section_in t (by omega) W)
  have HAS := Lib.hid (fun W (b : Below W0.heap.size W0 W) => assignment_in t (by omega) W (G12_on hG b))
  have HFT := Lib.hid hF
  have HW := Lib.hid hW
  have hzc := h.size
  have hBc : W0.heap.size ≤ V.heap.size := by omega
  obtain ⟨S, hS⟩ : ∃ S, S = bs t := ⟨_, rfl⟩
  have HU := Lib.hid (h.on (ball V (.cells #[.int .i64 nr, .string S] 66)))
  have HB0 := Lib.hid (show Below W0.heap.size W0 (V.alloc (.cells #[.int .i64 nr, .string S] 66)) from (hW ▸ hB).trans ((ball V _).mono hBc))
  have HBV := Lib.hid (show Below c V (V.alloc (.cells #[.int .i64 nr, .string S] 66)) from (ball V _).mono (by omega))
  have HZ := Lib.hid hzc
  have HBX := Lib.hid (heap_alloc_new V (.cells #[.int .i64 nr, .string S] 66))
  have e1 : secV t = sn := by unfold secV; rw [hs]; rfl
  rw [hs, e1, ← hS] at HSE
  rw [← hS]
  clear HAS hG hB hF ht hO hA h hs hzc hBc e1 hS hnr hW
  go_enter Tryz.func35, Tryz.ntmps35
  go_wp2_with (first
    | (go_at_call 48
       with_reducible refine (HSE.out _).mono ?_
       rintro e V1 ⟨rfl, b1⟩
       have U1 := Lib.hid (HU.out.on b1)
       have C1 := Lib.hid (HBV.out.trans (b1.mono (by have := HZ.out; simp; omega)))
       have B1 := Lib.hid (HB0.out.trans (b1.mono HB0.out.size))
       have X1 := Lib.hid ((b1.block _ (by rw [World.size_alloc]; exact Nat.lt_succ_self _)).trans HBX.out)
       have x1 := U1.out.x1
       have f1 := U1.out.frz 1
       clear b1))
  (try simp only [Exit.inBlock, Exit.then])
  first | refine bodyPost_ret (results_none rfl _ _ _) rfl ?_ | refine bodyPost_end (results_none rfl _ _ _) rfl ?_
  exact ⟨rfl, ⟨_, _, U1.out.sec_set sn⟩, C1.out.setCell (p := ⟨c + 1, 1, none⟩) (show c ≤ c + 1 by omega) _⟩
set_option maxRecDepth 100000 in
set_option maxHeartbeats 16000000 in
theorem take_note1 {c b0 : Nat} {fn : ByteArray} {vN vA : Value} {st : US} (W0 V : World) (pn : Nat) (t : List UInt8) (hW : W0.heap.size = c) (hG : G12 W0) (hB : Below c W0 V) (hF : W0.cell? ⟨b0, 0, none⟩ = some (.string fn)) (ht : t.length ≤ 65537000) (hO : st.nts.length ≤ 1000) (hA : st.asl.length ≤ 1000) (h : UAt c b0 fn vN vA st V) (hs : secL t = none) (ha : (asgL t).isSome = false) : Calls Tryz.prog 35 #[.pointer (some ⟨c + 1, 0, none⟩), .agg #[.int .i64 ((pn : Nat) : Int), .string (bs t)]] V fun e V' => e = .returned (.tuple #[]) ∧ (∃ vN' vA', UAt c b0 fn vN' vA' (stepU fn st (pn, t)) V') ∧ Below c V V' := by
  rw [show stepU fn st (pn, t) = ⟨st.sec, st.asl, st.nts ++ [⟨fn, ((pn : Nat) : Int), 130, bs (t.take 60)⟩]⟩ from stepU_nte hs (Or.inl ha)]
  obtain ⟨nr, hnr⟩ : ∃ x, x = ((pn : Nat) : Int) := ⟨_, rfl⟩
  rw [← hnr]
  have HSE := Lib.hid (fun W => section_in t (by omega) W)
  have HAS := Lib.hid (fun W (b : Below W0.heap.size W0 W) => assignment_in t (by omega) W (G12_on hG b))
  have HFT := Lib.hid hF
  have HW := Lib.hid hW
  have hzc := h.size
  have hBc : W0.heap.size ≤ V.heap.size := by omega
  have HFA := Lib.hid (fun W (u : UAt c b0 fn vN vA st W) (b : Below c W0 W) => fault_call c b0 fn vN vA st W nr t (by omega) hO ((b.cell (by have := World.block_lt_of_cell? _ _ hF; omega)).trans hF) u)
  obtain ⟨S, hS⟩ : ∃ S, S = bs t := ⟨_, rfl⟩
  have HU := Lib.hid (h.on (ball V (.cells #[.int .i64 nr, .string S] 66)))
  have HB0 := Lib.hid (show Below W0.heap.size W0 (V.alloc (.cells #[.int .i64 nr, .string S] 66)) from (hW ▸ hB).trans ((ball V _).mono hBc))
  have HBV := Lib.hid (show Below c V (V.alloc (.cells #[.int .i64 nr, .string S] 66)) from (ball V _).mono (by omega))
  have HZ := Lib.hid hzc
  have HBX := Lib.hid (heap_alloc_new V (.cells #[.int .i64 nr, .string S] 66))
  have HBC := Lib.hid hB
  have e1 : secV t = [] := by unfold secV; rw [hs]; rfl
  rw [hs, e1, ← hS] at HSE
  rw [ha, ← hS] at HAS
  rw [← hS] at HFA
  rw [← hS]
  obtain ⟨K, hK⟩ : ∃ K, K = bs (asgK t) := ⟨_, rfl⟩
  obtain ⟨X, hX⟩ : ∃ X, X = bs (asgW t) := ⟨_, rfl⟩
  rw [← hK, ← hX] at HAS
  clear hG hB hF ht hO hA h hs hzc hBc e1 hS hnr hW hK hX ha
  go_enter Tryz.func35, Tryz.ntmps35
  go_wp2_with (first
    | (go_at_call 48
       with_reducible refine (HSE.out _).mono ?_
       rintro e V1 ⟨rfl, b1⟩
       have U1 := Lib.hid (HU.out.on b1)
       have C1 := Lib.hid (HBV.out.trans (b1.mono (by have := HZ.out; simp; omega)))
       have B1 := Lib.hid (HB0.out.trans (b1.mono HB0.out.size))
       have X1 := Lib.hid ((b1.block _ (by rw [World.size_alloc]; exact Nat.lt_succ_self _)).trans HBX.out)
       have y0 := (cell_of_row V1 V.heap.size 0 _ _ (0, 0) X1.out).trans (show _ = some (Value.int .i64 nr) from rfl)
       have y1 := (cell_of_row V1 V.heap.size 1 _ _ (0, 0) X1.out).trans (show _ = some (Value.string S) from rfl)
       clear b1)
    | (go_at_call 49
       with_reducible refine (HAS.out _ B1.out).mono ?_
       rintro e V2 ⟨rfl, b2⟩
       have U2 := Lib.hid (U1.out.on b2)
       have C2 := Lib.hid (C1.out.trans (b2.mono (by have := HZ.out; have := C1.out.size; omega)))
       have B2 := Lib.hid (B1.out.trans (b2.mono B1.out.size))
       have X2 := Lib.hid ((b2.block _ (Array.getElem?_eq_some_iff.1 X1.out).1).trans X1.out)
       have y0 := (cell_of_row V2 V.heap.size 0 _ _ (0, 0) X2.out).trans (show _ = some (Value.int .i64 nr) from rfl)
       have y1 := (cell_of_row V2 V.heap.size 1 _ _ (0, 0) X2.out).trans (show _ = some (Value.string S) from rfl)
       have u0 := U2.out.x0
       have u1 := U2.out.x1
       have u2 := U2.out.x2
       have u3 := U2.out.x3
       have z2 : c + 1 < V2.heap.size := U2.out.size
       have z3 : V.heap.size < V2.heap.size := (Array.getElem?_eq_some_iff.1 X2.out).1
       clear b2))
  go_still_tail 5, (by kernel_rfl)
  change wpList _ _ _ _ _ V2.drew
  have BD := Lib.hid (show Below V2.heap.size V2 V2.drew from (Below.refl _ _).drew)
  have U3 := Lib.hid (U2.out.on BD.out)
  have C3 := Lib.hid (C2.out.trans (BD.out.mono (by have := HZ.out; have := C2.out.size; omega)))
  have D3 := Lib.hid (HBC.out.trans C3.out)
  go_wp2_with (first
    | (go_at_call 33
       with_reducible refine (HFA.out _ U3.out D3.out).mono ?_
       rintro e V4 ⟨rfl, ⟨v4, u4⟩, b4⟩
       have U4 := Lib.hid u4
       have C4 := Lib.hid (C3.out.trans b4)
       clear u4 b4))
  (try simp only [Exit.inBlock, Exit.then])
  first | refine bodyPost_ret (results_none rfl _ _ _) rfl ?_ | refine bodyPost_end (results_none rfl _ _ _) rfl ?_
  exact ⟨rfl, ⟨_, _, U4.out⟩, C4.out⟩
set_option maxRecDepth 100000 in
set_option maxHeartbeats 16000000 in
theorem take_note2 {c b0 : Nat} {fn : ByteArray} {vN vA : Value} {st : US} (W0 V : World) (pn : Nat) (t : List UInt8) (hW : W0.heap.size = c) (hG : G12 W0) (hB : Below c W0 V) (hF : W0.cell? ⟨b0, 0, none⟩ = some (.string fn)) (ht : t.length ≤ 65537000) (hO : st.nts.length ≤ 1000) (hA : st.asl.length ≤ 1000) (h : UAt c b0 fn vN vA st V) (hs : secL t = none) (ha : (asgL t).isSome = true) (hsec : st.sec = []) : Calls Tryz.prog 35 #[.pointer (some ⟨c + 1, 0, none⟩), .agg #[.int .i64 ((pn : Nat) : Int), .string (bs t)]] V fun e V' => e = .returned (.tuple #[]) ∧ (∃ vN' vA', UAt c b0 fn vN' vA' (stepU fn st (pn, t)) V') ∧ Below c V V' := by
  rw [show stepU fn st (pn, t) = ⟨st.sec, st.asl, st.nts ++ [⟨fn, ((pn : Nat) : Int), 130, bs (t.take 60)⟩]⟩ from stepU_nte hs (Or.inr hsec)]
  obtain ⟨nr, hnr⟩ : ∃ x, x = ((pn : Nat) : Int) := ⟨_, rfl⟩
  rw [← hnr]
  have HSE := Lib.hid (fun W => section_in t (by omega) W)
  have HAS := Lib.hid (fun W (b : Below W0.heap.size W0 W) => assignment_in t (by omega) W (G12_on hG b))
  have HFT := Lib.hid hF
  have HW := Lib.hid hW
  have hzc := h.size
  have hBc : W0.heap.size ≤ V.heap.size := by omega
  have HFA := Lib.hid (fun W (u : UAt c b0 fn vN vA st W) (b : Below c W0 W) => fault_call c b0 fn vN vA st W nr t (by omega) hO ((b.cell (by have := World.block_lt_of_cell? _ _ hF; omega)).trans hF) u)
  obtain ⟨S, hS⟩ : ∃ S, S = bs t := ⟨_, rfl⟩
  have HU := Lib.hid (h.on (ball V (.cells #[.int .i64 nr, .string S] 66)))
  have HB0 := Lib.hid (show Below W0.heap.size W0 (V.alloc (.cells #[.int .i64 nr, .string S] 66)) from (hW ▸ hB).trans ((ball V _).mono hBc))
  have HBV := Lib.hid (show Below c V (V.alloc (.cells #[.int .i64 nr, .string S] 66)) from (ball V _).mono (by omega))
  have HZ := Lib.hid hzc
  have HBX := Lib.hid (heap_alloc_new V (.cells #[.int .i64 nr, .string S] 66))
  have HBC := Lib.hid hB
  have e1 : secV t = [] := by unfold secV; rw [hs]; rfl
  rw [hs, e1, ← hS] at HSE
  rw [ha, ← hS] at HAS
  rw [← hS] at HFA
  rw [← hS]
  obtain ⟨K, hK⟩ : ∃ K, K = bs (asgK t) := ⟨_, rfl⟩
  obtain ⟨X, hX⟩ : ∃ X, X = bs (asgW t) := ⟨_, rfl⟩
  rw [← hK, ← hX] at HAS
  have tq : (bs st.sec).toList.isEmpty = true := by rw [hsec, bs_toList]; rfl
  clear hsec
  clear hG hB hF ht hO hA h hs hzc hBc e1 hS hnr hW hK hX ha
  go_enter Tryz.func35, Tryz.ntmps35
  go_wp2_with (first
    | (go_at_call 48
       with_reducible refine (HSE.out _).mono ?_
       rintro e V1 ⟨rfl, b1⟩
       have U1 := Lib.hid (HU.out.on b1)
       have C1 := Lib.hid (HBV.out.trans (b1.mono (by have := HZ.out; simp; omega)))
       have B1 := Lib.hid (HB0.out.trans (b1.mono HB0.out.size))
       have X1 := Lib.hid ((b1.block _ (by rw [World.size_alloc]; exact Nat.lt_succ_self _)).trans HBX.out)
       have y0 := (cell_of_row V1 V.heap.size 0 _ _ (0, 0) X1.out).trans (show _ = some (Value.int .i64 nr) from rfl)
       have y1 := (cell_of_row V1 V.heap.size 1 _ _ (0, 0) X1.out).trans (show _ = some (Value.string S) from rfl)
       clear b1)
    | (go_at_call 49
       with_reducible refine (HAS.out _ B1.out).mono ?_
       rintro e V2 ⟨rfl, b2⟩
       have U2 := Lib.hid (U1.out.on b2)
       have C2 := Lib.hid (C1.out.trans (b2.mono (by have := HZ.out; have := C1.out.size; omega)))
       have B2 := Lib.hid (B1.out.trans (b2.mono B1.out.size))
       have X2 := Lib.hid ((b2.block _ (Array.getElem?_eq_some_iff.1 X1.out).1).trans X1.out)
       have y0 := (cell_of_row V2 V.heap.size 0 _ _ (0, 0) X2.out).trans (show _ = some (Value.int .i64 nr) from rfl)
       have y1 := (cell_of_row V2 V.heap.size 1 _ _ (0, 0) X2.out).trans (show _ = some (Value.string S) from rfl)
       have u0 := U2.out.x0
       have u1 := U2.out.x1
       have u2 := U2.out.x2
       have u3 := U2.out.x3
       have z2 : c + 1 < V2.heap.size := U2.out.size
       have z3 : V.heap.size < V2.heap.size := (Array.getElem?_eq_some_iff.1 X2.out).1
       clear b2))
  go_still_tail 5, (by kernel_rfl)
  change wpList _ _ _ _ _ V2.drew
  have BD := Lib.hid (show Below V2.heap.size V2 V2.drew from (Below.refl _ _).drew)
  have U3 := Lib.hid (U2.out.on BD.out)
  have C3 := Lib.hid (C2.out.trans (BD.out.mono (by have := HZ.out; have := C2.out.size; omega)))
  have D3 := Lib.hid (HBC.out.trans C3.out)
  go_wp2_with (first
    | (go_at_call 33
       with_reducible refine (HFA.out _ U3.out D3.out).mono ?_
       rintro e V4 ⟨rfl, ⟨v4, u4⟩, b4⟩
       have U4 := Lib.hid u4
       have C4 := Lib.hid (C3.out.trans b4)
       clear u4 b4))
  (try simp only [Exit.inBlock, Exit.then])
  first | refine bodyPost_ret (results_none rfl _ _ _) rfl ?_ | refine bodyPost_end (results_none rfl _ _ _) rfl ?_
  exact ⟨rfl, ⟨_, _, U4.out⟩, C4.out⟩
set_option maxRecDepth 100000 in
set_option maxHeartbeats 32000000 in
theorem take_asn {c b0 : Nat} {fn : ByteArray} {vN vA : Value} {st : US} (W0 V : World) (pn : Nat) (t : List UInt8) (hW : W0.heap.size = c) (hG : G12 W0) (hB : Below c W0 V) (hF : W0.cell? ⟨b0, 0, none⟩ = some (.string fn)) (ht : t.length ≤ 65537000) (hO : st.nts.length ≤ 1000) (hA : st.asl.length ≤ 1000) (h : UAt c b0 fn vN vA st V) (hs : secL t = none) (ha : (asgL t).isSome = true) (hsec : st.sec ≠ []) : Calls Tryz.prog 35 #[.pointer (some ⟨c + 1, 0, none⟩), .agg #[.int .i64 ((pn : Nat) : Int), .string (bs t)]] V fun e V' => e = .returned (.tuple #[]) ∧ (∃ vN' vA', UAt c b0 fn vN' vA' (stepU fn st (pn, t)) V') ∧ Below c V V' := by
  obtain ⟨i0, hi0, hz0, hz1, hz2⟩ := info_parts asn_info
  have HI := Lib.hid hi0
  have HZ0 := Lib.hid hz0
  have HZ1 := Lib.hid hz1
  have HZ2 := Lib.hid hz2
  rw [show stepU fn st (pn, t) = ⟨st.sec, st.asl ++ [⟨fn, ((pn : Nat) : Int), bs st.sec, bs (asgK t), bs (asgW t)⟩], st.nts⟩ from stepU_asg hs ha hsec]
  obtain ⟨nr, hnr⟩ : ∃ x, x = ((pn : Nat) : Int) := ⟨_, rfl⟩
  rw [← hnr]
  have HSE := Lib.hid (fun W => section_in t (by omega) W)
  have HAS := Lib.hid (fun W (b : Below W0.heap.size W0 W) => assignment_in t (by omega) W (G12_on hG b))
  have HFT := Lib.hid hF
  have HW := Lib.hid hW
  have hzc := h.size
  have hBc : W0.heap.size ≤ V.heap.size := by omega
  obtain ⟨S, hS⟩ : ∃ S, S = bs t := ⟨_, rfl⟩
  have HU := Lib.hid (h.on (ball V (.cells #[.int .i64 nr, .string S] 66)))
  have HB0 := Lib.hid (show Below W0.heap.size W0 (V.alloc (.cells #[.int .i64 nr, .string S] 66)) from (hW ▸ hB).trans ((ball V _).mono hBc))
  have HBV := Lib.hid (show Below c V (V.alloc (.cells #[.int .i64 nr, .string S] 66)) from (ball V _).mono (by omega))
  have HZ := Lib.hid hzc
  have HBX := Lib.hid (heap_alloc_new V (.cells #[.int .i64 nr, .string S] 66))
  have e1 : secV t = [] := by unfold secV; rw [hs]; rfl
  rw [hs, e1, ← hS] at HSE
  rw [ha, ← hS] at HAS
  rw [← hS]
  obtain ⟨K, hK⟩ : ∃ K, K = bs (asgK t) := ⟨_, rfl⟩
  obtain ⟨X, hX⟩ : ∃ X, X = bs (asgW t) := ⟨_, rfl⟩
  rw [← hK, ← hX] at HAS ⊢
  have tq := ne_bs hsec
  have HLA := Lib.hid hA
  clear hG hB hF ht hO hA h hs hzc hBc e1 hS hnr hW hK hX ha hsec hi0 hz0 hz1 hz2
  go_enter Tryz.func35, Tryz.ntmps35
  go_wp2_with (first
    | (go_at_call 48
       with_reducible refine (HSE.out _).mono ?_
       rintro e V1 ⟨rfl, b1⟩
       have U1 := Lib.hid (HU.out.on b1)
       have C1 := Lib.hid (HBV.out.trans (b1.mono (by have := HZ.out; simp; omega)))
       have B1 := Lib.hid (HB0.out.trans (b1.mono HB0.out.size))
       have X1 := Lib.hid ((b1.block _ (by rw [World.size_alloc]; exact Nat.lt_succ_self _)).trans HBX.out)
       have y0 := (cell_of_row V1 V.heap.size 0 _ _ (0, 0) X1.out).trans (show _ = some (Value.int .i64 nr) from rfl)
       have y1 := (cell_of_row V1 V.heap.size 1 _ _ (0, 0) X1.out).trans (show _ = some (Value.string S) from rfl)
       clear b1)
    | (go_at_call 49
       with_reducible refine (HAS.out _ B1.out).mono ?_
       rintro e V2 ⟨rfl, b2⟩
       have U2 := Lib.hid (U1.out.on b2)
       have C2 := Lib.hid (C1.out.trans (b2.mono (by have := HZ.out; have := C1.out.size; omega)))
       have B2 := Lib.hid (B1.out.trans (b2.mono B1.out.size))
       have X2 := Lib.hid ((b2.block _ (Array.getElem?_eq_some_iff.1 X1.out).1).trans X1.out)
       have y0 := (cell_of_row V2 V.heap.size 0 _ _ (0, 0) X2.out).trans (show _ = some (Value.int .i64 nr) from rfl)
       have y1 := (cell_of_row V2 V.heap.size 1 _ _ (0, 0) X2.out).trans (show _ = some (Value.string S) from rfl)
       have u0 := U2.out.x0
       have u1 := U2.out.x1
       have u2 := U2.out.x2
       have u3 := U2.out.x3
       have z2 : c + 1 < V2.heap.size := U2.out.size
       have z3 : V.heap.size < V2.heap.size := (Array.getElem?_eq_some_iff.1 X2.out).1
       clear b2))
  go_region_law ((refine step_append_lies _ (by rfl) (.tmp 46) (.tmp 60) 37 (by rfl) (c + 2) 60 i0 _ 5 72 Tryz.underlying37 HI.out HZ0.out HZ1.out HZ2.out rfl (by omega) vA st.asl.length (rowC encA st.asl) (by rfl) (U2.out.asl.alloc _).drew ⟨V2.heap.size, 0, none⟩ 1 1 (encA ⟨fn, nr, bs st.sec, K, X⟩) (by rfl) rfl (news_row V2 _ _) (encA_one _) (by omega) (by have := HLA.out; unfold maxLen; omega) (by have := HLA.out; omega) (by show c + 2 ≤ (V2.alloc _).heap.size; rw [World.size_alloc]; exact Nat.le_succ_of_le U2.out.size) (V2.heap.size + 1) (by show (V2.alloc _).heap.size = _; rw [World.size_alloc]) ?_); intro g6 c6 W6 o6 h6 e6 l6; obtain ⟨q1, q2, q3⟩ := UAt.put_asn (U2.out.on ((ball _ _).drew)) h6 (outA_next o6); have c2 := (cell_of_row W6 (c + 1) 2 _ _ (0, 0) q1).trans (show _ = some vA from rfl); have f2 := frozen_of_row W6 (c + 1) 2 _ _ q1; have Q2 := Lib.hid q2; have Q3 := Lib.hid q3; clear o6 h6 e6 l6 q1 q2 q3)
  all_goals
    go_wp2_with fail
    (try simp only [Exit.inBlock, Exit.then])
    first | refine bodyPost_ret (results_none rfl _ _ _) rfl ?_ | refine bodyPost_end (results_none rfl _ _ _) rfl ?_
    exact ⟨rfl, ⟨_, _, Q2.out⟩, (C2.out.trans (((ball _ _).drew).mono (by have := HZ.out; have := C2.out.size; omega))).trans Q3.out⟩
theorem take_call {c b0 : Nat} {fn : ByteArray} {vN vA : Value} {st : US} (W0 V : World) (pn : Nat) (t : List UInt8) (hW : W0.heap.size = c) (hG : G12 W0) (hB : Below c W0 V) (hF : W0.cell? ⟨b0, 0, none⟩ = some (.string fn)) (ht : t.length ≤ 65537000) (hO : st.nts.length ≤ 1000) (hA : st.asl.length ≤ 1000) (h : UAt c b0 fn vN vA st V) : Calls Tryz.prog 35 #[.pointer (some ⟨c + 1, 0, none⟩), .agg #[.int .i64 ((pn : Nat) : Int), .string (bs t)]] V fun e V' => e = .returned (.tuple #[]) ∧ (∃ vN' vA', UAt c b0 fn vN' vA' (stepU fn st (pn, t)) V') ∧ Below c V V' := by
  cases hs : secL t with
  | some sn => exact take_sec W0 V pn t hW hG hB hF ht hO hA h hs
  | none =>
    cases ha : (asgL t).isSome with
    | false => exact take_note1 W0 V pn t hW hG hB hF ht hO hA h hs ha
    | true =>
      by_cases hsec : st.sec = []
      · exact take_note2 W0 V pn t hW hG hB hF ht hO hA h hs ha hsec
      · exact take_asn W0 V pn t hW hG hB hF ht hO hA h hs ha hsec
end Go.Proofs.YtgigdhincpcdbaaGreatDoor
namespace Go.Proofs.YtgigdhincpcdbaaGreatDoor
open Go.RowKit Go.Shelf
set_option linter.unusedVariables false
set_option linter.unusedSimpArgs false
attribute [local go_sem ↓] Go.wp_at_zero Go.wp_at_succ

set_option maxRecDepth 100000 in
set_option maxHeartbeats 16000000 in
theorem order_call {c b0 : Nat} {fn : ByteArray} (W0 V : World) (O : List (Nat × List UInt8)) (v : Value) (hL : LnsAt W0 v O) (hW : W0.heap.size = c) (hG : G12 W0) (hB : Below c W0 V) (hF : W0.cell? ⟨b0, 0, none⟩ = some (.string fn)) (hT : ∀ p ∈ O, p.2.length ≤ 65537000) (hO : O.length ≤ 1000) (h : UAt c b0 fn (.slice none 0 0) (.slice none 0 0) ⟨[], [], []⟩ V) :
    Calls Tryz.prog 34 #[v, (.func (.func 35) #[.pointer (some ⟨c + 1, 0, none⟩)] #[])] V fun e V' => e = .returned (.tuple #[]) ∧ (∃ vN' vA', UAt c b0 fn vN' vA' (stU fn O O.length) V') ∧ Below c V V' := by
  obtain ⟨q, cp, rfl, hc⟩ := hL
  have HC := Lib.hid hc
  have HLN := Lib.hid (fun k hk => stU_len fn O k hk)
  have HTX := Lib.hid hT
  have HTK := Lib.hid (fun (W : World) (b : Below c W0 W) (vN vA : Value) (st : US) (p : Nat × List UInt8) (ht : p.2.length ≤ 65537000) (h1 : st.nts.length ≤ 1000) (h2 : st.asl.length ≤ 1000) (u : UAt c b0 fn vN vA st W) => take_call W0 W p.1 p.2 hW hG b hF ht h1 h2 u)
  have HB := Lib.hid hB
  have HU := Lib.hid h
  have HW := Lib.hid hW
  obtain ⟨m, hm⟩ : ∃ m, m = O.length := ⟨_, rfl⟩
  have HM := Lib.hid hm
  rw [← hm] at hO ⊢
  have HO := Lib.hid hO
  clear hc hT hW hG hB hF hO h hm
  go_enter Tryz.func34, Tryz.ntmps34
  go_wp2_with fail
  go_loopw [8] (fun v8 wr => ∃ k : Nat, k ≤ m ∧ v8 = .int .i64 k ∧ Hid (∃ vN vA, UAt c b0 fn vN vA (stU fn O k) wr) ∧ Hid (Below c V wr)) (fun v8 _ => m - (intOf v8).toNat)
  case atStart => exact ⟨0, Nat.zero_le _, rfl, Lib.hid ⟨_, _, HU.out⟩, Lib.hid (Below.refl _ _)⟩
  case round =>
    obtain ⟨k, hk, rfl, PU, PB⟩ := hrel
    obtain ⟨X, rfl⟩ : ∃ wo : World, wo = wr := ⟨_, rfl⟩
    by_cases hlt : k < m
    · have hx : O[k]? = some (O[k]'(by rw [← HM.out]; exact hlt)) := List.getElem?_eq_getElem _
      obtain ⟨p, hp⟩ : ∃ p, p = O[k]'(by rw [← HM.out]; exact hlt) := ⟨_, rfl⟩
      rw [← hp] at hx
      obtain ⟨vN, vA, hu⟩ := PU.out
      have HX := Lib.hid (HB.out.trans PB.out)
      obtain ⟨g, o, rfl, d1, d2⟩ := HC.out k p hx
      have c1 := (HX.out.cell (by have := World.block_lt_of_cell? W0 _ d1; have := HW.out; omega)).trans d1
      have c2 := (HX.out.cell (by have := World.block_lt_of_cell? W0 _ d2; have := HW.out; omega)).trans d2
      have HST := Lib.hid (stU_step (fn := fn) hx)
      have hlen := HLN.out k (by rw [← HM.out]; exact hk)
      obtain ⟨st, hst⟩ : ∃ st, st = stU fn O k := ⟨_, rfl⟩
      rw [← hst] at hu HST hlen
      have HS := Lib.hid (HTK.out (X.alloc (.cells #[.int .i64 ((p.1 : Nat) : Int), .string (bs p.2)] 66)) (HX.out.trans ((ball X _).mono (by have := hu.size; omega))) vN vA st p (HTX.out p (List.mem_of_getElem? hx)) (by have := HO.out; omega) (by have := HO.out; omega) (hu.on (ball X _)))
      have HZ := Lib.hid hu.size
      rw [show (p.1, p.2) = p from rfl] at HS
      have k1 : (k : Int) < m := by omega
      have k0 : (0 : Int) ≤ k := by omega
      have hw1 : IntKind.i64.wrap ((k : Int) + 1) = k + 1 := by have := HO.out; rw [IntKind.wrap_i64]; omega
      obtain ⟨nr, hnr⟩ : ∃ x, x = ((p.1 : Nat) : Int) := ⟨_, rfl⟩
      obtain ⟨S, hS⟩ : ∃ S, S = bs p.2 := ⟨_, rfl⟩
      rw [← hnr] at c1 HS
      rw [← hS] at c2 HS
      clear hx hp hlen d1 d2 hst hnr hS hu
      go_wp2_with (first
        | (go_at_call 35
           with_reducible refine (HS.out).mono ?_
           rintro e V3 ⟨rfl, u3, b3⟩
           have U3 := Lib.hid u3
           have B3 := Lib.hid ((PB.out.trans ((ball X _).mono (by have := HZ.out; omega))).trans b3)
           clear u3 b3))
      go_roundw
      case rel => exact ⟨k + 1, by omega, by go_num, Lib.hid (by rw [HST.out]; exact U3.out), B3⟩
      case measure => simp [intOf]; omega
    · obtain rfl : k = m := by omega
      have k1 : ¬ (k : Int) < k := by omega
      go_wp2_with fail
      (try simp only [Exit.inBlock, Exit.then])
      first | refine bodyPost_ret (results_none rfl _ _ _) rfl ?_ | refine bodyPost_end (results_none rfl _ _ _) rfl ?_
      exact ⟨rfl, PU.out, PB.out⟩
set_option maxRecDepth 100000 in
set_option maxHeartbeats 32000000 in
theorem landed_err_n (fn : ByteArray) (dir : Int) (a0 : Option Addr) (n cap : Nat) (l : List UInt8) (w : World) (hG : G12 w) (hl : l.length = n) (hn : n ≤ 140737488355328) (hr : RdB w w.heap.size a0 l) (hE : splE l ≠ 0) : Calls Tryz.prog 20 #[.agg #[.string fn, .int .i64 dir, .slice a0 n cap]] w fun e w' =>
    ∃ va vn, e = .returned (.tuple #[va, vn]) ∧ RowsAt 5 encA w' va [] ∧ RowsAt 4 encN w' vn [⟨fn, 0, splE l, ⟨#[]⟩⟩] ∧ Below w.heap.size w w' ∧ NewV w.heap.size va ∧ NewV w.heap.size vn := by
  have HS := Lib.hid (fun (W : World) (g : G12 W) (h : RdB W W.heap.size a0 l) => split12 a0 n cap l W g hl hn h)
  have HR := Lib.hid hr
  have HG := Lib.hid (G12_on hG (ball w (.cells #[.string fn, .int .i64 dir, .slice a0 n cap] 24)))
  obtain ⟨E, hE2⟩ : ∃ E, E = splE l := ⟨_, rfl⟩
  rw [← hE2] at hE HS ⊢
  have t1 : (E != 0) = true := by rw [bne_iff_ne]; exact hE
  clear hl hn hr hE2 hG
  go_enter Tryz.func20, Tryz.ntmps20
  go_wp2_with (go_at_call 32; ((with_reducible refine (HS.out _ HG.out (HR.out.on ((Below.refl _ _).alloc (Nat.le_refl _) _))).mono ?_); rintro e W ⟨v, rfl, _, b1⟩); have c0 := (cell_of_row W w.heap.size 0 _ _ (0, 0) ((b1.block w.heap.size (by rw [World.size_alloc]; exact Nat.lt_succ_self _)).trans (heap_alloc_new w _))).trans (show _ = some (Value.string fn) from rfl); have B1 := Lib.hid (thn13 ((Below.refl w.heap.size w).alloc (Nat.le_refl _) _) b1); clear b1)
  go_region
  all_goals
    go_wp2
    go_ret2
    exact ⟨_, _, rfl, RowsAt.nil _, rows_lit encN_len _ [⟨fn, 0, E, ⟨#[]⟩⟩] _, (Go.below_drewN B1.out 1).alloc (Go.below_drewN B1.out 1).size _, NewV.nil _ _ _, fun g e => by have e2 : _ = g := Option.some.inj e; rw [← e2]; exact B1.out.size⟩
set_option maxRecDepth 100000 in
set_option maxHeartbeats 32000000 in
theorem landed_go_n (fn : ByteArray) (dir : Int) (a0 : Option Addr) (n cap : Nat) (l : List UInt8) (w : World) (hG : G12 w) (hl : l.length = n) (hn : n ≤ 140737488355328) (hr : RdB w w.heap.size a0 l) (hE : splE l = 0) : Calls Tryz.prog 20 #[.agg #[.string fn, .int .i64 dir, .slice a0 n cap]] w fun e w' =>
    ∃ va vn, e = .returned (.tuple #[va, vn]) ∧ RowsAt 5 encA w' va (usA (filS fn l)) ∧ RowsAt 4 encN w' vn (filS fn l).nts ∧ Below w.heap.size w w' ∧ NewV w.heap.size va ∧ NewV w.heap.size vn := by
  have HS := Lib.hid (fun (W : World) (g : G12 W) (h : RdB W W.heap.size a0 l) => split12 a0 n cap l W g hl hn h)
  rw [hE] at HS
  have HR := Lib.hid hr
  have HG := Lib.hid (G12_on hG (ball w (.cells #[.string fn, .int .i64 dir, .slice a0 n cap] 24)))
  have HTX := Lib.hid (fun (p : Nat × List UInt8) (h : p ∈ splL l) => spl_text h)
  have hO := splL_len l
  unfold filS
  obtain ⟨O, hO2⟩ : ∃ O, O = splL l := ⟨_, rfl⟩
  rw [← hO2] at HS HTX hO ⊢
  have HO := Lib.hid hO
  obtain ⟨st, hst⟩ : ∃ st, st = stU fn O O.length := ⟨_, rfl⟩
  have HST := Lib.hid hst
  rw [← hst]
  clear hl hn hr hE hO hO2 hG hst
  by_cases h0 : st.nts = []
  · have e0 := Lib.hid h0
    have HX := Lib.hid (show st.nts.length = 0 by rw [h0]; rfl)
    clear h0
    go_enter Tryz.func20, Tryz.ntmps20
    go_wp2_with (first
      | (go_at_call 32
         with_reducible refine (HS.out _ HG.out (HR.out.on (ball w _))).mono ?_
         rintro e W ⟨v, rfl, s1, b1⟩
         have hbx := (b1.block w.heap.size (by rw [World.size_alloc]; exact Nat.lt_succ_self _)).trans (heap_alloc_new w _)
         have c0 := (cell_of_row W w.heap.size 0 _ _ (0, 0) hbx).trans (show _ = some (Value.string fn) from rfl)
         have hlw : w.heap.size < W.heap.size := (Array.getElem?_eq_some_iff.1 hbx).1
         have B1 := Lib.hid ((ball w (.cells #[.string fn, .int .i64 dir, .slice a0 n cap] 24)).trans (b1.mono (by rw [World.size_alloc]; exact Nat.le_succ _)))
         have H0 : Below W.heap.size W ((W.alloc (.cells #[.slice none 0 0] 38)).alloc (.cells #[.string fn, .string ⟨#[]⟩, .slice none 0 0, cloU W.heap.size w.heap.size] 69)) := (ball W _).alloc (by rw [World.size_alloc]; exact Nat.le_succ _) _
         have h1 := (Below.heap_alloc (W.alloc (.cells #[.slice none 0 0] 38)) (.cells #[.string fn, .string ⟨#[]⟩, .slice none 0 0, cloU W.heap.size w.heap.size] 69) W.heap.size (by rw [World.size_alloc]; exact Nat.lt_succ_self _)).trans (heap_alloc_new W (.cells #[.slice none 0 0] 38))
         have h2 := heap_alloc_new (W.alloc (.cells #[.slice none 0 0] 38)) (.cells #[.string fn, .string ⟨#[]⟩, .slice none 0 0, cloU W.heap.size w.heap.size] 69)
         rw [World.size_alloc] at h2
         have HI := Lib.hid (order_call (c := W.heap.size) (b0 := w.heap.size) W ((W.alloc (.cells #[.slice none 0 0] 38)).alloc (.cells #[.string fn, .string ⟨#[]⟩, .slice none 0 0, cloU W.heap.size w.heap.size] 69)) O v s1 rfl (G12_on HG.out b1) H0 c0 HTX.out HO.out ⟨h1, World.ownsRow_nil _ _ _ _, h2, World.ownsRow_nil _ _ _ _⟩)
         have H00 := Lib.hid H0
         obtain ⟨q, cq, rfl, _⟩ := s1
         clear b1 hbx H0 h1 h2)
      | (go_at_call 34
         with_reducible refine (HI.out).mono ?_
         rintro e W2 ⟨rfl, ⟨vN, vA, u2⟩, b2⟩
         rw [← HST.out] at u2
         have U2 := Lib.hid u2
         have B2 := Lib.hid (B1.out.trans ((H00.out.trans b2).mono B1.out.size))
         obtain ⟨qn, cn, rfl⟩ := out_form u2.nts
         obtain ⟨qa, ca, rfl⟩ := out_form u2.asl
         have n0 := u2.box.cell
         have a2 := u2.x2
         have HA := Lib.hid (rows_own encA_len u2.asl)
         have HN := Lib.hid (rows_own encN_len u2.nts)
         have HNV := Lib.hid (show NewV w.heap.size (.slice qa st.asl.length ca) ∧ NewV w.heap.size (.slice qn st.nts.length cn) from ⟨NewV.own u2.asl (Nat.le_trans B1.out.size (Nat.le_add_right _ 2)), NewV.own u2.nts (Nat.le_trans B1.out.size (Nat.le_add_right _ 2))⟩)
         rw [HX.out] at n0 HN HNV
         clear u2 b2))
    go_ret2
    exact ⟨_, _, rfl, by rw [usA_yes e0.out]; exact HA.out, by rw [e0.out]; exact RowsAt.nil _, B2.out, HNV.out.1, NewV.nil _ _ _⟩
  · have e0 := Lib.hid h0
    obtain ⟨x, hx⟩ : ∃ x, x = st.nts.length := ⟨_, rfl⟩
    have HX := Lib.hid hx.symm
    have x0 : 0 < x := by
      rw [hx]
      exact List.length_pos_iff.2 h0
    have x1 : (0 : Int) < (x : Int) := by omega
    have x2 : (x : Int) > 0 := x1
    clear h0 hx
    go_enter Tryz.func20, Tryz.ntmps20
    go_wp2_with (first
      | (go_at_call 32
         with_reducible refine (HS.out _ HG.out (HR.out.on (ball w _))).mono ?_
         rintro e W ⟨v, rfl, s1, b1⟩
         have hbx := (b1.block w.heap.size (by rw [World.size_alloc]; exact Nat.lt_succ_self _)).trans (heap_alloc_new w _)
         have c0 := (cell_of_row W w.heap.size 0 _ _ (0, 0) hbx).trans (show _ = some (Value.string fn) from rfl)
         have hlw : w.heap.size < W.heap.size := (Array.getElem?_eq_some_iff.1 hbx).1
         have B1 := Lib.hid ((ball w (.cells #[.string fn, .int .i64 dir, .slice a0 n cap] 24)).trans (b1.mono (by rw [World.size_alloc]; exact Nat.le_succ _)))
         have H0 : Below W.heap.size W ((W.alloc (.cells #[.slice none 0 0] 38)).alloc (.cells #[.string fn, .string ⟨#[]⟩, .slice none 0 0, cloU W.heap.size w.heap.size] 69)) := (ball W _).alloc (by rw [World.size_alloc]; exact Nat.le_succ _) _
         have h1 := (Below.heap_alloc (W.alloc (.cells #[.slice none 0 0] 38)) (.cells #[.string fn, .string ⟨#[]⟩, .slice none 0 0, cloU W.heap.size w.heap.size] 69) W.heap.size (by rw [World.size_alloc]; exact Nat.lt_succ_self _)).trans (heap_alloc_new W (.cells #[.slice none 0 0] 38))
         have h2 := heap_alloc_new (W.alloc (.cells #[.slice none 0 0] 38)) (.cells #[.string fn, .string ⟨#[]⟩, .slice none 0 0, cloU W.heap.size w.heap.size] 69)
         rw [World.size_alloc] at h2
         have HI := Lib.hid (order_call (c := W.heap.size) (b0 := w.heap.size) W ((W.alloc (.cells #[.slice none 0 0] 38)).alloc (.cells #[.string fn, .string ⟨#[]⟩, .slice none 0 0, cloU W.heap.size w.heap.size] 69)) O v s1 rfl (G12_on HG.out b1) H0 c0 HTX.out HO.out ⟨h1, World.ownsRow_nil _ _ _ _, h2, World.ownsRow_nil _ _ _ _⟩)
         have H00 := Lib.hid H0
         obtain ⟨q, cq, rfl, _⟩ := s1
         clear b1 hbx H0 h1 h2)
      | (go_at_call 34
         with_reducible refine (HI.out).mono ?_
         rintro e W2 ⟨rfl, ⟨vN, vA, u2⟩, b2⟩
         rw [← HST.out] at u2
         have U2 := Lib.hid u2
         have B2 := Lib.hid (B1.out.trans ((H00.out.trans b2).mono B1.out.size))
         obtain ⟨qn, cn, rfl⟩ := out_form u2.nts
         obtain ⟨qa, ca, rfl⟩ := out_form u2.asl
         have n0 := u2.box.cell
         have a2 := u2.x2
         have HA := Lib.hid (rows_own encA_len u2.asl)
         have HN := Lib.hid (rows_own encN_len u2.nts)
         have HNV := Lib.hid (show NewV w.heap.size (.slice qa st.asl.length ca) ∧ NewV w.heap.size (.slice qn st.nts.length cn) from ⟨NewV.own u2.asl (Nat.le_trans B1.out.size (Nat.le_add_right _ 2)), NewV.own u2.nts (Nat.le_trans B1.out.size (Nat.le_add_right _ 2))⟩)
         rw [HX.out] at n0 HN HNV
         clear u2 b2))
    go_quiet (fail)
    go_wp2_with fail
    go_ret2
    exact ⟨_, _, rfl, by rw [usA_no e0.out]; exact RowsAt.nil _, (HN.out).on (Go.below_drewN (Below.refl _ _) _), Go.below_drewN B2.out _, NewV.nil _ _ _, HNV.out.2⟩
theorem parse_new (fn : ByteArray) (dir : Int) (a0 : Option Addr) (n cap : Nat) (l : List UInt8) (w : World) (hG : G12 w) (hl : l.length = n) (hn : n ≤ 140737488355328) (hr : RdB w w.heap.size a0 l) : Calls Tryz.prog 20 #[.agg #[.string fn, .int .i64 dir, .slice a0 n cap]] w fun e w' =>
    ∃ va vn, e = .returned (.tuple #[va, vn]) ∧ RowsAt 5 encA w' va (filA fn l) ∧ RowsAt 4 encN w' vn (filN fn l) ∧ Below w.heap.size w w' ∧ NewV w.heap.size va ∧ NewV w.heap.size vn := by
  unfold filA filN
  by_cases hE : splE l = 0
  · rw [if_neg (fun h => h hE), if_neg (fun h => h hE)]
    exact landed_go_n fn dir a0 n cap l w hG hl hn hr hE
  · rw [if_pos hE, if_pos hE]
    exact landed_err_n fn dir a0 n cap l w hG hl hn hr hE
/-- What unit's landed calls return. -/
theorem unitC : UnitC G12 where
  on := fun {w w'} h b => G12_on h b
  parse := fun fn dir a0 n cap l w hG _ hl hn _ _ _ hr => (parse_new fn dir a0 n cap l w hG hl hn hr).mono fun e w' ⟨va, vn, h1, h2, h3, h4, _⟩ => ⟨va, vn, h1, h2, h3, h4⟩
  section_ := fun s w _ hs => section13 s w (by omega)
  assignment := fun s w hG hs => assignment13 s w hG (by omega)
end Go.Proofs.YtgigdhincpcdbaaGreatDoor
