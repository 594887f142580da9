/- The landed reader takes a line: what it has come to then. Conditions: the library's two tables lie in their variables; a line of at most 2^26 bytes, at most 1000 assignments and notes. -/
import Derived.Test.YtifjnioichfodaaDoorXd
import Derived.StillTailTactics
import Derived.Deep.RegionWith
import Derived.Deep.RegionLaw
import Derived.Deep.AppendLies
import Derived.BigRegion
namespace Go.Proofs.YtifjnioichfodaaDoor
open Go.RowKit Go.Shelf
set_option linter.unusedVariables false
set_option linter.unusedSimpArgs false
attribute [local go_sem ↓] Go.wp_at_zero Go.wp_at_succ

set_option maxRecDepth 100000 in
set_option maxHeartbeats 16000000 in
theorem take_sec {c b0 : Nat} {fn : ByteArray} {vN vA : Value} {st : US} (W0 V : World) (pn : Nat) (t : List UInt8) (hW : W0.heap.size = c) (hG : G12 W0) (hB : Below c W0 V) (hF : W0.cell? ⟨b0, 0, none⟩ = some (.string fn)) (ht : t.length ≤ 65537000) (hO : st.nts.length ≤ 1000) (hA : st.asl.length ≤ 1000) (h : UAt c b0 fn vN vA st V) {sn : List UInt8} (hs : secL t = some sn) : Calls Tryd.prog 22 #[.pointer (some ⟨c + 1, 0, none⟩), .agg #[.int .i64 ((pn : Nat) : Int), .string (bs t)]] V fun e V' => e = .returned (.tuple #[]) ∧ (∃ vN' vA', UAt c b0 fn vN' vA' (stepU fn st (pn, t)) V') ∧ Below c V V' := by
  rw [show stepU fn st (pn, t) = ⟨sn, st.asl, st.nts⟩ from stepU_sec hs]
  obtain ⟨nr, hnr⟩ : ∃ x, x = ((pn : Nat) : Int) := ⟨_, rfl⟩
  rw [← hnr]
  have HSE := Lib.hid (fun W => section_in t (by omega) W)
  have HAS := Lib.hid (fun W (b : Below W0.heap.size W0 W) => assignment_in t (by omega) W (G12_on hG b))
  have HFT := Lib.hid hF
  have HW := Lib.hid hW
  have hzc := h.size
  have hBc : W0.heap.size ≤ V.heap.size := by omega
  obtain ⟨S, hS⟩ : ∃ S, S = bs t := ⟨_, rfl⟩
  have HU := Lib.hid (h.on (ball V (.cells #[.int .i64 nr, .string S] 49)))
  have HB0 := Lib.hid (show Below W0.heap.size W0 (V.alloc (.cells #[.int .i64 nr, .string S] 49)) from (hW ▸ hB).trans ((ball V _).mono hBc))
  have HBV := Lib.hid (show Below c V (V.alloc (.cells #[.int .i64 nr, .string S] 49)) from (ball V _).mono (by omega))
  have HZ := Lib.hid hzc
  have HBX := Lib.hid (heap_alloc_new V (.cells #[.int .i64 nr, .string S] 49))
  have e1 : secV t = sn := by unfold secV; rw [hs]; rfl
  rw [hs, e1, ← hS] at HSE
  rw [← hS]
  clear HAS hG hB hF ht hO hA h hs hzc hBc e1 hS hnr hW
  go_enter Tryd.func22, Tryd.ntmps22
  go_wp2_with (first
    | (go_at_call 13
       with_reducible refine (HSE.out _).mono ?_
       rintro e V1 ⟨rfl, b1⟩
       have U1 := Lib.hid (HU.out.on b1)
       have C1 := Lib.hid (HBV.out.trans (b1.mono (by have := HZ.out; simp; omega)))
       have B1 := Lib.hid (HB0.out.trans (b1.mono HB0.out.size))
       have X1 := Lib.hid ((b1.block _ (by rw [World.size_alloc]; exact Nat.lt_succ_self _)).trans HBX.out)
       have x1 := U1.out.x1
       have f1 := U1.out.frz 1
       clear b1))
  (try simp only [Exit.inBlock, Exit.then])
  first | refine bodyPost_ret (results_none rfl _ _ _) rfl ?_ | refine bodyPost_end (results_none rfl _ _ _) rfl ?_
  exact ⟨rfl, ⟨_, _, U1.out.sec_set sn⟩, C1.out.setCell (p := ⟨c + 1, 1, none⟩) (show c ≤ c + 1 by omega) _⟩
set_option maxRecDepth 100000 in
set_option maxHeartbeats 16000000 in
theorem take_note1 {c b0 : Nat} {fn : ByteArray} {vN vA : Value} {st : US} (W0 V : World) (pn : Nat) (t : List UInt8) (hW : W0.heap.size = c) (hG : G12 W0) (hB : Below c W0 V) (hF : W0.cell? ⟨b0, 0, none⟩ = some (.string fn)) (ht : t.length ≤ 65537000) (hO : st.nts.length ≤ 1000) (hA : st.asl.length ≤ 1000) (h : UAt c b0 fn vN vA st V) (hs : secL t = none) (ha : (asgL t).isSome = false) : Calls Tryd.prog 22 #[.pointer (some ⟨c + 1, 0, none⟩), .agg #[.int .i64 ((pn : Nat) : Int), .string (bs t)]] V fun e V' => e = .returned (.tuple #[]) ∧ (∃ vN' vA', UAt c b0 fn vN' vA' (stepU fn st (pn, t)) V') ∧ Below c V V' := by
  rw [show stepU fn st (pn, t) = ⟨st.sec, st.asl, st.nts ++ [⟨fn, ((pn : Nat) : Int), 130, bs (t.take 60)⟩]⟩ from stepU_nte hs (Or.inl ha)]
  obtain ⟨nr, hnr⟩ : ∃ x, x = ((pn : Nat) : Int) := ⟨_, rfl⟩
  rw [← hnr]
  have HSE := Lib.hid (fun W => section_in t (by omega) W)
  have HAS := Lib.hid (fun W (b : Below W0.heap.size W0 W) => assignment_in t (by omega) W (G12_on hG b))
  have HFT := Lib.hid hF
  have HW := Lib.hid hW
  have hzc := h.size
  have hBc : W0.heap.size ≤ V.heap.size := by omega
  have HFA := Lib.hid (fun W (u : UAt c b0 fn vN vA st W) (b : Below c W0 W) => fault_call c b0 fn vN vA st W nr t (by omega) hO ((b.cell (by have := World.block_lt_of_cell? _ _ hF; omega)).trans hF) u)
  obtain ⟨S, hS⟩ : ∃ S, S = bs t := ⟨_, rfl⟩
  have HU := Lib.hid (h.on (ball V (.cells #[.int .i64 nr, .string S] 49)))
  have HB0 := Lib.hid (show Below W0.heap.size W0 (V.alloc (.cells #[.int .i64 nr, .string S] 49)) from (hW ▸ hB).trans ((ball V _).mono hBc))
  have HBV := Lib.hid (show Below c V (V.alloc (.cells #[.int .i64 nr, .string S] 49)) from (ball V _).mono (by omega))
  have HZ := Lib.hid hzc
  have HBX := Lib.hid (heap_alloc_new V (.cells #[.int .i64 nr, .string S] 49))
  have HBC := Lib.hid hB
  have e1 : secV t = [] := by unfold secV; rw [hs]; rfl
  rw [hs, e1, ← hS] at HSE
  rw [ha, ← hS] at HAS
  rw [← hS] at HFA
  rw [← hS]
  obtain ⟨K, hK⟩ : ∃ K, K = bs (asgK t) := ⟨_, rfl⟩
  obtain ⟨X, hX⟩ : ∃ X, X = bs (asgW t) := ⟨_, rfl⟩
  rw [← hK, ← hX] at HAS
  clear hG hB hF ht hO hA h hs hzc hBc e1 hS hnr hW hK hX ha
  go_enter Tryd.func22, Tryd.ntmps22
  go_wp2_with (first
    | (go_at_call 13
       with_reducible refine (HSE.out _).mono ?_
       rintro e V1 ⟨rfl, b1⟩
       have U1 := Lib.hid (HU.out.on b1)
       have C1 := Lib.hid (HBV.out.trans (b1.mono (by have := HZ.out; simp; omega)))
       have B1 := Lib.hid (HB0.out.trans (b1.mono HB0.out.size))
       have X1 := Lib.hid ((b1.block _ (by rw [World.size_alloc]; exact Nat.lt_succ_self _)).trans HBX.out)
       have y0 := (cell_of_row V1 V.heap.size 0 _ _ (0, 0) X1.out).trans (show _ = some (Value.int .i64 nr) from rfl)
       have y1 := (cell_of_row V1 V.heap.size 1 _ _ (0, 0) X1.out).trans (show _ = some (Value.string S) from rfl)
       clear b1)
    | (go_at_call 15
       with_reducible refine (HAS.out _ B1.out).mono ?_
       rintro e V2 ⟨rfl, b2⟩
       have U2 := Lib.hid (U1.out.on b2)
       have C2 := Lib.hid (C1.out.trans (b2.mono (by have := HZ.out; have := C1.out.size; omega)))
       have B2 := Lib.hid (B1.out.trans (b2.mono B1.out.size))
       have X2 := Lib.hid ((b2.block _ (Array.getElem?_eq_some_iff.1 X1.out).1).trans X1.out)
       have y0 := (cell_of_row V2 V.heap.size 0 _ _ (0, 0) X2.out).trans (show _ = some (Value.int .i64 nr) from rfl)
       have y1 := (cell_of_row V2 V.heap.size 1 _ _ (0, 0) X2.out).trans (show _ = some (Value.string S) from rfl)
       have u0 := U2.out.x0
       have u1 := U2.out.x1
       have u2 := U2.out.x2
       have u3 := U2.out.x3
       have z2 : c + 1 < V2.heap.size := U2.out.size
       have z3 : V.heap.size < V2.heap.size := (Array.getElem?_eq_some_iff.1 X2.out).1
       clear b2))
  go_still_tail 5, (by kernel_rfl)
  change wpList _ _ _ _ _ V2.drew
  have BD := Lib.hid (show Below V2.heap.size V2 V2.drew from (Below.refl _ _).drew)
  have U3 := Lib.hid (U2.out.on BD.out)
  have C3 := Lib.hid (C2.out.trans (BD.out.mono (by have := HZ.out; have := C2.out.size; omega)))
  have D3 := Lib.hid (HBC.out.trans C3.out)
  go_wp2_with (first
    | (go_at_call 20
       with_reducible refine (HFA.out _ U3.out D3.out).mono ?_
       rintro e V4 ⟨rfl, ⟨v4, u4⟩, b4⟩
       have U4 := Lib.hid u4
       have C4 := Lib.hid (C3.out.trans b4)
       clear u4 b4))
  (try simp only [Exit.inBlock, Exit.then])
  first | refine bodyPost_ret (results_none rfl _ _ _) rfl ?_ | refine bodyPost_end (results_none rfl _ _ _) rfl ?_
  exact ⟨rfl, ⟨_, _, U4.out⟩, C4.out⟩
set_option maxRecDepth 100000 in
set_option maxHeartbeats 16000000 in
theorem take_note2 {c b0 : Nat} {fn : ByteArray} {vN vA : Value} {st : US} (W0 V : World) (pn : Nat) (t : List UInt8) (hW : W0.heap.size = c) (hG : G12 W0) (hB : Below c W0 V) (hF : W0.cell? ⟨b0, 0, none⟩ = some (.string fn)) (ht : t.length ≤ 65537000) (hO : st.nts.length ≤ 1000) (hA : st.asl.length ≤ 1000) (h : UAt c b0 fn vN vA st V) (hs : secL t = none) (ha : (asgL t).isSome = true) (hsec : st.sec = []) : Calls Tryd.prog 22 #[.pointer (some ⟨c + 1, 0, none⟩), .agg #[.int .i64 ((pn : Nat) : Int), .string (bs t)]] V fun e V' => e = .returned (.tuple #[]) ∧ (∃ vN' vA', UAt c b0 fn vN' vA' (stepU fn st (pn, t)) V') ∧ Below c V V' := by
  rw [show stepU fn st (pn, t) = ⟨st.sec, st.asl, st.nts ++ [⟨fn, ((pn : Nat) : Int), 130, bs (t.take 60)⟩]⟩ from stepU_nte hs (Or.inr hsec)]
  obtain ⟨nr, hnr⟩ : ∃ x, x = ((pn : Nat) : Int) := ⟨_, rfl⟩
  rw [← hnr]
  have HSE := Lib.hid (fun W => section_in t (by omega) W)
  have HAS := Lib.hid (fun W (b : Below W0.heap.size W0 W) => assignment_in t (by omega) W (G12_on hG b))
  have HFT := Lib.hid hF
  have HW := Lib.hid hW
  have hzc := h.size
  have hBc : W0.heap.size ≤ V.heap.size := by omega
  have HFA := Lib.hid (fun W (u : UAt c b0 fn vN vA st W) (b : Below c W0 W) => fault_call c b0 fn vN vA st W nr t (by omega) hO ((b.cell (by have := World.block_lt_of_cell? _ _ hF; omega)).trans hF) u)
  obtain ⟨S, hS⟩ : ∃ S, S = bs t := ⟨_, rfl⟩
  have HU := Lib.hid (h.on (ball V (.cells #[.int .i64 nr, .string S] 49)))
  have HB0 := Lib.hid (show Below W0.heap.size W0 (V.alloc (.cells #[.int .i64 nr, .string S] 49)) from (hW ▸ hB).trans ((ball V _).mono hBc))
  have HBV := Lib.hid (show Below c V (V.alloc (.cells #[.int .i64 nr, .string S] 49)) from (ball V _).mono (by omega))
  have HZ := Lib.hid hzc
  have HBX := Lib.hid (heap_alloc_new V (.cells #[.int .i64 nr, .string S] 49))
  have HBC := Lib.hid hB
  have e1 : secV t = [] := by unfold secV; rw [hs]; rfl
  rw [hs, e1, ← hS] at HSE
  rw [ha, ← hS] at HAS
  rw [← hS] at HFA
  rw [← hS]
  obtain ⟨K, hK⟩ : ∃ K, K = bs (asgK t) := ⟨_, rfl⟩
  obtain ⟨X, hX⟩ : ∃ X, X = bs (asgW t) := ⟨_, rfl⟩
  rw [← hK, ← hX] at HAS
  have tq : (bs st.sec).toList.isEmpty = true := by rw [hsec, bs_toList]; rfl
  clear hsec
  clear hG hB hF ht hO hA h hs hzc hBc e1 hS hnr hW hK hX ha
  go_enter Tryd.func22, Tryd.ntmps22
  go_wp2_with (first
    | (go_at_call 13
       with_reducible refine (HSE.out _).mono ?_
       rintro e V1 ⟨rfl, b1⟩
       have U1 := Lib.hid (HU.out.on b1)
       have C1 := Lib.hid (HBV.out.trans (b1.mono (by have := HZ.out; simp; omega)))
       have B1 := Lib.hid (HB0.out.trans (b1.mono HB0.out.size))
       have X1 := Lib.hid ((b1.block _ (by rw [World.size_alloc]; exact Nat.lt_succ_self _)).trans HBX.out)
       have y0 := (cell_of_row V1 V.heap.size 0 _ _ (0, 0) X1.out).trans (show _ = some (Value.int .i64 nr) from rfl)
       have y1 := (cell_of_row V1 V.heap.size 1 _ _ (0, 0) X1.out).trans (show _ = some (Value.string S) from rfl)
       clear b1)
    | (go_at_call 15
       with_reducible refine (HAS.out _ B1.out).mono ?_
       rintro e V2 ⟨rfl, b2⟩
       have U2 := Lib.hid (U1.out.on b2)
       have C2 := Lib.hid (C1.out.trans (b2.mono (by have := HZ.out; have := C1.out.size; omega)))
       have B2 := Lib.hid (B1.out.trans (b2.mono B1.out.size))
       have X2 := Lib.hid ((b2.block _ (Array.getElem?_eq_some_iff.1 X1.out).1).trans X1.out)
       have y0 := (cell_of_row V2 V.heap.size 0 _ _ (0, 0) X2.out).trans (show _ = some (Value.int .i64 nr) from rfl)
       have y1 := (cell_of_row V2 V.heap.size 1 _ _ (0, 0) X2.out).trans (show _ = some (Value.string S) from rfl)
       have u0 := U2.out.x0
       have u1 := U2.out.x1
       have u2 := U2.out.x2
       have u3 := U2.out.x3
       have z2 : c + 1 < V2.heap.size := U2.out.size
       have z3 : V.heap.size < V2.heap.size := (Array.getElem?_eq_some_iff.1 X2.out).1
       clear b2))
  go_still_tail 5, (by kernel_rfl)
  change wpList _ _ _ _ _ V2.drew
  have BD := Lib.hid (show Below V2.heap.size V2 V2.drew from (Below.refl _ _).drew)
  have U3 := Lib.hid (U2.out.on BD.out)
  have C3 := Lib.hid (C2.out.trans (BD.out.mono (by have := HZ.out; have := C2.out.size; omega)))
  have D3 := Lib.hid (HBC.out.trans C3.out)
  go_wp2_with (first
    | (go_at_call 20
       with_reducible refine (HFA.out _ U3.out D3.out).mono ?_
       rintro e V4 ⟨rfl, ⟨v4, u4⟩, b4⟩
       have U4 := Lib.hid u4
       have C4 := Lib.hid (C3.out.trans b4)
       clear u4 b4))
  (try simp only [Exit.inBlock, Exit.then])
  first | refine bodyPost_ret (results_none rfl _ _ _) rfl ?_ | refine bodyPost_end (results_none rfl _ _ _) rfl ?_
  exact ⟨rfl, ⟨_, _, U4.out⟩, C4.out⟩
set_option maxRecDepth 100000 in
set_option maxHeartbeats 32000000 in
theorem take_asn {c b0 : Nat} {fn : ByteArray} {vN vA : Value} {st : US} (W0 V : World) (pn : Nat) (t : List UInt8) (hW : W0.heap.size = c) (hG : G12 W0) (hB : Below c W0 V) (hF : W0.cell? ⟨b0, 0, none⟩ = some (.string fn)) (ht : t.length ≤ 65537000) (hO : st.nts.length ≤ 1000) (hA : st.asl.length ≤ 1000) (h : UAt c b0 fn vN vA st V) (hs : secL t = none) (ha : (asgL t).isSome = true) (hsec : st.sec ≠ []) : Calls Tryd.prog 22 #[.pointer (some ⟨c + 1, 0, none⟩), .agg #[.int .i64 ((pn : Nat) : Int), .string (bs t)]] V fun e V' => e = .returned (.tuple #[]) ∧ (∃ vN' vA', UAt c b0 fn vN' vA' (stepU fn st (pn, t)) V') ∧ Below c V V' := by
  obtain ⟨i0, hi0, hz0, hz1, hz2⟩ := info_parts asn_info
  have HI := Lib.hid hi0
  have HZ0 := Lib.hid hz0
  have HZ1 := Lib.hid hz1
  have HZ2 := Lib.hid hz2
  rw [show stepU fn st (pn, t) = ⟨st.sec, st.asl ++ [⟨fn, ((pn : Nat) : Int), bs st.sec, bs (asgK t), bs (asgW t)⟩], st.nts⟩ from stepU_asg hs ha hsec]
  obtain ⟨nr, hnr⟩ : ∃ x, x = ((pn : Nat) : Int) := ⟨_, rfl⟩
  rw [← hnr]
  have HSE := Lib.hid (fun W => section_in t (by omega) W)
  have HAS := Lib.hid (fun W (b : Below W0.heap.size W0 W) => assignment_in t (by omega) W (G12_on hG b))
  have HFT := Lib.hid hF
  have HW := Lib.hid hW
  have hzc := h.size
  have hBc : W0.heap.size ≤ V.heap.size := by omega
  obtain ⟨S, hS⟩ : ∃ S, S = bs t := ⟨_, rfl⟩
  have HU := Lib.hid (h.on (ball V (.cells #[.int .i64 nr, .string S] 49)))
  have HB0 := Lib.hid (show Below W0.heap.size W0 (V.alloc (.cells #[.int .i64 nr, .string S] 49)) from (hW ▸ hB).trans ((ball V _).mono hBc))
  have HBV := Lib.hid (show Below c V (V.alloc (.cells #[.int .i64 nr, .string S] 49)) from (ball V _).mono (by omega))
  have HZ := Lib.hid hzc
  have HBX := Lib.hid (heap_alloc_new V (.cells #[.int .i64 nr, .string S] 49))
  have e1 : secV t = [] := by unfold secV; rw [hs]; rfl
  rw [hs, e1, ← hS] at HSE
  rw [ha, ← hS] at HAS
  rw [← hS]
  obtain ⟨K, hK⟩ : ∃ K, K = bs (asgK t) := ⟨_, rfl⟩
  obtain ⟨X, hX⟩ : ∃ X, X = bs (asgW t) := ⟨_, rfl⟩
  rw [← hK, ← hX] at HAS ⊢
  have tq := ne_bs hsec
  have HLA := Lib.hid hA
  clear hG hB hF ht hO hA h hs hzc hBc e1 hS hnr hW hK hX ha hsec hi0 hz0 hz1 hz2
  go_enter Tryd.func22, Tryd.ntmps22
  go_wp2_with (first
    | (go_at_call 13
       with_reducible refine (HSE.out _).mono ?_
       rintro e V1 ⟨rfl, b1⟩
       have U1 := Lib.hid (HU.out.on b1)
       have C1 := Lib.hid (HBV.out.trans (b1.mono (by have := HZ.out; simp; omega)))
       have B1 := Lib.hid (HB0.out.trans (b1.mono HB0.out.size))
       have X1 := Lib.hid ((b1.block _ (by rw [World.size_alloc]; exact Nat.lt_succ_self _)).trans HBX.out)
       have y0 := (cell_of_row V1 V.heap.size 0 _ _ (0, 0) X1.out).trans (show _ = some (Value.int .i64 nr) from rfl)
       have y1 := (cell_of_row V1 V.heap.size 1 _ _ (0, 0) X1.out).trans (show _ = some (Value.string S) from rfl)
       clear b1)
    | (go_at_call 15
       with_reducible refine (HAS.out _ B1.out).mono ?_
       rintro e V2 ⟨rfl, b2⟩
       have U2 := Lib.hid (U1.out.on b2)
       have C2 := Lib.hid (C1.out.trans (b2.mono (by have := HZ.out; have := C1.out.size; omega)))
       have B2 := Lib.hid (B1.out.trans (b2.mono B1.out.size))
       have X2 := Lib.hid ((b2.block _ (Array.getElem?_eq_some_iff.1 X1.out).1).trans X1.out)
       have y0 := (cell_of_row V2 V.heap.size 0 _ _ (0, 0) X2.out).trans (show _ = some (Value.int .i64 nr) from rfl)
       have y1 := (cell_of_row V2 V.heap.size 1 _ _ (0, 0) X2.out).trans (show _ = some (Value.string S) from rfl)
       have u0 := U2.out.x0
       have u1 := U2.out.x1
       have u2 := U2.out.x2
       have u3 := U2.out.x3
       have z2 : c + 1 < V2.heap.size := U2.out.size
       have z3 : V.heap.size < V2.heap.size := (Array.getElem?_eq_some_iff.1 X2.out).1
       clear b2))
  go_region_law ((refine step_append_lies _ (by rfl) (.tmp 46) (.tmp 60) 26 (by rfl) (c + 2) 39 i0 _ 5 72 Tryd.underlying26 HI.out HZ0.out HZ1.out HZ2.out rfl (by omega) vA st.asl.length (rowC encA st.asl) (by rfl) (U2.out.asl.alloc _).drew ⟨V2.heap.size, 0, none⟩ 1 1 (encA ⟨fn, nr, bs st.sec, K, X⟩) (by rfl) rfl (news_row V2 _ _) (encA_one _) (by omega) (by have := HLA.out; unfold maxLen; omega) (by have := HLA.out; omega) (by show c + 2 ≤ (V2.alloc _).heap.size; rw [World.size_alloc]; exact Nat.le_succ_of_le U2.out.size) (V2.heap.size + 1) (by show (V2.alloc _).heap.size = _; rw [World.size_alloc]) ?_); intro g6 c6 W6 o6 h6 e6 l6; obtain ⟨q1, q2, q3⟩ := UAt.put_asn (U2.out.on ((ball _ _).drew)) h6 (outA_next o6); have c2 := (cell_of_row W6 (c + 1) 2 _ _ (0, 0) q1).trans (show _ = some vA from rfl); have f2 := frozen_of_row W6 (c + 1) 2 _ _ q1; have Q2 := Lib.hid q2; have Q3 := Lib.hid q3; clear o6 h6 e6 l6 q1 q2 q3)
  all_goals
    go_wp2_with fail
    (try simp only [Exit.inBlock, Exit.then])
    first | refine bodyPost_ret (results_none rfl _ _ _) rfl ?_ | refine bodyPost_end (results_none rfl _ _ _) rfl ?_
    exact ⟨rfl, ⟨_, _, Q2.out⟩, (C2.out.trans (((ball _ _).drew).mono (by have := HZ.out; have := C2.out.size; omega))).trans Q3.out⟩
theorem take_call {c b0 : Nat} {fn : ByteArray} {vN vA : Value} {st : US} (W0 V : World) (pn : Nat) (t : List UInt8) (hW : W0.heap.size = c) (hG : G12 W0) (hB : Below c W0 V) (hF : W0.cell? ⟨b0, 0, none⟩ = some (.string fn)) (ht : t.length ≤ 65537000) (hO : st.nts.length ≤ 1000) (hA : st.asl.length ≤ 1000) (h : UAt c b0 fn vN vA st V) : Calls Tryd.prog 22 #[.pointer (some ⟨c + 1, 0, none⟩), .agg #[.int .i64 ((pn : Nat) : Int), .string (bs t)]] V fun e V' => e = .returned (.tuple #[]) ∧ (∃ vN' vA', UAt c b0 fn vN' vA' (stepU fn st (pn, t)) V') ∧ Below c V V' := by
  cases hs : secL t with
  | some sn => exact take_sec W0 V pn t hW hG hB hF ht hO hA h hs
  | none =>
    cases ha : (asgL t).isSome with
    | false => exact take_note1 W0 V pn t hW hG hB hF ht hO hA h hs ha
    | true =>
      by_cases hsec : st.sec = []
      · exact take_note2 W0 V pn t hW hG hB hF ht hO hA h hs ha hsec
      · exact take_asn W0 V pn t hW hG hB hF ht hO hA h hs ha hsec
end Go.Proofs.YtifjnioichfodaaDoor
