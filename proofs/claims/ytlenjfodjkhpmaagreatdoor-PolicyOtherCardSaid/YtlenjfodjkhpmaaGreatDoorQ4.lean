/- The landed filter's effects: apply, deny, the three closures. Conditions: names' tables lie in their variables; values of at most 1,000 bytes, lists of at most 1,000 calls. -/
import Derived.Test.YtlenjfodjkhpmaaGreatDoorP3
import Derived.Test.YtlenjfodjkhpmaaGreatDoorD2
namespace Go.Proofs.YtlenjfodjkhpmaaGreatDoor
set_option maxRecDepth 100000
open Go.Lib (hid)
open Go.RowKit Go.Shelf
set_option linter.unusedVariables false
set_option linter.unusedSimpArgs false
attribute [local go_sem ↓] Go.wp_at_zero Go.wp_at_succ

set_option maxHeartbeats 8000000 in
theorem errno_c17 (s : ByteArray) (hs : s.size ≤ maxLen) (w : World) (hG : GN w) : Calls Tryz.prog 153 #[.string s] w fun e w' => e = .returned (.tuple #[.int .u32 ((errnoF s).1 : Nat), .int .i64 (errnoF s).2]) ∧ Below w.heap.size w w' := by
 unfold errnoF
 have HE := hid (errnoN s w hG hs)
 by_cases h0 : s = ⟨#[]⟩
 ·rw [if_pos (Or.inl h0)]
  have t0 : (s.toList == []) = true := eq_str h0
  have t1 : s.toList.isEmpty = true := by rw [show s = bs [] from h0, bs_toList]; rfl
  clear hs hG h0
  go_enter Tryz.func153, Tryz.ntmps153
  go_wp2
  go_ret2
  exact ⟨rfl, Below.refl _ _⟩
 ·have t1 : s.toList.isEmpty = false := by
   cases e : s.toList with
   | nil => exact absurd (show s = bs [] from list_of_bytes10 (e.trans (bs_toList []).symm)) h0
   | cons _ _ => rfl
  have t0 : (s.toList == []) = false := ne_str (l := []) h0
  by_cases hk : s = kKil
  ·rw [if_pos (Or.inr hk)]
   have t2 : (s.toList == [107, 105, 108, 108]) = true := eq_str hk
   clear hs hG h0 hk
   go_enter Tryz.func153, Tryz.ntmps153
   go_wp2
   go_ret2
   exact ⟨rfl, Below.refl _ _⟩
  ·rw [if_neg (by rintro (h | h); exact h0 h; exact hk h)]
   have t2 : (s.toList == [107, 105, 108, 108]) = false := ne_str hk
   cases he : errnoR s with
   | some n =>
    have hn := errnoR_lt he
    rw [he] at HE
    have hor : bits .or .u32 (327680 : Int) (n : Int) = ((327680 + n : Nat) : Int) := by
     have h : (327680 ||| n : Nat) = 327680 + n := by
      have := Nat.two_pow_add_eq_or_of_lt (i := 16) (b := n) (by omega) 5
      rw [show 2 ^ 16 * 5 = 327680 from rfl] at this
      exact this.symm
     rw [← h]
     exact u32_or_nat 327680 n (by omega) (by omega)
    clear hs hG h0 hk he
    go_enter Tryz.func153, Tryz.ntmps153
    go_wp2_with (go_at_call 179; ((with_reducible refine (HE.out).mono ?_); rintro e w1 ⟨rfl, b1⟩))
    go_ret2
    exact ⟨by first | rfl | simp, b1⟩
   | none =>
    rw [he] at HE
    clear hs hG h0 hk he
    go_enter Tryz.func153, Tryz.ntmps153
    go_wp2_with (go_at_call 179; ((with_reducible refine (HE.out).mono ?_); rintro e w1 ⟨rfl, b1⟩))
    go_ret2
    exact ⟨rfl, b1⟩
set_option maxRecDepth 100000
open Go.Lib (hid)
open Go.RowKit Go.Shelf
set_option linter.unusedVariables false
set_option linter.unusedSimpArgs false
attribute [local go_sem ↓] Go.wp_at_zero Go.wp_at_succ

theorem grown_of17 {w w' : World} (b : Below w.heap.size w w') (r : Option Nat) : w.grownBy w' r := ⟨b.os, b.tape, b.output, b.size, fun k hk _ => b.block k hk⟩
theorem grown_cells17 {w W : World} {b : Nat} (h : w.grownBy W (some b)) (i : Nat) (l : List Value) : w.grownBy (W.setCells b i l) (some b) := by
 induction l generalizing W i with
 | nil => exact h
 | cons v r ih =>
  refine ih (i := i + 1) (W := W.setCell ⟨b, i, none⟩ v) ⟨h.os, h.tape, h.output, by simp [World.setCell]; exact h.size, fun k hk hne => ?_⟩
  exact (heap_setCell_other W ⟨b, i, none⟩ k v (fun e => hne (by rw [e]))).trans (h.block k hk hne)
theorem set_box17 {W : World} {b : Nat} {p : Pls} {P : Pol} (h : W.heap[b]? = some (.cells (plC p P).toArray 32 (0, 0))) (vs : List Value) (i : Nat) (hi : i + vs.length ≤ 13) : (W.setCells b i vs).heap[b]? = some (.cells ((plC p P).take i ++ vs ++ (plC p P).drop (i + vs.length)).toArray 32 (0, 0)) :=
 set_row17 (W := W) vs i _ W h (by rw [plC_len]; exact hi)
theorem OwnP.grown {B b : Nat} {w w' : World} {p : Pls} {P : Pol} {cs : Array Value} {fz : Nat × Nat} (h : OwnP B w p P) (hb : w.heap[b]? = some (.cells cs 32 fz)) (hg : w.grownBy w' (some b)) : OwnP B w' p P := by
 have hk : ∀ (g : Nat) (cs2 : Array Value) (t : TypeId) (fz2 : Nat × Nat), t ≠ 32 → w.heap[g]? = some (.cells cs2 t fz2) → w'.heap[g]? = some (.cells cs2 t fz2) := fun g cs2 t fz2 ht h2 =>
  (hg.block g (Array.getElem?_eq_some_iff.1 h2).1 (fun e => ne_type16 h2 hb ht (Option.some.inj e))).trans h2
 exact ⟨h.al, h.fl, h.ll, h.ml, owns_same16 h.ar (fun g cs fz _ hg => hk g cs _ fz (by decide) hg), owns_same16 h.fi (fun g cs fz _ hg => hk g cs _ fz (by decide) hg), owns_same16 h.lo (fun g cs fz _ hg => hk g cs _ fz (by decide) hg), owns_same16 h.fa (fun g cs fz _ hg => hk g cs _ fz (by decide) hg)⟩
abbrev ChgC (E : FuncId) (k : ByteArray) : Prop := ∀ (b B : Nat) (p : Pls) (P : Pol) (v : ByteArray) (w : World), GN w → P.Ok → w.heap[b]? = some (.cells (plC p P).toArray 32 (0, 0)) → OwnP B w p P → B ≤ w.heap.size → p.fn ≤ 1000 → p.ln ≤ 1000 → v.size ≤ 1000 →
 Calls Tryz.prog E #[.pointer (some ⟨b, 0, none⟩), .string v] w fun e w' => ∃ p' vN, e = .returned vN ∧ w'.heap[b]? = some (.cells (plC p' (setF P k v).1).toArray 32 (0, 0)) ∧ OwnP B w' p' (setF P k v).1 ∧ w'.ownsRow w.heap.size 57 4 vN (setF P k v).2.length (rowC encN ((setF P k v).2.map nteS)) ∧ w.grownBy w' (some b)
set_option maxHeartbeats 8000000 in
theorem apply_f17 (b : Nat) (p : Pls) (P : Pol) (v : ByteArray) (w : World) (hG : GN w) (ok : P.Ok) (hb : w.heap[b]? = some (.cells (plC p P).toArray 32 (0, 0))) (hl : p.fn = P.fl.2.length) (hn : p.fn ≤ 1000) (hv : v.size ≤ 1000) (h : LsAt w p.fq P.fl.2) :
 Calls Tryz.prog 121 #[.pointer (some ⟨b, 1, none⟩), .string v, .bool true] w fun e w' => ∃ q' n' c' vN, e = .returned vN ∧ w'.heap[b]? = some (.cells (plC { p with fq := q', fn := n', fc := c' } { P with fl := (stepA true v P.fl).1 }).toArray 32 (0, 0)) ∧ n' = (stepA true v P.fl).1.2.length ∧ w'.ownsRow w.heap.size 67 2 (.slice q' n' c') n' (rowC encC (stepA true v P.fl).1.2) ∧ w'.ownsRow w.heap.size 57 4 vN (stepA true v P.fl).2.length (rowC encN ((stepA true v P.fl).2.map nteS)) ∧ w.grownBy w' (some b) := by
 have HST := hid (step_all P.fl.1 p.fq p.fn p.fc P.fl.2 v true w hG ok.f8 hl (by omega) ok.f32 hv h)
 obtain ⟨r, hr⟩ : ∃ r, r = stepA true v P.fl := ⟨_, rfl⟩
 rw [show (P.fl.1, P.fl.2) = P.fl from rfl, ← hr] at HST
 rw [← hr]
 unfold lsV at HST
 obtain ⟨mi, hmi⟩ : ∃ x : Int, x = (P.fl.1 : Nat) := ⟨_, rfl⟩
 obtain ⟨m1, hm1⟩ : ∃ x : Int, x = (r.1.1 : Nat) := ⟨_, rfl⟩
 rw [← hmi, ← hm1] at HST
 have HB := hid hb
 have HM1 := hid hm1
 have HLI := hid (show (Tryz.prog.info? 27).map (·.size) = some 2 by kernel_rfl)
 have x0 := (cell_of_row w b 1 _ _ (0, 0) hb).trans (show _ = some (Value.int .u8 mi) from by rw [hmi]; rfl)
 have x1 := (cell_of_row w b 2 _ _ (0, 0) hb).trans (show _ = some (Value.slice p.fq p.fn p.fc) from rfl)
 clear hG ok hb hl hn hv h hr hmi hm1
 go_enter Tryz.func121, Tryz.ntmps121
 go_wp2_with (first
  | (go_at_call 152
     ((with_reducible refine (HST.out).mono ?_); rintro e v1 ⟨q1, n1, c1, vN, rfl, l1, o1, r1, b1⟩)
     have B1 := hid b1
     have O1 := hid (o1.alloc (.cells #[.int .u8 m1, .slice q1 n1 c1] 27))
     have R1 := hid (r1.alloc (.cells #[.int .u8 m1, .slice q1 n1 c1] 27))
     have L1 := hid l1
     have HB1 := hid (blk_on (blk_on HB.out b1) (below16 v1 (.cells #[.int .u8 m1, .slice q1 n1 c1] 27)))
     have G1 := hid (show w.grownBy (v1.alloc (.cells #[.int .u8 m1, .slice q1 n1 c1] 27)) (some b) from grown_of17 (thn16 b1 (below16 v1 _)) _)
     clear o1 r1 b1 l1 x0 x1)
  | ((with_reducible show wpList _ _ _ (⟨none, .store 27 (.tmp 20) (.tmp 19), _, _, _, _⟩ :: _) _ _)
     refine wpList_store_mid rfl 27 (.tmp 20) (.tmp 19) rfl b 1 #[.int .u8 m1, .slice q1 n1 c1] (by rfl) (by rfl) (there_row17 HB1.out (show 1 + 2 ≤ 13 by decide)) HLI.out (one16 _ _ _ _) ?_
     have Z0 := hid (set_box17 HB1.out [.int .u8 m1, .slice q1 n1 c1] 1 (by show 1 + 2 ≤ 13; decide))
     have O2 := hid (rows_box17 (i := 1) HB1.out (by decide) O1.out [.int .u8 m1, .slice q1 n1 c1])
     have R2 := hid (rows_box17 (i := 1) HB1.out (by decide) R1.out [.int .u8 m1, .slice q1 n1 c1])
     have G2 := hid (grown_cells17 G1.out 1 [.int .u8 m1, .slice q1 n1 c1])
     show wpList _ _ _ _ _ ((v1.alloc (.cells #[.int .u8 m1, .slice q1 n1 c1] 27)).setCells b 1 [.int .u8 m1, .slice q1 n1 c1])
     generalize (v1.alloc (.cells #[.int .u8 m1, .slice q1 n1 c1] 27)).setCells b 1 [.int .u8 m1, .slice q1 n1 c1] = Z at Z0 O2 R2 G2 ⊢))
 go_ret
 exact ⟨q1, n1, c1, vN, rfl, by have := Z0.out; rw [HM1.out] at this; exact this, L1.out, O2.out, R2.out, G2.out⟩
set_option maxHeartbeats 8000000 in
theorem apply_l17 (b : Nat) (p : Pls) (P : Pol) (v : ByteArray) (w : World) (hG : GN w) (ok : P.Ok) (hb : w.heap[b]? = some (.cells (plC p P).toArray 32 (0, 0))) (hl : p.ln = P.lg.2.length) (hn : p.ln ≤ 1000) (hv : v.size ≤ 1000) (h : LsAt w p.lq P.lg.2) :
 Calls Tryz.prog 121 #[.pointer (some ⟨b, 4, none⟩), .string v, .bool false] w fun e w' => ∃ q' n' c' vN, e = .returned vN ∧ w'.heap[b]? = some (.cells (plC { p with lq := q', ln := n', lc := c' } { P with lg := (stepA false v P.lg).1 }).toArray 32 (0, 0)) ∧ n' = (stepA false v P.lg).1.2.length ∧ w'.ownsRow w.heap.size 67 2 (.slice q' n' c') n' (rowC encC (stepA false v P.lg).1.2) ∧ w'.ownsRow w.heap.size 57 4 vN (stepA false v P.lg).2.length (rowC encN ((stepA false v P.lg).2.map nteS)) ∧ w.grownBy w' (some b) := by
 have HST := hid (step_all P.lg.1 p.lq p.ln p.lc P.lg.2 v false w hG ok.l8 hl (by omega) ok.l32 hv h)
 obtain ⟨r, hr⟩ : ∃ r, r = stepA false v P.lg := ⟨_, rfl⟩
 rw [show (P.lg.1, P.lg.2) = P.lg from rfl, ← hr] at HST
 rw [← hr]
 unfold lsV at HST
 obtain ⟨mi, hmi⟩ : ∃ x : Int, x = (P.lg.1 : Nat) := ⟨_, rfl⟩
 obtain ⟨m1, hm1⟩ : ∃ x : Int, x = (r.1.1 : Nat) := ⟨_, rfl⟩
 rw [← hmi, ← hm1] at HST
 have HB := hid hb
 have HM1 := hid hm1
 have HLI := hid (show (Tryz.prog.info? 27).map (·.size) = some 2 by kernel_rfl)
 have x0 := (cell_of_row w b 4 _ _ (0, 0) hb).trans (show _ = some (Value.int .u8 mi) from by rw [hmi]; rfl)
 have x1 := (cell_of_row w b 5 _ _ (0, 0) hb).trans (show _ = some (Value.slice p.lq p.ln p.lc) from rfl)
 clear hG ok hb hl hn hv h hr hmi hm1
 go_enter Tryz.func121, Tryz.ntmps121
 go_wp2_with (first
  | (go_at_call 152
     ((with_reducible refine (HST.out).mono ?_); rintro e v1 ⟨q1, n1, c1, vN, rfl, l1, o1, r1, b1⟩)
     have B1 := hid b1
     have O1 := hid (o1.alloc (.cells #[.int .u8 m1, .slice q1 n1 c1] 27))
     have R1 := hid (r1.alloc (.cells #[.int .u8 m1, .slice q1 n1 c1] 27))
     have L1 := hid l1
     have HB1 := hid (blk_on (blk_on HB.out b1) (below16 v1 (.cells #[.int .u8 m1, .slice q1 n1 c1] 27)))
     have G1 := hid (show w.grownBy (v1.alloc (.cells #[.int .u8 m1, .slice q1 n1 c1] 27)) (some b) from grown_of17 (thn16 b1 (below16 v1 _)) _)
     clear o1 r1 b1 l1 x0 x1)
  | ((with_reducible show wpList _ _ _ (⟨none, .store 27 (.tmp 20) (.tmp 19), _, _, _, _⟩ :: _) _ _)
     refine wpList_store_mid rfl 27 (.tmp 20) (.tmp 19) rfl b 4 #[.int .u8 m1, .slice q1 n1 c1] (by rfl) (by rfl) (there_row17 HB1.out (show 4 + 2 ≤ 13 by decide)) HLI.out (one16 _ _ _ _) ?_
     have Z0 := hid (set_box17 HB1.out [.int .u8 m1, .slice q1 n1 c1] 4 (by show 4 + 2 ≤ 13; decide))
     have O2 := hid (rows_box17 (i := 4) HB1.out (by decide) O1.out [.int .u8 m1, .slice q1 n1 c1])
     have R2 := hid (rows_box17 (i := 4) HB1.out (by decide) R1.out [.int .u8 m1, .slice q1 n1 c1])
     have G2 := hid (grown_cells17 G1.out 4 [.int .u8 m1, .slice q1 n1 c1])
     show wpList _ _ _ _ _ ((v1.alloc (.cells #[.int .u8 m1, .slice q1 n1 c1] 27)).setCells b 4 [.int .u8 m1, .slice q1 n1 c1])
     generalize (v1.alloc (.cells #[.int .u8 m1, .slice q1 n1 c1] 27)).setCells b 4 [.int .u8 m1, .slice q1 n1 c1] = Z at Z0 O2 R2 G2 ⊢))
 go_ret
 exact ⟨q1, n1, c1, vN, rfl, by have := Z0.out; rw [HM1.out] at this; exact this, L1.out, O2.out, R2.out, G2.out⟩
set_option maxHeartbeats 8000000 in
theorem deny_c17 (b : Nat) (p : Pls) (P : Pol) (v : ByteArray) (w : World) (hG : GN w) (hb : w.heap[b]? = some (.cells (plC p P).toArray 32 (0, 0))) (hv : v.size ≤ 1000) :
 Calls Tryz.prog 124 #[.pointer (some ⟨b, 3, none⟩), .string v] w fun e w' => ∃ vN, e = .returned vN ∧ w'.heap[b]? = some (.cells (plC p (setF P kErr v).1).toArray 32 (0, 0)) ∧ w'.ownsRow w.heap.size 57 4 vN (setF P kErr v).2.length (rowC encN ((setF P kErr v).2.map nteS)) ∧ w.grownBy w' (some b) := by
 have hs : setF P kErr v = if (errnoF v).2 = 0 then ({ P with dn := (errnoF v).1 }, []) else (P, [((errnoF v).2, bs (v.data.toList.take 60))]) := (if_neg (by decide)).trans ((if_neg (by decide)).trans (if_pos rfl))
 have HE := hid (errno_c17 v (by unfold maxLen; omega) w hG)
 obtain ⟨a, ha⟩ : ∃ x : Int, x = ((errnoF v).1 : Nat) := ⟨_, rfl⟩
 obtain ⟨d, hd⟩ : ∃ x : Int, x = (errnoF v).2 := ⟨_, rfl⟩
 rw [← ha, ← hd] at HE
 rw [← hd] at hs
 have HB := hid hb
 by_cases h0 : d = 0
 ·rw [if_pos h0] at hs
  rw [hs]
  have e0 : (d != 0) = false := by rw [h0]; rfl
  have HA := hid ha
  clear hG hb hv hs hd h0 ha
  go_enter Tryz.func124, Tryz.ntmps124
  go_wp2_with (
   go_at_call 153
   ((with_reducible refine (HE.out).mono ?_); rintro e v1 ⟨rfl, b1⟩)
   have HB1 := hid (blk_on HB.out b1)
   have x3 := (cell_of_row v1 b 3 _ _ (0, 0) HB1.out).trans (show _ = some (Value.int .u32 (P.dn : Nat)) from rfl)
   have xf := frozen_of_row v1 b 3 _ _ HB1.out
   have G1 := hid (grown_of17 b1 (some b)))
  go_ret
  exact ⟨_, rfl, by rw [HA.out]; exact set_box17 HB1.out [.int .u32 ((errnoF v).1 : Nat)] 3 (by show 3 + 1 ≤ 13; decide), World.ownsRow_nil _ _ _ _, grown_cells17 G1.out 3 [.int .u32 a]⟩
 ·rw [if_neg h0] at hs
  rw [hs]
  have e0 : (d != 0) = true := bne_iff_ne.2 h0
  obtain ⟨k, hk⟩ : ∃ k, k = min v.size 60 := ⟨_, rfl⟩
  have HT := hid (show v.extract 0 k = bs (v.data.toList.take 60) by
   have h : v.size = v.data.toList.length := rfl
   rw [← bs_self v, bs_subV, bs_list, List.drop_zero, Nat.sub_zero]
   congr 1
   rw [List.take_eq_take_iff]
   omega)
  have hmin : min (v.size : Int) 60 = k := by omega
  have k0 : (0 : Int) ≤ k := by omega
  have k1 : (k : Int) ≤ v.size := by omega
  obtain ⟨tx, htx⟩ : ∃ t, t = v.extract 0 k := ⟨_, rfl⟩
  clear hG hb hv hs hd h0 ha hk
  go_enter Tryz.func124, Tryz.ntmps124
  go_wp2_with (
   go_at_call 153
   ((with_reducible refine (HE.out).mono ?_); rintro e v1 ⟨rfl, b1⟩)
   have HB1 := hid (blk_on HB.out b1)
   have B1 := hid b1)
  go_ret
  exact ⟨_, rfl, blk_on HB1.out (below16 v1 _), by rw [← HT.out]; exact owns_low16 (show World.ownsRow (v1.alloc (.cells #[.string ⟨#[]⟩, .int .i64 0, .int .i64 d, .string (v.extract 0 k)] 57)) v1.heap.size 57 4 (.slice (some ⟨v1.heap.size, 0, none⟩) 1 1) 1 (rowC encN [nteS (d, v.extract 0 k)]) from World.ownsRow_lit v1 _ 1 (Nat.le_refl _) (by unfold maxLen; omega) rfl) B1.out.size, grown_of17 (thn16 B1.out (below16 v1 _)) _⟩
set_option maxHeartbeats 8000000 in
theorem eff_f17 : ChgC 120 kFil := by
 intro b B p P v w hG ok hb hO hB hfn hln hv
 have hs : setF P kFil v = ({ P with fl := (stepA true v P.fl).1 }, (stepA true v P.fl).2) := if_pos rfl
 rw [hs]
 have HA := hid (apply_f17 b p P v w hG ok hb hO.fl hfn hv (LsAt.of_own hO.fi hO.fl))
 have HB := hid hb
 have HO := hid hO
 have HBB := hid hB
 clear hG ok hb hO hB hfn hln hv hs
 go_enter Tryz.func120, Tryz.ntmps120
 go_wp2_with (
  go_at_call 121
  ((with_reducible refine (HA.out).mono ?_); rintro e v1 ⟨q1, n1, c1, vN, rfl, z1, l1, o1, r1, g1⟩))
 go_ret
 have OG := HO.out.grown HB.out g1
 exact ⟨_, vN, rfl, z1, { OG with fl := l1, fi := owns_low16 o1 HBB.out }, r1, g1⟩
set_option maxHeartbeats 8000000 in
theorem eff_l17 : ChgC 122 kLog := by
 intro b B p P v w hG ok hb hO hB hfn hln hv
 have hs : setF P kLog v = ({ P with lg := (stepA false v P.lg).1 }, (stepA false v P.lg).2) := (if_neg (by decide)).trans (if_pos rfl)
 rw [hs]
 have HA := hid (apply_l17 b p P v w hG ok hb hO.ll hln hv (LsAt.of_own hO.lo hO.ll))
 have HB := hid hb
 have HO := hid hO
 have HBB := hid hB
 clear hG ok hb hO hB hfn hln hv hs
 go_enter Tryz.func122, Tryz.ntmps122
 go_wp2_with (
  go_at_call 121
  ((with_reducible refine (HA.out).mono ?_); rintro e v1 ⟨q1, n1, c1, vN, rfl, z1, l1, o1, r1, g1⟩))
 go_ret
 have OG := HO.out.grown HB.out g1
 exact ⟨_, vN, rfl, z1, { OG with ll := l1, lo := owns_low16 o1 HBB.out }, r1, g1⟩
set_option maxHeartbeats 8000000 in
theorem eff_e17 : ChgC 123 kErr := by
 intro b B p P v w hG ok hb hO hB hfn hln hv
 have HA := hid (deny_c17 b p P v w hG hb hv)
 have HB := hid hb
 have HO := hid hO
 have HS := hid (show ∀ X, OwnP B X p P → OwnP B X p (setF P kErr v).1 from fun X h => by
  rw [show setF P kErr v = _ from (if_neg (by decide)).trans ((if_neg (by decide)).trans (if_pos rfl))]
  split
  ·exact ⟨h.al, h.fl, h.ll, h.ml, h.ar, h.fi, h.lo, h.fa⟩
  ·exact h)
 clear hG ok hb hO hB hfn hln hv
 go_enter Tryz.func123, Tryz.ntmps123
 go_wp2_with (
  go_at_call 124
  ((with_reducible refine (HA.out).mono ?_); rintro e v1 ⟨vN, rfl, z1, r1, g1⟩))
 go_ret
 exact ⟨p, vN, rfl, z1, HS.out _ (HO.out.grown HB.out g1), r1, g1⟩
end Go.Proofs.YtlenjfodjkhpmaaGreatDoor
