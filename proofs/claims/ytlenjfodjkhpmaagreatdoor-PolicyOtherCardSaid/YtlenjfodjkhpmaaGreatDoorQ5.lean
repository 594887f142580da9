/- The landed filter's Set; all its calls return what the chapter says. Conditions: names' tables lie in their variables; lists of at most 100, values of at most 1,000 bytes. -/
import Derived.Test.YtlenjfodjkhpmaaGreatDoorQ3
import Derived.Test.YtlenjfodjkhpmaaGreatDoorQ4
import Derived.Deep.RegionHeld3
namespace Go.Proofs.YtlenjfodjkhpmaaGreatDoor
set_option maxRecDepth 100000
open Go.Lib (hid)
open Go.RowKit Go.Shelf Go.Maps
set_option linter.unusedVariables false
set_option linter.unusedSimpArgs false
attribute [local go_sem ↓] Go.wp_at_zero Go.wp_at_succ

theorem run_lookup17 {w : World} (b n : Nat) {D : DataW Value} (hown : w.ownsMap Tryz.prog 9 RV17 b n D) (s : ByteArray) (hkey : Go.keyOf Tryz.prog 9 (.string s) = some (kl17 s)) (v : Value) (ok : Bool) (hok : has D (kl17 s) = ok) (hv : D.atKey (kl17 s) (.held .nilFunc) = .held v) :
 (Instr.lookup 128 (.map (some b)) (.string s) true).run Tryz.prog w = .ok (.tuple #[v, .bool ok]) w := by
 obtain ⟨v', ps, hrun, hv'⟩ := hown.look_ok keyed17 Tryz.underlying128 (zero17 w) (show RV17 .nilFunc = some (.held .nilFunc, []) from rfl) hkey
 have e1 := congrArg (fun q => q.1) (Option.some.inj hv')
 have e2 : DataW.held v' = .held v := (show DataW.held v' = D.atKey (kl17 s) (.held .nilFunc) from e1).trans hv
 injection e2 with e2
 subst e2
 rw [hrun, hok]
theorem OwnP.low {B B' : Nat} {w : World} {p : Pls} {P : Pol} (h : OwnP B w p P) (hb : B' ≤ B) : OwnP B' w p P := ⟨h.al, h.fl, h.ll, h.ml, owns_low16 h.ar hb, owns_low16 h.fi hb, owns_low16 h.lo hb, owns_low16 h.fa hb⟩
theorem OwnP.box {B b : Nat} {w : World} {p : Pls} {P : Pol} {cs : Array Value} {fz : Nat × Nat} (h : OwnP B w p P) (hb : w.heap[b]? = some (.cells cs 32 fz)) (i : Nat) (l : List Value) : OwnP B (w.setCells b i l) p P :=
 ⟨h.al, h.fl, h.ll, h.ml, rows_box17 hb (by decide) h.ar l, rows_box17 hb (by decide) h.fi l, rows_box17 hb (by decide) h.lo l, rows_box17 hb (by decide) h.fa l⟩
theorem OwnP.noted {B g : Nat} {w w' : World} {p : Pls} {P : Pol} {cs : Array Value} {fz : Nat × Nat} (h : OwnP B w p P) (hb : w.heap[g]? = some (.cells cs 57 fz)) (hg : w.grownBy w' (some g)) : OwnP B w' p P := by
 have hk : ∀ (k : Nat) (cs2 : Array Value) (t : TypeId) (fz2 : Nat × Nat), t ≠ 57 → w.heap[k]? = some (.cells cs2 t fz2) → w'.heap[k]? = some (.cells cs2 t fz2) := fun k cs2 t fz2 ht h2 =>
  (hg.block k (Array.getElem?_eq_some_iff.1 h2).1 (fun e => ne_type16 h2 hb ht (Option.some.inj e))).trans h2
 exact ⟨h.al, h.fl, h.ll, h.ml, owns_same16 h.ar (fun g cs fz _ hg => hk g cs _ fz (by decide) hg), owns_same16 h.fi (fun g cs fz _ hg => hk g cs _ fz (by decide) hg), owns_same16 h.lo (fun g cs fz _ hg => hk g cs _ fz (by decide) hg), owns_same16 h.fa (fun g cs fz _ hg => hk g cs _ fz (by decide) hg)⟩
def plK (a : As) (N : List Nte) (k : Nat) : List Nte := (N.take k).map (plN a) ++ N.drop k
theorem plK_len (a : As) (N : List Nte) (k : Nat) : (plK a N k).length = N.length := by unfold plK; simp; omega
theorem plK_set {a : As} {N : List Nte} {k : Nat} (h : k < N.length) : ((rowC encN (plK a N k)).set (k * 4) (.string a.file)).set (k * 4 + 1) (.int .i64 a.line) = rowC encN (plK a N (k + 1)) := by
 have hl : (rowC encN ((N.take k).map (plN a))).length = k * 4 := by rw [rowC_length encN_len, List.length_map, List.length_take, Nat.min_eq_left (Nat.le_of_lt h)]
 have hd : N.drop k = N[k] :: N.drop (k + 1) := List.drop_eq_getElem_cons h
 have ht : (N.take (k + 1)).map (plN a) = (N.take k).map (plN a) ++ [plN a N[k]] := by rw [List.take_add_one, List.getElem?_eq_getElem h, List.map_append]; rfl
 unfold plK
 rw [hd, ht, rowC_app, rowC_app, rowC_app, rowC_one1]
 obtain ⟨A, hA⟩ : ∃ A, A = rowC encN ((N.take k).map (plN a)) := ⟨_, rfl⟩
 rw [← hA] at hl ⊢
 rw [show rowC encN (N[k] :: N.drop (k + 1)) = encN N[k] ++ rowC encN (N.drop (k + 1)) by unfold rowC; simp only [List.flatMap_cons]]
 rw [List.set_append_right _ _ (by omega), List.set_append_right _ _ (by omega), hl, Nat.sub_self, show k * 4 + 1 - k * 4 = 1 by omega, List.append_assoc]
 rfl
theorem plK_all (a : As) (N : List Nte) : plK a N N.length = N.map (plN a) := by unfold plK; simp
theorem plN_nte (a : As) (l : List (Int × ByteArray)) : (l.map nteS).map (plN a) = l.map (nteP a) := by rw [List.map_map]; rfl
theorem own_curN {W : World} {B g n c : Nat} {xs : List Value} (h : W.ownsRow B 57 4 (.slice (some ⟨g, 0, none⟩) n c) n xs) : ∃ cur, B ≤ g ∧ W.heap[g]? = some (.cells cur 57 (0, 0)) ∧ True := by
 rcases h.2 with ⟨h', _⟩ | ⟨g', cap', cur, h', hb, hg, h1, h2, h3, h4⟩
 ·cases h'
 ·injection h' with e1 e2 e3
  injection e1 with e1
  injection e1 with e1 _ _
  subst e1
  exact ⟨cur, hb, hg, trivial⟩
theorem _root_.Go.World.grownBy.trans17 {a b c : World} {g : Nat} (h : a.grownBy b (some g)) (k : b.grownBy c (some g)) : a.grownBy c (some g) :=
 ⟨k.os.trans h.os, k.tape.trans h.tape, k.output.trans h.output, Nat.le_trans h.size k.size, fun i hi hne => (k.block i (Nat.lt_of_lt_of_le hi h.size) hne).trans (h.block i hi hne)⟩
set_option maxHeartbeats 32000000 in
theorem set_c17 (p : Pls) (P : Pol) (a : As) (w : World) (hG : GN w) (ok : P.Ok) (hP : PolAt w p P) (hpa : p.an ≤ 20) (hpm : p.mn ≤ 20) (hpf : p.fn ≤ 100) (hpl : p.ln ≤ 100) (hav : a.val.size ≤ 1000) (hak : a.key.size ≤ 200) : Calls Tryz.prog 69 #[plV p P, asV a] w fun e w' => ∃ p' v, e = .returned (.tuple #[plV p' (setF P a.key a.val).1, v]) ∧ OwnP w.heap.size w' p' (setF P a.key a.val).1 ∧ w'.ownsRow w.heap.size 57 4 v ((setF P a.key a.val).2.map (nteP a)).length (rowC encN ((setF P a.key a.val).2.map (nteP a))) ∧ Below w.heap.size w w' := by
 obtain ⟨af, al, ax, ak, av⟩ := a
 simp only at hav hak
 obtain ⟨s1, s2, s3, s4, s5⟩ := setF_len P ak av hav (by rw [← hP.fl]; exact hpf) (by rw [← hP.ll]; exact hpl)
 unfold asV
 simp only
 obtain ⟨W, hW⟩ : ∃ W, W = ((w.alloc (.cells #[.slice p.aq p.an p.ac, .int .u8 (P.fl.1 : Nat), .slice p.fq p.fn p.fc, .int .u32 (P.dn : Nat), .int .u8 (P.lg.1 : Nat), .slice p.lq p.ln p.lc, .slice p.mq p.mn p.mc, .int .u8 (P.fm : Nat), .int .u64 (P.sp : Nat), .bool P.b1, .bool P.b2, .bool P.b3, .bool P.b4] 32)).alloc (.cells #[.string af, .int .i64 al, .string ax, .string ak, .string av] 37)).alloc (.cells #[.slice none 0 0, .int .u8 0, .slice none 0 0, .int .u32 0, .int .u8 0, .slice none 0 0, .slice none 0 0, .int .u8 0, .int .u64 0, .bool false, .bool false, .bool false, .bool false] 32) := ⟨_, rfl⟩
 have S0 := hid (show S17 w p P ⟨af, al, ax, ak, av⟩ W from hW ▸ S17.start w p P ⟨af, al, ax, ak, av⟩)
 have HWW := hid hW
 have HON := hid (fun (w w' : World) => GN.on (w := w) (w' := w'))
 have HG := hid hG
 have HOW := hid (own_c17 p P W (hP.on S0.out.bel) (by omega) (by omega) (by omega) (by omega))
 have HEF := hid (fun (X : World) => effects_c17 X)
 have HKY := hid (show Go.keyOf Tryz.prog 9 (.string ak) = some (kl17 ak) from WideMaps.keyOf_string_mk Tryz.underlying9 (by unfold maxLen; omega))
 have HF1 := hid (show ∀ n, n = P.fl.2.length → n ≤ 1000 from fun n h => by rw [h, ← hP.fl]; omega)
 have HL1 := hid (show ∀ n, n = P.lg.2.length → n ≤ 1000 from fun n h => by rw [h, ← hP.ll]; omega)
 rw [show plV p P = .agg #[.slice p.aq p.an p.ac, .int .u8 (P.fl.1 : Nat), .slice p.fq p.fn p.fc, .int .u32 (P.dn : Nat), .int .u8 (P.lg.1 : Nat), .slice p.lq p.ln p.lc, .slice p.mq p.mn p.mc, .int .u8 (P.fm : Nat), .int .u64 (P.sp : Nat), .bool P.b1, .bool P.b2, .bool P.b3, .bool P.b4] from rfl] at HOW ⊢
 clear hpa hpm hpf hpl hak
 by_cases h1 : ak = kFil
 ·have HAT := hid (show has D3 (kl17 ak) = true ∧ D3.atKey (kl17 ak) (.held .nilFunc) = .held (.func (.func 120) #[] #[]) by rw [h1]; exact at_fil)
  have HSE := hid (show setF P ak av = setF P kFil av by rw [h1])
  have HCH := hid (fun (X : World) (g : GN X) (q : Pls) hb hO hB hf hl => eff_f17 w.heap.size w.heap.size q P av X g ok hb hO hB hf hl hav)
  rw [← HSE.out] at HCH
  obtain ⟨P3, hP3⟩ : ∃ Q, Q = (setF P ak av).1 := ⟨_, rfl⟩
  obtain ⟨N0, hN0⟩ : ∃ N, N = (setF P ak av).2 := ⟨_, rfl⟩
  rw [← hP3, ← hN0] at HCH
  rw [← hP3, ← hN0]
  obtain ⟨nN, hnN⟩ : ∃ n, n = N0.length := ⟨_, rfl⟩
  have HNN := hid hnN
  have hn1 : nN ≤ 100000 := by rw [hnN, hN0]; exact Nat.le_trans s5 (by decide)
  rw [← hnN] at HCH
  clear hP3 hN0 hnN hG ok hP hav s1 s2 s3 s4 s5 h1 hW HSE
  go_enter Tryz.func69, Tryz.ntmps69
  go_wp2_with (first
   | (go_at_call 99
      rw [← HWW.out]
      ((with_reducible refine (HOW.out).mono ?_); rintro e v1 ⟨⟨aq1, an1, ac1, fq1, fn1, fc1, lq1, ln1, lc1, mq1, mn1, mc1⟩, rfl, o1, b1⟩)
      have O1 := hid (show OwnP w.heap.size v1 ⟨aq1, an1, ac1, fq1, fn1, fc1, lq1, ln1, lc1, mq1, mn1, mc1⟩ P from o1.low S0.out.bel.size)
      have S1 := hid (S0.out.on b1)
      clear o1 b1)
   | ((with_reducible show wpList _ _ _ (⟨none, .store 32 (.tmp 2) (.tmp 11), _, _, _, _⟩ :: _) _ _)
      refine wpList_store_mid rfl 32 (.tmp 2) (.tmp 11) rfl w.heap.size 0 (plC ⟨aq1, an1, ac1, fq1, fn1, fc1, lq1, ln1, lc1, mq1, mn1, mc1⟩ P).toArray (by rfl) (by rfl) (there_row17 S1.out.pol (show 0 + 13 ≤ 13 by decide)) pl_info (plC_one _ _) ?_
      show wpList _ _ _ _ _ (v1.setCells w.heap.size 0 (plC ⟨aq1, an1, ac1, fq1, fn1, fc1, lq1, ln1, lc1, mq1, mn1, mc1⟩ P))
      have SY := hid (S1.out.store (p' := ⟨aq1, an1, ac1, fq1, fn1, fc1, lq1, ln1, lc1, mq1, mn1, mc1⟩) (P' := P) 0 (plC ⟨aq1, an1, ac1, fq1, fn1, fc1, lq1, ln1, lc1, mq1, mn1, mc1⟩ P) (show 0 + 13 ≤ 13 by decide) rfl)
      have OY := hid (O1.out.box S1.out.pol 0 (plC ⟨aq1, an1, ac1, fq1, fn1, fc1, lq1, ln1, lc1, mq1, mn1, mc1⟩ P))
      generalize v1.setCells w.heap.size 0 (plC ⟨aq1, an1, ac1, fq1, fn1, fc1, lq1, ln1, lc1, mq1, mn1, mc1⟩ P) = Y at SY OY ⊢
      clear S1 O1))
  have a3 := (cell_of_row Y (w.heap.size + 1) 3 _ _ (0, 0) SY.out.asg).trans (show _ = some (Value.string ak) from rfl)
  go_region_held3 (fun w' => w'.cell? ⟨w.heap.size + 1, 3, none⟩ = some (.string ak)) (first
   | exact a3
   | exact a32) (first
   | (go_at_call 98
      ((with_reducible refine (HEF.out _).mono ?_); rintro e v2 ⟨rfl, o2, b2⟩)
      have S2 := hid (SY.out.on (((Below.refl Y.heap.size Y).drew).trans b2))
      have O2 := hid (OY.out.on (((Below.refl Y.heap.size Y).drew).trans b2))
      have M2 := hid o2
      have a32 := (cell_of_row v2 (w.heap.size + 1) 3 _ _ (0, 0) S2.out.asg).trans (show _ = some (Value.string ak) from rfl)
      have hlk : (Instr.lookup 128 (.map (some Y.heap.size)) (.string ak) true).run Tryz.prog v2 = .ok (.tuple #[(.func (.func 120) #[] #[]), .bool true]) v2 := run_lookup17 Y.heap.size 3 M2.out ak HKY.out (.func (.func 120) #[] #[]) true HAT.out.1 HAT.out.2
      clear o2 b2))
  go_upto_if 20 with fail
  have c4 := (cell_of_row v2 (w.heap.size + 1) 4 _ _ (0, 0) S2.out.asg).trans (show _ = some (Value.string av) from rfl)
  go_wp2_with (
   go_at_call 120
   ((with_reducible refine (HCH.out v2 (HON.out _ _ HG.out S2.out.bel) ⟨aq1, an1, ac1, fq1, fn1, fc1, lq1, ln1, lc1, mq1, mn1, mc1⟩ S2.out.pol O2.out S2.out.bel.size (HF1.out _ O2.out.fl) (HL1.out _ O2.out.ll)).mono ?_); rintro e v3 ⟨⟨aq3, an3, ac3, fq3, fn3, fc3, lq3, ln3, lc3, mq3, mn3, mc3⟩, vN, rfl, z3, o3, r3, g3⟩)
   obtain ⟨qN, cN, rfl⟩ := own16 r3
   have S3 := hid (show S17 w ⟨aq3, an3, ac3, fq3, fn3, fc3, lq3, ln3, lc3, mq3, mn3, mc3⟩ P3 ⟨af, al, ax, ak, av⟩ v3 from ⟨S2.out.bel.grown g3 S2.out.bel.size (fun k e => Nat.le_of_eq (Option.some.inj e)), z3, (g3.block _ (blk_lt S2.out.asg) (fun e => by have := Option.some.inj e; omega)).trans S2.out.asg, (g3.block _ (blk_lt S2.out.res) (fun e => by have := Option.some.inj e; omega)).trans S2.out.res⟩)
   have O3 := hid o3
   have R3 := hid (show v3.ownsRow w.heap.size 57 4 (.slice qN nN cN) nN (rowC encN (plK ⟨af, al, ax, ak, av⟩ (N0.map nteS) 0)) from owns_low16 r3 S2.out.bel.size)
   clear z3 o3 r3 g3 c4)
  go_loopw [28] (fun v28 wr => ∃ k : Nat, k ≤ nN ∧ v28 = .int .i64 k ∧ Hid (S17 w ⟨aq3, an3, ac3, fq3, fn3, fc3, lq3, ln3, lc3, mq3, mn3, mc3⟩ P3 ⟨af, al, ax, ak, av⟩ wr) ∧ Hid (OwnP w.heap.size wr ⟨aq3, an3, ac3, fq3, fn3, fc3, lq3, ln3, lc3, mq3, mn3, mc3⟩ P3) ∧ Hid (wr.ownsRow w.heap.size 57 4 (.slice qN nN cN) nN (rowC encN (plK ⟨af, al, ax, ak, av⟩ (N0.map nteS) k)))) (fun v28 _ => nN - (intOf v28).toNat)
  case atStart => exact ⟨0, Nat.zero_le _, rfl, S3, O3, R3⟩
  case round =>
   clear S3 O3 R3
   obtain ⟨k, hk, rfl, SX, OX, RX⟩ := hrel
   obtain ⟨V, rfl⟩ : ∃ wo : World, wo = wr := ⟨_, rfl⟩
   by_cases hlt : k < nN
   ·obtain ⟨g, cap, hv, hgB, hgl⟩ := RX.out.form (by omega)
    injection hv with hv1 hv2 hv3
    subst hv1 hv3
    obtain ⟨cur, _, hg, _⟩ := own_curN RX.out
    have HGR := hid hg
    have HXL := hid (show (rowC encN (plK ⟨af, al, ax, ak, av⟩ (N0.map nteS) k)).length = nN * 4 by rw [rowC_length encN_len, plK_len, List.length_map, ← HNN.out])
    obtain ⟨y0, hy0⟩ : ∃ y, y = (rowC encN (plK ⟨af, al, ax, ak, av⟩ (N0.map nteS) k))[k * 4]'(by rw [HXL.out]; omega) := ⟨_, rfl⟩
    obtain ⟨y1, hy1⟩ : ∃ y, y = (rowC encN (plK ⟨af, al, ax, ak, av⟩ (N0.map nteS) k))[k * 4 + 1]'(by rw [HXL.out]; omega) := ⟨_, rfl⟩
    have r0 : V.cell? ⟨g, k * 4, none⟩ = some y0 := (RX.out.cellAt (k * 4) (by omega)).trans (by rw [hy0]; exact List.getElem?_eq_getElem _)
    have r1 : V.cell? ⟨g, k * 4 + 1, none⟩ = some y1 := (RX.out.cellAt (k * 4 + 1) (by omega)).trans (by rw [hy1]; exact List.getElem?_eq_getElem _)
    have z0 := RX.out.frozenAt (k * 4)
    have z1 := RX.out.frozenAt (k * 4 + 1)
    have HNA := hid (show w.heap.size + 1 ≠ g from fun e => ne_type16 HGR.out SX.out.asg (by decide) e.symm)
    have a0 := (cell_of_row V (w.heap.size + 1) 0 _ _ (0, 0) SX.out.asg).trans (show _ = some (Value.string af) from rfl)
    have a1 := (cell_of_row V (w.heap.size + 1) 1 _ _ (0, 0) SX.out.asg).trans (show _ = some (Value.int .i64 al) from rfl)
    have HT1 := hid (RX.out.stored (k * 4) (.string af))
    have HT2 := hid (HT1.out.1.stored (k * 4 + 1) (.int .i64 al))
    have HSX := hid (show ∀ X, V.grownBy X (some g) → S17 w ⟨aq3, an3, ac3, fq3, fn3, fc3, lq3, ln3, lc3, mq3, mn3, mc3⟩ P3 ⟨af, al, ax, ak, av⟩ X ∧ OwnP w.heap.size X ⟨aq3, an3, ac3, fq3, fn3, fc3, lq3, ln3, lc3, mq3, mn3, mc3⟩ P3 from fun X hX => ⟨⟨SX.out.bel.grown hX SX.out.bel.size (fun k e => by have := Option.some.inj e; omega), (hX.block _ (blk_lt SX.out.pol) (fun e => ne_type16 HGR.out SX.out.pol (by decide) (Option.some.inj e).symm)).trans SX.out.pol, (hX.block _ (blk_lt SX.out.asg) (fun e => HNA.out (Option.some.inj e))).trans SX.out.asg, (hX.block _ (blk_lt SX.out.res) (fun e => ne_type16 HGR.out SX.out.res (by decide) (Option.some.inj e).symm)).trans SX.out.res⟩, OX.out.noted HGR.out hX⟩)
    have HG2 := hid (HT1.out.2.trans17 HT2.out.2)
    have k1 : (k : Int) < nN := by omega
    have k0 : (0 : Int) ≤ k := by omega
    have b0 := (World.cell?_of_block (a := ⟨w.heap.size + 1, 0, none⟩) (heap_setCell_other V ⟨g, k * 4, none⟩ (w.heap.size + 1) (.string af) HNA.out)).trans a0
    have b1 := (World.cell?_of_block (a := ⟨w.heap.size + 1, 1, none⟩) (heap_setCell_other V ⟨g, k * 4, none⟩ (w.heap.size + 1) (.string af) HNA.out)).trans a1
    have d0 := (World.cell?_of_block (a := ⟨w.heap.size + 1, 0, none⟩) (heap_setCell_other (V.setCell ⟨g, k * 4, none⟩ (.string af)) ⟨g, k * 4 + 1, none⟩ (w.heap.size + 1) (.int .i64 al) HNA.out)).trans b0
    have d1 := (World.cell?_of_block (a := ⟨w.heap.size + 1, 1, none⟩) (heap_setCell_other (V.setCell ⟨g, k * 4, none⟩ (.string af)) ⟨g, k * 4 + 1, none⟩ (w.heap.size + 1) (.int .i64 al) HNA.out)).trans b1
    have HB0 := hid b0
    have HB1 := hid b1
    have HD0 := hid d0
    have HD1 := hid d1
    clear hy0 hy1 hg hgB hgl hv2 b0 b1 d0 d1
    go_wp2_with fail
    go_region_held3 (fun w' => w'.cell? ⟨w.heap.size + 1, 0, none⟩ = some (.string af) ∧ w'.cell? ⟨w.heap.size + 1, 1, none⟩ = some (.int .i64 al)) (first
     | exact ⟨a0, a1⟩
     | exact ⟨HB0.out, HB1.out⟩
     | exact ⟨HD0.out, HD1.out⟩) (fail)
    all_goals
     go_wp2_with fail
     go_roundw
     case rel => exact ⟨k + 1, by omega, by go_num, hid (HSX.out _ (HG2.out.trans17 (grown_refl _ _))).1, hid (HSX.out _ (HG2.out.trans17 (grown_refl _ _))).2, hid (by rw [← plK_set (a := ⟨af, al, ax, ak, av⟩) (by rw [List.length_map, ← HNN.out]; exact hlt)]; exact HT2.out.1)⟩
     case measure => first | (simp [intOf]; done) | (simp [intOf]; omega)
   ·obtain rfl : k = nN := by omega
    have kk : ¬ (k : Int) < k := by omega
    have SZ := SX
    have OP := OX
    have NP := hid (show V.ownsRow w.heap.size 57 4 (.slice qN k cN) N0.length (rowC encN (N0.map (nteP ⟨af, al, ax, ak, av⟩))) by
     have h1 := RX.out
     have h2 : k = (N0.map nteS).length := by rw [List.length_map]; exact HNN.out
     rw [h2, plK_all, plN_nte, ← h2] at h1
     rw [← HNN.out]
     exact h1)
    obtain ⟨f0, f1, f2, f3, f4, f5, f6, f7, f8, f9, f10, f11, f12⟩ := (show V.cell? ⟨w.heap.size, 0, none⟩ = some (.slice aq3 an3 ac3) ∧ V.cell? ⟨w.heap.size, 1, none⟩ = some (.int .u8 (P3.fl.1 : Nat)) ∧ V.cell? ⟨w.heap.size, 2, none⟩ = some (.slice fq3 fn3 fc3) ∧ V.cell? ⟨w.heap.size, 3, none⟩ = some (.int .u32 (P3.dn : Nat)) ∧ V.cell? ⟨w.heap.size, 4, none⟩ = some (.int .u8 (P3.lg.1 : Nat)) ∧ V.cell? ⟨w.heap.size, 5, none⟩ = some (.slice lq3 ln3 lc3) ∧ V.cell? ⟨w.heap.size, 6, none⟩ = some (.slice mq3 mn3 mc3) ∧ V.cell? ⟨w.heap.size, 7, none⟩ = some (.int .u8 (P3.fm : Nat)) ∧ V.cell? ⟨w.heap.size, 8, none⟩ = some (.int .u64 (P3.sp : Nat)) ∧ V.cell? ⟨w.heap.size, 9, none⟩ = some (.bool P3.b1) ∧ V.cell? ⟨w.heap.size, 10, none⟩ = some (.bool P3.b2) ∧ V.cell? ⟨w.heap.size, 11, none⟩ = some (.bool P3.b3) ∧ V.cell? ⟨w.heap.size, 12, none⟩ = some (.bool P3.b4) from pcells17 (SX.out.pol))
    go_wp2_with (
     (with_reducible show wpList _ _ _ (⟨none, .store 32 (.tmp 4) (.tmp 44), _, _, _, _⟩ :: _) _ _)
     refine wpList_store_mid rfl 32 (.tmp 4) (.tmp 44) rfl (w.heap.size + 2) 0 (plC ⟨aq3, an3, ac3, fq3, fn3, fc3, lq3, ln3, lc3, mq3, mn3, mc3⟩ P3).toArray (by rfl) (by rfl) (there_row17 SZ.out.res (show 0 + 13 ≤ 13 by decide)) pl_info (plC_one _ _) ?_
     show wpList _ _ _ _ _ (V.setCells (w.heap.size + 2) 0 (plC ⟨aq3, an3, ac3, fq3, fn3, fc3, lq3, ln3, lc3, mq3, mn3, mc3⟩ P3))
     have hl := run_loadVar_mid (P := Tryz.prog) (V.setCells (w.heap.size + 2) 0 (plC ⟨aq3, an3, ac3, fq3, fn3, fc3, lq3, ln3, lc3, mq3, mn3, mc3⟩ P3)) (w.heap.size + 2) 0 32 (plC ⟨aq3, an3, ac3, fq3, fn3, fc3, lq3, ln3, lc3, mq3, mn3, mc3⟩ P3) _ (World.rangeAt_setCells_same V _ 0 _ (there_row17 SZ.out.res (show 0 + 13 ≤ 13 by decide))) Tryz.underlying32 rfl pl_info
     have HB := hid (below_setCells16 (show w.heap.size ≤ w.heap.size + 2 by omega) (plC ⟨aq3, an3, ac3, fq3, fn3, fc3, lq3, ln3, lc3, mq3, mn3, mc3⟩ P3) 0 _ SZ.out.bel)
     have OZ := hid (OP.out.box SZ.out.res 0 (plC ⟨aq3, an3, ac3, fq3, fn3, fc3, lq3, ln3, lc3, mq3, mn3, mc3⟩ P3))
     have NZ := hid (rows_box17 (i := 0) SZ.out.res (by decide) NP.out (plC ⟨aq3, an3, ac3, fq3, fn3, fc3, lq3, ln3, lc3, mq3, mn3, mc3⟩ P3))
     generalize V.setCells (w.heap.size + 2) 0 (plC ⟨aq3, an3, ac3, fq3, fn3, fc3, lq3, ln3, lc3, mq3, mn3, mc3⟩ P3) = Z at hl HB OZ NZ ⊢)
    (try simp only [Exit.inBlock, Exit.then])
    refine bodyPost_ret (v := .tuple #[.agg (plC ⟨aq3, an3, ac3, fq3, fn3, fc3, lq3, ln3, lc3, mq3, mn3, mc3⟩ P3).toArray, .slice qN k cN]) (results_two15 Tryz.results69 ?_ ?_ hl) rfl ⟨⟨aq3, an3, ac3, fq3, fn3, fc3, lq3, ln3, lc3, mq3, mn3, mc3⟩, _, rfl, OZ.out, NZ.out, HB.out⟩
    all_goals rfl
 by_cases h2 : ak = kLog
 ·have HAT := hid (show has D3 (kl17 ak) = true ∧ D3.atKey (kl17 ak) (.held .nilFunc) = .held (.func (.func 122) #[] #[]) by rw [h2]; exact at_log)
  have HSE := hid (show setF P ak av = setF P kLog av by rw [h2])
  have HCH := hid (fun (X : World) (g : GN X) (q : Pls) hb hO hB hf hl => eff_l17 w.heap.size w.heap.size q P av X g ok hb hO hB hf hl hav)
  rw [← HSE.out] at HCH
  obtain ⟨P3, hP3⟩ : ∃ Q, Q = (setF P ak av).1 := ⟨_, rfl⟩
  obtain ⟨N0, hN0⟩ : ∃ N, N = (setF P ak av).2 := ⟨_, rfl⟩
  rw [← hP3, ← hN0] at HCH
  rw [← hP3, ← hN0]
  obtain ⟨nN, hnN⟩ : ∃ n, n = N0.length := ⟨_, rfl⟩
  have HNN := hid hnN
  have hn1 : nN ≤ 100000 := by rw [hnN, hN0]; exact Nat.le_trans s5 (by decide)
  rw [← hnN] at HCH
  clear hP3 hN0 hnN hG ok hP hav s1 s2 s3 s4 s5 h1 h2 hW HSE
  go_enter Tryz.func69, Tryz.ntmps69
  go_wp2_with (first
   | (go_at_call 99
      rw [← HWW.out]
      ((with_reducible refine (HOW.out).mono ?_); rintro e v1 ⟨⟨aq1, an1, ac1, fq1, fn1, fc1, lq1, ln1, lc1, mq1, mn1, mc1⟩, rfl, o1, b1⟩)
      have O1 := hid (show OwnP w.heap.size v1 ⟨aq1, an1, ac1, fq1, fn1, fc1, lq1, ln1, lc1, mq1, mn1, mc1⟩ P from o1.low S0.out.bel.size)
      have S1 := hid (S0.out.on b1)
      clear o1 b1)
   | ((with_reducible show wpList _ _ _ (⟨none, .store 32 (.tmp 2) (.tmp 11), _, _, _, _⟩ :: _) _ _)
      refine wpList_store_mid rfl 32 (.tmp 2) (.tmp 11) rfl w.heap.size 0 (plC ⟨aq1, an1, ac1, fq1, fn1, fc1, lq1, ln1, lc1, mq1, mn1, mc1⟩ P).toArray (by rfl) (by rfl) (there_row17 S1.out.pol (show 0 + 13 ≤ 13 by decide)) pl_info (plC_one _ _) ?_
      show wpList _ _ _ _ _ (v1.setCells w.heap.size 0 (plC ⟨aq1, an1, ac1, fq1, fn1, fc1, lq1, ln1, lc1, mq1, mn1, mc1⟩ P))
      have SY := hid (S1.out.store (p' := ⟨aq1, an1, ac1, fq1, fn1, fc1, lq1, ln1, lc1, mq1, mn1, mc1⟩) (P' := P) 0 (plC ⟨aq1, an1, ac1, fq1, fn1, fc1, lq1, ln1, lc1, mq1, mn1, mc1⟩ P) (show 0 + 13 ≤ 13 by decide) rfl)
      have OY := hid (O1.out.box S1.out.pol 0 (plC ⟨aq1, an1, ac1, fq1, fn1, fc1, lq1, ln1, lc1, mq1, mn1, mc1⟩ P))
      generalize v1.setCells w.heap.size 0 (plC ⟨aq1, an1, ac1, fq1, fn1, fc1, lq1, ln1, lc1, mq1, mn1, mc1⟩ P) = Y at SY OY ⊢
      clear S1 O1))
  have a3 := (cell_of_row Y (w.heap.size + 1) 3 _ _ (0, 0) SY.out.asg).trans (show _ = some (Value.string ak) from rfl)
  go_region_held3 (fun w' => w'.cell? ⟨w.heap.size + 1, 3, none⟩ = some (.string ak)) (first
   | exact a3
   | exact a32) (first
   | (go_at_call 98
      ((with_reducible refine (HEF.out _).mono ?_); rintro e v2 ⟨rfl, o2, b2⟩)
      have S2 := hid (SY.out.on (((Below.refl Y.heap.size Y).drew).trans b2))
      have O2 := hid (OY.out.on (((Below.refl Y.heap.size Y).drew).trans b2))
      have M2 := hid o2
      have a32 := (cell_of_row v2 (w.heap.size + 1) 3 _ _ (0, 0) S2.out.asg).trans (show _ = some (Value.string ak) from rfl)
      have hlk : (Instr.lookup 128 (.map (some Y.heap.size)) (.string ak) true).run Tryz.prog v2 = .ok (.tuple #[(.func (.func 122) #[] #[]), .bool true]) v2 := run_lookup17 Y.heap.size 3 M2.out ak HKY.out (.func (.func 122) #[] #[]) true HAT.out.1 HAT.out.2
      clear o2 b2))
  go_upto_if 20 with fail
  have c4 := (cell_of_row v2 (w.heap.size + 1) 4 _ _ (0, 0) S2.out.asg).trans (show _ = some (Value.string av) from rfl)
  go_wp2_with (
   go_at_call 122
   ((with_reducible refine (HCH.out v2 (HON.out _ _ HG.out S2.out.bel) ⟨aq1, an1, ac1, fq1, fn1, fc1, lq1, ln1, lc1, mq1, mn1, mc1⟩ S2.out.pol O2.out S2.out.bel.size (HF1.out _ O2.out.fl) (HL1.out _ O2.out.ll)).mono ?_); rintro e v3 ⟨⟨aq3, an3, ac3, fq3, fn3, fc3, lq3, ln3, lc3, mq3, mn3, mc3⟩, vN, rfl, z3, o3, r3, g3⟩)
   obtain ⟨qN, cN, rfl⟩ := own16 r3
   have S3 := hid (show S17 w ⟨aq3, an3, ac3, fq3, fn3, fc3, lq3, ln3, lc3, mq3, mn3, mc3⟩ P3 ⟨af, al, ax, ak, av⟩ v3 from ⟨S2.out.bel.grown g3 S2.out.bel.size (fun k e => Nat.le_of_eq (Option.some.inj e)), z3, (g3.block _ (blk_lt S2.out.asg) (fun e => by have := Option.some.inj e; omega)).trans S2.out.asg, (g3.block _ (blk_lt S2.out.res) (fun e => by have := Option.some.inj e; omega)).trans S2.out.res⟩)
   have O3 := hid o3
   have R3 := hid (show v3.ownsRow w.heap.size 57 4 (.slice qN nN cN) nN (rowC encN (plK ⟨af, al, ax, ak, av⟩ (N0.map nteS) 0)) from owns_low16 r3 S2.out.bel.size)
   clear z3 o3 r3 g3 c4)
  go_loopw [28] (fun v28 wr => ∃ k : Nat, k ≤ nN ∧ v28 = .int .i64 k ∧ Hid (S17 w ⟨aq3, an3, ac3, fq3, fn3, fc3, lq3, ln3, lc3, mq3, mn3, mc3⟩ P3 ⟨af, al, ax, ak, av⟩ wr) ∧ Hid (OwnP w.heap.size wr ⟨aq3, an3, ac3, fq3, fn3, fc3, lq3, ln3, lc3, mq3, mn3, mc3⟩ P3) ∧ Hid (wr.ownsRow w.heap.size 57 4 (.slice qN nN cN) nN (rowC encN (plK ⟨af, al, ax, ak, av⟩ (N0.map nteS) k)))) (fun v28 _ => nN - (intOf v28).toNat)
  case atStart => exact ⟨0, Nat.zero_le _, rfl, S3, O3, R3⟩
  case round =>
   clear S3 O3 R3
   obtain ⟨k, hk, rfl, SX, OX, RX⟩ := hrel
   obtain ⟨V, rfl⟩ : ∃ wo : World, wo = wr := ⟨_, rfl⟩
   by_cases hlt : k < nN
   ·obtain ⟨g, cap, hv, hgB, hgl⟩ := RX.out.form (by omega)
    injection hv with hv1 hv2 hv3
    subst hv1 hv3
    obtain ⟨cur, _, hg, _⟩ := own_curN RX.out
    have HGR := hid hg
    have HXL := hid (show (rowC encN (plK ⟨af, al, ax, ak, av⟩ (N0.map nteS) k)).length = nN * 4 by rw [rowC_length encN_len, plK_len, List.length_map, ← HNN.out])
    obtain ⟨y0, hy0⟩ : ∃ y, y = (rowC encN (plK ⟨af, al, ax, ak, av⟩ (N0.map nteS) k))[k * 4]'(by rw [HXL.out]; omega) := ⟨_, rfl⟩
    obtain ⟨y1, hy1⟩ : ∃ y, y = (rowC encN (plK ⟨af, al, ax, ak, av⟩ (N0.map nteS) k))[k * 4 + 1]'(by rw [HXL.out]; omega) := ⟨_, rfl⟩
    have r0 : V.cell? ⟨g, k * 4, none⟩ = some y0 := (RX.out.cellAt (k * 4) (by omega)).trans (by rw [hy0]; exact List.getElem?_eq_getElem _)
    have r1 : V.cell? ⟨g, k * 4 + 1, none⟩ = some y1 := (RX.out.cellAt (k * 4 + 1) (by omega)).trans (by rw [hy1]; exact List.getElem?_eq_getElem _)
    have z0 := RX.out.frozenAt (k * 4)
    have z1 := RX.out.frozenAt (k * 4 + 1)
    have HNA := hid (show w.heap.size + 1 ≠ g from fun e => ne_type16 HGR.out SX.out.asg (by decide) e.symm)
    have a0 := (cell_of_row V (w.heap.size + 1) 0 _ _ (0, 0) SX.out.asg).trans (show _ = some (Value.string af) from rfl)
    have a1 := (cell_of_row V (w.heap.size + 1) 1 _ _ (0, 0) SX.out.asg).trans (show _ = some (Value.int .i64 al) from rfl)
    have HT1 := hid (RX.out.stored (k * 4) (.string af))
    have HT2 := hid (HT1.out.1.stored (k * 4 + 1) (.int .i64 al))
    have HSX := hid (show ∀ X, V.grownBy X (some g) → S17 w ⟨aq3, an3, ac3, fq3, fn3, fc3, lq3, ln3, lc3, mq3, mn3, mc3⟩ P3 ⟨af, al, ax, ak, av⟩ X ∧ OwnP w.heap.size X ⟨aq3, an3, ac3, fq3, fn3, fc3, lq3, ln3, lc3, mq3, mn3, mc3⟩ P3 from fun X hX => ⟨⟨SX.out.bel.grown hX SX.out.bel.size (fun k e => by have := Option.some.inj e; omega), (hX.block _ (blk_lt SX.out.pol) (fun e => ne_type16 HGR.out SX.out.pol (by decide) (Option.some.inj e).symm)).trans SX.out.pol, (hX.block _ (blk_lt SX.out.asg) (fun e => HNA.out (Option.some.inj e))).trans SX.out.asg, (hX.block _ (blk_lt SX.out.res) (fun e => ne_type16 HGR.out SX.out.res (by decide) (Option.some.inj e).symm)).trans SX.out.res⟩, OX.out.noted HGR.out hX⟩)
    have HG2 := hid (HT1.out.2.trans17 HT2.out.2)
    have k1 : (k : Int) < nN := by omega
    have k0 : (0 : Int) ≤ k := by omega
    have b0 := (World.cell?_of_block (a := ⟨w.heap.size + 1, 0, none⟩) (heap_setCell_other V ⟨g, k * 4, none⟩ (w.heap.size + 1) (.string af) HNA.out)).trans a0
    have b1 := (World.cell?_of_block (a := ⟨w.heap.size + 1, 1, none⟩) (heap_setCell_other V ⟨g, k * 4, none⟩ (w.heap.size + 1) (.string af) HNA.out)).trans a1
    have d0 := (World.cell?_of_block (a := ⟨w.heap.size + 1, 0, none⟩) (heap_setCell_other (V.setCell ⟨g, k * 4, none⟩ (.string af)) ⟨g, k * 4 + 1, none⟩ (w.heap.size + 1) (.int .i64 al) HNA.out)).trans b0
    have d1 := (World.cell?_of_block (a := ⟨w.heap.size + 1, 1, none⟩) (heap_setCell_other (V.setCell ⟨g, k * 4, none⟩ (.string af)) ⟨g, k * 4 + 1, none⟩ (w.heap.size + 1) (.int .i64 al) HNA.out)).trans b1
    have HB0 := hid b0
    have HB1 := hid b1
    have HD0 := hid d0
    have HD1 := hid d1
    clear hy0 hy1 hg hgB hgl hv2 b0 b1 d0 d1
    go_wp2_with fail
    go_region_held3 (fun w' => w'.cell? ⟨w.heap.size + 1, 0, none⟩ = some (.string af) ∧ w'.cell? ⟨w.heap.size + 1, 1, none⟩ = some (.int .i64 al)) (first
     | exact ⟨a0, a1⟩
     | exact ⟨HB0.out, HB1.out⟩
     | exact ⟨HD0.out, HD1.out⟩) (fail)
    all_goals
     go_wp2_with fail
     go_roundw
     case rel => exact ⟨k + 1, by omega, by go_num, hid (HSX.out _ (HG2.out.trans17 (grown_refl _ _))).1, hid (HSX.out _ (HG2.out.trans17 (grown_refl _ _))).2, hid (by rw [← plK_set (a := ⟨af, al, ax, ak, av⟩) (by rw [List.length_map, ← HNN.out]; exact hlt)]; exact HT2.out.1)⟩
     case measure => first | (simp [intOf]; done) | (simp [intOf]; omega)
   ·obtain rfl : k = nN := by omega
    have kk : ¬ (k : Int) < k := by omega
    have SZ := SX
    have OP := OX
    have NP := hid (show V.ownsRow w.heap.size 57 4 (.slice qN k cN) N0.length (rowC encN (N0.map (nteP ⟨af, al, ax, ak, av⟩))) by
     have h1 := RX.out
     have h2 : k = (N0.map nteS).length := by rw [List.length_map]; exact HNN.out
     rw [h2, plK_all, plN_nte, ← h2] at h1
     rw [← HNN.out]
     exact h1)
    obtain ⟨f0, f1, f2, f3, f4, f5, f6, f7, f8, f9, f10, f11, f12⟩ := (show V.cell? ⟨w.heap.size, 0, none⟩ = some (.slice aq3 an3 ac3) ∧ V.cell? ⟨w.heap.size, 1, none⟩ = some (.int .u8 (P3.fl.1 : Nat)) ∧ V.cell? ⟨w.heap.size, 2, none⟩ = some (.slice fq3 fn3 fc3) ∧ V.cell? ⟨w.heap.size, 3, none⟩ = some (.int .u32 (P3.dn : Nat)) ∧ V.cell? ⟨w.heap.size, 4, none⟩ = some (.int .u8 (P3.lg.1 : Nat)) ∧ V.cell? ⟨w.heap.size, 5, none⟩ = some (.slice lq3 ln3 lc3) ∧ V.cell? ⟨w.heap.size, 6, none⟩ = some (.slice mq3 mn3 mc3) ∧ V.cell? ⟨w.heap.size, 7, none⟩ = some (.int .u8 (P3.fm : Nat)) ∧ V.cell? ⟨w.heap.size, 8, none⟩ = some (.int .u64 (P3.sp : Nat)) ∧ V.cell? ⟨w.heap.size, 9, none⟩ = some (.bool P3.b1) ∧ V.cell? ⟨w.heap.size, 10, none⟩ = some (.bool P3.b2) ∧ V.cell? ⟨w.heap.size, 11, none⟩ = some (.bool P3.b3) ∧ V.cell? ⟨w.heap.size, 12, none⟩ = some (.bool P3.b4) from pcells17 (SX.out.pol))
    go_wp2_with (
     (with_reducible show wpList _ _ _ (⟨none, .store 32 (.tmp 4) (.tmp 44), _, _, _, _⟩ :: _) _ _)
     refine wpList_store_mid rfl 32 (.tmp 4) (.tmp 44) rfl (w.heap.size + 2) 0 (plC ⟨aq3, an3, ac3, fq3, fn3, fc3, lq3, ln3, lc3, mq3, mn3, mc3⟩ P3).toArray (by rfl) (by rfl) (there_row17 SZ.out.res (show 0 + 13 ≤ 13 by decide)) pl_info (plC_one _ _) ?_
     show wpList _ _ _ _ _ (V.setCells (w.heap.size + 2) 0 (plC ⟨aq3, an3, ac3, fq3, fn3, fc3, lq3, ln3, lc3, mq3, mn3, mc3⟩ P3))
     have hl := run_loadVar_mid (P := Tryz.prog) (V.setCells (w.heap.size + 2) 0 (plC ⟨aq3, an3, ac3, fq3, fn3, fc3, lq3, ln3, lc3, mq3, mn3, mc3⟩ P3)) (w.heap.size + 2) 0 32 (plC ⟨aq3, an3, ac3, fq3, fn3, fc3, lq3, ln3, lc3, mq3, mn3, mc3⟩ P3) _ (World.rangeAt_setCells_same V _ 0 _ (there_row17 SZ.out.res (show 0 + 13 ≤ 13 by decide))) Tryz.underlying32 rfl pl_info
     have HB := hid (below_setCells16 (show w.heap.size ≤ w.heap.size + 2 by omega) (plC ⟨aq3, an3, ac3, fq3, fn3, fc3, lq3, ln3, lc3, mq3, mn3, mc3⟩ P3) 0 _ SZ.out.bel)
     have OZ := hid (OP.out.box SZ.out.res 0 (plC ⟨aq3, an3, ac3, fq3, fn3, fc3, lq3, ln3, lc3, mq3, mn3, mc3⟩ P3))
     have NZ := hid (rows_box17 (i := 0) SZ.out.res (by decide) NP.out (plC ⟨aq3, an3, ac3, fq3, fn3, fc3, lq3, ln3, lc3, mq3, mn3, mc3⟩ P3))
     generalize V.setCells (w.heap.size + 2) 0 (plC ⟨aq3, an3, ac3, fq3, fn3, fc3, lq3, ln3, lc3, mq3, mn3, mc3⟩ P3) = Z at hl HB OZ NZ ⊢)
    (try simp only [Exit.inBlock, Exit.then])
    refine bodyPost_ret (v := .tuple #[.agg (plC ⟨aq3, an3, ac3, fq3, fn3, fc3, lq3, ln3, lc3, mq3, mn3, mc3⟩ P3).toArray, .slice qN k cN]) (results_two15 Tryz.results69 ?_ ?_ hl) rfl ⟨⟨aq3, an3, ac3, fq3, fn3, fc3, lq3, ln3, lc3, mq3, mn3, mc3⟩, _, rfl, OZ.out, NZ.out, HB.out⟩
    all_goals rfl
 by_cases h3 : ak = kErr
 ·have HAT := hid (show has D3 (kl17 ak) = true ∧ D3.atKey (kl17 ak) (.held .nilFunc) = .held (.func (.func 123) #[] #[]) by rw [h3]; exact at_err)
  have HSE := hid (show setF P ak av = setF P kErr av by rw [h3])
  have HCH := hid (fun (X : World) (g : GN X) (q : Pls) hb hO hB hf hl => eff_e17 w.heap.size w.heap.size q P av X g ok hb hO hB hf hl hav)
  rw [← HSE.out] at HCH
  obtain ⟨P3, hP3⟩ : ∃ Q, Q = (setF P ak av).1 := ⟨_, rfl⟩
  obtain ⟨N0, hN0⟩ : ∃ N, N = (setF P ak av).2 := ⟨_, rfl⟩
  rw [← hP3, ← hN0] at HCH
  rw [← hP3, ← hN0]
  obtain ⟨nN, hnN⟩ : ∃ n, n = N0.length := ⟨_, rfl⟩
  have HNN := hid hnN
  have hn1 : nN ≤ 100000 := by rw [hnN, hN0]; exact Nat.le_trans s5 (by decide)
  rw [← hnN] at HCH
  clear hP3 hN0 hnN hG ok hP hav s1 s2 s3 s4 s5 h1 h2 h3 hW HSE
  go_enter Tryz.func69, Tryz.ntmps69
  go_wp2_with (first
   | (go_at_call 99
      rw [← HWW.out]
      ((with_reducible refine (HOW.out).mono ?_); rintro e v1 ⟨⟨aq1, an1, ac1, fq1, fn1, fc1, lq1, ln1, lc1, mq1, mn1, mc1⟩, rfl, o1, b1⟩)
      have O1 := hid (show OwnP w.heap.size v1 ⟨aq1, an1, ac1, fq1, fn1, fc1, lq1, ln1, lc1, mq1, mn1, mc1⟩ P from o1.low S0.out.bel.size)
      have S1 := hid (S0.out.on b1)
      clear o1 b1)
   | ((with_reducible show wpList _ _ _ (⟨none, .store 32 (.tmp 2) (.tmp 11), _, _, _, _⟩ :: _) _ _)
      refine wpList_store_mid rfl 32 (.tmp 2) (.tmp 11) rfl w.heap.size 0 (plC ⟨aq1, an1, ac1, fq1, fn1, fc1, lq1, ln1, lc1, mq1, mn1, mc1⟩ P).toArray (by rfl) (by rfl) (there_row17 S1.out.pol (show 0 + 13 ≤ 13 by decide)) pl_info (plC_one _ _) ?_
      show wpList _ _ _ _ _ (v1.setCells w.heap.size 0 (plC ⟨aq1, an1, ac1, fq1, fn1, fc1, lq1, ln1, lc1, mq1, mn1, mc1⟩ P))
      have SY := hid (S1.out.store (p' := ⟨aq1, an1, ac1, fq1, fn1, fc1, lq1, ln1, lc1, mq1, mn1, mc1⟩) (P' := P) 0 (plC ⟨aq1, an1, ac1, fq1, fn1, fc1, lq1, ln1, lc1, mq1, mn1, mc1⟩ P) (show 0 + 13 ≤ 13 by decide) rfl)
      have OY := hid (O1.out.box S1.out.pol 0 (plC ⟨aq1, an1, ac1, fq1, fn1, fc1, lq1, ln1, lc1, mq1, mn1, mc1⟩ P))
      generalize v1.setCells w.heap.size 0 (plC ⟨aq1, an1, ac1, fq1, fn1, fc1, lq1, ln1, lc1, mq1, mn1, mc1⟩ P) = Y at SY OY ⊢
      clear S1 O1))
  have a3 := (cell_of_row Y (w.heap.size + 1) 3 _ _ (0, 0) SY.out.asg).trans (show _ = some (Value.string ak) from rfl)
  go_region_held3 (fun w' => w'.cell? ⟨w.heap.size + 1, 3, none⟩ = some (.string ak)) (first
   | exact a3
   | exact a32) (first
   | (go_at_call 98
      ((with_reducible refine (HEF.out _).mono ?_); rintro e v2 ⟨rfl, o2, b2⟩)
      have S2 := hid (SY.out.on (((Below.refl Y.heap.size Y).drew).trans b2))
      have O2 := hid (OY.out.on (((Below.refl Y.heap.size Y).drew).trans b2))
      have M2 := hid o2
      have a32 := (cell_of_row v2 (w.heap.size + 1) 3 _ _ (0, 0) S2.out.asg).trans (show _ = some (Value.string ak) from rfl)
      have hlk : (Instr.lookup 128 (.map (some Y.heap.size)) (.string ak) true).run Tryz.prog v2 = .ok (.tuple #[(.func (.func 123) #[] #[]), .bool true]) v2 := run_lookup17 Y.heap.size 3 M2.out ak HKY.out (.func (.func 123) #[] #[]) true HAT.out.1 HAT.out.2
      clear o2 b2))
  go_upto_if 20 with fail
  have c4 := (cell_of_row v2 (w.heap.size + 1) 4 _ _ (0, 0) S2.out.asg).trans (show _ = some (Value.string av) from rfl)
  go_wp2_with (
   go_at_call 123
   ((with_reducible refine (HCH.out v2 (HON.out _ _ HG.out S2.out.bel) ⟨aq1, an1, ac1, fq1, fn1, fc1, lq1, ln1, lc1, mq1, mn1, mc1⟩ S2.out.pol O2.out S2.out.bel.size (HF1.out _ O2.out.fl) (HL1.out _ O2.out.ll)).mono ?_); rintro e v3 ⟨⟨aq3, an3, ac3, fq3, fn3, fc3, lq3, ln3, lc3, mq3, mn3, mc3⟩, vN, rfl, z3, o3, r3, g3⟩)
   obtain ⟨qN, cN, rfl⟩ := own16 r3
   have S3 := hid (show S17 w ⟨aq3, an3, ac3, fq3, fn3, fc3, lq3, ln3, lc3, mq3, mn3, mc3⟩ P3 ⟨af, al, ax, ak, av⟩ v3 from ⟨S2.out.bel.grown g3 S2.out.bel.size (fun k e => Nat.le_of_eq (Option.some.inj e)), z3, (g3.block _ (blk_lt S2.out.asg) (fun e => by have := Option.some.inj e; omega)).trans S2.out.asg, (g3.block _ (blk_lt S2.out.res) (fun e => by have := Option.some.inj e; omega)).trans S2.out.res⟩)
   have O3 := hid o3
   have R3 := hid (show v3.ownsRow w.heap.size 57 4 (.slice qN nN cN) nN (rowC encN (plK ⟨af, al, ax, ak, av⟩ (N0.map nteS) 0)) from owns_low16 r3 S2.out.bel.size)
   clear z3 o3 r3 g3 c4)
  go_loopw [28] (fun v28 wr => ∃ k : Nat, k ≤ nN ∧ v28 = .int .i64 k ∧ Hid (S17 w ⟨aq3, an3, ac3, fq3, fn3, fc3, lq3, ln3, lc3, mq3, mn3, mc3⟩ P3 ⟨af, al, ax, ak, av⟩ wr) ∧ Hid (OwnP w.heap.size wr ⟨aq3, an3, ac3, fq3, fn3, fc3, lq3, ln3, lc3, mq3, mn3, mc3⟩ P3) ∧ Hid (wr.ownsRow w.heap.size 57 4 (.slice qN nN cN) nN (rowC encN (plK ⟨af, al, ax, ak, av⟩ (N0.map nteS) k)))) (fun v28 _ => nN - (intOf v28).toNat)
  case atStart => exact ⟨0, Nat.zero_le _, rfl, S3, O3, R3⟩
  case round =>
   clear S3 O3 R3
   obtain ⟨k, hk, rfl, SX, OX, RX⟩ := hrel
   obtain ⟨V, rfl⟩ : ∃ wo : World, wo = wr := ⟨_, rfl⟩
   by_cases hlt : k < nN
   ·obtain ⟨g, cap, hv, hgB, hgl⟩ := RX.out.form (by omega)
    injection hv with hv1 hv2 hv3
    subst hv1 hv3
    obtain ⟨cur, _, hg, _⟩ := own_curN RX.out
    have HGR := hid hg
    have HXL := hid (show (rowC encN (plK ⟨af, al, ax, ak, av⟩ (N0.map nteS) k)).length = nN * 4 by rw [rowC_length encN_len, plK_len, List.length_map, ← HNN.out])
    obtain ⟨y0, hy0⟩ : ∃ y, y = (rowC encN (plK ⟨af, al, ax, ak, av⟩ (N0.map nteS) k))[k * 4]'(by rw [HXL.out]; omega) := ⟨_, rfl⟩
    obtain ⟨y1, hy1⟩ : ∃ y, y = (rowC encN (plK ⟨af, al, ax, ak, av⟩ (N0.map nteS) k))[k * 4 + 1]'(by rw [HXL.out]; omega) := ⟨_, rfl⟩
    have r0 : V.cell? ⟨g, k * 4, none⟩ = some y0 := (RX.out.cellAt (k * 4) (by omega)).trans (by rw [hy0]; exact List.getElem?_eq_getElem _)
    have r1 : V.cell? ⟨g, k * 4 + 1, none⟩ = some y1 := (RX.out.cellAt (k * 4 + 1) (by omega)).trans (by rw [hy1]; exact List.getElem?_eq_getElem _)
    have z0 := RX.out.frozenAt (k * 4)
    have z1 := RX.out.frozenAt (k * 4 + 1)
    have HNA := hid (show w.heap.size + 1 ≠ g from fun e => ne_type16 HGR.out SX.out.asg (by decide) e.symm)
    have a0 := (cell_of_row V (w.heap.size + 1) 0 _ _ (0, 0) SX.out.asg).trans (show _ = some (Value.string af) from rfl)
    have a1 := (cell_of_row V (w.heap.size + 1) 1 _ _ (0, 0) SX.out.asg).trans (show _ = some (Value.int .i64 al) from rfl)
    have HT1 := hid (RX.out.stored (k * 4) (.string af))
    have HT2 := hid (HT1.out.1.stored (k * 4 + 1) (.int .i64 al))
    have HSX := hid (show ∀ X, V.grownBy X (some g) → S17 w ⟨aq3, an3, ac3, fq3, fn3, fc3, lq3, ln3, lc3, mq3, mn3, mc3⟩ P3 ⟨af, al, ax, ak, av⟩ X ∧ OwnP w.heap.size X ⟨aq3, an3, ac3, fq3, fn3, fc3, lq3, ln3, lc3, mq3, mn3, mc3⟩ P3 from fun X hX => ⟨⟨SX.out.bel.grown hX SX.out.bel.size (fun k e => by have := Option.some.inj e; omega), (hX.block _ (blk_lt SX.out.pol) (fun e => ne_type16 HGR.out SX.out.pol (by decide) (Option.some.inj e).symm)).trans SX.out.pol, (hX.block _ (blk_lt SX.out.asg) (fun e => HNA.out (Option.some.inj e))).trans SX.out.asg, (hX.block _ (blk_lt SX.out.res) (fun e => ne_type16 HGR.out SX.out.res (by decide) (Option.some.inj e).symm)).trans SX.out.res⟩, OX.out.noted HGR.out hX⟩)
    have HG2 := hid (HT1.out.2.trans17 HT2.out.2)
    have k1 : (k : Int) < nN := by omega
    have k0 : (0 : Int) ≤ k := by omega
    have b0 := (World.cell?_of_block (a := ⟨w.heap.size + 1, 0, none⟩) (heap_setCell_other V ⟨g, k * 4, none⟩ (w.heap.size + 1) (.string af) HNA.out)).trans a0
    have b1 := (World.cell?_of_block (a := ⟨w.heap.size + 1, 1, none⟩) (heap_setCell_other V ⟨g, k * 4, none⟩ (w.heap.size + 1) (.string af) HNA.out)).trans a1
    have d0 := (World.cell?_of_block (a := ⟨w.heap.size + 1, 0, none⟩) (heap_setCell_other (V.setCell ⟨g, k * 4, none⟩ (.string af)) ⟨g, k * 4 + 1, none⟩ (w.heap.size + 1) (.int .i64 al) HNA.out)).trans b0
    have d1 := (World.cell?_of_block (a := ⟨w.heap.size + 1, 1, none⟩) (heap_setCell_other (V.setCell ⟨g, k * 4, none⟩ (.string af)) ⟨g, k * 4 + 1, none⟩ (w.heap.size + 1) (.int .i64 al) HNA.out)).trans b1
    have HB0 := hid b0
    have HB1 := hid b1
    have HD0 := hid d0
    have HD1 := hid d1
    clear hy0 hy1 hg hgB hgl hv2 b0 b1 d0 d1
    go_wp2_with fail
    go_region_held3 (fun w' => w'.cell? ⟨w.heap.size + 1, 0, none⟩ = some (.string af) ∧ w'.cell? ⟨w.heap.size + 1, 1, none⟩ = some (.int .i64 al)) (first
     | exact ⟨a0, a1⟩
     | exact ⟨HB0.out, HB1.out⟩
     | exact ⟨HD0.out, HD1.out⟩) (fail)
    all_goals
     go_wp2_with fail
     go_roundw
     case rel => exact ⟨k + 1, by omega, by go_num, hid (HSX.out _ (HG2.out.trans17 (grown_refl _ _))).1, hid (HSX.out _ (HG2.out.trans17 (grown_refl _ _))).2, hid (by rw [← plK_set (a := ⟨af, al, ax, ak, av⟩) (by rw [List.length_map, ← HNN.out]; exact hlt)]; exact HT2.out.1)⟩
     case measure => first | (simp [intOf]; done) | (simp [intOf]; omega)
   ·obtain rfl : k = nN := by omega
    have kk : ¬ (k : Int) < k := by omega
    have SZ := SX
    have OP := OX
    have NP := hid (show V.ownsRow w.heap.size 57 4 (.slice qN k cN) N0.length (rowC encN (N0.map (nteP ⟨af, al, ax, ak, av⟩))) by
     have h1 := RX.out
     have h2 : k = (N0.map nteS).length := by rw [List.length_map]; exact HNN.out
     rw [h2, plK_all, plN_nte, ← h2] at h1
     rw [← HNN.out]
     exact h1)
    obtain ⟨f0, f1, f2, f3, f4, f5, f6, f7, f8, f9, f10, f11, f12⟩ := (show V.cell? ⟨w.heap.size, 0, none⟩ = some (.slice aq3 an3 ac3) ∧ V.cell? ⟨w.heap.size, 1, none⟩ = some (.int .u8 (P3.fl.1 : Nat)) ∧ V.cell? ⟨w.heap.size, 2, none⟩ = some (.slice fq3 fn3 fc3) ∧ V.cell? ⟨w.heap.size, 3, none⟩ = some (.int .u32 (P3.dn : Nat)) ∧ V.cell? ⟨w.heap.size, 4, none⟩ = some (.int .u8 (P3.lg.1 : Nat)) ∧ V.cell? ⟨w.heap.size, 5, none⟩ = some (.slice lq3 ln3 lc3) ∧ V.cell? ⟨w.heap.size, 6, none⟩ = some (.slice mq3 mn3 mc3) ∧ V.cell? ⟨w.heap.size, 7, none⟩ = some (.int .u8 (P3.fm : Nat)) ∧ V.cell? ⟨w.heap.size, 8, none⟩ = some (.int .u64 (P3.sp : Nat)) ∧ V.cell? ⟨w.heap.size, 9, none⟩ = some (.bool P3.b1) ∧ V.cell? ⟨w.heap.size, 10, none⟩ = some (.bool P3.b2) ∧ V.cell? ⟨w.heap.size, 11, none⟩ = some (.bool P3.b3) ∧ V.cell? ⟨w.heap.size, 12, none⟩ = some (.bool P3.b4) from pcells17 (SX.out.pol))
    go_wp2_with (
     (with_reducible show wpList _ _ _ (⟨none, .store 32 (.tmp 4) (.tmp 44), _, _, _, _⟩ :: _) _ _)
     refine wpList_store_mid rfl 32 (.tmp 4) (.tmp 44) rfl (w.heap.size + 2) 0 (plC ⟨aq3, an3, ac3, fq3, fn3, fc3, lq3, ln3, lc3, mq3, mn3, mc3⟩ P3).toArray (by rfl) (by rfl) (there_row17 SZ.out.res (show 0 + 13 ≤ 13 by decide)) pl_info (plC_one _ _) ?_
     show wpList _ _ _ _ _ (V.setCells (w.heap.size + 2) 0 (plC ⟨aq3, an3, ac3, fq3, fn3, fc3, lq3, ln3, lc3, mq3, mn3, mc3⟩ P3))
     have hl := run_loadVar_mid (P := Tryz.prog) (V.setCells (w.heap.size + 2) 0 (plC ⟨aq3, an3, ac3, fq3, fn3, fc3, lq3, ln3, lc3, mq3, mn3, mc3⟩ P3)) (w.heap.size + 2) 0 32 (plC ⟨aq3, an3, ac3, fq3, fn3, fc3, lq3, ln3, lc3, mq3, mn3, mc3⟩ P3) _ (World.rangeAt_setCells_same V _ 0 _ (there_row17 SZ.out.res (show 0 + 13 ≤ 13 by decide))) Tryz.underlying32 rfl pl_info
     have HB := hid (below_setCells16 (show w.heap.size ≤ w.heap.size + 2 by omega) (plC ⟨aq3, an3, ac3, fq3, fn3, fc3, lq3, ln3, lc3, mq3, mn3, mc3⟩ P3) 0 _ SZ.out.bel)
     have OZ := hid (OP.out.box SZ.out.res 0 (plC ⟨aq3, an3, ac3, fq3, fn3, fc3, lq3, ln3, lc3, mq3, mn3, mc3⟩ P3))
     have NZ := hid (rows_box17 (i := 0) SZ.out.res (by decide) NP.out (plC ⟨aq3, an3, ac3, fq3, fn3, fc3, lq3, ln3, lc3, mq3, mn3, mc3⟩ P3))
     generalize V.setCells (w.heap.size + 2) 0 (plC ⟨aq3, an3, ac3, fq3, fn3, fc3, lq3, ln3, lc3, mq3, mn3, mc3⟩ P3) = Z at hl HB OZ NZ ⊢)
    (try simp only [Exit.inBlock, Exit.then])
    refine bodyPost_ret (v := .tuple #[.agg (plC ⟨aq3, an3, ac3, fq3, fn3, fc3, lq3, ln3, lc3, mq3, mn3, mc3⟩ P3).toArray, .slice qN k cN]) (results_two15 Tryz.results69 ?_ ?_ hl) rfl ⟨⟨aq3, an3, ac3, fq3, fn3, fc3, lq3, ln3, lc3, mq3, mn3, mc3⟩, _, rfl, OZ.out, NZ.out, HB.out⟩
    all_goals rfl
 have HAT := hid (at_oth h1 h2 h3)
 have HSE := hid (show setF P ak av = (P, []) from (if_neg h1).trans ((if_neg h2).trans (if_neg h3)))
 rw [HSE.out]
 clear hG ok hP hav s1 s2 s3 s4 s5 h1 h2 h3 hW HSE
 go_enter Tryz.func69, Tryz.ntmps69
 go_wp2_with (first
  | (go_at_call 99
     rw [← HWW.out]
     ((with_reducible refine (HOW.out).mono ?_); rintro e v1 ⟨⟨aq1, an1, ac1, fq1, fn1, fc1, lq1, ln1, lc1, mq1, mn1, mc1⟩, rfl, o1, b1⟩)
     have O1 := hid (show OwnP w.heap.size v1 ⟨aq1, an1, ac1, fq1, fn1, fc1, lq1, ln1, lc1, mq1, mn1, mc1⟩ P from o1.low S0.out.bel.size)
     have S1 := hid (S0.out.on b1)
     clear o1 b1)
  | ((with_reducible show wpList _ _ _ (⟨none, .store 32 (.tmp 2) (.tmp 11), _, _, _, _⟩ :: _) _ _)
     refine wpList_store_mid rfl 32 (.tmp 2) (.tmp 11) rfl w.heap.size 0 (plC ⟨aq1, an1, ac1, fq1, fn1, fc1, lq1, ln1, lc1, mq1, mn1, mc1⟩ P).toArray (by rfl) (by rfl) (there_row17 S1.out.pol (show 0 + 13 ≤ 13 by decide)) pl_info (plC_one _ _) ?_
     show wpList _ _ _ _ _ (v1.setCells w.heap.size 0 (plC ⟨aq1, an1, ac1, fq1, fn1, fc1, lq1, ln1, lc1, mq1, mn1, mc1⟩ P))
     have SY := hid (S1.out.store (p' := ⟨aq1, an1, ac1, fq1, fn1, fc1, lq1, ln1, lc1, mq1, mn1, mc1⟩) (P' := P) 0 (plC ⟨aq1, an1, ac1, fq1, fn1, fc1, lq1, ln1, lc1, mq1, mn1, mc1⟩ P) (show 0 + 13 ≤ 13 by decide) rfl)
     have OY := hid (O1.out.box S1.out.pol 0 (plC ⟨aq1, an1, ac1, fq1, fn1, fc1, lq1, ln1, lc1, mq1, mn1, mc1⟩ P))
     generalize v1.setCells w.heap.size 0 (plC ⟨aq1, an1, ac1, fq1, fn1, fc1, lq1, ln1, lc1, mq1, mn1, mc1⟩ P) = Y at SY OY ⊢
     clear S1 O1))
 have a3 := (cell_of_row Y (w.heap.size + 1) 3 _ _ (0, 0) SY.out.asg).trans (show _ = some (Value.string ak) from rfl)
 go_region_held3 (fun w' => w'.cell? ⟨w.heap.size + 1, 3, none⟩ = some (.string ak)) (first
  | exact a3
  | exact a32) (first
  | (go_at_call 98
     ((with_reducible refine (HEF.out _).mono ?_); rintro e v2 ⟨rfl, o2, b2⟩)
     have S2 := hid (SY.out.on (((Below.refl Y.heap.size Y).drew).trans b2))
     have O2 := hid (OY.out.on (((Below.refl Y.heap.size Y).drew).trans b2))
     have M2 := hid o2
     have a32 := (cell_of_row v2 (w.heap.size + 1) 3 _ _ (0, 0) S2.out.asg).trans (show _ = some (Value.string ak) from rfl)
     have hlk : (Instr.lookup 128 (.map (some Y.heap.size)) (.string ak) true).run Tryz.prog v2 = .ok (.tuple #[.nilFunc, .bool false]) v2 := run_lookup17 Y.heap.size 3 M2.out ak HKY.out .nilFunc false HAT.out.1 HAT.out.2
     clear o2 b2))
 have SZ := S2
 have OP := O2
 have NP := hid (World.ownsRow_nil v2 w.heap.size 57 4)
 obtain ⟨f0, f1, f2, f3, f4, f5, f6, f7, f8, f9, f10, f11, f12⟩ := (show v2.cell? ⟨w.heap.size, 0, none⟩ = some (.slice aq1 an1 ac1) ∧ v2.cell? ⟨w.heap.size, 1, none⟩ = some (.int .u8 (P.fl.1 : Nat)) ∧ v2.cell? ⟨w.heap.size, 2, none⟩ = some (.slice fq1 fn1 fc1) ∧ v2.cell? ⟨w.heap.size, 3, none⟩ = some (.int .u32 (P.dn : Nat)) ∧ v2.cell? ⟨w.heap.size, 4, none⟩ = some (.int .u8 (P.lg.1 : Nat)) ∧ v2.cell? ⟨w.heap.size, 5, none⟩ = some (.slice lq1 ln1 lc1) ∧ v2.cell? ⟨w.heap.size, 6, none⟩ = some (.slice mq1 mn1 mc1) ∧ v2.cell? ⟨w.heap.size, 7, none⟩ = some (.int .u8 (P.fm : Nat)) ∧ v2.cell? ⟨w.heap.size, 8, none⟩ = some (.int .u64 (P.sp : Nat)) ∧ v2.cell? ⟨w.heap.size, 9, none⟩ = some (.bool P.b1) ∧ v2.cell? ⟨w.heap.size, 10, none⟩ = some (.bool P.b2) ∧ v2.cell? ⟨w.heap.size, 11, none⟩ = some (.bool P.b3) ∧ v2.cell? ⟨w.heap.size, 12, none⟩ = some (.bool P.b4) from pcells17 (S2.out.pol))
 go_wp2_with (
  (with_reducible show wpList _ _ _ (⟨none, .store 32 (.tmp 4) (.tmp 21), _, _, _, _⟩ :: _) _ _)
  refine wpList_store_mid rfl 32 (.tmp 4) (.tmp 21) rfl (w.heap.size + 2) 0 (plC ⟨aq1, an1, ac1, fq1, fn1, fc1, lq1, ln1, lc1, mq1, mn1, mc1⟩ P).toArray (by rfl) (by rfl) (there_row17 SZ.out.res (show 0 + 13 ≤ 13 by decide)) pl_info (plC_one _ _) ?_
  show wpList _ _ _ _ _ (v2.setCells (w.heap.size + 2) 0 (plC ⟨aq1, an1, ac1, fq1, fn1, fc1, lq1, ln1, lc1, mq1, mn1, mc1⟩ P))
  have hl := run_loadVar_mid (P := Tryz.prog) (v2.setCells (w.heap.size + 2) 0 (plC ⟨aq1, an1, ac1, fq1, fn1, fc1, lq1, ln1, lc1, mq1, mn1, mc1⟩ P)) (w.heap.size + 2) 0 32 (plC ⟨aq1, an1, ac1, fq1, fn1, fc1, lq1, ln1, lc1, mq1, mn1, mc1⟩ P) _ (World.rangeAt_setCells_same v2 _ 0 _ (there_row17 SZ.out.res (show 0 + 13 ≤ 13 by decide))) Tryz.underlying32 rfl pl_info
  have HB := hid (below_setCells16 (show w.heap.size ≤ w.heap.size + 2 by omega) (plC ⟨aq1, an1, ac1, fq1, fn1, fc1, lq1, ln1, lc1, mq1, mn1, mc1⟩ P) 0 _ SZ.out.bel)
  have OZ := hid (OP.out.box SZ.out.res 0 (plC ⟨aq1, an1, ac1, fq1, fn1, fc1, lq1, ln1, lc1, mq1, mn1, mc1⟩ P))
  have NZ := hid (rows_box17 (i := 0) SZ.out.res (by decide) NP.out (plC ⟨aq1, an1, ac1, fq1, fn1, fc1, lq1, ln1, lc1, mq1, mn1, mc1⟩ P))
  generalize v2.setCells (w.heap.size + 2) 0 (plC ⟨aq1, an1, ac1, fq1, fn1, fc1, lq1, ln1, lc1, mq1, mn1, mc1⟩ P) = Z at hl HB OZ NZ ⊢)
 (try simp only [Exit.inBlock, Exit.then])
 refine bodyPost_ret (v := .tuple #[.agg (plC ⟨aq1, an1, ac1, fq1, fn1, fc1, lq1, ln1, lc1, mq1, mn1, mc1⟩ P).toArray, .slice none 0 0]) (results_two15 Tryz.results69 ?_ ?_ hl) rfl ⟨⟨aq1, an1, ac1, fq1, fn1, fc1, lq1, ln1, lc1, mq1, mn1, mc1⟩, _, rfl, OZ.out, NZ.out, HB.out⟩
 all_goals rfl
end Go.Proofs.YtlenjfodjkhpmaaGreatDoor
