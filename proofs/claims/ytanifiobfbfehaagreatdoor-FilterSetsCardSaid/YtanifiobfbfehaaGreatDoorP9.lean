/- The walk of FilterSets, over what the calls have to return. -/
import Derived.Test.YtanifiobfbfehaaGreatDoorP8
namespace Go.Proofs.YtanifiobfbfehaaGreatDoor.filterSets
open Go.RowKit
set_option linter.unusedVariables false
set_option linter.unusedSimpArgs false
attribute [local go_sem ↓] Go.wp_at_zero Go.wp_at_succ

theorem plV_eq (p : Pls) (P : Pol) : plV p P = .agg #[.slice p.aq p.an p.ac, .int .u8 (P.fl.1 : Nat), .slice p.fq p.fn p.fc, .int .u32 (P.dn : Nat), .int .u8 (P.lg.1 : Nat), .slice p.lq p.ln p.lc, .slice p.mq p.mn p.mc, .int .u8 (P.fm : Nat), .int .u64 (P.sp : Nat), .bool P.b1, .bool P.b2, .bool P.b3, .bool P.b4] := rfl
set_option maxRecDepth 100000 in
set_option maxHeartbeats 16000000 in
theorem walk {G : World → Prop} (HC : FilterC G) (HAWK : ∀ (W : World), G W → Calls Tryz.prog 14 #[] W fun e w' => e = .returned (.bool true) ∧ Below W.heap.size W w') (p : Pls) (P : Pol) (a : As) (w : World) (hG : G w) (ok : P.Ok) (hP : PolAt w p P) : Calls Tryz.prog 3 #[plV p P, asV a] w fun e w' => e = .returned (.bool true) ∧ Below w.heap.size w w' := by
  obtain ⟨af, al, ax, ak, av⟩ := a
  have HON := Lib.hid (fun (w w' : World) => HC.on (w := w) (w' := w'))
  have HG := Lib.hid hG
  have HAW := Lib.hid (fun (W : World) (g : G W) => HAWK W g)
  have HP0 := Lib.hid hP
  obtain ⟨W, hW⟩ : ∃ W, W = (w.alloc (.cells #[.slice p.aq p.an p.ac, .int .u8 (P.fl.1 : Nat), .slice p.fq p.fn p.fc, .int .u32 (P.dn : Nat), .int .u8 (P.lg.1 : Nat), .slice p.lq p.ln p.lc, .slice p.mq p.mn p.mc, .int .u8 (P.fm : Nat), .int .u64 (P.sp : Nat), .bool P.b1, .bool P.b2, .bool P.b3, .bool P.b4] 30)).alloc (.cells #[.string af, .int .i64 al, .string ax, .string ak, .string av] 32) := ⟨_, rfl⟩
  have X0 := Lib.hid (show W.heap[w.heap.size]? = some (.cells (plC p P).toArray 30 (0, 0)) by rw [hW]; exact (Below.heap_alloc _ _ _ (by rw [World.size_alloc]; exact Nat.lt_succ_self _)).trans (heap_alloc_new w _))
  have Y0 := Lib.hid (show W.heap[w.heap.size + 1]? = some (.cells #[.string af, .int .i64 al, .string ax, .string ak, .string av] 32 (0, 0)) by rw [hW, ← World.size_alloc w]; exact heap_alloc_new _ _)
  have B0 := Lib.hid (show Below w.heap.size w W from hW ▸ ((Below.refl _ _).alloc (Nat.le_refl _) _).alloc (by rw [World.size_alloc]; exact Nat.le_succ _) _)
  have HWW := Lib.hid hW
  clear hW
  by_cases hgr : ¬ GreatB p ⟨af, al, ax, ak, av⟩
  · have HGR := Lib.hid (fun (X : World) => great_yes17 p P ⟨af, al, ax, ak, av⟩ hgr X)
    simp only [plV_eq, asV] at HGR ⊢
    clear hgr hG hP HC HAWK
    go_enter Tryz.func3, Tryz.ntmps3
    go_wp2_with (go_at_call 7; rw [← HWW.out]; ((with_reducible refine (HGR.out _).mono ?_); rintro e v1 ⟨rfl, b1⟩))
    go_ret
    exact ⟨rfl, thn16 B0.out b1⟩
  have hgr := Classical.not_not.1 hgr
  have HGR := Lib.hid (fun (X : World) => great_no17 p P ⟨af, al, ax, ak, av⟩ hgr X)
  have hg2 : p.an ≤ 20 ∧ p.mn ≤ 20 ∧ p.fn ≤ 100 ∧ p.ln ≤ 100 ∧ av.size ≤ 1000 ∧ ak.size ≤ 200 ∧ af.size ≤ 200 := hgr
  obtain ⟨l1, l2, l3, l4, l5, l6, l7⟩ := hg2
  have lf : P.fl.2.length ≤ 100 := by rw [← hP.fl]; exact l3
  have ll : P.lg.2.length ≤ 100 := by rw [← hP.ll]; exact l4
  have la : P.ar.length ≤ 20 := by rw [← hP.al]; exact l1
  have lm : P.fa.length ≤ 20 := by rw [← hP.ml]; exact l2
  have HCO := Lib.hid (fun (X : World) (b : Below w.heap.size w X) => copied17 p P X (hP.on b) (by omega) (by omega) (by omega) (by omega))
  have HST := Lib.hid (fun (X : World) (g : G X) (q : Pls) (h : PolAt X q P) => HC.set q P ⟨af, al, ax, ak, av⟩ X g ok h (by rw [h.al]; exact la) (by rw [h.ml]; exact lm) (by rw [h.fl]; exact lf) (by rw [h.ll]; exact ll) l5 l6)
  have HRS := Lib.hid (fun (X : World) (b : Below w.heap.size w X) => refSet17 p P ⟨af, al, ax, ak, av⟩ X (hP.on b) ok (by omega) (by omega) l5)
  obtain ⟨s1, s2, s3, s4, s5⟩ := setF_len P ak av l5 lf ll
  simp only at HST HRS
  obtain ⟨P2, hP2⟩ : ∃ Q, Q = (setF P ak av).1 := ⟨_, rfl⟩
  obtain ⟨N2, hN2⟩ : ∃ Q, Q = (setF P ak av).2.map (nteP ⟨af, al, ax, ak, av⟩) := ⟨_, rfl⟩
  have hn2 : N2.length ≤ 1000 := by rw [hN2, List.length_map]; exact s5
  rw [← hP2] at s1 s2 s3 s4 HST HRS
  rw [← hN2] at HST HRS
  have HSA := Lib.hid (fun (X : World) (q q' : Pls) (h : PolAt X q P2) (h' : PolAt X q' P2) => refSame17 q q' P2 X h h' (by rw [s1]; omega) (by omega) (by omega) (by rw [s2]; omega))
  have HSB := Lib.hid (fun (X : World) (q q' : Pls) (h : PolAt X q P) (h' : PolAt X q' P) => refSame17 q q' P X h h' (by omega) (by omega) (by omega) (by omega))
  have HSN := Lib.hid (fun (X : World) (u v : Value) (hu : RowsAt 4 encN X u N2) (hv : RowsAt 4 encN X v N2) => sameN_yes u v N2 X hu hv (by omega))
  have HSPL := Lib.hid (fun (X : World) (q : Pls) (B : Nat) (hB : B ≤ X.heap.size) (h : OwnP B X q P2) => h.spoil hB (by rw [h.al, s1]; omega) (by rw [h.ml, s2]; omega) (by rw [h.fl]; omega) (by rw [h.ll]; omega))
  simp only [plV_eq, asV] at HGR HCO HST HRS HSA HSB HSPL ⊢
  clear hgr l1 l2 l3 l4 l5 l6 l7 lf ll la lm s1 s2 s3 s4 s5 hP2 hN2 hn2 hG hP HC HAWK ok
  go_enter Tryz.func3, Tryz.ntmps3
  go_wp2_with (first
    | (go_at_call 7
       rw [← HWW.out]
       (with_reducible refine (HGR.out _).mono ?_)
       rintro e v1 ⟨rfl, b1⟩
       have B1 := Lib.hid (thn16 B0.out b1)
       have X1 := Lib.hid (blk_on X0.out b1)
       have Y1 := Lib.hid (blk_on Y0.out b1)
       obtain ⟨fp0, fp1, fp2, fp3, fp4, fp5, fp6, fp7, fp8, fp9, fp10, fp11, fp12⟩ := (show v1.cell? ⟨w.heap.size, 0, none⟩ = some (.slice p.aq p.an p.ac) ∧ v1.cell? ⟨w.heap.size, 1, none⟩ = some (.int .u8 (P.fl.1 : Nat)) ∧ v1.cell? ⟨w.heap.size, 2, none⟩ = some (.slice p.fq p.fn p.fc) ∧ v1.cell? ⟨w.heap.size, 3, none⟩ = some (.int .u32 (P.dn : Nat)) ∧ v1.cell? ⟨w.heap.size, 4, none⟩ = some (.int .u8 (P.lg.1 : Nat)) ∧ v1.cell? ⟨w.heap.size, 5, none⟩ = some (.slice p.lq p.ln p.lc) ∧ v1.cell? ⟨w.heap.size, 6, none⟩ = some (.slice p.mq p.mn p.mc) ∧ v1.cell? ⟨w.heap.size, 7, none⟩ = some (.int .u8 (P.fm : Nat)) ∧ v1.cell? ⟨w.heap.size, 8, none⟩ = some (.int .u64 (P.sp : Nat)) ∧ v1.cell? ⟨w.heap.size, 9, none⟩ = some (.bool P.b1) ∧ v1.cell? ⟨w.heap.size, 10, none⟩ = some (.bool P.b2) ∧ v1.cell? ⟨w.heap.size, 11, none⟩ = some (.bool P.b3) ∧ v1.cell? ⟨w.heap.size, 12, none⟩ = some (.bool P.b4) from pcells17 (X1.out))
       clear b1)
    | (go_at_call 8
       (with_reducible refine (HCO.out _ B1.out).mono ?_)
       rintro e v2 ⟨q2, rfl, pol2, b2⟩
       have B2 := Lib.hid (thn16 B1.out b2)
       have O2 := Lib.hid pol2
       have X2 := Lib.hid (blk_on X1.out b2)
       have Y2 := Lib.hid (blk_on Y1.out b2)
       obtain ⟨fa0, fa1, fa2, fa3, fa4⟩ := (acells17 (V := (World.alloc v2 (.cells #[.slice q2.aq q2.an q2.ac, .int .u8 (P.fl.1 : Nat), .slice q2.fq q2.fn q2.fc, .int .u32 (P.dn : Nat), .int .u8 (P.lg.1 : Nat), .slice q2.lq q2.ln q2.lc, .slice q2.mq q2.mn q2.mc, .int .u8 (P.fm : Nat), .int .u64 (P.sp : Nat), .bool P.b1, .bool P.b2, .bool P.b3, .bool P.b4] 30))) (g := w.heap.size + 1) (blk_on Y2.out (below16 v2 _)))
       clear fp0 fp1 fp2 fp3 fp4 fp5 fp6 fp7 fp8 fp9 fp10 fp11 fp12
       clear b2 pol2)
    | (go_at_call 9
       (with_reducible refine (HST.out (World.alloc v2 (.cells #[.slice q2.aq q2.an q2.ac, .int .u8 (P.fl.1 : Nat), .slice q2.fq q2.fn q2.fc, .int .u32 (P.dn : Nat), .int .u8 (P.lg.1 : Nat), .slice q2.lq q2.ln q2.lc, .slice q2.mq q2.mn q2.mc, .int .u8 (P.fm : Nat), .int .u64 (P.sp : Nat), .bool P.b1, .bool P.b2, .bool P.b3, .bool P.b4] 30)) (HON.out _ _ HG.out (B2.out.alloc B2.out.size _)) q2 (O2.out.on (below16 v2 _))).mono ?_)
       rintro e v3 ⟨q3, vN3, rfl, own3, r3, b3⟩
       have B23 := Lib.hid (thn16 (below16 v2 (.cells #[.slice q2.aq q2.an q2.ac, .int .u8 (P.fl.1 : Nat), .slice q2.fq q2.fn q2.fc, .int .u32 (P.dn : Nat), .int .u8 (P.lg.1 : Nat), .slice q2.lq q2.ln q2.lc, .slice q2.mq q2.mn q2.mc, .int .u8 (P.fm : Nat), .int .u64 (P.sp : Nat), .bool P.b1, .bool P.b2, .bool P.b3, .bool P.b4] 30)) b3)
       have B3 := Lib.hid (thn16 B2.out B23.out)
       have O3 := Lib.hid own3
       have R3 := Lib.hid (rows_own encN_len r3)
       have X3 := Lib.hid (blk_on X2.out B23.out)
       have Y3 := Lib.hid (blk_on Y2.out B23.out)
       have Z3 := Lib.hid (blk_on (heap_alloc_new v2 (.cells #[.slice q2.aq q2.an q2.ac, .int .u8 (P.fl.1 : Nat), .slice q2.fq q2.fn q2.fc, .int .u32 (P.dn : Nat), .int .u8 (P.lg.1 : Nat), .slice q2.lq q2.ln q2.lc, .slice q2.mq q2.mn q2.mc, .int .u8 (P.fm : Nat), .int .u64 (P.sp : Nat), .bool P.b1, .bool P.b2, .bool P.b3, .bool P.b4] 30)) b3)
       obtain ⟨fp0, fp1, fp2, fp3, fp4, fp5, fp6, fp7, fp8, fp9, fp10, fp11, fp12⟩ := (show (World.alloc v3 (.cells #[.slice q3.aq q3.an q3.ac, .int .u8 (P2.fl.1 : Nat), .slice q3.fq q3.fn q3.fc, .int .u32 (P2.dn : Nat), .int .u8 (P2.lg.1 : Nat), .slice q3.lq q3.ln q3.lc, .slice q3.mq q3.mn q3.mc, .int .u8 (P2.fm : Nat), .int .u64 (P2.sp : Nat), .bool P2.b1, .bool P2.b2, .bool P2.b3, .bool P2.b4] 30)).cell? ⟨w.heap.size, 0, none⟩ = some (.slice p.aq p.an p.ac) ∧ (World.alloc v3 (.cells #[.slice q3.aq q3.an q3.ac, .int .u8 (P2.fl.1 : Nat), .slice q3.fq q3.fn q3.fc, .int .u32 (P2.dn : Nat), .int .u8 (P2.lg.1 : Nat), .slice q3.lq q3.ln q3.lc, .slice q3.mq q3.mn q3.mc, .int .u8 (P2.fm : Nat), .int .u64 (P2.sp : Nat), .bool P2.b1, .bool P2.b2, .bool P2.b3, .bool P2.b4] 30)).cell? ⟨w.heap.size, 1, none⟩ = some (.int .u8 (P.fl.1 : Nat)) ∧ (World.alloc v3 (.cells #[.slice q3.aq q3.an q3.ac, .int .u8 (P2.fl.1 : Nat), .slice q3.fq q3.fn q3.fc, .int .u32 (P2.dn : Nat), .int .u8 (P2.lg.1 : Nat), .slice q3.lq q3.ln q3.lc, .slice q3.mq q3.mn q3.mc, .int .u8 (P2.fm : Nat), .int .u64 (P2.sp : Nat), .bool P2.b1, .bool P2.b2, .bool P2.b3, .bool P2.b4] 30)).cell? ⟨w.heap.size, 2, none⟩ = some (.slice p.fq p.fn p.fc) ∧ (World.alloc v3 (.cells #[.slice q3.aq q3.an q3.ac, .int .u8 (P2.fl.1 : Nat), .slice q3.fq q3.fn q3.fc, .int .u32 (P2.dn : Nat), .int .u8 (P2.lg.1 : Nat), .slice q3.lq q3.ln q3.lc, .slice q3.mq q3.mn q3.mc, .int .u8 (P2.fm : Nat), .int .u64 (P2.sp : Nat), .bool P2.b1, .bool P2.b2, .bool P2.b3, .bool P2.b4] 30)).cell? ⟨w.heap.size, 3, none⟩ = some (.int .u32 (P.dn : Nat)) ∧ (World.alloc v3 (.cells #[.slice q3.aq q3.an q3.ac, .int .u8 (P2.fl.1 : Nat), .slice q3.fq q3.fn q3.fc, .int .u32 (P2.dn : Nat), .int .u8 (P2.lg.1 : Nat), .slice q3.lq q3.ln q3.lc, .slice q3.mq q3.mn q3.mc, .int .u8 (P2.fm : Nat), .int .u64 (P2.sp : Nat), .bool P2.b1, .bool P2.b2, .bool P2.b3, .bool P2.b4] 30)).cell? ⟨w.heap.size, 4, none⟩ = some (.int .u8 (P.lg.1 : Nat)) ∧ (World.alloc v3 (.cells #[.slice q3.aq q3.an q3.ac, .int .u8 (P2.fl.1 : Nat), .slice q3.fq q3.fn q3.fc, .int .u32 (P2.dn : Nat), .int .u8 (P2.lg.1 : Nat), .slice q3.lq q3.ln q3.lc, .slice q3.mq q3.mn q3.mc, .int .u8 (P2.fm : Nat), .int .u64 (P2.sp : Nat), .bool P2.b1, .bool P2.b2, .bool P2.b3, .bool P2.b4] 30)).cell? ⟨w.heap.size, 5, none⟩ = some (.slice p.lq p.ln p.lc) ∧ (World.alloc v3 (.cells #[.slice q3.aq q3.an q3.ac, .int .u8 (P2.fl.1 : Nat), .slice q3.fq q3.fn q3.fc, .int .u32 (P2.dn : Nat), .int .u8 (P2.lg.1 : Nat), .slice q3.lq q3.ln q3.lc, .slice q3.mq q3.mn q3.mc, .int .u8 (P2.fm : Nat), .int .u64 (P2.sp : Nat), .bool P2.b1, .bool P2.b2, .bool P2.b3, .bool P2.b4] 30)).cell? ⟨w.heap.size, 6, none⟩ = some (.slice p.mq p.mn p.mc) ∧ (World.alloc v3 (.cells #[.slice q3.aq q3.an q3.ac, .int .u8 (P2.fl.1 : Nat), .slice q3.fq q3.fn q3.fc, .int .u32 (P2.dn : Nat), .int .u8 (P2.lg.1 : Nat), .slice q3.lq q3.ln q3.lc, .slice q3.mq q3.mn q3.mc, .int .u8 (P2.fm : Nat), .int .u64 (P2.sp : Nat), .bool P2.b1, .bool P2.b2, .bool P2.b3, .bool P2.b4] 30)).cell? ⟨w.heap.size, 7, none⟩ = some (.int .u8 (P.fm : Nat)) ∧ (World.alloc v3 (.cells #[.slice q3.aq q3.an q3.ac, .int .u8 (P2.fl.1 : Nat), .slice q3.fq q3.fn q3.fc, .int .u32 (P2.dn : Nat), .int .u8 (P2.lg.1 : Nat), .slice q3.lq q3.ln q3.lc, .slice q3.mq q3.mn q3.mc, .int .u8 (P2.fm : Nat), .int .u64 (P2.sp : Nat), .bool P2.b1, .bool P2.b2, .bool P2.b3, .bool P2.b4] 30)).cell? ⟨w.heap.size, 8, none⟩ = some (.int .u64 (P.sp : Nat)) ∧ (World.alloc v3 (.cells #[.slice q3.aq q3.an q3.ac, .int .u8 (P2.fl.1 : Nat), .slice q3.fq q3.fn q3.fc, .int .u32 (P2.dn : Nat), .int .u8 (P2.lg.1 : Nat), .slice q3.lq q3.ln q3.lc, .slice q3.mq q3.mn q3.mc, .int .u8 (P2.fm : Nat), .int .u64 (P2.sp : Nat), .bool P2.b1, .bool P2.b2, .bool P2.b3, .bool P2.b4] 30)).cell? ⟨w.heap.size, 9, none⟩ = some (.bool P.b1) ∧ (World.alloc v3 (.cells #[.slice q3.aq q3.an q3.ac, .int .u8 (P2.fl.1 : Nat), .slice q3.fq q3.fn q3.fc, .int .u32 (P2.dn : Nat), .int .u8 (P2.lg.1 : Nat), .slice q3.lq q3.ln q3.lc, .slice q3.mq q3.mn q3.mc, .int .u8 (P2.fm : Nat), .int .u64 (P2.sp : Nat), .bool P2.b1, .bool P2.b2, .bool P2.b3, .bool P2.b4] 30)).cell? ⟨w.heap.size, 10, none⟩ = some (.bool P.b2) ∧ (World.alloc v3 (.cells #[.slice q3.aq q3.an q3.ac, .int .u8 (P2.fl.1 : Nat), .slice q3.fq q3.fn q3.fc, .int .u32 (P2.dn : Nat), .int .u8 (P2.lg.1 : Nat), .slice q3.lq q3.ln q3.lc, .slice q3.mq q3.mn q3.mc, .int .u8 (P2.fm : Nat), .int .u64 (P2.sp : Nat), .bool P2.b1, .bool P2.b2, .bool P2.b3, .bool P2.b4] 30)).cell? ⟨w.heap.size, 11, none⟩ = some (.bool P.b3) ∧ (World.alloc v3 (.cells #[.slice q3.aq q3.an q3.ac, .int .u8 (P2.fl.1 : Nat), .slice q3.fq q3.fn q3.fc, .int .u32 (P2.dn : Nat), .int .u8 (P2.lg.1 : Nat), .slice q3.lq q3.ln q3.lc, .slice q3.mq q3.mn q3.mc, .int .u8 (P2.fm : Nat), .int .u64 (P2.sp : Nat), .bool P2.b1, .bool P2.b2, .bool P2.b3, .bool P2.b4] 30)).cell? ⟨w.heap.size, 12, none⟩ = some (.bool P.b4) from pcells17 (blk_on X3.out (below16 v3 _)))
       obtain ⟨fd0, fd1, fd2, fd3, fd4⟩ := (acells17 (V := (World.alloc v3 (.cells #[.slice q3.aq q3.an q3.ac, .int .u8 (P2.fl.1 : Nat), .slice q3.fq q3.fn q3.fc, .int .u32 (P2.dn : Nat), .int .u8 (P2.lg.1 : Nat), .slice q3.lq q3.ln q3.lc, .slice q3.mq q3.mn q3.mc, .int .u8 (P2.fm : Nat), .int .u64 (P2.sp : Nat), .bool P2.b1, .bool P2.b2, .bool P2.b3, .bool P2.b4] 30))) (g := w.heap.size + 1) (blk_on Y3.out (below16 v3 _)))
       clear fa0 fa1 fa2 fa3 fa4
       clear b3 own3 r3)
    | (go_at_call 10
       (with_reducible refine (HRS.out (World.alloc v3 (.cells #[.slice q3.aq q3.an q3.ac, .int .u8 (P2.fl.1 : Nat), .slice q3.fq q3.fn q3.fc, .int .u32 (P2.dn : Nat), .int .u8 (P2.lg.1 : Nat), .slice q3.lq q3.ln q3.lc, .slice q3.mq q3.mn q3.mc, .int .u8 (P2.fm : Nat), .int .u64 (P2.sp : Nat), .bool P2.b1, .bool P2.b2, .bool P2.b3, .bool P2.b4] 30)) (B3.out.alloc B3.out.size _)).mono ?_)
       rintro e v4 ⟨q4, vN4, rfl, pol4, r4, b4⟩
       have B34 := Lib.hid (thn16 (below16 v3 (.cells #[.slice q3.aq q3.an q3.ac, .int .u8 (P2.fl.1 : Nat), .slice q3.fq q3.fn q3.fc, .int .u32 (P2.dn : Nat), .int .u8 (P2.lg.1 : Nat), .slice q3.lq q3.ln q3.lc, .slice q3.mq q3.mn q3.mc, .int .u8 (P2.fm : Nat), .int .u64 (P2.sp : Nat), .bool P2.b1, .bool P2.b2, .bool P2.b3, .bool P2.b4] 30)) b4)
       have B4 := Lib.hid (thn16 B3.out B34.out)
       have X4 := Lib.hid (blk_on X3.out B34.out)
       have Z4 := Lib.hid (blk_on Z3.out B34.out)
       have T4 := Lib.hid (blk_on (heap_alloc_new v3 (.cells #[.slice q3.aq q3.an q3.ac, .int .u8 (P2.fl.1 : Nat), .slice q3.fq q3.fn q3.fc, .int .u32 (P2.dn : Nat), .int .u8 (P2.lg.1 : Nat), .slice q3.lq q3.ln q3.lc, .slice q3.mq q3.mn q3.mc, .int .u8 (P2.fm : Nat), .int .u64 (P2.sp : Nat), .bool P2.b1, .bool P2.b2, .bool P2.b3, .bool P2.b4] 30)) b4)
       have O4 := Lib.hid (O3.out.on B34.out)
       have R4 := Lib.hid (R3.out.on B34.out)
       have W4 := Lib.hid pol4
       have S4 := Lib.hid (rows_own encN_len r4)
       obtain ⟨fq0, fq1, fq2, fq3, fq4, fq5, fq6, fq7, fq8, fq9, fq10, fq11, fq12⟩ := (show (World.alloc v4 (.cells #[.slice q4.aq q4.an q4.ac, .int .u8 (P2.fl.1 : Nat), .slice q4.fq q4.fn q4.fc, .int .u32 (P2.dn : Nat), .int .u8 (P2.lg.1 : Nat), .slice q4.lq q4.ln q4.lc, .slice q4.mq q4.mn q4.mc, .int .u8 (P2.fm : Nat), .int .u64 (P2.sp : Nat), .bool P2.b1, .bool P2.b2, .bool P2.b3, .bool P2.b4] 30)).cell? ⟨v3.heap.size, 0, none⟩ = some (.slice q3.aq q3.an q3.ac) ∧ (World.alloc v4 (.cells #[.slice q4.aq q4.an q4.ac, .int .u8 (P2.fl.1 : Nat), .slice q4.fq q4.fn q4.fc, .int .u32 (P2.dn : Nat), .int .u8 (P2.lg.1 : Nat), .slice q4.lq q4.ln q4.lc, .slice q4.mq q4.mn q4.mc, .int .u8 (P2.fm : Nat), .int .u64 (P2.sp : Nat), .bool P2.b1, .bool P2.b2, .bool P2.b3, .bool P2.b4] 30)).cell? ⟨v3.heap.size, 1, none⟩ = some (.int .u8 (P2.fl.1 : Nat)) ∧ (World.alloc v4 (.cells #[.slice q4.aq q4.an q4.ac, .int .u8 (P2.fl.1 : Nat), .slice q4.fq q4.fn q4.fc, .int .u32 (P2.dn : Nat), .int .u8 (P2.lg.1 : Nat), .slice q4.lq q4.ln q4.lc, .slice q4.mq q4.mn q4.mc, .int .u8 (P2.fm : Nat), .int .u64 (P2.sp : Nat), .bool P2.b1, .bool P2.b2, .bool P2.b3, .bool P2.b4] 30)).cell? ⟨v3.heap.size, 2, none⟩ = some (.slice q3.fq q3.fn q3.fc) ∧ (World.alloc v4 (.cells #[.slice q4.aq q4.an q4.ac, .int .u8 (P2.fl.1 : Nat), .slice q4.fq q4.fn q4.fc, .int .u32 (P2.dn : Nat), .int .u8 (P2.lg.1 : Nat), .slice q4.lq q4.ln q4.lc, .slice q4.mq q4.mn q4.mc, .int .u8 (P2.fm : Nat), .int .u64 (P2.sp : Nat), .bool P2.b1, .bool P2.b2, .bool P2.b3, .bool P2.b4] 30)).cell? ⟨v3.heap.size, 3, none⟩ = some (.int .u32 (P2.dn : Nat)) ∧ (World.alloc v4 (.cells #[.slice q4.aq q4.an q4.ac, .int .u8 (P2.fl.1 : Nat), .slice q4.fq q4.fn q4.fc, .int .u32 (P2.dn : Nat), .int .u8 (P2.lg.1 : Nat), .slice q4.lq q4.ln q4.lc, .slice q4.mq q4.mn q4.mc, .int .u8 (P2.fm : Nat), .int .u64 (P2.sp : Nat), .bool P2.b1, .bool P2.b2, .bool P2.b3, .bool P2.b4] 30)).cell? ⟨v3.heap.size, 4, none⟩ = some (.int .u8 (P2.lg.1 : Nat)) ∧ (World.alloc v4 (.cells #[.slice q4.aq q4.an q4.ac, .int .u8 (P2.fl.1 : Nat), .slice q4.fq q4.fn q4.fc, .int .u32 (P2.dn : Nat), .int .u8 (P2.lg.1 : Nat), .slice q4.lq q4.ln q4.lc, .slice q4.mq q4.mn q4.mc, .int .u8 (P2.fm : Nat), .int .u64 (P2.sp : Nat), .bool P2.b1, .bool P2.b2, .bool P2.b3, .bool P2.b4] 30)).cell? ⟨v3.heap.size, 5, none⟩ = some (.slice q3.lq q3.ln q3.lc) ∧ (World.alloc v4 (.cells #[.slice q4.aq q4.an q4.ac, .int .u8 (P2.fl.1 : Nat), .slice q4.fq q4.fn q4.fc, .int .u32 (P2.dn : Nat), .int .u8 (P2.lg.1 : Nat), .slice q4.lq q4.ln q4.lc, .slice q4.mq q4.mn q4.mc, .int .u8 (P2.fm : Nat), .int .u64 (P2.sp : Nat), .bool P2.b1, .bool P2.b2, .bool P2.b3, .bool P2.b4] 30)).cell? ⟨v3.heap.size, 6, none⟩ = some (.slice q3.mq q3.mn q3.mc) ∧ (World.alloc v4 (.cells #[.slice q4.aq q4.an q4.ac, .int .u8 (P2.fl.1 : Nat), .slice q4.fq q4.fn q4.fc, .int .u32 (P2.dn : Nat), .int .u8 (P2.lg.1 : Nat), .slice q4.lq q4.ln q4.lc, .slice q4.mq q4.mn q4.mc, .int .u8 (P2.fm : Nat), .int .u64 (P2.sp : Nat), .bool P2.b1, .bool P2.b2, .bool P2.b3, .bool P2.b4] 30)).cell? ⟨v3.heap.size, 7, none⟩ = some (.int .u8 (P2.fm : Nat)) ∧ (World.alloc v4 (.cells #[.slice q4.aq q4.an q4.ac, .int .u8 (P2.fl.1 : Nat), .slice q4.fq q4.fn q4.fc, .int .u32 (P2.dn : Nat), .int .u8 (P2.lg.1 : Nat), .slice q4.lq q4.ln q4.lc, .slice q4.mq q4.mn q4.mc, .int .u8 (P2.fm : Nat), .int .u64 (P2.sp : Nat), .bool P2.b1, .bool P2.b2, .bool P2.b3, .bool P2.b4] 30)).cell? ⟨v3.heap.size, 8, none⟩ = some (.int .u64 (P2.sp : Nat)) ∧ (World.alloc v4 (.cells #[.slice q4.aq q4.an q4.ac, .int .u8 (P2.fl.1 : Nat), .slice q4.fq q4.fn q4.fc, .int .u32 (P2.dn : Nat), .int .u8 (P2.lg.1 : Nat), .slice q4.lq q4.ln q4.lc, .slice q4.mq q4.mn q4.mc, .int .u8 (P2.fm : Nat), .int .u64 (P2.sp : Nat), .bool P2.b1, .bool P2.b2, .bool P2.b3, .bool P2.b4] 30)).cell? ⟨v3.heap.size, 9, none⟩ = some (.bool P2.b1) ∧ (World.alloc v4 (.cells #[.slice q4.aq q4.an q4.ac, .int .u8 (P2.fl.1 : Nat), .slice q4.fq q4.fn q4.fc, .int .u32 (P2.dn : Nat), .int .u8 (P2.lg.1 : Nat), .slice q4.lq q4.ln q4.lc, .slice q4.mq q4.mn q4.mc, .int .u8 (P2.fm : Nat), .int .u64 (P2.sp : Nat), .bool P2.b1, .bool P2.b2, .bool P2.b3, .bool P2.b4] 30)).cell? ⟨v3.heap.size, 10, none⟩ = some (.bool P2.b2) ∧ (World.alloc v4 (.cells #[.slice q4.aq q4.an q4.ac, .int .u8 (P2.fl.1 : Nat), .slice q4.fq q4.fn q4.fc, .int .u32 (P2.dn : Nat), .int .u8 (P2.lg.1 : Nat), .slice q4.lq q4.ln q4.lc, .slice q4.mq q4.mn q4.mc, .int .u8 (P2.fm : Nat), .int .u64 (P2.sp : Nat), .bool P2.b1, .bool P2.b2, .bool P2.b3, .bool P2.b4] 30)).cell? ⟨v3.heap.size, 11, none⟩ = some (.bool P2.b3) ∧ (World.alloc v4 (.cells #[.slice q4.aq q4.an q4.ac, .int .u8 (P2.fl.1 : Nat), .slice q4.fq q4.fn q4.fc, .int .u32 (P2.dn : Nat), .int .u8 (P2.lg.1 : Nat), .slice q4.lq q4.ln q4.lc, .slice q4.mq q4.mn q4.mc, .int .u8 (P2.fm : Nat), .int .u64 (P2.sp : Nat), .bool P2.b1, .bool P2.b2, .bool P2.b3, .bool P2.b4] 30)).cell? ⟨v3.heap.size, 12, none⟩ = some (.bool P2.b4) from pcells17 (blk_on T4.out (below16 v4 _)))
       clear fp0 fp1 fp2 fp3 fp4 fp5 fp6 fp7 fp8 fp9 fp10 fp11 fp12 fd0 fd1 fd2 fd3 fd4
       clear b4 pol4 r4)
    | (go_at_call 11
       (with_reducible refine (HSA.out (World.alloc v4 (.cells #[.slice q4.aq q4.an q4.ac, .int .u8 (P2.fl.1 : Nat), .slice q4.fq q4.fn q4.fc, .int .u32 (P2.dn : Nat), .int .u8 (P2.lg.1 : Nat), .slice q4.lq q4.ln q4.lc, .slice q4.mq q4.mn q4.mc, .int .u8 (P2.fm : Nat), .int .u64 (P2.sp : Nat), .bool P2.b1, .bool P2.b2, .bool P2.b3, .bool P2.b4] 30)) q3 q4 (O4.out.pol.on (below16 v4 _)) (W4.out.on (below16 v4 _))).mono ?_)
       rintro e v5 ⟨rfl, b5⟩
       have B45 := Lib.hid (thn16 (below16 v4 (.cells #[.slice q4.aq q4.an q4.ac, .int .u8 (P2.fl.1 : Nat), .slice q4.fq q4.fn q4.fc, .int .u32 (P2.dn : Nat), .int .u8 (P2.lg.1 : Nat), .slice q4.lq q4.ln q4.lc, .slice q4.mq q4.mn q4.mc, .int .u8 (P2.fm : Nat), .int .u64 (P2.sp : Nat), .bool P2.b1, .bool P2.b2, .bool P2.b3, .bool P2.b4] 30)) b5)
       clear fq0 fq1 fq2 fq3 fq4 fq5 fq6 fq7 fq8 fq9 fq10 fq11 fq12
       clear b5)
    | (go_at_call 12
       (with_reducible refine (HSN.out _ _ _ (R4.out.on B45.out) (S4.out.on B45.out)).mono ?_)
       rintro e v6 ⟨rfl, b6⟩
       have B46 := Lib.hid (thn16 B45.out b6)
       have B6 := Lib.hid (thn16 B4.out B46.out)
       have T6 := Lib.hid (blk_on T4.out B46.out)
       obtain ⟨fq0, fq1, fq2, fq3, fq4, fq5, fq6, fq7, fq8, fq9, fq10, fq11, fq12⟩ := (show v6.cell? ⟨v3.heap.size, 0, none⟩ = some (.slice q3.aq q3.an q3.ac) ∧ v6.cell? ⟨v3.heap.size, 1, none⟩ = some (.int .u8 (P2.fl.1 : Nat)) ∧ v6.cell? ⟨v3.heap.size, 2, none⟩ = some (.slice q3.fq q3.fn q3.fc) ∧ v6.cell? ⟨v3.heap.size, 3, none⟩ = some (.int .u32 (P2.dn : Nat)) ∧ v6.cell? ⟨v3.heap.size, 4, none⟩ = some (.int .u8 (P2.lg.1 : Nat)) ∧ v6.cell? ⟨v3.heap.size, 5, none⟩ = some (.slice q3.lq q3.ln q3.lc) ∧ v6.cell? ⟨v3.heap.size, 6, none⟩ = some (.slice q3.mq q3.mn q3.mc) ∧ v6.cell? ⟨v3.heap.size, 7, none⟩ = some (.int .u8 (P2.fm : Nat)) ∧ v6.cell? ⟨v3.heap.size, 8, none⟩ = some (.int .u64 (P2.sp : Nat)) ∧ v6.cell? ⟨v3.heap.size, 9, none⟩ = some (.bool P2.b1) ∧ v6.cell? ⟨v3.heap.size, 10, none⟩ = some (.bool P2.b2) ∧ v6.cell? ⟨v3.heap.size, 11, none⟩ = some (.bool P2.b3) ∧ v6.cell? ⟨v3.heap.size, 12, none⟩ = some (.bool P2.b4) from pcells17 (T6.out))
       clear b6)
    | (go_at_call 13
       (with_reducible refine (HSPL.out v6 q3 _ (by have h1 := B46.out.size; have h2 := B34.out.size; have h3 := B23.out.size; have h4 := blk_lt Z4.out; rw [World.size_alloc]; omega) (O4.out.on B46.out)).mono ?_)
       rintro e v7 ⟨rfl, b7⟩
       have hsz : w.heap.size ≤ v2.heap.size := B2.out.size
       have hx2 := blk_lt X2.out
       have B7 := Lib.hid (B6.out.trans (b7.mono (by rw [World.size_alloc]; omega)))
       have X7 := Lib.hid ((b7.block w.heap.size (by rw [World.size_alloc]; omega)).trans (blk_on X4.out B46.out))
       have Z7 := Lib.hid ((b7.block v2.heap.size (by rw [World.size_alloc]; exact Nat.lt_succ_self _)).trans (blk_on Z4.out B46.out))
       have I7 := Lib.hid (O2.out.on (((B23.out.trans (B34.out.mono B23.out.size)).trans (B46.out.mono (Nat.le_trans B23.out.size B34.out.size))).trans (b7.mono (by rw [World.size_alloc]; exact Nat.le_succ _))))
       obtain ⟨fk0, fk1, fk2, fk3, fk4, fk5, fk6, fk7, fk8, fk9, fk10, fk11, fk12⟩ := (show v7.cell? ⟨v2.heap.size, 0, none⟩ = some (.slice q2.aq q2.an q2.ac) ∧ v7.cell? ⟨v2.heap.size, 1, none⟩ = some (.int .u8 (P.fl.1 : Nat)) ∧ v7.cell? ⟨v2.heap.size, 2, none⟩ = some (.slice q2.fq q2.fn q2.fc) ∧ v7.cell? ⟨v2.heap.size, 3, none⟩ = some (.int .u32 (P.dn : Nat)) ∧ v7.cell? ⟨v2.heap.size, 4, none⟩ = some (.int .u8 (P.lg.1 : Nat)) ∧ v7.cell? ⟨v2.heap.size, 5, none⟩ = some (.slice q2.lq q2.ln q2.lc) ∧ v7.cell? ⟨v2.heap.size, 6, none⟩ = some (.slice q2.mq q2.mn q2.mc) ∧ v7.cell? ⟨v2.heap.size, 7, none⟩ = some (.int .u8 (P.fm : Nat)) ∧ v7.cell? ⟨v2.heap.size, 8, none⟩ = some (.int .u64 (P.sp : Nat)) ∧ v7.cell? ⟨v2.heap.size, 9, none⟩ = some (.bool P.b1) ∧ v7.cell? ⟨v2.heap.size, 10, none⟩ = some (.bool P.b2) ∧ v7.cell? ⟨v2.heap.size, 11, none⟩ = some (.bool P.b3) ∧ v7.cell? ⟨v2.heap.size, 12, none⟩ = some (.bool P.b4) from pcells17 (Z7.out))
       obtain ⟨fl0, fl1, fl2, fl3, fl4, fl5, fl6, fl7, fl8, fl9, fl10, fl11, fl12⟩ := (show v7.cell? ⟨w.heap.size, 0, none⟩ = some (.slice p.aq p.an p.ac) ∧ v7.cell? ⟨w.heap.size, 1, none⟩ = some (.int .u8 (P.fl.1 : Nat)) ∧ v7.cell? ⟨w.heap.size, 2, none⟩ = some (.slice p.fq p.fn p.fc) ∧ v7.cell? ⟨w.heap.size, 3, none⟩ = some (.int .u32 (P.dn : Nat)) ∧ v7.cell? ⟨w.heap.size, 4, none⟩ = some (.int .u8 (P.lg.1 : Nat)) ∧ v7.cell? ⟨w.heap.size, 5, none⟩ = some (.slice p.lq p.ln p.lc) ∧ v7.cell? ⟨w.heap.size, 6, none⟩ = some (.slice p.mq p.mn p.mc) ∧ v7.cell? ⟨w.heap.size, 7, none⟩ = some (.int .u8 (P.fm : Nat)) ∧ v7.cell? ⟨w.heap.size, 8, none⟩ = some (.int .u64 (P.sp : Nat)) ∧ v7.cell? ⟨w.heap.size, 9, none⟩ = some (.bool P.b1) ∧ v7.cell? ⟨w.heap.size, 10, none⟩ = some (.bool P.b2) ∧ v7.cell? ⟨w.heap.size, 11, none⟩ = some (.bool P.b3) ∧ v7.cell? ⟨w.heap.size, 12, none⟩ = some (.bool P.b4) from pcells17 (X7.out))
       clear fq0 fq1 fq2 fq3 fq4 fq5 fq6 fq7 fq8 fq9 fq10 fq11 fq12
       clear b7 hsz hx2)
    | (go_at_call 11
       (with_reducible refine (HSB.out v7 q2 p I7.out (HP0.out.on B7.out)).mono ?_)
       rintro e v8 ⟨rfl, b8⟩
       have B8 := Lib.hid (thn16 B7.out b8)
       clear fk0 fk1 fk2 fk3 fk4 fk5 fk6 fk7 fk8 fk9 fk10 fk11 fk12 fl0 fl1 fl2 fl3 fl4 fl5 fl6 fl7 fl8 fl9 fl10 fl11 fl12
       clear b8)
    | (go_at_call 14
       (with_reducible refine (HAW.out _ (HON.out _ _ HG.out B8.out)).mono ?_)
       rintro e v9 ⟨rfl, b9⟩
       have B9 := Lib.hid (thn16 B8.out b9)
       clear b9))
  go_ret
  exact ⟨by first | rfl | simp, B9.out⟩
end Go.Proofs.YtanifiobfbfehaaGreatDoor.filterSets
