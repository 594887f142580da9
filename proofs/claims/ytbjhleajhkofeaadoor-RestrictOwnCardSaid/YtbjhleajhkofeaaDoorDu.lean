/- The walk of RestrictOwn, over what the calls have to return. -/
import Derived.Test.YtbjhleajhkofeaaDoorD4
import Derived.Test.YtbjhleajhkofeaaDoorDm
import Derived.BigQuiet
import Derived.Deep.QuietTactic
namespace Go.Proofs.YtbjhleajhkofeaaDoor.restrictOwn
open Go.RowKit
set_option linter.unusedVariables false
set_option linter.unusedSimpArgs false
attribute [local go_sem ↓] Go.wp_at_zero Go.wp_at_succ

set_option maxRecDepth 100000 in
set_option maxHeartbeats 32000000 in
theorem walk_4 {G : World → Prop} (HC : RestrictC G) (p : Pls) (P : Pol) (a : As) (w : World) (hG : G w) (ok : P.Ok) (hP : PolAt w p P) (hgr : GreatB p a) (hri : Rises18 P) (h0 : a.key ≠ kArc) (h1 : a.key ≠ kFam) (h2 : a.key ≠ kSpa) (h3 : a.key ≠ kWri) (h4 : a.key = kPer) : Calls Tryd.prog 4 #[plV p P, asV a] w fun e w' => e = .returned (.bool true) ∧ Below w.heap.size w w' := by
  have H0K := Lib.hid h0
  have H1K := Lib.hid h1
  have H2K := Lib.hid h2
  have H3K := Lib.hid h3
  have H4K := Lib.hid h4
  clear h0 h1 h2 h3 h4
  obtain ⟨af, al, ax, ak, av⟩ := a
  simp only at H0K H1K H2K H3K H4K
  have HON := Lib.hid (fun (w w' : World) => HC.on (w := w) (w' := w'))
  have HG := Lib.hid hG
  have HAW := Lib.hid (fun (W : World) (g : G W) => awake18_any HC W g)
  have HP0 := Lib.hid hP
  obtain ⟨W, hW⟩ : ∃ W, W = (w.alloc (.cells #[.slice p.aq p.an p.ac, .int .u8 (P.fl.1 : Nat), .slice p.fq p.fn p.fc, .int .u32 (P.dn : Nat), .int .u8 (P.lg.1 : Nat), .slice p.lq p.ln p.lc, .slice p.mq p.mn p.mc, .int .u8 (P.fm : Nat), .int .u64 (P.sp : Nat), .bool P.b1, .bool P.b2, .bool P.b3, .bool P.b4] 32)).alloc (.cells #[.string af, .int .i64 al, .string ax, .string ak, .string av] 34) := ⟨_, rfl⟩
  have X0 := Lib.hid (show W.heap[w.heap.size]? = some (.cells (plC p P).toArray 32 (0, 0)) by rw [hW]; exact (Below.heap_alloc _ _ _ (by rw [World.size_alloc]; exact Nat.lt_succ_self _)).trans (heap_alloc_new w _))
  have Y0 := Lib.hid (show W.heap[w.heap.size + 1]? = some (.cells #[.string af, .int .i64 al, .string ax, .string ak, .string av] 34 (0, 0)) by rw [hW, ← World.size_alloc w]; exact heap_alloc_new _ _)
  have B0 := Lib.hid (show Below w.heap.size w W from hW ▸ ((Below.refl _ _).alloc (Nat.le_refl _) _).alloc (by rw [World.size_alloc]; exact Nat.le_succ _) _)
  have HWW := Lib.hid hW
  clear hW
  have HGR := Lib.hid (fun (X : World) => great_no17 p P ⟨af, al, ax, ak, av⟩ hgr X)
  have hg2 : p.an ≤ 20 ∧ p.mn ≤ 20 ∧ p.fn ≤ 100 ∧ p.ln ≤ 100 ∧ av.size ≤ 1000 ∧ ak.size ≤ 200 ∧ af.size ≤ 200 := hgr
  obtain ⟨l1, l2, l3, l4, l5, l6, l7⟩ := hg2
  have HRI := Lib.hid (fun (X : World) (b : Below w.heap.size w X) => rises_yes18 p P X (hP.on b) (by omega) (by omega) hri)
  have HCO := Lib.hid (fun (X : World) (b : Below w.heap.size w X) => copied17 p P X (hP.on b) (by omega) (by omega) (by omega) (by omega))
  have HOR := Lib.hid (fun (pb : Bool) => ownR18 (P := P) (a := ⟨af, al, ax, ak, av⟩) hri (by rw [← hP.al]; exact l1) (by rw [← hP.ml]; exact l2) l5 pb)
  have HST := Lib.hid (fun (X : World) (g : G X) (q : Pls) (h : PolAt X q P) => HC.set q P ⟨af, al, ax, ak, av⟩ X g ok h hri (by rw [h.al, ← hP.al]; omega) (by rw [h.ml, ← hP.ml]; omega) (by rw [h.fl, ← hP.fl]; exact l3) (by rw [h.ll, ← hP.ll]; exact l4) l5 l6)
  have HKV := Lib.hid (fun (X : World) (g : G X) => HC.key ak X g l6)
  have HAL := Lib.hid hP.al
  have HML := Lib.hid hP.ml
  have HFL := Lib.hid hP.fl
  have HLL := Lib.hid hP.ll
  have la2 : p.an ≤ 20 := l1
  have lm2 : p.mn ≤ 20 := l2
  simp only [plV_eq18, asV] at HGR HRI HCO HST ⊢
  clear hgr hri l1 l2 l3 l4 l5 l6 l7 hG hP HC ok
  go_enter Tryd.func4, Tryd.ntmps4
  go_wp2_with (first
  | (go_at_call 10
     rw [← HWW.out]
     (with_reducible refine (HGR.out _).mono ?_)
     rintro e v0 ⟨rfl, b1⟩
     have BG := Lib.hid (thn16 B0.out b1)
     have XG := Lib.hid (blk_on X0.out b1)
     have YG := Lib.hid (blk_on Y0.out b1)
     obtain ⟨gp0, gp1, gp2, gp3, gp4, gp5, gp6, gp7, gp8, gp9, gp10, gp11, gp12⟩ := (show v0.cell? ⟨w.heap.size, 0, none⟩ = some (.slice p.aq p.an p.ac) ∧ v0.cell? ⟨w.heap.size, 1, none⟩ = some (.int .u8 (P.fl.1 : Nat)) ∧ v0.cell? ⟨w.heap.size, 2, none⟩ = some (.slice p.fq p.fn p.fc) ∧ v0.cell? ⟨w.heap.size, 3, none⟩ = some (.int .u32 (P.dn : Nat)) ∧ v0.cell? ⟨w.heap.size, 4, none⟩ = some (.int .u8 (P.lg.1 : Nat)) ∧ v0.cell? ⟨w.heap.size, 5, none⟩ = some (.slice p.lq p.ln p.lc) ∧ v0.cell? ⟨w.heap.size, 6, none⟩ = some (.slice p.mq p.mn p.mc) ∧ v0.cell? ⟨w.heap.size, 7, none⟩ = some (.int .u8 (P.fm : Nat)) ∧ v0.cell? ⟨w.heap.size, 8, none⟩ = some (.int .u64 (P.sp : Nat)) ∧ v0.cell? ⟨w.heap.size, 9, none⟩ = some (.bool P.b1) ∧ v0.cell? ⟨w.heap.size, 10, none⟩ = some (.bool P.b2) ∧ v0.cell? ⟨w.heap.size, 11, none⟩ = some (.bool P.b3) ∧ v0.cell? ⟨w.heap.size, 12, none⟩ = some (.bool P.b4) from pcells17 XG.out)
     clear b1)
  | (go_at_call 11
     (with_reducible refine (HRI.out _ BG.out).mono ?_)
     rintro e v1 ⟨rfl, b1⟩
     have B1 := Lib.hid (thn16 BG.out b1)
     have X1 := Lib.hid (blk_on XG.out b1)
     have Y1 := Lib.hid (blk_on YG.out b1)
     clear gp0 gp1 gp2 gp3 gp4 gp5 gp6 gp7 gp8 gp9 gp10 gp11 gp12
     clear b1))
  refine keyO (F := fun Z g5 q2 q3 P3 NN vN3 => Z.heap[w.heap.size]? = some (.cells (plC p P).toArray 32 (0, 0)) ∧ Z.heap[w.heap.size + 1]? = some (.cells #[.string af, .int .i64 al, .string ax, .string ak, .string av] 34 (0, 0)) ∧ Z.heap[g5]? = some (.cells (plC q3 P3).toArray 32 (0, 0)) ∧ Below w.heap.size w Z ∧ PolAt Z q3 P3 ∧ RowsAt 4 encN Z vN3 NN ∧ OwnR18 P P3 ⟨af, al, ax, ak, av⟩ NN) (R := ?R18) ?h18 ?k18
  case h18 =>
    intro KEY
    have HC0 := Lib.hid (cells18 (V := (v1.drew)) (X1.out) (Y1.out))
    have BD := Lib.hid (show Below w.heap.size w v1.drew from B1.out.drew)
    have BDA := Lib.hid (show Below w.heap.size w (World.alloc v1 (.cells #[.slice none 0 0, .int .u8 0, .slice none 0 0, .int .u32 0, .int .u8 0, .slice none 0 0, .slice none 0 0, .int .u8 0, .int .u64 0, .bool false, .bool false, .bool false, .bool false] 32)).drew from (B1.out.alloc B1.out.size _).drew)
    have XDA := Lib.hid (show (World.alloc v1 (.cells #[.slice none 0 0, .int .u8 0, .slice none 0 0, .int .u32 0, .int .u8 0, .slice none 0 0, .slice none 0 0, .int .u8 0, .int .u64 0, .bool false, .bool false, .bool false, .bool false] 32)).drew.heap[w.heap.size]? = some (.cells (plC p P).toArray 32 (0, 0)) from (show (World.alloc v1 (.cells #[.slice none 0 0, .int .u8 0, .slice none 0 0, .int .u32 0, .int .u8 0, .slice none 0 0, .slice none 0 0, .int .u8 0, .int .u64 0, .bool false, .bool false, .bool false, .bool false] 32)).heap[w.heap.size]? = _ from blk_on X1.out (below16 v1 _)))
    have YDA := Lib.hid (show (World.alloc v1 (.cells #[.slice none 0 0, .int .u8 0, .slice none 0 0, .int .u32 0, .int .u8 0, .slice none 0 0, .slice none 0 0, .int .u8 0, .int .u64 0, .bool false, .bool false, .bool false, .bool false] 32)).drew.heap[w.heap.size + 1]? = some (.cells #[.string af, .int .i64 al, .string ax, .string ak, .string av] 34 (0, 0)) from (show (World.alloc v1 (.cells #[.slice none 0 0, .int .u8 0, .slice none 0 0, .int .u32 0, .int .u8 0, .slice none 0 0, .slice none 0 0, .int .u8 0, .int .u64 0, .bool false, .bool false, .bool false, .bool false] 32)).heap[w.heap.size + 1]? = _ from blk_on Y1.out (below16 v1 _)))
    have ZDA := Lib.hid (show (World.alloc v1 (.cells #[.slice none 0 0, .int .u8 0, .slice none 0 0, .int .u32 0, .int .u8 0, .slice none 0 0, .slice none 0 0, .int .u8 0, .int .u64 0, .bool false, .bool false, .bool false, .bool false] 32)).drew.heap[v1.heap.size]? = some (.cells #[.slice none 0 0, .int .u8 0, .slice none 0 0, .int .u32 0, .int .u8 0, .slice none 0 0, .slice none 0 0, .int .u8 0, .int .u64 0, .bool false, .bool false, .bool false, .bool false] 32) from (show (World.alloc v1 (.cells #[.slice none 0 0, .int .u8 0, .slice none 0 0, .int .u32 0, .int .u8 0, .slice none 0 0, .slice none 0 0, .int .u8 0, .int .u64 0, .bool false, .bool false, .bool false, .bool false] 32)).heap[v1.heap.size]? = _ from heap_alloc_new v1 _))
    have HC1 := Lib.hid (cells18 XDA.out YDA.out)
    go_region_held3 (fun w' => w'.cell? ⟨w.heap.size, 0, none⟩ = some (.slice p.aq p.an p.ac) ∧ w'.cell? ⟨w.heap.size, 1, none⟩ = some (.int .u8 (P.fl.1 : Nat)) ∧ w'.cell? ⟨w.heap.size, 2, none⟩ = some (.slice p.fq p.fn p.fc) ∧ w'.cell? ⟨w.heap.size, 3, none⟩ = some (.int .u32 (P.dn : Nat)) ∧ w'.cell? ⟨w.heap.size, 4, none⟩ = some (.int .u8 (P.lg.1 : Nat)) ∧ w'.cell? ⟨w.heap.size, 5, none⟩ = some (.slice p.lq p.ln p.lc) ∧ w'.cell? ⟨w.heap.size, 6, none⟩ = some (.slice p.mq p.mn p.mc) ∧ w'.cell? ⟨w.heap.size, 7, none⟩ = some (.int .u8 (P.fm : Nat)) ∧ w'.cell? ⟨w.heap.size, 8, none⟩ = some (.int .u64 (P.sp : Nat)) ∧ w'.cell? ⟨w.heap.size, 9, none⟩ = some (.bool P.b1) ∧ w'.cell? ⟨w.heap.size, 10, none⟩ = some (.bool P.b2) ∧ w'.cell? ⟨w.heap.size, 11, none⟩ = some (.bool P.b3) ∧ w'.cell? ⟨w.heap.size, 12, none⟩ = some (.bool P.b4) ∧ w'.cell? ⟨w.heap.size + 1, 0, none⟩ = some (.string af) ∧ w'.cell? ⟨w.heap.size + 1, 1, none⟩ = some (.int .i64 al) ∧ w'.cell? ⟨w.heap.size + 1, 2, none⟩ = some (.string ax) ∧ w'.cell? ⟨w.heap.size + 1, 3, none⟩ = some (.string ak) ∧ w'.cell? ⟨w.heap.size + 1, 4, none⟩ = some (.string av)) (first
      | with_reducible exact HC0.out
      | with_reducible exact HC1.out
      | with_reducible exact HC2.out
      | with_reducible exact HC6.out
      | with_reducible exact HC3.out
      | with_reducible exact HC4.out
      | with_reducible exact HC5.out) (first
      | (go_at_call 13
         ((with_reducible refine (HCO.out v1.drew BD.out).mono ?_); rintro e v2 ⟨q2, rfl, pol2, b2⟩)
         have B2 := Lib.hid (show Below w.heap.size w v2 from thn16 BD.out b2)
         have O2 := Lib.hid pol2
         have X2 := Lib.hid (blk_on (show v1.drew.heap[w.heap.size]? = _ from X1.out) b2)
         have Y2 := Lib.hid (blk_on (show v1.drew.heap[w.heap.size + 1]? = _ from Y1.out) b2)
         have HC2 := Lib.hid (cells18 (V := v2) (X2.out) (Y2.out))
         have HC6 := Lib.hid (cells18 (V := (World.alloc v2 (.cells #[.slice none 0 0, .int .u8 0, .slice none 0 0, .int .u32 0, .int .u8 0, .slice none 0 0, .slice none 0 0, .int .u8 0, .int .u64 0, .bool false, .bool false, .bool false, .bool false] 32))) (blk_on X2.out (below16 v2 _)) (blk_on Y2.out (below16 v2 _)))
         clear b2 pol2)
      | (go_at_call 13
         ((with_reducible refine (HCO.out (World.alloc v1 (.cells #[.slice none 0 0, .int .u8 0, .slice none 0 0, .int .u32 0, .int .u8 0, .slice none 0 0, .slice none 0 0, .int .u8 0, .int .u64 0, .bool false, .bool false, .bool false, .bool false] 32)).drew BDA.out).mono ?_); rintro e v2 ⟨q2, rfl, pol2, b2⟩)
         have B2 := Lib.hid (show Below w.heap.size w v2 from thn16 BDA.out b2)
         have O2 := Lib.hid pol2
         have X2 := Lib.hid (blk_on XDA.out b2)
         have Y2 := Lib.hid (blk_on YDA.out b2)
         have Z2 := Lib.hid (blk_on ZDA.out b2)
         have HC2 := Lib.hid (cells18 (V := v2) (X2.out) (Y2.out))
         clear b2 pol2)
      | (go_at_call 12
         have Z2h := Z2.out
         ((with_reducible refine (HST.out v2 (HON.out _ _ HG.out B2.out) q2 O2.out).mono ?_); rintro e v3 ⟨pb, q3, vN3, hpb, rfl, own3, r3, b3⟩)
         clear hpb
         have hpr := HOR.out pb
         obtain ⟨P3, hP3⟩ : ∃ X, X = (setR pb P ak av).1 := ⟨_, rfl⟩
         obtain ⟨NN, hNN⟩ : ∃ X, X = (setR pb P ak av).2.map (nteP ⟨af, al, ax, ak, av⟩) := ⟨_, rfl⟩
         (try simp only at hpr)
         rw [← hP3, ← hNN] at hpr
         rw [← hP3] at own3 ⊢
         rw [← hNN] at r3
         clear hP3 hNN
         have HPR := Lib.hid hpr
         clear hpr
         have B3 := Lib.hid (show Below w.heap.size w v3 from thn16 B2.out b3)
         have O3 := Lib.hid own3
         have R3 := Lib.hid (show v3.ownsRow w.heap.size 43 4 vN3 NN.length (rowC encN NN) from owns_low16 r3 (B2.out.size))
         have X3 := Lib.hid (blk_on X2.out b3)
         have Y3 := Lib.hid (blk_on Y2.out b3)
         have HC3 := Lib.hid (cells18 (V := v3) (X3.out) (Y3.out))
         have Z3 := Lib.hid (show v3.heap[v1.heap.size]? = some (.cells ([.slice none 0 0, .int .u8 0, .slice none 0 0, .int .u32 0, .int .u8 0, .slice none 0 0, .slice none 0 0, .int .u8 0, .int .u64 0, .bool false, .bool false, .bool false, .bool false] : List Value).toArray 32 (0, 0)) from blk_on Z2.out b3)
         obtain ⟨zf, z0, z1, z2, z3, z4, z5, z6, z7, z8, z9, z10, z11, z12⟩ := resC17 Z3.out
         have hnx : w.heap.size ≠ v1.heap.size := by have h1 := blk_lt X1.out; omega
         have hny : w.heap.size + 1 ≠ v1.heap.size := by have h1 := blk_lt Y1.out; omega
         have hgw : w.heap.size ≤ v1.heap.size := B1.out.size
         have HU := Lib.hid (put17 (a := ⟨af, al, ax, ak, av⟩) (q3 := q3) (P2 := P3) X3.out Y3.out Z3.out hnx hny hgw B3.out O3.out R3.out)
         have XU := Lib.hid (show (World.setCell (World.setCell (World.setCell (World.setCell (World.setCell (World.setCell (World.setCell (World.setCell (World.setCell (World.setCell (World.setCell (World.setCell (World.setCell v3 ⟨v1.heap.size, 0, none⟩ (.slice q3.aq q3.an q3.ac)) ⟨v1.heap.size, 1, none⟩ (.int .u8 (P3.fl.1 : Nat))) ⟨v1.heap.size, 2, none⟩ (.slice q3.fq q3.fn q3.fc)) ⟨v1.heap.size, 3, none⟩ (.int .u32 (P3.dn : Nat))) ⟨v1.heap.size, 4, none⟩ (.int .u8 (P3.lg.1 : Nat))) ⟨v1.heap.size, 5, none⟩ (.slice q3.lq q3.ln q3.lc)) ⟨v1.heap.size, 6, none⟩ (.slice q3.mq q3.mn q3.mc)) ⟨v1.heap.size, 7, none⟩ (.int .u8 (P3.fm : Nat))) ⟨v1.heap.size, 8, none⟩ (.int .u64 (P3.sp : Nat))) ⟨v1.heap.size, 9, none⟩ (.bool P3.b1)) ⟨v1.heap.size, 10, none⟩ (.bool P3.b2)) ⟨v1.heap.size, 11, none⟩ (.bool P3.b3)) ⟨v1.heap.size, 12, none⟩ (.bool P3.b4)).heap[w.heap.size]? = some (.cells (plC p P).toArray 32 (0, 0)) from HU.out.1)
         have YU := Lib.hid (show (World.setCell (World.setCell (World.setCell (World.setCell (World.setCell (World.setCell (World.setCell (World.setCell (World.setCell (World.setCell (World.setCell (World.setCell (World.setCell v3 ⟨v1.heap.size, 0, none⟩ (.slice q3.aq q3.an q3.ac)) ⟨v1.heap.size, 1, none⟩ (.int .u8 (P3.fl.1 : Nat))) ⟨v1.heap.size, 2, none⟩ (.slice q3.fq q3.fn q3.fc)) ⟨v1.heap.size, 3, none⟩ (.int .u32 (P3.dn : Nat))) ⟨v1.heap.size, 4, none⟩ (.int .u8 (P3.lg.1 : Nat))) ⟨v1.heap.size, 5, none⟩ (.slice q3.lq q3.ln q3.lc)) ⟨v1.heap.size, 6, none⟩ (.slice q3.mq q3.mn q3.mc)) ⟨v1.heap.size, 7, none⟩ (.int .u8 (P3.fm : Nat))) ⟨v1.heap.size, 8, none⟩ (.int .u64 (P3.sp : Nat))) ⟨v1.heap.size, 9, none⟩ (.bool P3.b1)) ⟨v1.heap.size, 10, none⟩ (.bool P3.b2)) ⟨v1.heap.size, 11, none⟩ (.bool P3.b3)) ⟨v1.heap.size, 12, none⟩ (.bool P3.b4)).heap[w.heap.size + 1]? = some (.cells #[.string af, .int .i64 al, .string ax, .string ak, .string av] 34 (0, 0)) from HU.out.2.1)
         have QU := Lib.hid (show (World.setCell (World.setCell (World.setCell (World.setCell (World.setCell (World.setCell (World.setCell (World.setCell (World.setCell (World.setCell (World.setCell (World.setCell (World.setCell v3 ⟨v1.heap.size, 0, none⟩ (.slice q3.aq q3.an q3.ac)) ⟨v1.heap.size, 1, none⟩ (.int .u8 (P3.fl.1 : Nat))) ⟨v1.heap.size, 2, none⟩ (.slice q3.fq q3.fn q3.fc)) ⟨v1.heap.size, 3, none⟩ (.int .u32 (P3.dn : Nat))) ⟨v1.heap.size, 4, none⟩ (.int .u8 (P3.lg.1 : Nat))) ⟨v1.heap.size, 5, none⟩ (.slice q3.lq q3.ln q3.lc)) ⟨v1.heap.size, 6, none⟩ (.slice q3.mq q3.mn q3.mc)) ⟨v1.heap.size, 7, none⟩ (.int .u8 (P3.fm : Nat))) ⟨v1.heap.size, 8, none⟩ (.int .u64 (P3.sp : Nat))) ⟨v1.heap.size, 9, none⟩ (.bool P3.b1)) ⟨v1.heap.size, 10, none⟩ (.bool P3.b2)) ⟨v1.heap.size, 11, none⟩ (.bool P3.b3)) ⟨v1.heap.size, 12, none⟩ (.bool P3.b4)).heap[v1.heap.size]? = some (.cells (plC q3 P3).toArray 32 (0, 0)) from HU.out.2.2.1)
         have BU := Lib.hid (show Below w.heap.size w (World.setCell (World.setCell (World.setCell (World.setCell (World.setCell (World.setCell (World.setCell (World.setCell (World.setCell (World.setCell (World.setCell (World.setCell (World.setCell v3 ⟨v1.heap.size, 0, none⟩ (.slice q3.aq q3.an q3.ac)) ⟨v1.heap.size, 1, none⟩ (.int .u8 (P3.fl.1 : Nat))) ⟨v1.heap.size, 2, none⟩ (.slice q3.fq q3.fn q3.fc)) ⟨v1.heap.size, 3, none⟩ (.int .u32 (P3.dn : Nat))) ⟨v1.heap.size, 4, none⟩ (.int .u8 (P3.lg.1 : Nat))) ⟨v1.heap.size, 5, none⟩ (.slice q3.lq q3.ln q3.lc)) ⟨v1.heap.size, 6, none⟩ (.slice q3.mq q3.mn q3.mc)) ⟨v1.heap.size, 7, none⟩ (.int .u8 (P3.fm : Nat))) ⟨v1.heap.size, 8, none⟩ (.int .u64 (P3.sp : Nat))) ⟨v1.heap.size, 9, none⟩ (.bool P3.b1)) ⟨v1.heap.size, 10, none⟩ (.bool P3.b2)) ⟨v1.heap.size, 11, none⟩ (.bool P3.b3)) ⟨v1.heap.size, 12, none⟩ (.bool P3.b4)) from HU.out.2.2.2.1)
         have OU := Lib.hid (show PolAt (World.setCell (World.setCell (World.setCell (World.setCell (World.setCell (World.setCell (World.setCell (World.setCell (World.setCell (World.setCell (World.setCell (World.setCell (World.setCell v3 ⟨v1.heap.size, 0, none⟩ (.slice q3.aq q3.an q3.ac)) ⟨v1.heap.size, 1, none⟩ (.int .u8 (P3.fl.1 : Nat))) ⟨v1.heap.size, 2, none⟩ (.slice q3.fq q3.fn q3.fc)) ⟨v1.heap.size, 3, none⟩ (.int .u32 (P3.dn : Nat))) ⟨v1.heap.size, 4, none⟩ (.int .u8 (P3.lg.1 : Nat))) ⟨v1.heap.size, 5, none⟩ (.slice q3.lq q3.ln q3.lc)) ⟨v1.heap.size, 6, none⟩ (.slice q3.mq q3.mn q3.mc)) ⟨v1.heap.size, 7, none⟩ (.int .u8 (P3.fm : Nat))) ⟨v1.heap.size, 8, none⟩ (.int .u64 (P3.sp : Nat))) ⟨v1.heap.size, 9, none⟩ (.bool P3.b1)) ⟨v1.heap.size, 10, none⟩ (.bool P3.b2)) ⟨v1.heap.size, 11, none⟩ (.bool P3.b3)) ⟨v1.heap.size, 12, none⟩ (.bool P3.b4)) q3 P3 from HU.out.2.2.2.2.1)
         have RU := Lib.hid (show RowsAt 4 encN (World.setCell (World.setCell (World.setCell (World.setCell (World.setCell (World.setCell (World.setCell (World.setCell (World.setCell (World.setCell (World.setCell (World.setCell (World.setCell v3 ⟨v1.heap.size, 0, none⟩ (.slice q3.aq q3.an q3.ac)) ⟨v1.heap.size, 1, none⟩ (.int .u8 (P3.fl.1 : Nat))) ⟨v1.heap.size, 2, none⟩ (.slice q3.fq q3.fn q3.fc)) ⟨v1.heap.size, 3, none⟩ (.int .u32 (P3.dn : Nat))) ⟨v1.heap.size, 4, none⟩ (.int .u8 (P3.lg.1 : Nat))) ⟨v1.heap.size, 5, none⟩ (.slice q3.lq q3.ln q3.lc)) ⟨v1.heap.size, 6, none⟩ (.slice q3.mq q3.mn q3.mc)) ⟨v1.heap.size, 7, none⟩ (.int .u8 (P3.fm : Nat))) ⟨v1.heap.size, 8, none⟩ (.int .u64 (P3.sp : Nat))) ⟨v1.heap.size, 9, none⟩ (.bool P3.b1)) ⟨v1.heap.size, 10, none⟩ (.bool P3.b2)) ⟨v1.heap.size, 11, none⟩ (.bool P3.b3)) ⟨v1.heap.size, 12, none⟩ (.bool P3.b4)) vN3 NN from HU.out.2.2.2.2.2)
         have HC5 := Lib.hid (cells18 (XU.out) (YU.out))
         have MK3 := Lib.hid (show (World.setCell (World.setCell (World.setCell (World.setCell (World.setCell (World.setCell (World.setCell (World.setCell (World.setCell (World.setCell (World.setCell (World.setCell (World.setCell v3 ⟨v1.heap.size, 0, none⟩ (.slice q3.aq q3.an q3.ac)) ⟨v1.heap.size, 1, none⟩ (.int .u8 (P3.fl.1 : Nat))) ⟨v1.heap.size, 2, none⟩ (.slice q3.fq q3.fn q3.fc)) ⟨v1.heap.size, 3, none⟩ (.int .u32 (P3.dn : Nat))) ⟨v1.heap.size, 4, none⟩ (.int .u8 (P3.lg.1 : Nat))) ⟨v1.heap.size, 5, none⟩ (.slice q3.lq q3.ln q3.lc)) ⟨v1.heap.size, 6, none⟩ (.slice q3.mq q3.mn q3.mc)) ⟨v1.heap.size, 7, none⟩ (.int .u8 (P3.fm : Nat))) ⟨v1.heap.size, 8, none⟩ (.int .u64 (P3.sp : Nat))) ⟨v1.heap.size, 9, none⟩ (.bool P3.b1)) ⟨v1.heap.size, 10, none⟩ (.bool P3.b2)) ⟨v1.heap.size, 11, none⟩ (.bool P3.b3)) ⟨v1.heap.size, 12, none⟩ (.bool P3.b4)) = (World.setCell (World.setCell (World.setCell (World.setCell (World.setCell (World.setCell (World.setCell (World.setCell (World.setCell (World.setCell (World.setCell (World.setCell (World.setCell v3 ⟨v1.heap.size, 0, none⟩ (.slice q3.aq q3.an q3.ac)) ⟨v1.heap.size, 1, none⟩ (.int .u8 (P3.fl.1 : Nat))) ⟨v1.heap.size, 2, none⟩ (.slice q3.fq q3.fn q3.fc)) ⟨v1.heap.size, 3, none⟩ (.int .u32 (P3.dn : Nat))) ⟨v1.heap.size, 4, none⟩ (.int .u8 (P3.lg.1 : Nat))) ⟨v1.heap.size, 5, none⟩ (.slice q3.lq q3.ln q3.lc)) ⟨v1.heap.size, 6, none⟩ (.slice q3.mq q3.mn q3.mc)) ⟨v1.heap.size, 7, none⟩ (.int .u8 (P3.fm : Nat))) ⟨v1.heap.size, 8, none⟩ (.int .u64 (P3.sp : Nat))) ⟨v1.heap.size, 9, none⟩ (.bool P3.b1)) ⟨v1.heap.size, 10, none⟩ (.bool P3.b2)) ⟨v1.heap.size, 11, none⟩ (.bool P3.b3)) ⟨v1.heap.size, 12, none⟩ (.bool P3.b4)) from rfl)
         clear b3 own3 r3)
      | (go_at_call 12
         skip
         ((with_reducible refine (HST.out (World.alloc v2 (.cells #[.slice none 0 0, .int .u8 0, .slice none 0 0, .int .u32 0, .int .u8 0, .slice none 0 0, .slice none 0 0, .int .u8 0, .int .u64 0, .bool false, .bool false, .bool false, .bool false] 32)) (HON.out _ _ HG.out (B2.out.alloc B2.out.size _)) q2 (O2.out.on (below16 v2 _))).mono ?_); rintro e v3 ⟨pb, q3, vN3, hpb, rfl, own3, r3, b3⟩)
         clear hpb
         have hpr := HOR.out pb
         obtain ⟨P3, hP3⟩ : ∃ X, X = (setR pb P ak av).1 := ⟨_, rfl⟩
         obtain ⟨NN, hNN⟩ : ∃ X, X = (setR pb P ak av).2.map (nteP ⟨af, al, ax, ak, av⟩) := ⟨_, rfl⟩
         (try simp only at hpr)
         rw [← hP3, ← hNN] at hpr
         rw [← hP3] at own3 ⊢
         rw [← hNN] at r3
         clear hP3 hNN
         have HPR := Lib.hid hpr
         clear hpr
         have B3 := Lib.hid (show Below w.heap.size w v3 from thn16 (B2.out.alloc B2.out.size _) b3)
         have O3 := Lib.hid own3
         have R3 := Lib.hid (show v3.ownsRow w.heap.size 43 4 vN3 NN.length (rowC encN NN) from owns_low16 r3 ((B2.out.alloc B2.out.size (.cells #[.slice none 0 0, .int .u8 0, .slice none 0 0, .int .u32 0, .int .u8 0, .slice none 0 0, .slice none 0 0, .int .u8 0, .int .u64 0, .bool false, .bool false, .bool false, .bool false] 32)).size))
         have X3 := Lib.hid (blk_on (blk_on X2.out (below16 v2 _)) b3)
         have Y3 := Lib.hid (blk_on (blk_on Y2.out (below16 v2 _)) b3)
         have HC3 := Lib.hid (cells18 (V := v3) (X3.out) (Y3.out))
         have Z3 := Lib.hid (show v3.heap[v2.heap.size]? = some (.cells ([.slice none 0 0, .int .u8 0, .slice none 0 0, .int .u32 0, .int .u8 0, .slice none 0 0, .slice none 0 0, .int .u8 0, .int .u64 0, .bool false, .bool false, .bool false, .bool false] : List Value).toArray 32 (0, 0)) from blk_on (heap_alloc_new v2 _) b3)
         obtain ⟨zf, z0, z1, z2, z3, z4, z5, z6, z7, z8, z9, z10, z11, z12⟩ := resC17 Z3.out
         have hnx : w.heap.size ≠ v2.heap.size := by have h1 := blk_lt X2.out; omega
         have hny : w.heap.size + 1 ≠ v2.heap.size := by have h1 := blk_lt Y2.out; omega
         have hgw : w.heap.size ≤ v2.heap.size := B2.out.size
         have HU := Lib.hid (put17 (a := ⟨af, al, ax, ak, av⟩) (q3 := q3) (P2 := P3) X3.out Y3.out Z3.out hnx hny hgw B3.out O3.out R3.out)
         have XU := Lib.hid (show (World.setCell (World.setCell (World.setCell (World.setCell (World.setCell (World.setCell (World.setCell (World.setCell (World.setCell (World.setCell (World.setCell (World.setCell (World.setCell v3 ⟨v2.heap.size, 0, none⟩ (.slice q3.aq q3.an q3.ac)) ⟨v2.heap.size, 1, none⟩ (.int .u8 (P3.fl.1 : Nat))) ⟨v2.heap.size, 2, none⟩ (.slice q3.fq q3.fn q3.fc)) ⟨v2.heap.size, 3, none⟩ (.int .u32 (P3.dn : Nat))) ⟨v2.heap.size, 4, none⟩ (.int .u8 (P3.lg.1 : Nat))) ⟨v2.heap.size, 5, none⟩ (.slice q3.lq q3.ln q3.lc)) ⟨v2.heap.size, 6, none⟩ (.slice q3.mq q3.mn q3.mc)) ⟨v2.heap.size, 7, none⟩ (.int .u8 (P3.fm : Nat))) ⟨v2.heap.size, 8, none⟩ (.int .u64 (P3.sp : Nat))) ⟨v2.heap.size, 9, none⟩ (.bool P3.b1)) ⟨v2.heap.size, 10, none⟩ (.bool P3.b2)) ⟨v2.heap.size, 11, none⟩ (.bool P3.b3)) ⟨v2.heap.size, 12, none⟩ (.bool P3.b4)).heap[w.heap.size]? = some (.cells (plC p P).toArray 32 (0, 0)) from HU.out.1)
         have YU := Lib.hid (show (World.setCell (World.setCell (World.setCell (World.setCell (World.setCell (World.setCell (World.setCell (World.setCell (World.setCell (World.setCell (World.setCell (World.setCell (World.setCell v3 ⟨v2.heap.size, 0, none⟩ (.slice q3.aq q3.an q3.ac)) ⟨v2.heap.size, 1, none⟩ (.int .u8 (P3.fl.1 : Nat))) ⟨v2.heap.size, 2, none⟩ (.slice q3.fq q3.fn q3.fc)) ⟨v2.heap.size, 3, none⟩ (.int .u32 (P3.dn : Nat))) ⟨v2.heap.size, 4, none⟩ (.int .u8 (P3.lg.1 : Nat))) ⟨v2.heap.size, 5, none⟩ (.slice q3.lq q3.ln q3.lc)) ⟨v2.heap.size, 6, none⟩ (.slice q3.mq q3.mn q3.mc)) ⟨v2.heap.size, 7, none⟩ (.int .u8 (P3.fm : Nat))) ⟨v2.heap.size, 8, none⟩ (.int .u64 (P3.sp : Nat))) ⟨v2.heap.size, 9, none⟩ (.bool P3.b1)) ⟨v2.heap.size, 10, none⟩ (.bool P3.b2)) ⟨v2.heap.size, 11, none⟩ (.bool P3.b3)) ⟨v2.heap.size, 12, none⟩ (.bool P3.b4)).heap[w.heap.size + 1]? = some (.cells #[.string af, .int .i64 al, .string ax, .string ak, .string av] 34 (0, 0)) from HU.out.2.1)
         have QU := Lib.hid (show (World.setCell (World.setCell (World.setCell (World.setCell (World.setCell (World.setCell (World.setCell (World.setCell (World.setCell (World.setCell (World.setCell (World.setCell (World.setCell v3 ⟨v2.heap.size, 0, none⟩ (.slice q3.aq q3.an q3.ac)) ⟨v2.heap.size, 1, none⟩ (.int .u8 (P3.fl.1 : Nat))) ⟨v2.heap.size, 2, none⟩ (.slice q3.fq q3.fn q3.fc)) ⟨v2.heap.size, 3, none⟩ (.int .u32 (P3.dn : Nat))) ⟨v2.heap.size, 4, none⟩ (.int .u8 (P3.lg.1 : Nat))) ⟨v2.heap.size, 5, none⟩ (.slice q3.lq q3.ln q3.lc)) ⟨v2.heap.size, 6, none⟩ (.slice q3.mq q3.mn q3.mc)) ⟨v2.heap.size, 7, none⟩ (.int .u8 (P3.fm : Nat))) ⟨v2.heap.size, 8, none⟩ (.int .u64 (P3.sp : Nat))) ⟨v2.heap.size, 9, none⟩ (.bool P3.b1)) ⟨v2.heap.size, 10, none⟩ (.bool P3.b2)) ⟨v2.heap.size, 11, none⟩ (.bool P3.b3)) ⟨v2.heap.size, 12, none⟩ (.bool P3.b4)).heap[v2.heap.size]? = some (.cells (plC q3 P3).toArray 32 (0, 0)) from HU.out.2.2.1)
         have BU := Lib.hid (show Below w.heap.size w (World.setCell (World.setCell (World.setCell (World.setCell (World.setCell (World.setCell (World.setCell (World.setCell (World.setCell (World.setCell (World.setCell (World.setCell (World.setCell v3 ⟨v2.heap.size, 0, none⟩ (.slice q3.aq q3.an q3.ac)) ⟨v2.heap.size, 1, none⟩ (.int .u8 (P3.fl.1 : Nat))) ⟨v2.heap.size, 2, none⟩ (.slice q3.fq q3.fn q3.fc)) ⟨v2.heap.size, 3, none⟩ (.int .u32 (P3.dn : Nat))) ⟨v2.heap.size, 4, none⟩ (.int .u8 (P3.lg.1 : Nat))) ⟨v2.heap.size, 5, none⟩ (.slice q3.lq q3.ln q3.lc)) ⟨v2.heap.size, 6, none⟩ (.slice q3.mq q3.mn q3.mc)) ⟨v2.heap.size, 7, none⟩ (.int .u8 (P3.fm : Nat))) ⟨v2.heap.size, 8, none⟩ (.int .u64 (P3.sp : Nat))) ⟨v2.heap.size, 9, none⟩ (.bool P3.b1)) ⟨v2.heap.size, 10, none⟩ (.bool P3.b2)) ⟨v2.heap.size, 11, none⟩ (.bool P3.b3)) ⟨v2.heap.size, 12, none⟩ (.bool P3.b4)) from HU.out.2.2.2.1)
         have OU := Lib.hid (show PolAt (World.setCell (World.setCell (World.setCell (World.setCell (World.setCell (World.setCell (World.setCell (World.setCell (World.setCell (World.setCell (World.setCell (World.setCell (World.setCell v3 ⟨v2.heap.size, 0, none⟩ (.slice q3.aq q3.an q3.ac)) ⟨v2.heap.size, 1, none⟩ (.int .u8 (P3.fl.1 : Nat))) ⟨v2.heap.size, 2, none⟩ (.slice q3.fq q3.fn q3.fc)) ⟨v2.heap.size, 3, none⟩ (.int .u32 (P3.dn : Nat))) ⟨v2.heap.size, 4, none⟩ (.int .u8 (P3.lg.1 : Nat))) ⟨v2.heap.size, 5, none⟩ (.slice q3.lq q3.ln q3.lc)) ⟨v2.heap.size, 6, none⟩ (.slice q3.mq q3.mn q3.mc)) ⟨v2.heap.size, 7, none⟩ (.int .u8 (P3.fm : Nat))) ⟨v2.heap.size, 8, none⟩ (.int .u64 (P3.sp : Nat))) ⟨v2.heap.size, 9, none⟩ (.bool P3.b1)) ⟨v2.heap.size, 10, none⟩ (.bool P3.b2)) ⟨v2.heap.size, 11, none⟩ (.bool P3.b3)) ⟨v2.heap.size, 12, none⟩ (.bool P3.b4)) q3 P3 from HU.out.2.2.2.2.1)
         have RU := Lib.hid (show RowsAt 4 encN (World.setCell (World.setCell (World.setCell (World.setCell (World.setCell (World.setCell (World.setCell (World.setCell (World.setCell (World.setCell (World.setCell (World.setCell (World.setCell v3 ⟨v2.heap.size, 0, none⟩ (.slice q3.aq q3.an q3.ac)) ⟨v2.heap.size, 1, none⟩ (.int .u8 (P3.fl.1 : Nat))) ⟨v2.heap.size, 2, none⟩ (.slice q3.fq q3.fn q3.fc)) ⟨v2.heap.size, 3, none⟩ (.int .u32 (P3.dn : Nat))) ⟨v2.heap.size, 4, none⟩ (.int .u8 (P3.lg.1 : Nat))) ⟨v2.heap.size, 5, none⟩ (.slice q3.lq q3.ln q3.lc)) ⟨v2.heap.size, 6, none⟩ (.slice q3.mq q3.mn q3.mc)) ⟨v2.heap.size, 7, none⟩ (.int .u8 (P3.fm : Nat))) ⟨v2.heap.size, 8, none⟩ (.int .u64 (P3.sp : Nat))) ⟨v2.heap.size, 9, none⟩ (.bool P3.b1)) ⟨v2.heap.size, 10, none⟩ (.bool P3.b2)) ⟨v2.heap.size, 11, none⟩ (.bool P3.b3)) ⟨v2.heap.size, 12, none⟩ (.bool P3.b4)) vN3 NN from HU.out.2.2.2.2.2)
         have HC5 := Lib.hid (cells18 (XU.out) (YU.out))
         have MK2 := Lib.hid (show (World.setCell (World.setCell (World.setCell (World.setCell (World.setCell (World.setCell (World.setCell (World.setCell (World.setCell (World.setCell (World.setCell (World.setCell (World.setCell v3 ⟨v2.heap.size, 0, none⟩ (.slice q3.aq q3.an q3.ac)) ⟨v2.heap.size, 1, none⟩ (.int .u8 (P3.fl.1 : Nat))) ⟨v2.heap.size, 2, none⟩ (.slice q3.fq q3.fn q3.fc)) ⟨v2.heap.size, 3, none⟩ (.int .u32 (P3.dn : Nat))) ⟨v2.heap.size, 4, none⟩ (.int .u8 (P3.lg.1 : Nat))) ⟨v2.heap.size, 5, none⟩ (.slice q3.lq q3.ln q3.lc)) ⟨v2.heap.size, 6, none⟩ (.slice q3.mq q3.mn q3.mc)) ⟨v2.heap.size, 7, none⟩ (.int .u8 (P3.fm : Nat))) ⟨v2.heap.size, 8, none⟩ (.int .u64 (P3.sp : Nat))) ⟨v2.heap.size, 9, none⟩ (.bool P3.b1)) ⟨v2.heap.size, 10, none⟩ (.bool P3.b2)) ⟨v2.heap.size, 11, none⟩ (.bool P3.b3)) ⟨v2.heap.size, 12, none⟩ (.bool P3.b4)) = (World.setCell (World.setCell (World.setCell (World.setCell (World.setCell (World.setCell (World.setCell (World.setCell (World.setCell (World.setCell (World.setCell (World.setCell (World.setCell v3 ⟨v2.heap.size, 0, none⟩ (.slice q3.aq q3.an q3.ac)) ⟨v2.heap.size, 1, none⟩ (.int .u8 (P3.fl.1 : Nat))) ⟨v2.heap.size, 2, none⟩ (.slice q3.fq q3.fn q3.fc)) ⟨v2.heap.size, 3, none⟩ (.int .u32 (P3.dn : Nat))) ⟨v2.heap.size, 4, none⟩ (.int .u8 (P3.lg.1 : Nat))) ⟨v2.heap.size, 5, none⟩ (.slice q3.lq q3.ln q3.lc)) ⟨v2.heap.size, 6, none⟩ (.slice q3.mq q3.mn q3.mc)) ⟨v2.heap.size, 7, none⟩ (.int .u8 (P3.fm : Nat))) ⟨v2.heap.size, 8, none⟩ (.int .u64 (P3.sp : Nat))) ⟨v2.heap.size, 9, none⟩ (.bool P3.b1)) ⟨v2.heap.size, 10, none⟩ (.bool P3.b2)) ⟨v2.heap.size, 11, none⟩ (.bool P3.b3)) ⟨v2.heap.size, 12, none⟩ (.bool P3.b4)) from rfl)
         clear b3 own3 r3)
      | (go_at_call 12
         skip
         ((with_reducible refine (HST.out v2 (HON.out _ _ HG.out B2.out) q2 O2.out).mono ?_); rintro e v3 ⟨pb, q3, vN3, hpb, rfl, own3, r3, b3⟩)
         clear hpb
         have hpr := HOR.out pb
         obtain ⟨P3, hP3⟩ : ∃ X, X = (setR pb P ak av).1 := ⟨_, rfl⟩
         obtain ⟨NN, hNN⟩ : ∃ X, X = (setR pb P ak av).2.map (nteP ⟨af, al, ax, ak, av⟩) := ⟨_, rfl⟩
         (try simp only at hpr)
         rw [← hP3, ← hNN] at hpr
         rw [← hP3] at own3 ⊢
         rw [← hNN] at r3
         clear hP3 hNN
         have HPR := Lib.hid hpr
         clear hpr
         have B3 := Lib.hid (show Below w.heap.size w v3 from thn16 B2.out b3)
         have O3 := Lib.hid own3
         have R3 := Lib.hid (show v3.ownsRow w.heap.size 43 4 vN3 NN.length (rowC encN NN) from owns_low16 r3 (B2.out.size))
         have X3 := Lib.hid (blk_on X2.out b3)
         have Y3 := Lib.hid (blk_on Y2.out b3)
         have HC3 := Lib.hid (cells18 (V := v3) (X3.out) (Y3.out))
         have HC4 := Lib.hid (cells18 (V := (World.alloc v3 (.cells #[.slice none 0 0, .int .u8 0, .slice none 0 0, .int .u32 0, .int .u8 0, .slice none 0 0, .slice none 0 0, .int .u8 0, .int .u64 0, .bool false, .bool false, .bool false, .bool false] 32))) (blk_on X3.out (below16 v3 _)) (blk_on Y3.out (below16 v3 _)))
         have HC5 := Lib.hid (cells18 (V := (World.alloc v3 (.cells #[.slice q3.aq q3.an q3.ac, .int .u8 (P3.fl.1 : Nat), .slice q3.fq q3.fn q3.fc, .int .u32 (P3.dn : Nat), .int .u8 (P3.lg.1 : Nat), .slice q3.lq q3.ln q3.lc, .slice q3.mq q3.mn q3.mc, .int .u8 (P3.fm : Nat), .int .u64 (P3.sp : Nat), .bool P3.b1, .bool P3.b2, .bool P3.b3, .bool P3.b4] 32))) (blk_on X3.out (below16 v3 _)) (blk_on Y3.out (below16 v3 _)))
         have XU := Lib.hid (show (World.alloc v3 (.cells #[.slice q3.aq q3.an q3.ac, .int .u8 (P3.fl.1 : Nat), .slice q3.fq q3.fn q3.fc, .int .u32 (P3.dn : Nat), .int .u8 (P3.lg.1 : Nat), .slice q3.lq q3.ln q3.lc, .slice q3.mq q3.mn q3.mc, .int .u8 (P3.fm : Nat), .int .u64 (P3.sp : Nat), .bool P3.b1, .bool P3.b2, .bool P3.b3, .bool P3.b4] 32)).heap[w.heap.size]? = some (.cells (plC p P).toArray 32 (0, 0)) from blk_on X3.out (below16 v3 _))
         have YU := Lib.hid (show (World.alloc v3 (.cells #[.slice q3.aq q3.an q3.ac, .int .u8 (P3.fl.1 : Nat), .slice q3.fq q3.fn q3.fc, .int .u32 (P3.dn : Nat), .int .u8 (P3.lg.1 : Nat), .slice q3.lq q3.ln q3.lc, .slice q3.mq q3.mn q3.mc, .int .u8 (P3.fm : Nat), .int .u64 (P3.sp : Nat), .bool P3.b1, .bool P3.b2, .bool P3.b3, .bool P3.b4] 32)).heap[w.heap.size + 1]? = some (.cells #[.string af, .int .i64 al, .string ax, .string ak, .string av] 34 (0, 0)) from blk_on Y3.out (below16 v3 _))
         have QU := Lib.hid (show (World.alloc v3 (.cells #[.slice q3.aq q3.an q3.ac, .int .u8 (P3.fl.1 : Nat), .slice q3.fq q3.fn q3.fc, .int .u32 (P3.dn : Nat), .int .u8 (P3.lg.1 : Nat), .slice q3.lq q3.ln q3.lc, .slice q3.mq q3.mn q3.mc, .int .u8 (P3.fm : Nat), .int .u64 (P3.sp : Nat), .bool P3.b1, .bool P3.b2, .bool P3.b3, .bool P3.b4] 32)).heap[v3.heap.size]? = some (.cells (plC q3 P3).toArray 32 (0, 0)) from heap_alloc_new v3 _)
         have BU := Lib.hid (show Below w.heap.size w (World.alloc v3 (.cells #[.slice q3.aq q3.an q3.ac, .int .u8 (P3.fl.1 : Nat), .slice q3.fq q3.fn q3.fc, .int .u32 (P3.dn : Nat), .int .u8 (P3.lg.1 : Nat), .slice q3.lq q3.ln q3.lc, .slice q3.mq q3.mn q3.mc, .int .u8 (P3.fm : Nat), .int .u64 (P3.sp : Nat), .bool P3.b1, .bool P3.b2, .bool P3.b3, .bool P3.b4] 32)) from B3.out.alloc B3.out.size _)
         have OU := Lib.hid (show PolAt (World.alloc v3 (.cells #[.slice q3.aq q3.an q3.ac, .int .u8 (P3.fl.1 : Nat), .slice q3.fq q3.fn q3.fc, .int .u32 (P3.dn : Nat), .int .u8 (P3.lg.1 : Nat), .slice q3.lq q3.ln q3.lc, .slice q3.mq q3.mn q3.mc, .int .u8 (P3.fm : Nat), .int .u64 (P3.sp : Nat), .bool P3.b1, .bool P3.b2, .bool P3.b3, .bool P3.b4] 32)) q3 P3 from O3.out.pol.on (below16 v3 _))
         have RU := Lib.hid (show RowsAt 4 encN (World.alloc v3 (.cells #[.slice q3.aq q3.an q3.ac, .int .u8 (P3.fl.1 : Nat), .slice q3.fq q3.fn q3.fc, .int .u32 (P3.dn : Nat), .int .u8 (P3.lg.1 : Nat), .slice q3.lq q3.ln q3.lc, .slice q3.mq q3.mn q3.mc, .int .u8 (P3.fm : Nat), .int .u64 (P3.sp : Nat), .bool P3.b1, .bool P3.b2, .bool P3.b3, .bool P3.b4] 32)) vN3 NN from rows_own encN_len (owns_on16 R3.out (below16 v3 _)))
         have MK1 := Lib.hid (show (World.alloc v3 (.cells #[.slice q3.aq q3.an q3.ac, .int .u8 (P3.fl.1 : Nat), .slice q3.fq q3.fn q3.fc, .int .u32 (P3.dn : Nat), .int .u8 (P3.lg.1 : Nat), .slice q3.lq q3.ln q3.lc, .slice q3.mq q3.mn q3.mc, .int .u8 (P3.fm : Nat), .int .u64 (P3.sp : Nat), .bool P3.b1, .bool P3.b2, .bool P3.b3, .bool P3.b4] 32)) = (World.alloc v3 (.cells #[.slice q3.aq q3.an q3.ac, .int .u8 (P3.fl.1 : Nat), .slice q3.fq q3.fn q3.fc, .int .u32 (P3.dn : Nat), .int .u8 (P3.lg.1 : Nat), .slice q3.lq q3.ln q3.lc, .slice q3.mq q3.mn q3.mc, .int .u8 (P3.fm : Nat), .int .u64 (P3.sp : Nat), .bool P3.b1, .bool P3.b2, .bool P3.b3, .bool P3.b4] 32)) from rfl)
         clear b3 own3 r3)
    )
    all_goals (first
      | (have mk := MK1; clear mk MK1; obtain ⟨g5, hg5⟩ : ∃ g, g = v3.heap.size := ⟨_, rfl⟩; generalize (World.alloc v3 (.cells #[.slice q3.aq q3.an q3.ac, .int .u8 (P3.fl.1 : Nat), .slice q3.fq q3.fn q3.fc, .int .u32 (P3.dn : Nat), .int .u8 (P3.lg.1 : Nat), .slice q3.lq q3.ln q3.lc, .slice q3.mq q3.mn q3.mc, .int .u8 (P3.fm : Nat), .int .u64 (P3.sp : Nat), .bool P3.b1, .bool P3.b2, .bool P3.b3, .bool P3.b4] 32)) = Z at XU YU QU BU OU RU ⊢; rw [← hg5] at QU ⊢; clear hg5; exact KEY Z g5 q2 q3 P3 NN vN3 ⟨XU.out, YU.out, QU.out, BU.out, OU.out, RU.out, HPR.out⟩)
      | (have mk := MK2; clear mk MK2; obtain ⟨g5, hg5⟩ : ∃ g, g = v2.heap.size := ⟨_, rfl⟩; generalize (World.setCell (World.setCell (World.setCell (World.setCell (World.setCell (World.setCell (World.setCell (World.setCell (World.setCell (World.setCell (World.setCell (World.setCell (World.setCell v3 ⟨v2.heap.size, 0, none⟩ (.slice q3.aq q3.an q3.ac)) ⟨v2.heap.size, 1, none⟩ (.int .u8 (P3.fl.1 : Nat))) ⟨v2.heap.size, 2, none⟩ (.slice q3.fq q3.fn q3.fc)) ⟨v2.heap.size, 3, none⟩ (.int .u32 (P3.dn : Nat))) ⟨v2.heap.size, 4, none⟩ (.int .u8 (P3.lg.1 : Nat))) ⟨v2.heap.size, 5, none⟩ (.slice q3.lq q3.ln q3.lc)) ⟨v2.heap.size, 6, none⟩ (.slice q3.mq q3.mn q3.mc)) ⟨v2.heap.size, 7, none⟩ (.int .u8 (P3.fm : Nat))) ⟨v2.heap.size, 8, none⟩ (.int .u64 (P3.sp : Nat))) ⟨v2.heap.size, 9, none⟩ (.bool P3.b1)) ⟨v2.heap.size, 10, none⟩ (.bool P3.b2)) ⟨v2.heap.size, 11, none⟩ (.bool P3.b3)) ⟨v2.heap.size, 12, none⟩ (.bool P3.b4)) = Z at XU YU QU BU OU RU ⊢; rw [← hg5] at QU ⊢; clear hg5; exact KEY Z g5 q2 q3 P3 NN vN3 ⟨XU.out, YU.out, QU.out, BU.out, OU.out, RU.out, HPR.out⟩)
      | (have mk := MK3; clear mk MK3; obtain ⟨g5, hg5⟩ : ∃ g, g = v1.heap.size := ⟨_, rfl⟩; generalize (World.setCell (World.setCell (World.setCell (World.setCell (World.setCell (World.setCell (World.setCell (World.setCell (World.setCell (World.setCell (World.setCell (World.setCell (World.setCell v3 ⟨v1.heap.size, 0, none⟩ (.slice q3.aq q3.an q3.ac)) ⟨v1.heap.size, 1, none⟩ (.int .u8 (P3.fl.1 : Nat))) ⟨v1.heap.size, 2, none⟩ (.slice q3.fq q3.fn q3.fc)) ⟨v1.heap.size, 3, none⟩ (.int .u32 (P3.dn : Nat))) ⟨v1.heap.size, 4, none⟩ (.int .u8 (P3.lg.1 : Nat))) ⟨v1.heap.size, 5, none⟩ (.slice q3.lq q3.ln q3.lc)) ⟨v1.heap.size, 6, none⟩ (.slice q3.mq q3.mn q3.mc)) ⟨v1.heap.size, 7, none⟩ (.int .u8 (P3.fm : Nat))) ⟨v1.heap.size, 8, none⟩ (.int .u64 (P3.sp : Nat))) ⟨v1.heap.size, 9, none⟩ (.bool P3.b1)) ⟨v1.heap.size, 10, none⟩ (.bool P3.b2)) ⟨v1.heap.size, 11, none⟩ (.bool P3.b3)) ⟨v1.heap.size, 12, none⟩ (.bool P3.b4)) = Z at XU YU QU BU OU RU ⊢; rw [← hg5] at QU ⊢; clear hg5; exact KEY Z g5 q2 q3 P3 NN vN3 ⟨XU.out, YU.out, QU.out, BU.out, OU.out, RU.out, HPR.out⟩))
  case k18 =>
    intro Z g5 q2 q3 P3 NN vN3 hF
    obtain ⟨xu, yu, qu, bu, ou, ru, hpr⟩ := hF
    obtain ⟨aq3, an3, ac3, fq3, fn3, fc3, lq3, ln3, lc3, mq3, mn3, mc3⟩ := q3
    obtain ⟨r1, f3, d3, g3, r2, m3, s3, c1, c2, c3, c4⟩ := P3
    obtain rfl : f3 = P.fl := hpr.fl
    obtain rfl : d3 = P.dn := hpr.dn
    obtain rfl : g3 = P.lg := hpr.lg
    obtain rfl : fn3 = p.fn := ou.fl.trans HFL.out.symm
    obtain rfl : ln3 = p.ln := ou.ll.trans HLL.out.symm
    have HQRI := Lib.hid (fun (X : World) (b : Below Z.heap.size Z X) => rises_yes18 (⟨aq3, an3, ac3, fq3, p.fn, fc3, lq3, p.ln, lc3, mq3, mn3, mc3⟩ : Pls) (⟨r1, P.fl, P.dn, P.lg, r2, m3, s3, c1, c2, c3, c4⟩ : Pol) X (ou.on b) (by rw [ou.al]; exact hpr.la) (by rw [ou.ml]; exact hpr.lm) hpr.rs)
    simp only [plV_eq18] at HQRI
    have XU := Lib.hid xu
    have YU := Lib.hid yu
    have QU := Lib.hid qu
    have BU := Lib.hid bu
    have OU := Lib.hid ou
    have HAR := Lib.hid (show ak ≠ kArc → r1 = P.ar from hpr.ar)
    have HFA := Lib.hid (show ak ≠ kFam → r2 = P.fa ∧ m3 = P.fm from hpr.fa)
    have HSPX := Lib.hid (show ak ≠ kSpa → s3 = P.sp from hpr.sp)
    have HB1X := Lib.hid (show ak ≠ kWri → c1 = P.b1 from hpr.b1)
    have HB2X := Lib.hid (show ak ≠ kPer → c2 = P.b2 from hpr.b2)
    have HB3X := Lib.hid (show ak ≠ kRea → c3 = P.b3 from hpr.b3)
    have HB4X := Lib.hid (show ak ≠ kNop → c4 = P.b4 from hpr.b4)
    have HAL3 := Lib.hid (show an3 = r1.length from ou.al)
    have HML3 := Lib.hid (show mn3 = r2.length from ou.ml)
    have hnn := hpr.nn
    have HNT := Lib.hid (show ∀ (i : Nat) (x : Nte), NN[i]? = some x → x.file = af ∧ x.line = al ∧ (x.err == 0) = false from hpr.nt)
    obtain ⟨qN, cN, hN, _⟩ := id ru
    subst hN
    have HRN := Lib.hid (fun (X : World) (b : Below Z.heap.size Z X) (k : Nat) (x : Nte) (hx : NN[k]? = some x) => row_nte (ru.on b) hx)
    obtain ⟨nN, hnN⟩ : ∃ n, n = NN.length := ⟨_, rfl⟩
    have HNO := Lib.hid (show keyR18 ak = false → nN = 0 from fun h => by rw [hnN, hpr.no h]; rfl)
    rw [← hnN] at hnn ⊢
    have HNN := Lib.hid hnN
    have HPZ := Lib.hid (fun (X : World) (b : Below Z.heap.size Z X) => (HP0.out.on BU.out).on b)
    have OUX := Lib.hid (fun (X : World) (b : Below Z.heap.size Z X) => OU.out.on b)
    have BZ := Lib.hid (Below.refl Z.heap.size Z)
    have han : an3 ≤ 10000 := by rw [HAL3.out]; exact hpr.la
    have hmn : mn3 ≤ 10000 := by rw [HML3.out]; exact hpr.lm
    dsimp only
    clear xu yu qu bu ou ru hpr hnN HGR HRI HCO HOR HST
    have h0 := H0K.out
    have h1 := H1K.out
    have h2 := H2K.out
    have h3 := H3K.out
    have h4 := H4K.out
    obtain rfl : r1 = P.ar := HAR.out h0
    obtain rfl : an3 = p.an := HAL3.out.trans HAL.out.symm
    obtain rfl : r2 = P.fa := (HFA.out h1).1
    obtain rfl : m3 = P.fm := (HFA.out h1).2
    obtain rfl : mn3 = p.mn := HML3.out.trans HML.out.symm
    obtain rfl : s3 = P.sp := HSPX.out h2
    obtain rfl : c1 = P.b1 := HB1X.out h3
    obtain rfl : c3 = P.b3 := HB3X.out (by rw [h4]; decide)
    obtain rfl : c4 = P.b4 := HB4X.out (by rw [h4]; decide)
    have hk : keyR18 ak = true := by rw [h4]; kernel_rfl
    rw [hk] at HKV
    clear hk
    have e0 : (ak.toList == [83, 121, 115, 116, 101, 109, 67, 97, 108, 108, 65, 114, 99, 104, 105, 116, 101, 99, 116, 117, 114, 101, 115]) = false := ne_str h0
    have n0 : (ak.toList != [83, 121, 115, 116, 101, 109, 67, 97, 108, 108, 65, 114, 99, 104, 105, 116, 101, 99, 116, 117, 114, 101, 115]) = !(ak.toList == [83, 121, 115, 116, 101, 109, 67, 97, 108, 108, 65, 114, 99, 104, 105, 116, 101, 99, 116, 117, 114, 101, 115]) := rfl
    rw [e0] at n0
    simp only [Bool.not_true, Bool.not_false] at n0
    have e1 : (ak.toList == [82, 101, 115, 116, 114, 105, 99, 116, 65, 100, 100, 114, 101, 115, 115, 70, 97, 109, 105, 108, 105, 101, 115]) = false := ne_str h1
    have n1 : (ak.toList != [82, 101, 115, 116, 114, 105, 99, 116, 65, 100, 100, 114, 101, 115, 115, 70, 97, 109, 105, 108, 105, 101, 115]) = !(ak.toList == [82, 101, 115, 116, 114, 105, 99, 116, 65, 100, 100, 114, 101, 115, 115, 70, 97, 109, 105, 108, 105, 101, 115]) := rfl
    rw [e1] at n1
    simp only [Bool.not_true, Bool.not_false] at n1
    have e2 : (ak.toList == [82, 101, 115, 116, 114, 105, 99, 116, 78, 97, 109, 101, 115, 112, 97, 99, 101, 115]) = false := ne_str h2
    have n2 : (ak.toList != [82, 101, 115, 116, 114, 105, 99, 116, 78, 97, 109, 101, 115, 112, 97, 99, 101, 115]) = !(ak.toList == [82, 101, 115, 116, 114, 105, 99, 116, 78, 97, 109, 101, 115, 112, 97, 99, 101, 115]) := rfl
    rw [e2] at n2
    simp only [Bool.not_true, Bool.not_false] at n2
    have e3 : (ak.toList == [77, 101, 109, 111, 114, 121, 68, 101, 110, 121, 87, 114, 105, 116, 101, 69, 120, 101, 99, 117, 116, 101]) = false := ne_str h3
    have n3 : (ak.toList != [77, 101, 109, 111, 114, 121, 68, 101, 110, 121, 87, 114, 105, 116, 101, 69, 120, 101, 99, 117, 116, 101]) = !(ak.toList == [77, 101, 109, 111, 114, 121, 68, 101, 110, 121, 87, 114, 105, 116, 101, 69, 120, 101, 99, 117, 116, 101]) := rfl
    rw [e3] at n3
    simp only [Bool.not_true, Bool.not_false] at n3
    have e4 : (ak.toList == [76, 111, 99, 107, 80, 101, 114, 115, 111, 110, 97, 108, 105, 116, 121]) = true := eq_str h4
    have n4 : (ak.toList != [76, 111, 99, 107, 80, 101, 114, 115, 111, 110, 97, 108, 105, 116, 121]) = !(ak.toList == [76, 111, 99, 107, 80, 101, 114, 115, 111, 110, 97, 108, 105, 116, 121]) := rfl
    rw [e4] at n4
    simp only [Bool.not_true, Bool.not_false] at n4
    have e5 : (ak.toList == [82, 101, 115, 116, 114, 105, 99, 116, 82, 101, 97, 108, 116, 105, 109, 101]) = false := by rw [h4, bs_toList]; rfl
    have n5 : (ak.toList != [82, 101, 115, 116, 114, 105, 99, 116, 82, 101, 97, 108, 116, 105, 109, 101]) = !(ak.toList == [82, 101, 115, 116, 114, 105, 99, 116, 82, 101, 97, 108, 116, 105, 109, 101]) := rfl
    rw [e5] at n5
    simp only [Bool.not_true, Bool.not_false] at n5
    have e6 : (ak.toList == [78, 111, 78, 101, 119, 80, 114, 105, 118, 105, 108, 101, 103, 101, 115]) = false := by rw [h4, bs_toList]; rfl
    have n6 : (ak.toList != [78, 111, 78, 101, 119, 80, 114, 105, 118, 105, 108, 101, 103, 101, 115]) = !(ak.toList == [78, 111, 78, 101, 119, 80, 114, 105, 118, 105, 108, 101, 103, 101, 115]) := rfl
    rw [e6] at n6
    simp only [Bool.not_true, Bool.not_false] at n6
    clear h0 h1 h2 h3 h4
    obtain ⟨gp0, gp1, gp2, gp3, gp4, gp5, gp6, gp7, gp8, gp9, gp10, gp11, gp12⟩ := (show Z.cell? ⟨w.heap.size, 0, none⟩ = some (.slice p.aq p.an p.ac) ∧ Z.cell? ⟨w.heap.size, 1, none⟩ = some (.int .u8 (P.fl.1 : Nat)) ∧ Z.cell? ⟨w.heap.size, 2, none⟩ = some (.slice p.fq p.fn p.fc) ∧ Z.cell? ⟨w.heap.size, 3, none⟩ = some (.int .u32 (P.dn : Nat)) ∧ Z.cell? ⟨w.heap.size, 4, none⟩ = some (.int .u8 (P.lg.1 : Nat)) ∧ Z.cell? ⟨w.heap.size, 5, none⟩ = some (.slice p.lq p.ln p.lc) ∧ Z.cell? ⟨w.heap.size, 6, none⟩ = some (.slice p.mq p.mn p.mc) ∧ Z.cell? ⟨w.heap.size, 7, none⟩ = some (.int .u8 (P.fm : Nat)) ∧ Z.cell? ⟨w.heap.size, 8, none⟩ = some (.int .u64 (P.sp : Nat)) ∧ Z.cell? ⟨w.heap.size, 9, none⟩ = some (.bool P.b1) ∧ Z.cell? ⟨w.heap.size, 10, none⟩ = some (.bool P.b2) ∧ Z.cell? ⟨w.heap.size, 11, none⟩ = some (.bool P.b3) ∧ Z.cell? ⟨w.heap.size, 12, none⟩ = some (.bool P.b4) from pcells17 (blk_on XU.out BZ.out))
    obtain ⟨ga0, ga1, ga2, ga3, ga4⟩ := (acells17 (V := Z) (g := w.heap.size + 1) (blk_on YU.out BZ.out))
    have gq0 : Z.cell? ⟨g5, 0, none⟩ = some (.slice aq3 p.an ac3) := (cell_of_row Z g5 0 _ _ (0, 0) (blk_on QU.out BZ.out)).trans rfl
    have gq1 : Z.cell? ⟨g5, 1, none⟩ = some (.int .u8 (P.fl.1 : Nat)) := (cell_of_row Z g5 1 _ _ (0, 0) (blk_on QU.out BZ.out)).trans rfl
    have gq2 : Z.cell? ⟨g5, 2, none⟩ = some (.slice fq3 p.fn fc3) := (cell_of_row Z g5 2 _ _ (0, 0) (blk_on QU.out BZ.out)).trans rfl
    have gq3 : Z.cell? ⟨g5, 3, none⟩ = some (.int .u32 (P.dn : Nat)) := (cell_of_row Z g5 3 _ _ (0, 0) (blk_on QU.out BZ.out)).trans rfl
    have gq4 : Z.cell? ⟨g5, 4, none⟩ = some (.int .u8 (P.lg.1 : Nat)) := (cell_of_row Z g5 4 _ _ (0, 0) (blk_on QU.out BZ.out)).trans rfl
    have gq5 : Z.cell? ⟨g5, 5, none⟩ = some (.slice lq3 p.ln lc3) := (cell_of_row Z g5 5 _ _ (0, 0) (blk_on QU.out BZ.out)).trans rfl
    have gq6 : Z.cell? ⟨g5, 6, none⟩ = some (.slice mq3 p.mn mc3) := (cell_of_row Z g5 6 _ _ (0, 0) (blk_on QU.out BZ.out)).trans rfl
    have gq7 : Z.cell? ⟨g5, 7, none⟩ = some (.int .u8 (P.fm : Nat)) := (cell_of_row Z g5 7 _ _ (0, 0) (blk_on QU.out BZ.out)).trans rfl
    have gq8 : Z.cell? ⟨g5, 8, none⟩ = some (.int .u64 (P.sp : Nat)) := (cell_of_row Z g5 8 _ _ (0, 0) (blk_on QU.out BZ.out)).trans rfl
    have gq9 : Z.cell? ⟨g5, 9, none⟩ = some (.bool P.b1) := (cell_of_row Z g5 9 _ _ (0, 0) (blk_on QU.out BZ.out)).trans rfl
    have gq10 : Z.cell? ⟨g5, 10, none⟩ = some (.bool c2) := (cell_of_row Z g5 10 _ _ (0, 0) (blk_on QU.out BZ.out)).trans rfl
    have gq11 : Z.cell? ⟨g5, 11, none⟩ = some (.bool P.b3) := (cell_of_row Z g5 11 _ _ (0, 0) (blk_on QU.out BZ.out)).trans rfl
    have gq12 : Z.cell? ⟨g5, 12, none⟩ = some (.bool P.b4) := (cell_of_row Z g5 12 _ _ (0, 0) (blk_on QU.out BZ.out)).trans rfl
    go_wp2_with (first
      | (go_at_call 11
         (with_reducible refine (HQRI.out _ BZ.out).mono ?_)
         rintro e z1 ⟨rfl, b⟩
         have BZ := Lib.hid (thn16 BZ.out b)
         clear gp0 gp1 gp2 gp3 gp4 gp5 gp6 gp7 gp8 gp9 gp10 gp11 gp12 ga0 ga1 ga2 ga3 ga4 gq0 gq1 gq2 gq3 gq4 gq5 gq6 gq7 gq8 gq9 gq10 gq11 gq12
         obtain ⟨gp0, gp1, gp2, gp3, gp4, gp5, gp6, gp7, gp8, gp9, gp10, gp11, gp12⟩ := (show z1.cell? ⟨w.heap.size, 0, none⟩ = some (.slice p.aq p.an p.ac) ∧ z1.cell? ⟨w.heap.size, 1, none⟩ = some (.int .u8 (P.fl.1 : Nat)) ∧ z1.cell? ⟨w.heap.size, 2, none⟩ = some (.slice p.fq p.fn p.fc) ∧ z1.cell? ⟨w.heap.size, 3, none⟩ = some (.int .u32 (P.dn : Nat)) ∧ z1.cell? ⟨w.heap.size, 4, none⟩ = some (.int .u8 (P.lg.1 : Nat)) ∧ z1.cell? ⟨w.heap.size, 5, none⟩ = some (.slice p.lq p.ln p.lc) ∧ z1.cell? ⟨w.heap.size, 6, none⟩ = some (.slice p.mq p.mn p.mc) ∧ z1.cell? ⟨w.heap.size, 7, none⟩ = some (.int .u8 (P.fm : Nat)) ∧ z1.cell? ⟨w.heap.size, 8, none⟩ = some (.int .u64 (P.sp : Nat)) ∧ z1.cell? ⟨w.heap.size, 9, none⟩ = some (.bool P.b1) ∧ z1.cell? ⟨w.heap.size, 10, none⟩ = some (.bool P.b2) ∧ z1.cell? ⟨w.heap.size, 11, none⟩ = some (.bool P.b3) ∧ z1.cell? ⟨w.heap.size, 12, none⟩ = some (.bool P.b4) from pcells17 (blk_on XU.out BZ.out))
         obtain ⟨ga0, ga1, ga2, ga3, ga4⟩ := (acells17 (V := z1) (g := w.heap.size + 1) (blk_on YU.out BZ.out))
         have gq0 : z1.cell? ⟨g5, 0, none⟩ = some (.slice aq3 p.an ac3) := (cell_of_row z1 g5 0 _ _ (0, 0) (blk_on QU.out BZ.out)).trans rfl
         have gq1 : z1.cell? ⟨g5, 1, none⟩ = some (.int .u8 (P.fl.1 : Nat)) := (cell_of_row z1 g5 1 _ _ (0, 0) (blk_on QU.out BZ.out)).trans rfl
         have gq2 : z1.cell? ⟨g5, 2, none⟩ = some (.slice fq3 p.fn fc3) := (cell_of_row z1 g5 2 _ _ (0, 0) (blk_on QU.out BZ.out)).trans rfl
         have gq3 : z1.cell? ⟨g5, 3, none⟩ = some (.int .u32 (P.dn : Nat)) := (cell_of_row z1 g5 3 _ _ (0, 0) (blk_on QU.out BZ.out)).trans rfl
         have gq4 : z1.cell? ⟨g5, 4, none⟩ = some (.int .u8 (P.lg.1 : Nat)) := (cell_of_row z1 g5 4 _ _ (0, 0) (blk_on QU.out BZ.out)).trans rfl
         have gq5 : z1.cell? ⟨g5, 5, none⟩ = some (.slice lq3 p.ln lc3) := (cell_of_row z1 g5 5 _ _ (0, 0) (blk_on QU.out BZ.out)).trans rfl
         have gq6 : z1.cell? ⟨g5, 6, none⟩ = some (.slice mq3 p.mn mc3) := (cell_of_row z1 g5 6 _ _ (0, 0) (blk_on QU.out BZ.out)).trans rfl
         have gq7 : z1.cell? ⟨g5, 7, none⟩ = some (.int .u8 (P.fm : Nat)) := (cell_of_row z1 g5 7 _ _ (0, 0) (blk_on QU.out BZ.out)).trans rfl
         have gq8 : z1.cell? ⟨g5, 8, none⟩ = some (.int .u64 (P.sp : Nat)) := (cell_of_row z1 g5 8 _ _ (0, 0) (blk_on QU.out BZ.out)).trans rfl
         have gq9 : z1.cell? ⟨g5, 9, none⟩ = some (.bool P.b1) := (cell_of_row z1 g5 9 _ _ (0, 0) (blk_on QU.out BZ.out)).trans rfl
         have gq10 : z1.cell? ⟨g5, 10, none⟩ = some (.bool c2) := (cell_of_row z1 g5 10 _ _ (0, 0) (blk_on QU.out BZ.out)).trans rfl
         have gq11 : z1.cell? ⟨g5, 11, none⟩ = some (.bool P.b3) := (cell_of_row z1 g5 11 _ _ (0, 0) (blk_on QU.out BZ.out)).trans rfl
         have gq12 : z1.cell? ⟨g5, 12, none⟩ = some (.bool P.b4) := (cell_of_row z1 g5 12 _ _ (0, 0) (blk_on QU.out BZ.out)).trans rfl
         clear b))
    clear gp0 gp1 gp2 gp3 gp4 gp5 gp6 gp7 gp8 gp9 gp10 gp11 gp12 ga0 ga1 ga2 ga3 ga4 gq0 gq1 gq2 gq3 gq4 gq5 gq6 gq7 gq8 gq9 gq10 gq11 gq12
    go_loopw [7, 8] (fun v7 v8 wr => ∃ k : Nat, k ≤ p.an ∧ v7 = .bool true ∧ v8 = .int .i64 k ∧ Hid (Below Z.heap.size Z wr)) (fun _ v8 _ => p.an - (intOf v8).toNat)
    case atStart => exact ⟨0, Nat.zero_le _, by first | rfl | simp, rfl, BZ⟩
    case round =>
      clear BZ
      obtain ⟨k, hk, rfl, rfl, BZ⟩ := hrel
      obtain ⟨V, rfl⟩ : ∃ wo : World, wo = wr := ⟨_, rfl⟩
      obtain ⟨gp0, gp1, gp2, gp3, gp4, gp5, gp6, gp7, gp8, gp9, gp10, gp11, gp12⟩ := (show V.cell? ⟨w.heap.size, 0, none⟩ = some (.slice p.aq p.an p.ac) ∧ V.cell? ⟨w.heap.size, 1, none⟩ = some (.int .u8 (P.fl.1 : Nat)) ∧ V.cell? ⟨w.heap.size, 2, none⟩ = some (.slice p.fq p.fn p.fc) ∧ V.cell? ⟨w.heap.size, 3, none⟩ = some (.int .u32 (P.dn : Nat)) ∧ V.cell? ⟨w.heap.size, 4, none⟩ = some (.int .u8 (P.lg.1 : Nat)) ∧ V.cell? ⟨w.heap.size, 5, none⟩ = some (.slice p.lq p.ln p.lc) ∧ V.cell? ⟨w.heap.size, 6, none⟩ = some (.slice p.mq p.mn p.mc) ∧ V.cell? ⟨w.heap.size, 7, none⟩ = some (.int .u8 (P.fm : Nat)) ∧ V.cell? ⟨w.heap.size, 8, none⟩ = some (.int .u64 (P.sp : Nat)) ∧ V.cell? ⟨w.heap.size, 9, none⟩ = some (.bool P.b1) ∧ V.cell? ⟨w.heap.size, 10, none⟩ = some (.bool P.b2) ∧ V.cell? ⟨w.heap.size, 11, none⟩ = some (.bool P.b3) ∧ V.cell? ⟨w.heap.size, 12, none⟩ = some (.bool P.b4) from pcells17 (blk_on XU.out BZ.out))
      obtain ⟨ga0, ga1, ga2, ga3, ga4⟩ := (acells17 (V := V) (g := w.heap.size + 1) (blk_on YU.out BZ.out))
      have gq0 : V.cell? ⟨g5, 0, none⟩ = some (.slice aq3 p.an ac3) := (cell_of_row V g5 0 _ _ (0, 0) (blk_on QU.out BZ.out)).trans rfl
      have gq1 : V.cell? ⟨g5, 1, none⟩ = some (.int .u8 (P.fl.1 : Nat)) := (cell_of_row V g5 1 _ _ (0, 0) (blk_on QU.out BZ.out)).trans rfl
      have gq2 : V.cell? ⟨g5, 2, none⟩ = some (.slice fq3 p.fn fc3) := (cell_of_row V g5 2 _ _ (0, 0) (blk_on QU.out BZ.out)).trans rfl
      have gq3 : V.cell? ⟨g5, 3, none⟩ = some (.int .u32 (P.dn : Nat)) := (cell_of_row V g5 3 _ _ (0, 0) (blk_on QU.out BZ.out)).trans rfl
      have gq4 : V.cell? ⟨g5, 4, none⟩ = some (.int .u8 (P.lg.1 : Nat)) := (cell_of_row V g5 4 _ _ (0, 0) (blk_on QU.out BZ.out)).trans rfl
      have gq5 : V.cell? ⟨g5, 5, none⟩ = some (.slice lq3 p.ln lc3) := (cell_of_row V g5 5 _ _ (0, 0) (blk_on QU.out BZ.out)).trans rfl
      have gq6 : V.cell? ⟨g5, 6, none⟩ = some (.slice mq3 p.mn mc3) := (cell_of_row V g5 6 _ _ (0, 0) (blk_on QU.out BZ.out)).trans rfl
      have gq7 : V.cell? ⟨g5, 7, none⟩ = some (.int .u8 (P.fm : Nat)) := (cell_of_row V g5 7 _ _ (0, 0) (blk_on QU.out BZ.out)).trans rfl
      have gq8 : V.cell? ⟨g5, 8, none⟩ = some (.int .u64 (P.sp : Nat)) := (cell_of_row V g5 8 _ _ (0, 0) (blk_on QU.out BZ.out)).trans rfl
      have gq9 : V.cell? ⟨g5, 9, none⟩ = some (.bool P.b1) := (cell_of_row V g5 9 _ _ (0, 0) (blk_on QU.out BZ.out)).trans rfl
      have gq10 : V.cell? ⟨g5, 10, none⟩ = some (.bool c2) := (cell_of_row V g5 10 _ _ (0, 0) (blk_on QU.out BZ.out)).trans rfl
      have gq11 : V.cell? ⟨g5, 11, none⟩ = some (.bool P.b3) := (cell_of_row V g5 11 _ _ (0, 0) (blk_on QU.out BZ.out)).trans rfl
      have gq12 : V.cell? ⟨g5, 12, none⟩ = some (.bool P.b4) := (cell_of_row V g5 12 _ _ (0, 0) (blk_on QU.out BZ.out)).trans rfl
      by_cases hlt : k < p.an
      · obtain ⟨x, hx⟩ : ∃ x, P.ar[k]? = some x := ⟨P.ar[k]'(by rw [← HAL.out]; exact hlt), List.getElem?_eq_getElem _⟩
        obtain ⟨g, o, y1, d0⟩ := (HPZ.out V BZ.out).ar k x hx
        obtain ⟨g', o', y2, d1⟩ := (OUX.out V BZ.out).ar k x hx
        simp only at y2
        rw [y1] at gp0
        rw [y2] at gq0
        have t2 : (x == x) = true := by simp
        clear hx y1 y2
        have k1 : (k : Int) < p.an := by omega
        have k0 : (0 : Int) ≤ k := by omega
        go_wp2_with fail
        go_quiet (fail)
        go_wp2_with fail
        go_roundw
        case rel => exact ⟨k + 1, by omega, by first | rfl | simp, by go_num, Lib.hid (Go.below_drewN BZ.out _)⟩
        case measure => first | (simp [intOf]; done) | (simp [intOf]; omega)
      · have hkn : k = p.an := by omega
        have k1 : ¬ (k : Int) < (p.an : Nat) := by omega
        go_wp2_with fail
        clear gp0 gp1 gp2 gp3 gp4 gp5 gp6 gp7 gp8 gp9 gp10 gp11 gp12 ga0 ga1 ga2 ga3 ga4 gq0 gq1 gq2 gq3 gq4 gq5 gq6 gq7 gq8 gq9 gq10 gq11 gq12
        go_loopw [9, 10] (fun v9 v10 wr => ∃ k : Nat, k ≤ p.mn ∧ v9 = .bool true ∧ v10 = .int .i64 k ∧ Hid (Below Z.heap.size Z wr)) (fun _ v10 _ => p.mn - (intOf v10).toNat)
        case atStart => exact ⟨0, Nat.zero_le _, by first | rfl | simp, rfl, BZ⟩
        case round =>
          clear BZ
          obtain ⟨k, hk, rfl, rfl, BZ⟩ := hrel
          obtain ⟨V, rfl⟩ : ∃ wo : World, wo = wr := ⟨_, rfl⟩
          obtain ⟨gp0, gp1, gp2, gp3, gp4, gp5, gp6, gp7, gp8, gp9, gp10, gp11, gp12⟩ := (show V.cell? ⟨w.heap.size, 0, none⟩ = some (.slice p.aq p.an p.ac) ∧ V.cell? ⟨w.heap.size, 1, none⟩ = some (.int .u8 (P.fl.1 : Nat)) ∧ V.cell? ⟨w.heap.size, 2, none⟩ = some (.slice p.fq p.fn p.fc) ∧ V.cell? ⟨w.heap.size, 3, none⟩ = some (.int .u32 (P.dn : Nat)) ∧ V.cell? ⟨w.heap.size, 4, none⟩ = some (.int .u8 (P.lg.1 : Nat)) ∧ V.cell? ⟨w.heap.size, 5, none⟩ = some (.slice p.lq p.ln p.lc) ∧ V.cell? ⟨w.heap.size, 6, none⟩ = some (.slice p.mq p.mn p.mc) ∧ V.cell? ⟨w.heap.size, 7, none⟩ = some (.int .u8 (P.fm : Nat)) ∧ V.cell? ⟨w.heap.size, 8, none⟩ = some (.int .u64 (P.sp : Nat)) ∧ V.cell? ⟨w.heap.size, 9, none⟩ = some (.bool P.b1) ∧ V.cell? ⟨w.heap.size, 10, none⟩ = some (.bool P.b2) ∧ V.cell? ⟨w.heap.size, 11, none⟩ = some (.bool P.b3) ∧ V.cell? ⟨w.heap.size, 12, none⟩ = some (.bool P.b4) from pcells17 (blk_on XU.out BZ.out))
          obtain ⟨ga0, ga1, ga2, ga3, ga4⟩ := (acells17 (V := V) (g := w.heap.size + 1) (blk_on YU.out BZ.out))
          have gq0 : V.cell? ⟨g5, 0, none⟩ = some (.slice aq3 p.an ac3) := (cell_of_row V g5 0 _ _ (0, 0) (blk_on QU.out BZ.out)).trans rfl
          have gq1 : V.cell? ⟨g5, 1, none⟩ = some (.int .u8 (P.fl.1 : Nat)) := (cell_of_row V g5 1 _ _ (0, 0) (blk_on QU.out BZ.out)).trans rfl
          have gq2 : V.cell? ⟨g5, 2, none⟩ = some (.slice fq3 p.fn fc3) := (cell_of_row V g5 2 _ _ (0, 0) (blk_on QU.out BZ.out)).trans rfl
          have gq3 : V.cell? ⟨g5, 3, none⟩ = some (.int .u32 (P.dn : Nat)) := (cell_of_row V g5 3 _ _ (0, 0) (blk_on QU.out BZ.out)).trans rfl
          have gq4 : V.cell? ⟨g5, 4, none⟩ = some (.int .u8 (P.lg.1 : Nat)) := (cell_of_row V g5 4 _ _ (0, 0) (blk_on QU.out BZ.out)).trans rfl
          have gq5 : V.cell? ⟨g5, 5, none⟩ = some (.slice lq3 p.ln lc3) := (cell_of_row V g5 5 _ _ (0, 0) (blk_on QU.out BZ.out)).trans rfl
          have gq6 : V.cell? ⟨g5, 6, none⟩ = some (.slice mq3 p.mn mc3) := (cell_of_row V g5 6 _ _ (0, 0) (blk_on QU.out BZ.out)).trans rfl
          have gq7 : V.cell? ⟨g5, 7, none⟩ = some (.int .u8 (P.fm : Nat)) := (cell_of_row V g5 7 _ _ (0, 0) (blk_on QU.out BZ.out)).trans rfl
          have gq8 : V.cell? ⟨g5, 8, none⟩ = some (.int .u64 (P.sp : Nat)) := (cell_of_row V g5 8 _ _ (0, 0) (blk_on QU.out BZ.out)).trans rfl
          have gq9 : V.cell? ⟨g5, 9, none⟩ = some (.bool P.b1) := (cell_of_row V g5 9 _ _ (0, 0) (blk_on QU.out BZ.out)).trans rfl
          have gq10 : V.cell? ⟨g5, 10, none⟩ = some (.bool c2) := (cell_of_row V g5 10 _ _ (0, 0) (blk_on QU.out BZ.out)).trans rfl
          have gq11 : V.cell? ⟨g5, 11, none⟩ = some (.bool P.b3) := (cell_of_row V g5 11 _ _ (0, 0) (blk_on QU.out BZ.out)).trans rfl
          have gq12 : V.cell? ⟨g5, 12, none⟩ = some (.bool P.b4) := (cell_of_row V g5 12 _ _ (0, 0) (blk_on QU.out BZ.out)).trans rfl
          by_cases hlt : k < p.mn
          · obtain ⟨x, hx⟩ : ∃ x, (P.fa.map fun (x : Nat) => (x : Int))[k]? = some x := ⟨(P.fa.map fun (x : Nat) => (x : Int))[k]'(by rw [List.length_map, ← HML.out]; exact hlt), List.getElem?_eq_getElem _⟩
            obtain ⟨g, o, y1, d0⟩ := (HPZ.out V BZ.out).fa k x hx
            obtain ⟨g', o', y2, d1⟩ := (OUX.out V BZ.out).fa k x hx
            simp only at y2
            rw [y1] at gp6
            rw [y2] at gq6
            have t2 : (x == x) = true := by simp
            clear hx y1 y2
            have k1 : (k : Int) < p.mn := by omega
            have k0 : (0 : Int) ≤ k := by omega
            go_wp2_with fail
            go_quiet (fail)
            go_wp2_with fail
            go_roundw
            case rel => exact ⟨k + 1, by omega, by first | rfl | simp, by go_num, Lib.hid (Go.below_drewN BZ.out _)⟩
            case measure => first | (simp [intOf]; done) | (simp [intOf]; omega)
          · have hkn : k = p.mn := by omega
            have k1 : ¬ (k : Int) < (p.mn : Nat) := by omega
            go_wp2_with fail
            clear gp0 gp1 gp2 gp3 gp4 gp5 gp6 gp7 gp8 gp9 gp10 gp11 gp12 ga0 ga1 ga2 ga3 ga4 gq0 gq1 gq2 gq3 gq4 gq5 gq6 gq7 gq8 gq9 gq10 gq11 gq12
            go_loopw [11] (fun v11 wr => ∃ k : Nat, k ≤ nN ∧ v11 = .int .i64 k ∧ Hid (Below Z.heap.size Z wr)) (fun v11 _ => nN - (intOf v11).toNat)
            case atStart => exact ⟨0, Nat.zero_le _, rfl, BZ⟩
            case round =>
              clear BZ
              obtain ⟨k, hk, rfl, BZ⟩ := hrel
              obtain ⟨V, rfl⟩ : ∃ wo : World, wo = wr := ⟨_, rfl⟩
              obtain ⟨gp0, gp1, gp2, gp3, gp4, gp5, gp6, gp7, gp8, gp9, gp10, gp11, gp12⟩ := (show V.cell? ⟨w.heap.size, 0, none⟩ = some (.slice p.aq p.an p.ac) ∧ V.cell? ⟨w.heap.size, 1, none⟩ = some (.int .u8 (P.fl.1 : Nat)) ∧ V.cell? ⟨w.heap.size, 2, none⟩ = some (.slice p.fq p.fn p.fc) ∧ V.cell? ⟨w.heap.size, 3, none⟩ = some (.int .u32 (P.dn : Nat)) ∧ V.cell? ⟨w.heap.size, 4, none⟩ = some (.int .u8 (P.lg.1 : Nat)) ∧ V.cell? ⟨w.heap.size, 5, none⟩ = some (.slice p.lq p.ln p.lc) ∧ V.cell? ⟨w.heap.size, 6, none⟩ = some (.slice p.mq p.mn p.mc) ∧ V.cell? ⟨w.heap.size, 7, none⟩ = some (.int .u8 (P.fm : Nat)) ∧ V.cell? ⟨w.heap.size, 8, none⟩ = some (.int .u64 (P.sp : Nat)) ∧ V.cell? ⟨w.heap.size, 9, none⟩ = some (.bool P.b1) ∧ V.cell? ⟨w.heap.size, 10, none⟩ = some (.bool P.b2) ∧ V.cell? ⟨w.heap.size, 11, none⟩ = some (.bool P.b3) ∧ V.cell? ⟨w.heap.size, 12, none⟩ = some (.bool P.b4) from pcells17 (blk_on XU.out BZ.out))
              obtain ⟨ga0, ga1, ga2, ga3, ga4⟩ := (acells17 (V := V) (g := w.heap.size + 1) (blk_on YU.out BZ.out))
              have gq0 : V.cell? ⟨g5, 0, none⟩ = some (.slice aq3 p.an ac3) := (cell_of_row V g5 0 _ _ (0, 0) (blk_on QU.out BZ.out)).trans rfl
              have gq1 : V.cell? ⟨g5, 1, none⟩ = some (.int .u8 (P.fl.1 : Nat)) := (cell_of_row V g5 1 _ _ (0, 0) (blk_on QU.out BZ.out)).trans rfl
              have gq2 : V.cell? ⟨g5, 2, none⟩ = some (.slice fq3 p.fn fc3) := (cell_of_row V g5 2 _ _ (0, 0) (blk_on QU.out BZ.out)).trans rfl
              have gq3 : V.cell? ⟨g5, 3, none⟩ = some (.int .u32 (P.dn : Nat)) := (cell_of_row V g5 3 _ _ (0, 0) (blk_on QU.out BZ.out)).trans rfl
              have gq4 : V.cell? ⟨g5, 4, none⟩ = some (.int .u8 (P.lg.1 : Nat)) := (cell_of_row V g5 4 _ _ (0, 0) (blk_on QU.out BZ.out)).trans rfl
              have gq5 : V.cell? ⟨g5, 5, none⟩ = some (.slice lq3 p.ln lc3) := (cell_of_row V g5 5 _ _ (0, 0) (blk_on QU.out BZ.out)).trans rfl
              have gq6 : V.cell? ⟨g5, 6, none⟩ = some (.slice mq3 p.mn mc3) := (cell_of_row V g5 6 _ _ (0, 0) (blk_on QU.out BZ.out)).trans rfl
              have gq7 : V.cell? ⟨g5, 7, none⟩ = some (.int .u8 (P.fm : Nat)) := (cell_of_row V g5 7 _ _ (0, 0) (blk_on QU.out BZ.out)).trans rfl
              have gq8 : V.cell? ⟨g5, 8, none⟩ = some (.int .u64 (P.sp : Nat)) := (cell_of_row V g5 8 _ _ (0, 0) (blk_on QU.out BZ.out)).trans rfl
              have gq9 : V.cell? ⟨g5, 9, none⟩ = some (.bool P.b1) := (cell_of_row V g5 9 _ _ (0, 0) (blk_on QU.out BZ.out)).trans rfl
              have gq10 : V.cell? ⟨g5, 10, none⟩ = some (.bool c2) := (cell_of_row V g5 10 _ _ (0, 0) (blk_on QU.out BZ.out)).trans rfl
              have gq11 : V.cell? ⟨g5, 11, none⟩ = some (.bool P.b3) := (cell_of_row V g5 11 _ _ (0, 0) (blk_on QU.out BZ.out)).trans rfl
              have gq12 : V.cell? ⟨g5, 12, none⟩ = some (.bool P.b4) := (cell_of_row V g5 12 _ _ (0, 0) (blk_on QU.out BZ.out)).trans rfl
              by_cases hlt : k < nN
              · obtain ⟨x, hx⟩ : ∃ x, NN[k]? = some x := ⟨NN[k]'(by rw [← HNN.out]; exact hlt), List.getElem?_eq_getElem _⟩
                obtain ⟨g, o, y1, d0, d1, d2, _⟩ := HRN.out V BZ.out k x hx
                obtain ⟨x1, x2, x3⟩ := HNT.out k x hx
                rw [x1] at d0
                rw [x2] at d1
                obtain ⟨xe, hxe⟩ : ∃ e, e = x.err := ⟨_, rfl⟩
                rw [← hxe] at d2 x3
                subst y1
                have t2 : (af.toList == af.toList) = true := by simp
                have t3 : (al == al) = true := by simp
                have t4 : (af.toList != af.toList) = false := by simp
                have t5 : (al != al) = false := by simp
                clear hx x1 x2 hxe
                have k1 : (k : Int) < nN := by omega
                have k0 : (0 : Int) ≤ k := by omega
                go_wp2_with fail
                go_quiet (fail)
                go_wp2_with fail
                go_roundw
                case rel => exact ⟨k + 1, by omega, by go_num, Lib.hid (Go.below_drewN BZ.out _)⟩
                case measure => first | (simp [intOf]; done) | (simp [intOf]; omega)
              · have hkn : k = nN := by omega
                have k1 : ¬ (k : Int) < (nN : Nat) := by omega
                go_wp2_with (first
                  | (go_at_call 7; ((with_reducible refine (HKV.out _ (HON.out _ _ HG.out (thn16 BU.out BZ.out))).mono ?_); rintro e z3 ⟨rfl, b⟩); have BK := Lib.hid (thn16 (thn16 BU.out BZ.out) b); clear b)
                  | (go_at_call 9; ((with_reducible refine (HAW.out _ (HON.out _ _ HG.out BK.out)).mono ?_); rintro e v9 ⟨rfl, b9⟩)))
                go_ret
                exact ⟨rfl, thn16 BK.out b9⟩
end Go.Proofs.YtbjhleajhkofeaaDoor.restrictOwn
namespace Go.Proofs.YtbjhleajhkofeaaDoor.restrictOwn
open Go.RowKit
set_option linter.unusedVariables false
set_option linter.unusedSimpArgs false
attribute [local go_sem ↓] Go.wp_at_zero Go.wp_at_succ

set_option maxRecDepth 100000 in
set_option maxHeartbeats 32000000 in
theorem walk_5 {G : World → Prop} (HC : RestrictC G) (p : Pls) (P : Pol) (a : As) (w : World) (hG : G w) (ok : P.Ok) (hP : PolAt w p P) (hgr : GreatB p a) (hri : Rises18 P) (h0 : a.key ≠ kArc) (h1 : a.key ≠ kFam) (h2 : a.key ≠ kSpa) (h3 : a.key ≠ kWri) (h4 : a.key ≠ kPer) (h5 : a.key = kRea) : Calls Tryd.prog 4 #[plV p P, asV a] w fun e w' => e = .returned (.bool true) ∧ Below w.heap.size w w' := by
  have H0K := Lib.hid h0
  have H1K := Lib.hid h1
  have H2K := Lib.hid h2
  have H3K := Lib.hid h3
  have H4K := Lib.hid h4
  have H5K := Lib.hid h5
  clear h0 h1 h2 h3 h4 h5
  obtain ⟨af, al, ax, ak, av⟩ := a
  simp only at H0K H1K H2K H3K H4K H5K
  have HON := Lib.hid (fun (w w' : World) => HC.on (w := w) (w' := w'))
  have HG := Lib.hid hG
  have HAW := Lib.hid (fun (W : World) (g : G W) => awake18_any HC W g)
  have HP0 := Lib.hid hP
  obtain ⟨W, hW⟩ : ∃ W, W = (w.alloc (.cells #[.slice p.aq p.an p.ac, .int .u8 (P.fl.1 : Nat), .slice p.fq p.fn p.fc, .int .u32 (P.dn : Nat), .int .u8 (P.lg.1 : Nat), .slice p.lq p.ln p.lc, .slice p.mq p.mn p.mc, .int .u8 (P.fm : Nat), .int .u64 (P.sp : Nat), .bool P.b1, .bool P.b2, .bool P.b3, .bool P.b4] 32)).alloc (.cells #[.string af, .int .i64 al, .string ax, .string ak, .string av] 34) := ⟨_, rfl⟩
  have X0 := Lib.hid (show W.heap[w.heap.size]? = some (.cells (plC p P).toArray 32 (0, 0)) by rw [hW]; exact (Below.heap_alloc _ _ _ (by rw [World.size_alloc]; exact Nat.lt_succ_self _)).trans (heap_alloc_new w _))
  have Y0 := Lib.hid (show W.heap[w.heap.size + 1]? = some (.cells #[.string af, .int .i64 al, .string ax, .string ak, .string av] 34 (0, 0)) by rw [hW, ← World.size_alloc w]; exact heap_alloc_new _ _)
  have B0 := Lib.hid (show Below w.heap.size w W from hW ▸ ((Below.refl _ _).alloc (Nat.le_refl _) _).alloc (by rw [World.size_alloc]; exact Nat.le_succ _) _)
  have HWW := Lib.hid hW
  clear hW
  have HGR := Lib.hid (fun (X : World) => great_no17 p P ⟨af, al, ax, ak, av⟩ hgr X)
  have hg2 : p.an ≤ 20 ∧ p.mn ≤ 20 ∧ p.fn ≤ 100 ∧ p.ln ≤ 100 ∧ av.size ≤ 1000 ∧ ak.size ≤ 200 ∧ af.size ≤ 200 := hgr
  obtain ⟨l1, l2, l3, l4, l5, l6, l7⟩ := hg2
  have HRI := Lib.hid (fun (X : World) (b : Below w.heap.size w X) => rises_yes18 p P X (hP.on b) (by omega) (by omega) hri)
  have HCO := Lib.hid (fun (X : World) (b : Below w.heap.size w X) => copied17 p P X (hP.on b) (by omega) (by omega) (by omega) (by omega))
  have HOR := Lib.hid (fun (pb : Bool) => ownR18 (P := P) (a := ⟨af, al, ax, ak, av⟩) hri (by rw [← hP.al]; exact l1) (by rw [← hP.ml]; exact l2) l5 pb)
  have HST := Lib.hid (fun (X : World) (g : G X) (q : Pls) (h : PolAt X q P) => HC.set q P ⟨af, al, ax, ak, av⟩ X g ok h hri (by rw [h.al, ← hP.al]; omega) (by rw [h.ml, ← hP.ml]; omega) (by rw [h.fl, ← hP.fl]; exact l3) (by rw [h.ll, ← hP.ll]; exact l4) l5 l6)
  have HKV := Lib.hid (fun (X : World) (g : G X) => HC.key ak X g l6)
  have HAL := Lib.hid hP.al
  have HML := Lib.hid hP.ml
  have HFL := Lib.hid hP.fl
  have HLL := Lib.hid hP.ll
  have la2 : p.an ≤ 20 := l1
  have lm2 : p.mn ≤ 20 := l2
  simp only [plV_eq18, asV] at HGR HRI HCO HST ⊢
  clear hgr hri l1 l2 l3 l4 l5 l6 l7 hG hP HC ok
  go_enter Tryd.func4, Tryd.ntmps4
  go_wp2_with (first
  | (go_at_call 10
     rw [← HWW.out]
     (with_reducible refine (HGR.out _).mono ?_)
     rintro e v0 ⟨rfl, b1⟩
     have BG := Lib.hid (thn16 B0.out b1)
     have XG := Lib.hid (blk_on X0.out b1)
     have YG := Lib.hid (blk_on Y0.out b1)
     obtain ⟨gp0, gp1, gp2, gp3, gp4, gp5, gp6, gp7, gp8, gp9, gp10, gp11, gp12⟩ := (show v0.cell? ⟨w.heap.size, 0, none⟩ = some (.slice p.aq p.an p.ac) ∧ v0.cell? ⟨w.heap.size, 1, none⟩ = some (.int .u8 (P.fl.1 : Nat)) ∧ v0.cell? ⟨w.heap.size, 2, none⟩ = some (.slice p.fq p.fn p.fc) ∧ v0.cell? ⟨w.heap.size, 3, none⟩ = some (.int .u32 (P.dn : Nat)) ∧ v0.cell? ⟨w.heap.size, 4, none⟩ = some (.int .u8 (P.lg.1 : Nat)) ∧ v0.cell? ⟨w.heap.size, 5, none⟩ = some (.slice p.lq p.ln p.lc) ∧ v0.cell? ⟨w.heap.size, 6, none⟩ = some (.slice p.mq p.mn p.mc) ∧ v0.cell? ⟨w.heap.size, 7, none⟩ = some (.int .u8 (P.fm : Nat)) ∧ v0.cell? ⟨w.heap.size, 8, none⟩ = some (.int .u64 (P.sp : Nat)) ∧ v0.cell? ⟨w.heap.size, 9, none⟩ = some (.bool P.b1) ∧ v0.cell? ⟨w.heap.size, 10, none⟩ = some (.bool P.b2) ∧ v0.cell? ⟨w.heap.size, 11, none⟩ = some (.bool P.b3) ∧ v0.cell? ⟨w.heap.size, 12, none⟩ = some (.bool P.b4) from pcells17 XG.out)
     clear b1)
  | (go_at_call 11
     (with_reducible refine (HRI.out _ BG.out).mono ?_)
     rintro e v1 ⟨rfl, b1⟩
     have B1 := Lib.hid (thn16 BG.out b1)
     have X1 := Lib.hid (blk_on XG.out b1)
     have Y1 := Lib.hid (blk_on YG.out b1)
     clear gp0 gp1 gp2 gp3 gp4 gp5 gp6 gp7 gp8 gp9 gp10 gp11 gp12
     clear b1))
  refine keyO (F := fun Z g5 q2 q3 P3 NN vN3 => Z.heap[w.heap.size]? = some (.cells (plC p P).toArray 32 (0, 0)) ∧ Z.heap[w.heap.size + 1]? = some (.cells #[.string af, .int .i64 al, .string ax, .string ak, .string av] 34 (0, 0)) ∧ Z.heap[g5]? = some (.cells (plC q3 P3).toArray 32 (0, 0)) ∧ Below w.heap.size w Z ∧ PolAt Z q3 P3 ∧ RowsAt 4 encN Z vN3 NN ∧ OwnR18 P P3 ⟨af, al, ax, ak, av⟩ NN) (R := ?R18) ?h18 ?k18
  case h18 =>
    intro KEY
    have HC0 := Lib.hid (cells18 (V := (v1.drew)) (X1.out) (Y1.out))
    have BD := Lib.hid (show Below w.heap.size w v1.drew from B1.out.drew)
    have BDA := Lib.hid (show Below w.heap.size w (World.alloc v1 (.cells #[.slice none 0 0, .int .u8 0, .slice none 0 0, .int .u32 0, .int .u8 0, .slice none 0 0, .slice none 0 0, .int .u8 0, .int .u64 0, .bool false, .bool false, .bool false, .bool false] 32)).drew from (B1.out.alloc B1.out.size _).drew)
    have XDA := Lib.hid (show (World.alloc v1 (.cells #[.slice none 0 0, .int .u8 0, .slice none 0 0, .int .u32 0, .int .u8 0, .slice none 0 0, .slice none 0 0, .int .u8 0, .int .u64 0, .bool false, .bool false, .bool false, .bool false] 32)).drew.heap[w.heap.size]? = some (.cells (plC p P).toArray 32 (0, 0)) from (show (World.alloc v1 (.cells #[.slice none 0 0, .int .u8 0, .slice none 0 0, .int .u32 0, .int .u8 0, .slice none 0 0, .slice none 0 0, .int .u8 0, .int .u64 0, .bool false, .bool false, .bool false, .bool false] 32)).heap[w.heap.size]? = _ from blk_on X1.out (below16 v1 _)))
    have YDA := Lib.hid (show (World.alloc v1 (.cells #[.slice none 0 0, .int .u8 0, .slice none 0 0, .int .u32 0, .int .u8 0, .slice none 0 0, .slice none 0 0, .int .u8 0, .int .u64 0, .bool false, .bool false, .bool false, .bool false] 32)).drew.heap[w.heap.size + 1]? = some (.cells #[.string af, .int .i64 al, .string ax, .string ak, .string av] 34 (0, 0)) from (show (World.alloc v1 (.cells #[.slice none 0 0, .int .u8 0, .slice none 0 0, .int .u32 0, .int .u8 0, .slice none 0 0, .slice none 0 0, .int .u8 0, .int .u64 0, .bool false, .bool false, .bool false, .bool false] 32)).heap[w.heap.size + 1]? = _ from blk_on Y1.out (below16 v1 _)))
    have ZDA := Lib.hid (show (World.alloc v1 (.cells #[.slice none 0 0, .int .u8 0, .slice none 0 0, .int .u32 0, .int .u8 0, .slice none 0 0, .slice none 0 0, .int .u8 0, .int .u64 0, .bool false, .bool false, .bool false, .bool false] 32)).drew.heap[v1.heap.size]? = some (.cells #[.slice none 0 0, .int .u8 0, .slice none 0 0, .int .u32 0, .int .u8 0, .slice none 0 0, .slice none 0 0, .int .u8 0, .int .u64 0, .bool false, .bool false, .bool false, .bool false] 32) from (show (World.alloc v1 (.cells #[.slice none 0 0, .int .u8 0, .slice none 0 0, .int .u32 0, .int .u8 0, .slice none 0 0, .slice none 0 0, .int .u8 0, .int .u64 0, .bool false, .bool false, .bool false, .bool false] 32)).heap[v1.heap.size]? = _ from heap_alloc_new v1 _))
    have HC1 := Lib.hid (cells18 XDA.out YDA.out)
    go_region_held3 (fun w' => w'.cell? ⟨w.heap.size, 0, none⟩ = some (.slice p.aq p.an p.ac) ∧ w'.cell? ⟨w.heap.size, 1, none⟩ = some (.int .u8 (P.fl.1 : Nat)) ∧ w'.cell? ⟨w.heap.size, 2, none⟩ = some (.slice p.fq p.fn p.fc) ∧ w'.cell? ⟨w.heap.size, 3, none⟩ = some (.int .u32 (P.dn : Nat)) ∧ w'.cell? ⟨w.heap.size, 4, none⟩ = some (.int .u8 (P.lg.1 : Nat)) ∧ w'.cell? ⟨w.heap.size, 5, none⟩ = some (.slice p.lq p.ln p.lc) ∧ w'.cell? ⟨w.heap.size, 6, none⟩ = some (.slice p.mq p.mn p.mc) ∧ w'.cell? ⟨w.heap.size, 7, none⟩ = some (.int .u8 (P.fm : Nat)) ∧ w'.cell? ⟨w.heap.size, 8, none⟩ = some (.int .u64 (P.sp : Nat)) ∧ w'.cell? ⟨w.heap.size, 9, none⟩ = some (.bool P.b1) ∧ w'.cell? ⟨w.heap.size, 10, none⟩ = some (.bool P.b2) ∧ w'.cell? ⟨w.heap.size, 11, none⟩ = some (.bool P.b3) ∧ w'.cell? ⟨w.heap.size, 12, none⟩ = some (.bool P.b4) ∧ w'.cell? ⟨w.heap.size + 1, 0, none⟩ = some (.string af) ∧ w'.cell? ⟨w.heap.size + 1, 1, none⟩ = some (.int .i64 al) ∧ w'.cell? ⟨w.heap.size + 1, 2, none⟩ = some (.string ax) ∧ w'.cell? ⟨w.heap.size + 1, 3, none⟩ = some (.string ak) ∧ w'.cell? ⟨w.heap.size + 1, 4, none⟩ = some (.string av)) (first
      | with_reducible exact HC0.out
      | with_reducible exact HC1.out
      | with_reducible exact HC2.out
      | with_reducible exact HC6.out
      | with_reducible exact HC3.out
      | with_reducible exact HC4.out
      | with_reducible exact HC5.out) (first
      | (go_at_call 13
         ((with_reducible refine (HCO.out v1.drew BD.out).mono ?_); rintro e v2 ⟨q2, rfl, pol2, b2⟩)
         have B2 := Lib.hid (show Below w.heap.size w v2 from thn16 BD.out b2)
         have O2 := Lib.hid pol2
         have X2 := Lib.hid (blk_on (show v1.drew.heap[w.heap.size]? = _ from X1.out) b2)
         have Y2 := Lib.hid (blk_on (show v1.drew.heap[w.heap.size + 1]? = _ from Y1.out) b2)
         have HC2 := Lib.hid (cells18 (V := v2) (X2.out) (Y2.out))
         have HC6 := Lib.hid (cells18 (V := (World.alloc v2 (.cells #[.slice none 0 0, .int .u8 0, .slice none 0 0, .int .u32 0, .int .u8 0, .slice none 0 0, .slice none 0 0, .int .u8 0, .int .u64 0, .bool false, .bool false, .bool false, .bool false] 32))) (blk_on X2.out (below16 v2 _)) (blk_on Y2.out (below16 v2 _)))
         clear b2 pol2)
      | (go_at_call 13
         ((with_reducible refine (HCO.out (World.alloc v1 (.cells #[.slice none 0 0, .int .u8 0, .slice none 0 0, .int .u32 0, .int .u8 0, .slice none 0 0, .slice none 0 0, .int .u8 0, .int .u64 0, .bool false, .bool false, .bool false, .bool false] 32)).drew BDA.out).mono ?_); rintro e v2 ⟨q2, rfl, pol2, b2⟩)
         have B2 := Lib.hid (show Below w.heap.size w v2 from thn16 BDA.out b2)
         have O2 := Lib.hid pol2
         have X2 := Lib.hid (blk_on XDA.out b2)
         have Y2 := Lib.hid (blk_on YDA.out b2)
         have Z2 := Lib.hid (blk_on ZDA.out b2)
         have HC2 := Lib.hid (cells18 (V := v2) (X2.out) (Y2.out))
         clear b2 pol2)
      | (go_at_call 12
         have Z2h := Z2.out
         ((with_reducible refine (HST.out v2 (HON.out _ _ HG.out B2.out) q2 O2.out).mono ?_); rintro e v3 ⟨pb, q3, vN3, hpb, rfl, own3, r3, b3⟩)
         clear hpb
         have hpr := HOR.out pb
         obtain ⟨P3, hP3⟩ : ∃ X, X = (setR pb P ak av).1 := ⟨_, rfl⟩
         obtain ⟨NN, hNN⟩ : ∃ X, X = (setR pb P ak av).2.map (nteP ⟨af, al, ax, ak, av⟩) := ⟨_, rfl⟩
         (try simp only at hpr)
         rw [← hP3, ← hNN] at hpr
         rw [← hP3] at own3 ⊢
         rw [← hNN] at r3
         clear hP3 hNN
         have HPR := Lib.hid hpr
         clear hpr
         have B3 := Lib.hid (show Below w.heap.size w v3 from thn16 B2.out b3)
         have O3 := Lib.hid own3
         have R3 := Lib.hid (show v3.ownsRow w.heap.size 43 4 vN3 NN.length (rowC encN NN) from owns_low16 r3 (B2.out.size))
         have X3 := Lib.hid (blk_on X2.out b3)
         have Y3 := Lib.hid (blk_on Y2.out b3)
         have HC3 := Lib.hid (cells18 (V := v3) (X3.out) (Y3.out))
         have Z3 := Lib.hid (show v3.heap[v1.heap.size]? = some (.cells ([.slice none 0 0, .int .u8 0, .slice none 0 0, .int .u32 0, .int .u8 0, .slice none 0 0, .slice none 0 0, .int .u8 0, .int .u64 0, .bool false, .bool false, .bool false, .bool false] : List Value).toArray 32 (0, 0)) from blk_on Z2.out b3)
         obtain ⟨zf, z0, z1, z2, z3, z4, z5, z6, z7, z8, z9, z10, z11, z12⟩ := resC17 Z3.out
         have hnx : w.heap.size ≠ v1.heap.size := by have h1 := blk_lt X1.out; omega
         have hny : w.heap.size + 1 ≠ v1.heap.size := by have h1 := blk_lt Y1.out; omega
         have hgw : w.heap.size ≤ v1.heap.size := B1.out.size
         have HU := Lib.hid (put17 (a := ⟨af, al, ax, ak, av⟩) (q3 := q3) (P2 := P3) X3.out Y3.out Z3.out hnx hny hgw B3.out O3.out R3.out)
         have XU := Lib.hid (show (World.setCell (World.setCell (World.setCell (World.setCell (World.setCell (World.setCell (World.setCell (World.setCell (World.setCell (World.setCell (World.setCell (World.setCell (World.setCell v3 ⟨v1.heap.size, 0, none⟩ (.slice q3.aq q3.an q3.ac)) ⟨v1.heap.size, 1, none⟩ (.int .u8 (P3.fl.1 : Nat))) ⟨v1.heap.size, 2, none⟩ (.slice q3.fq q3.fn q3.fc)) ⟨v1.heap.size, 3, none⟩ (.int .u32 (P3.dn : Nat))) ⟨v1.heap.size, 4, none⟩ (.int .u8 (P3.lg.1 : Nat))) ⟨v1.heap.size, 5, none⟩ (.slice q3.lq q3.ln q3.lc)) ⟨v1.heap.size, 6, none⟩ (.slice q3.mq q3.mn q3.mc)) ⟨v1.heap.size, 7, none⟩ (.int .u8 (P3.fm : Nat))) ⟨v1.heap.size, 8, none⟩ (.int .u64 (P3.sp : Nat))) ⟨v1.heap.size, 9, none⟩ (.bool P3.b1)) ⟨v1.heap.size, 10, none⟩ (.bool P3.b2)) ⟨v1.heap.size, 11, none⟩ (.bool P3.b3)) ⟨v1.heap.size, 12, none⟩ (.bool P3.b4)).heap[w.heap.size]? = some (.cells (plC p P).toArray 32 (0, 0)) from HU.out.1)
         have YU := Lib.hid (show (World.setCell (World.setCell (World.setCell (World.setCell (World.setCell (World.setCell (World.setCell (World.setCell (World.setCell (World.setCell (World.setCell (World.setCell (World.setCell v3 ⟨v1.heap.size, 0, none⟩ (.slice q3.aq q3.an q3.ac)) ⟨v1.heap.size, 1, none⟩ (.int .u8 (P3.fl.1 : Nat))) ⟨v1.heap.size, 2, none⟩ (.slice q3.fq q3.fn q3.fc)) ⟨v1.heap.size, 3, none⟩ (.int .u32 (P3.dn : Nat))) ⟨v1.heap.size, 4, none⟩ (.int .u8 (P3.lg.1 : Nat))) ⟨v1.heap.size, 5, none⟩ (.slice q3.lq q3.ln q3.lc)) ⟨v1.heap.size, 6, none⟩ (.slice q3.mq q3.mn q3.mc)) ⟨v1.heap.size, 7, none⟩ (.int .u8 (P3.fm : Nat))) ⟨v1.heap.size, 8, none⟩ (.int .u64 (P3.sp : Nat))) ⟨v1.heap.size, 9, none⟩ (.bool P3.b1)) ⟨v1.heap.size, 10, none⟩ (.bool P3.b2)) ⟨v1.heap.size, 11, none⟩ (.bool P3.b3)) ⟨v1.heap.size, 12, none⟩ (.bool P3.b4)).heap[w.heap.size + 1]? = some (.cells #[.string af, .int .i64 al, .string ax, .string ak, .string av] 34 (0, 0)) from HU.out.2.1)
         have QU := Lib.hid (show (World.setCell (World.setCell (World.setCell (World.setCell (World.setCell (World.setCell (World.setCell (World.setCell (World.setCell (World.setCell (World.setCell (World.setCell (World.setCell v3 ⟨v1.heap.size, 0, none⟩ (.slice q3.aq q3.an q3.ac)) ⟨v1.heap.size, 1, none⟩ (.int .u8 (P3.fl.1 : Nat))) ⟨v1.heap.size, 2, none⟩ (.slice q3.fq q3.fn q3.fc)) ⟨v1.heap.size, 3, none⟩ (.int .u32 (P3.dn : Nat))) ⟨v1.heap.size, 4, none⟩ (.int .u8 (P3.lg.1 : Nat))) ⟨v1.heap.size, 5, none⟩ (.slice q3.lq q3.ln q3.lc)) ⟨v1.heap.size, 6, none⟩ (.slice q3.mq q3.mn q3.mc)) ⟨v1.heap.size, 7, none⟩ (.int .u8 (P3.fm : Nat))) ⟨v1.heap.size, 8, none⟩ (.int .u64 (P3.sp : Nat))) ⟨v1.heap.size, 9, none⟩ (.bool P3.b1)) ⟨v1.heap.size, 10, none⟩ (.bool P3.b2)) ⟨v1.heap.size, 11, none⟩ (.bool P3.b3)) ⟨v1.heap.size, 12, none⟩ (.bool P3.b4)).heap[v1.heap.size]? = some (.cells (plC q3 P3).toArray 32 (0, 0)) from HU.out.2.2.1)
         have BU := Lib.hid (show Below w.heap.size w (World.setCell (World.setCell (World.setCell (World.setCell (World.setCell (World.setCell (World.setCell (World.setCell (World.setCell (World.setCell (World.setCell (World.setCell (World.setCell v3 ⟨v1.heap.size, 0, none⟩ (.slice q3.aq q3.an q3.ac)) ⟨v1.heap.size, 1, none⟩ (.int .u8 (P3.fl.1 : Nat))) ⟨v1.heap.size, 2, none⟩ (.slice q3.fq q3.fn q3.fc)) ⟨v1.heap.size, 3, none⟩ (.int .u32 (P3.dn : Nat))) ⟨v1.heap.size, 4, none⟩ (.int .u8 (P3.lg.1 : Nat))) ⟨v1.heap.size, 5, none⟩ (.slice q3.lq q3.ln q3.lc)) ⟨v1.heap.size, 6, none⟩ (.slice q3.mq q3.mn q3.mc)) ⟨v1.heap.size, 7, none⟩ (.int .u8 (P3.fm : Nat))) ⟨v1.heap.size, 8, none⟩ (.int .u64 (P3.sp : Nat))) ⟨v1.heap.size, 9, none⟩ (.bool P3.b1)) ⟨v1.heap.size, 10, none⟩ (.bool P3.b2)) ⟨v1.heap.size, 11, none⟩ (.bool P3.b3)) ⟨v1.heap.size, 12, none⟩ (.bool P3.b4)) from HU.out.2.2.2.1)
         have OU := Lib.hid (show PolAt (World.setCell (World.setCell (World.setCell (World.setCell (World.setCell (World.setCell (World.setCell (World.setCell (World.setCell (World.setCell (World.setCell (World.setCell (World.setCell v3 ⟨v1.heap.size, 0, none⟩ (.slice q3.aq q3.an q3.ac)) ⟨v1.heap.size, 1, none⟩ (.int .u8 (P3.fl.1 : Nat))) ⟨v1.heap.size, 2, none⟩ (.slice q3.fq q3.fn q3.fc)) ⟨v1.heap.size, 3, none⟩ (.int .u32 (P3.dn : Nat))) ⟨v1.heap.size, 4, none⟩ (.int .u8 (P3.lg.1 : Nat))) ⟨v1.heap.size, 5, none⟩ (.slice q3.lq q3.ln q3.lc)) ⟨v1.heap.size, 6, none⟩ (.slice q3.mq q3.mn q3.mc)) ⟨v1.heap.size, 7, none⟩ (.int .u8 (P3.fm : Nat))) ⟨v1.heap.size, 8, none⟩ (.int .u64 (P3.sp : Nat))) ⟨v1.heap.size, 9, none⟩ (.bool P3.b1)) ⟨v1.heap.size, 10, none⟩ (.bool P3.b2)) ⟨v1.heap.size, 11, none⟩ (.bool P3.b3)) ⟨v1.heap.size, 12, none⟩ (.bool P3.b4)) q3 P3 from HU.out.2.2.2.2.1)
         have RU := Lib.hid (show RowsAt 4 encN (World.setCell (World.setCell (World.setCell (World.setCell (World.setCell (World.setCell (World.setCell (World.setCell (World.setCell (World.setCell (World.setCell (World.setCell (World.setCell v3 ⟨v1.heap.size, 0, none⟩ (.slice q3.aq q3.an q3.ac)) ⟨v1.heap.size, 1, none⟩ (.int .u8 (P3.fl.1 : Nat))) ⟨v1.heap.size, 2, none⟩ (.slice q3.fq q3.fn q3.fc)) ⟨v1.heap.size, 3, none⟩ (.int .u32 (P3.dn : Nat))) ⟨v1.heap.size, 4, none⟩ (.int .u8 (P3.lg.1 : Nat))) ⟨v1.heap.size, 5, none⟩ (.slice q3.lq q3.ln q3.lc)) ⟨v1.heap.size, 6, none⟩ (.slice q3.mq q3.mn q3.mc)) ⟨v1.heap.size, 7, none⟩ (.int .u8 (P3.fm : Nat))) ⟨v1.heap.size, 8, none⟩ (.int .u64 (P3.sp : Nat))) ⟨v1.heap.size, 9, none⟩ (.bool P3.b1)) ⟨v1.heap.size, 10, none⟩ (.bool P3.b2)) ⟨v1.heap.size, 11, none⟩ (.bool P3.b3)) ⟨v1.heap.size, 12, none⟩ (.bool P3.b4)) vN3 NN from HU.out.2.2.2.2.2)
         have HC5 := Lib.hid (cells18 (XU.out) (YU.out))
         have MK3 := Lib.hid (show (World.setCell (World.setCell (World.setCell (World.setCell (World.setCell (World.setCell (World.setCell (World.setCell (World.setCell (World.setCell (World.setCell (World.setCell (World.setCell v3 ⟨v1.heap.size, 0, none⟩ (.slice q3.aq q3.an q3.ac)) ⟨v1.heap.size, 1, none⟩ (.int .u8 (P3.fl.1 : Nat))) ⟨v1.heap.size, 2, none⟩ (.slice q3.fq q3.fn q3.fc)) ⟨v1.heap.size, 3, none⟩ (.int .u32 (P3.dn : Nat))) ⟨v1.heap.size, 4, none⟩ (.int .u8 (P3.lg.1 : Nat))) ⟨v1.heap.size, 5, none⟩ (.slice q3.lq q3.ln q3.lc)) ⟨v1.heap.size, 6, none⟩ (.slice q3.mq q3.mn q3.mc)) ⟨v1.heap.size, 7, none⟩ (.int .u8 (P3.fm : Nat))) ⟨v1.heap.size, 8, none⟩ (.int .u64 (P3.sp : Nat))) ⟨v1.heap.size, 9, none⟩ (.bool P3.b1)) ⟨v1.heap.size, 10, none⟩ (.bool P3.b2)) ⟨v1.heap.size, 11, none⟩ (.bool P3.b3)) ⟨v1.heap.size, 12, none⟩ (.bool P3.b4)) = (World.setCell (World.setCell (World.setCell (World.setCell (World.setCell (World.setCell (World.setCell (World.setCell (World.setCell (World.setCell (World.setCell (World.setCell (World.setCell v3 ⟨v1.heap.size, 0, none⟩ (.slice q3.aq q3.an q3.ac)) ⟨v1.heap.size, 1, none⟩ (.int .u8 (P3.fl.1 : Nat))) ⟨v1.heap.size, 2, none⟩ (.slice q3.fq q3.fn q3.fc)) ⟨v1.heap.size, 3, none⟩ (.int .u32 (P3.dn : Nat))) ⟨v1.heap.size, 4, none⟩ (.int .u8 (P3.lg.1 : Nat))) ⟨v1.heap.size, 5, none⟩ (.slice q3.lq q3.ln q3.lc)) ⟨v1.heap.size, 6, none⟩ (.slice q3.mq q3.mn q3.mc)) ⟨v1.heap.size, 7, none⟩ (.int .u8 (P3.fm : Nat))) ⟨v1.heap.size, 8, none⟩ (.int .u64 (P3.sp : Nat))) ⟨v1.heap.size, 9, none⟩ (.bool P3.b1)) ⟨v1.heap.size, 10, none⟩ (.bool P3.b2)) ⟨v1.heap.size, 11, none⟩ (.bool P3.b3)) ⟨v1.heap.size, 12, none⟩ (.bool P3.b4)) from rfl)
         clear b3 own3 r3)
      | (go_at_call 12
         skip
         ((with_reducible refine (HST.out (World.alloc v2 (.cells #[.slice none 0 0, .int .u8 0, .slice none 0 0, .int .u32 0, .int .u8 0, .slice none 0 0, .slice none 0 0, .int .u8 0, .int .u64 0, .bool false, .bool false, .bool false, .bool false] 32)) (HON.out _ _ HG.out (B2.out.alloc B2.out.size _)) q2 (O2.out.on (below16 v2 _))).mono ?_); rintro e v3 ⟨pb, q3, vN3, hpb, rfl, own3, r3, b3⟩)
         clear hpb
         have hpr := HOR.out pb
         obtain ⟨P3, hP3⟩ : ∃ X, X = (setR pb P ak av).1 := ⟨_, rfl⟩
         obtain ⟨NN, hNN⟩ : ∃ X, X = (setR pb P ak av).2.map (nteP ⟨af, al, ax, ak, av⟩) := ⟨_, rfl⟩
         (try simp only at hpr)
         rw [← hP3, ← hNN] at hpr
         rw [← hP3] at own3 ⊢
         rw [← hNN] at r3
         clear hP3 hNN
         have HPR := Lib.hid hpr
         clear hpr
         have B3 := Lib.hid (show Below w.heap.size w v3 from thn16 (B2.out.alloc B2.out.size _) b3)
         have O3 := Lib.hid own3
         have R3 := Lib.hid (show v3.ownsRow w.heap.size 43 4 vN3 NN.length (rowC encN NN) from owns_low16 r3 ((B2.out.alloc B2.out.size (.cells #[.slice none 0 0, .int .u8 0, .slice none 0 0, .int .u32 0, .int .u8 0, .slice none 0 0, .slice none 0 0, .int .u8 0, .int .u64 0, .bool false, .bool false, .bool false, .bool false] 32)).size))
         have X3 := Lib.hid (blk_on (blk_on X2.out (below16 v2 _)) b3)
         have Y3 := Lib.hid (blk_on (blk_on Y2.out (below16 v2 _)) b3)
         have HC3 := Lib.hid (cells18 (V := v3) (X3.out) (Y3.out))
         have Z3 := Lib.hid (show v3.heap[v2.heap.size]? = some (.cells ([.slice none 0 0, .int .u8 0, .slice none 0 0, .int .u32 0, .int .u8 0, .slice none 0 0, .slice none 0 0, .int .u8 0, .int .u64 0, .bool false, .bool false, .bool false, .bool false] : List Value).toArray 32 (0, 0)) from blk_on (heap_alloc_new v2 _) b3)
         obtain ⟨zf, z0, z1, z2, z3, z4, z5, z6, z7, z8, z9, z10, z11, z12⟩ := resC17 Z3.out
         have hnx : w.heap.size ≠ v2.heap.size := by have h1 := blk_lt X2.out; omega
         have hny : w.heap.size + 1 ≠ v2.heap.size := by have h1 := blk_lt Y2.out; omega
         have hgw : w.heap.size ≤ v2.heap.size := B2.out.size
         have HU := Lib.hid (put17 (a := ⟨af, al, ax, ak, av⟩) (q3 := q3) (P2 := P3) X3.out Y3.out Z3.out hnx hny hgw B3.out O3.out R3.out)
         have XU := Lib.hid (show (World.setCell (World.setCell (World.setCell (World.setCell (World.setCell (World.setCell (World.setCell (World.setCell (World.setCell (World.setCell (World.setCell (World.setCell (World.setCell v3 ⟨v2.heap.size, 0, none⟩ (.slice q3.aq q3.an q3.ac)) ⟨v2.heap.size, 1, none⟩ (.int .u8 (P3.fl.1 : Nat))) ⟨v2.heap.size, 2, none⟩ (.slice q3.fq q3.fn q3.fc)) ⟨v2.heap.size, 3, none⟩ (.int .u32 (P3.dn : Nat))) ⟨v2.heap.size, 4, none⟩ (.int .u8 (P3.lg.1 : Nat))) ⟨v2.heap.size, 5, none⟩ (.slice q3.lq q3.ln q3.lc)) ⟨v2.heap.size, 6, none⟩ (.slice q3.mq q3.mn q3.mc)) ⟨v2.heap.size, 7, none⟩ (.int .u8 (P3.fm : Nat))) ⟨v2.heap.size, 8, none⟩ (.int .u64 (P3.sp : Nat))) ⟨v2.heap.size, 9, none⟩ (.bool P3.b1)) ⟨v2.heap.size, 10, none⟩ (.bool P3.b2)) ⟨v2.heap.size, 11, none⟩ (.bool P3.b3)) ⟨v2.heap.size, 12, none⟩ (.bool P3.b4)).heap[w.heap.size]? = some (.cells (plC p P).toArray 32 (0, 0)) from HU.out.1)
         have YU := Lib.hid (show (World.setCell (World.setCell (World.setCell (World.setCell (World.setCell (World.setCell (World.setCell (World.setCell (World.setCell (World.setCell (World.setCell (World.setCell (World.setCell v3 ⟨v2.heap.size, 0, none⟩ (.slice q3.aq q3.an q3.ac)) ⟨v2.heap.size, 1, none⟩ (.int .u8 (P3.fl.1 : Nat))) ⟨v2.heap.size, 2, none⟩ (.slice q3.fq q3.fn q3.fc)) ⟨v2.heap.size, 3, none⟩ (.int .u32 (P3.dn : Nat))) ⟨v2.heap.size, 4, none⟩ (.int .u8 (P3.lg.1 : Nat))) ⟨v2.heap.size, 5, none⟩ (.slice q3.lq q3.ln q3.lc)) ⟨v2.heap.size, 6, none⟩ (.slice q3.mq q3.mn q3.mc)) ⟨v2.heap.size, 7, none⟩ (.int .u8 (P3.fm : Nat))) ⟨v2.heap.size, 8, none⟩ (.int .u64 (P3.sp : Nat))) ⟨v2.heap.size, 9, none⟩ (.bool P3.b1)) ⟨v2.heap.size, 10, none⟩ (.bool P3.b2)) ⟨v2.heap.size, 11, none⟩ (.bool P3.b3)) ⟨v2.heap.size, 12, none⟩ (.bool P3.b4)).heap[w.heap.size + 1]? = some (.cells #[.string af, .int .i64 al, .string ax, .string ak, .string av] 34 (0, 0)) from HU.out.2.1)
         have QU := Lib.hid (show (World.setCell (World.setCell (World.setCell (World.setCell (World.setCell (World.setCell (World.setCell (World.setCell (World.setCell (World.setCell (World.setCell (World.setCell (World.setCell v3 ⟨v2.heap.size, 0, none⟩ (.slice q3.aq q3.an q3.ac)) ⟨v2.heap.size, 1, none⟩ (.int .u8 (P3.fl.1 : Nat))) ⟨v2.heap.size, 2, none⟩ (.slice q3.fq q3.fn q3.fc)) ⟨v2.heap.size, 3, none⟩ (.int .u32 (P3.dn : Nat))) ⟨v2.heap.size, 4, none⟩ (.int .u8 (P3.lg.1 : Nat))) ⟨v2.heap.size, 5, none⟩ (.slice q3.lq q3.ln q3.lc)) ⟨v2.heap.size, 6, none⟩ (.slice q3.mq q3.mn q3.mc)) ⟨v2.heap.size, 7, none⟩ (.int .u8 (P3.fm : Nat))) ⟨v2.heap.size, 8, none⟩ (.int .u64 (P3.sp : Nat))) ⟨v2.heap.size, 9, none⟩ (.bool P3.b1)) ⟨v2.heap.size, 10, none⟩ (.bool P3.b2)) ⟨v2.heap.size, 11, none⟩ (.bool P3.b3)) ⟨v2.heap.size, 12, none⟩ (.bool P3.b4)).heap[v2.heap.size]? = some (.cells (plC q3 P3).toArray 32 (0, 0)) from HU.out.2.2.1)
         have BU := Lib.hid (show Below w.heap.size w (World.setCell (World.setCell (World.setCell (World.setCell (World.setCell (World.setCell (World.setCell (World.setCell (World.setCell (World.setCell (World.setCell (World.setCell (World.setCell v3 ⟨v2.heap.size, 0, none⟩ (.slice q3.aq q3.an q3.ac)) ⟨v2.heap.size, 1, none⟩ (.int .u8 (P3.fl.1 : Nat))) ⟨v2.heap.size, 2, none⟩ (.slice q3.fq q3.fn q3.fc)) ⟨v2.heap.size, 3, none⟩ (.int .u32 (P3.dn : Nat))) ⟨v2.heap.size, 4, none⟩ (.int .u8 (P3.lg.1 : Nat))) ⟨v2.heap.size, 5, none⟩ (.slice q3.lq q3.ln q3.lc)) ⟨v2.heap.size, 6, none⟩ (.slice q3.mq q3.mn q3.mc)) ⟨v2.heap.size, 7, none⟩ (.int .u8 (P3.fm : Nat))) ⟨v2.heap.size, 8, none⟩ (.int .u64 (P3.sp : Nat))) ⟨v2.heap.size, 9, none⟩ (.bool P3.b1)) ⟨v2.heap.size, 10, none⟩ (.bool P3.b2)) ⟨v2.heap.size, 11, none⟩ (.bool P3.b3)) ⟨v2.heap.size, 12, none⟩ (.bool P3.b4)) from HU.out.2.2.2.1)
         have OU := Lib.hid (show PolAt (World.setCell (World.setCell (World.setCell (World.setCell (World.setCell (World.setCell (World.setCell (World.setCell (World.setCell (World.setCell (World.setCell (World.setCell (World.setCell v3 ⟨v2.heap.size, 0, none⟩ (.slice q3.aq q3.an q3.ac)) ⟨v2.heap.size, 1, none⟩ (.int .u8 (P3.fl.1 : Nat))) ⟨v2.heap.size, 2, none⟩ (.slice q3.fq q3.fn q3.fc)) ⟨v2.heap.size, 3, none⟩ (.int .u32 (P3.dn : Nat))) ⟨v2.heap.size, 4, none⟩ (.int .u8 (P3.lg.1 : Nat))) ⟨v2.heap.size, 5, none⟩ (.slice q3.lq q3.ln q3.lc)) ⟨v2.heap.size, 6, none⟩ (.slice q3.mq q3.mn q3.mc)) ⟨v2.heap.size, 7, none⟩ (.int .u8 (P3.fm : Nat))) ⟨v2.heap.size, 8, none⟩ (.int .u64 (P3.sp : Nat))) ⟨v2.heap.size, 9, none⟩ (.bool P3.b1)) ⟨v2.heap.size, 10, none⟩ (.bool P3.b2)) ⟨v2.heap.size, 11, none⟩ (.bool P3.b3)) ⟨v2.heap.size, 12, none⟩ (.bool P3.b4)) q3 P3 from HU.out.2.2.2.2.1)
         have RU := Lib.hid (show RowsAt 4 encN (World.setCell (World.setCell (World.setCell (World.setCell (World.setCell (World.setCell (World.setCell (World.setCell (World.setCell (World.setCell (World.setCell (World.setCell (World.setCell v3 ⟨v2.heap.size, 0, none⟩ (.slice q3.aq q3.an q3.ac)) ⟨v2.heap.size, 1, none⟩ (.int .u8 (P3.fl.1 : Nat))) ⟨v2.heap.size, 2, none⟩ (.slice q3.fq q3.fn q3.fc)) ⟨v2.heap.size, 3, none⟩ (.int .u32 (P3.dn : Nat))) ⟨v2.heap.size, 4, none⟩ (.int .u8 (P3.lg.1 : Nat))) ⟨v2.heap.size, 5, none⟩ (.slice q3.lq q3.ln q3.lc)) ⟨v2.heap.size, 6, none⟩ (.slice q3.mq q3.mn q3.mc)) ⟨v2.heap.size, 7, none⟩ (.int .u8 (P3.fm : Nat))) ⟨v2.heap.size, 8, none⟩ (.int .u64 (P3.sp : Nat))) ⟨v2.heap.size, 9, none⟩ (.bool P3.b1)) ⟨v2.heap.size, 10, none⟩ (.bool P3.b2)) ⟨v2.heap.size, 11, none⟩ (.bool P3.b3)) ⟨v2.heap.size, 12, none⟩ (.bool P3.b4)) vN3 NN from HU.out.2.2.2.2.2)
         have HC5 := Lib.hid (cells18 (XU.out) (YU.out))
         have MK2 := Lib.hid (show (World.setCell (World.setCell (World.setCell (World.setCell (World.setCell (World.setCell (World.setCell (World.setCell (World.setCell (World.setCell (World.setCell (World.setCell (World.setCell v3 ⟨v2.heap.size, 0, none⟩ (.slice q3.aq q3.an q3.ac)) ⟨v2.heap.size, 1, none⟩ (.int .u8 (P3.fl.1 : Nat))) ⟨v2.heap.size, 2, none⟩ (.slice q3.fq q3.fn q3.fc)) ⟨v2.heap.size, 3, none⟩ (.int .u32 (P3.dn : Nat))) ⟨v2.heap.size, 4, none⟩ (.int .u8 (P3.lg.1 : Nat))) ⟨v2.heap.size, 5, none⟩ (.slice q3.lq q3.ln q3.lc)) ⟨v2.heap.size, 6, none⟩ (.slice q3.mq q3.mn q3.mc)) ⟨v2.heap.size, 7, none⟩ (.int .u8 (P3.fm : Nat))) ⟨v2.heap.size, 8, none⟩ (.int .u64 (P3.sp : Nat))) ⟨v2.heap.size, 9, none⟩ (.bool P3.b1)) ⟨v2.heap.size, 10, none⟩ (.bool P3.b2)) ⟨v2.heap.size, 11, none⟩ (.bool P3.b3)) ⟨v2.heap.size, 12, none⟩ (.bool P3.b4)) = (World.setCell (World.setCell (World.setCell (World.setCell (World.setCell (World.setCell (World.setCell (World.setCell (World.setCell (World.setCell (World.setCell (World.setCell (World.setCell v3 ⟨v2.heap.size, 0, none⟩ (.slice q3.aq q3.an q3.ac)) ⟨v2.heap.size, 1, none⟩ (.int .u8 (P3.fl.1 : Nat))) ⟨v2.heap.size, 2, none⟩ (.slice q3.fq q3.fn q3.fc)) ⟨v2.heap.size, 3, none⟩ (.int .u32 (P3.dn : Nat))) ⟨v2.heap.size, 4, none⟩ (.int .u8 (P3.lg.1 : Nat))) ⟨v2.heap.size, 5, none⟩ (.slice q3.lq q3.ln q3.lc)) ⟨v2.heap.size, 6, none⟩ (.slice q3.mq q3.mn q3.mc)) ⟨v2.heap.size, 7, none⟩ (.int .u8 (P3.fm : Nat))) ⟨v2.heap.size, 8, none⟩ (.int .u64 (P3.sp : Nat))) ⟨v2.heap.size, 9, none⟩ (.bool P3.b1)) ⟨v2.heap.size, 10, none⟩ (.bool P3.b2)) ⟨v2.heap.size, 11, none⟩ (.bool P3.b3)) ⟨v2.heap.size, 12, none⟩ (.bool P3.b4)) from rfl)
         clear b3 own3 r3)
      | (go_at_call 12
         skip
         ((with_reducible refine (HST.out v2 (HON.out _ _ HG.out B2.out) q2 O2.out).mono ?_); rintro e v3 ⟨pb, q3, vN3, hpb, rfl, own3, r3, b3⟩)
         clear hpb
         have hpr := HOR.out pb
         obtain ⟨P3, hP3⟩ : ∃ X, X = (setR pb P ak av).1 := ⟨_, rfl⟩
         obtain ⟨NN, hNN⟩ : ∃ X, X = (setR pb P ak av).2.map (nteP ⟨af, al, ax, ak, av⟩) := ⟨_, rfl⟩
         (try simp only at hpr)
         rw [← hP3, ← hNN] at hpr
         rw [← hP3] at own3 ⊢
         rw [← hNN] at r3
         clear hP3 hNN
         have HPR := Lib.hid hpr
         clear hpr
         have B3 := Lib.hid (show Below w.heap.size w v3 from thn16 B2.out b3)
         have O3 := Lib.hid own3
         have R3 := Lib.hid (show v3.ownsRow w.heap.size 43 4 vN3 NN.length (rowC encN NN) from owns_low16 r3 (B2.out.size))
         have X3 := Lib.hid (blk_on X2.out b3)
         have Y3 := Lib.hid (blk_on Y2.out b3)
         have HC3 := Lib.hid (cells18 (V := v3) (X3.out) (Y3.out))
         have HC4 := Lib.hid (cells18 (V := (World.alloc v3 (.cells #[.slice none 0 0, .int .u8 0, .slice none 0 0, .int .u32 0, .int .u8 0, .slice none 0 0, .slice none 0 0, .int .u8 0, .int .u64 0, .bool false, .bool false, .bool false, .bool false] 32))) (blk_on X3.out (below16 v3 _)) (blk_on Y3.out (below16 v3 _)))
         have HC5 := Lib.hid (cells18 (V := (World.alloc v3 (.cells #[.slice q3.aq q3.an q3.ac, .int .u8 (P3.fl.1 : Nat), .slice q3.fq q3.fn q3.fc, .int .u32 (P3.dn : Nat), .int .u8 (P3.lg.1 : Nat), .slice q3.lq q3.ln q3.lc, .slice q3.mq q3.mn q3.mc, .int .u8 (P3.fm : Nat), .int .u64 (P3.sp : Nat), .bool P3.b1, .bool P3.b2, .bool P3.b3, .bool P3.b4] 32))) (blk_on X3.out (below16 v3 _)) (blk_on Y3.out (below16 v3 _)))
         have XU := Lib.hid (show (World.alloc v3 (.cells #[.slice q3.aq q3.an q3.ac, .int .u8 (P3.fl.1 : Nat), .slice q3.fq q3.fn q3.fc, .int .u32 (P3.dn : Nat), .int .u8 (P3.lg.1 : Nat), .slice q3.lq q3.ln q3.lc, .slice q3.mq q3.mn q3.mc, .int .u8 (P3.fm : Nat), .int .u64 (P3.sp : Nat), .bool P3.b1, .bool P3.b2, .bool P3.b3, .bool P3.b4] 32)).heap[w.heap.size]? = some (.cells (plC p P).toArray 32 (0, 0)) from blk_on X3.out (below16 v3 _))
         have YU := Lib.hid (show (World.alloc v3 (.cells #[.slice q3.aq q3.an q3.ac, .int .u8 (P3.fl.1 : Nat), .slice q3.fq q3.fn q3.fc, .int .u32 (P3.dn : Nat), .int .u8 (P3.lg.1 : Nat), .slice q3.lq q3.ln q3.lc, .slice q3.mq q3.mn q3.mc, .int .u8 (P3.fm : Nat), .int .u64 (P3.sp : Nat), .bool P3.b1, .bool P3.b2, .bool P3.b3, .bool P3.b4] 32)).heap[w.heap.size + 1]? = some (.cells #[.string af, .int .i64 al, .string ax, .string ak, .string av] 34 (0, 0)) from blk_on Y3.out (below16 v3 _))
         have QU := Lib.hid (show (World.alloc v3 (.cells #[.slice q3.aq q3.an q3.ac, .int .u8 (P3.fl.1 : Nat), .slice q3.fq q3.fn q3.fc, .int .u32 (P3.dn : Nat), .int .u8 (P3.lg.1 : Nat), .slice q3.lq q3.ln q3.lc, .slice q3.mq q3.mn q3.mc, .int .u8 (P3.fm : Nat), .int .u64 (P3.sp : Nat), .bool P3.b1, .bool P3.b2, .bool P3.b3, .bool P3.b4] 32)).heap[v3.heap.size]? = some (.cells (plC q3 P3).toArray 32 (0, 0)) from heap_alloc_new v3 _)
         have BU := Lib.hid (show Below w.heap.size w (World.alloc v3 (.cells #[.slice q3.aq q3.an q3.ac, .int .u8 (P3.fl.1 : Nat), .slice q3.fq q3.fn q3.fc, .int .u32 (P3.dn : Nat), .int .u8 (P3.lg.1 : Nat), .slice q3.lq q3.ln q3.lc, .slice q3.mq q3.mn q3.mc, .int .u8 (P3.fm : Nat), .int .u64 (P3.sp : Nat), .bool P3.b1, .bool P3.b2, .bool P3.b3, .bool P3.b4] 32)) from B3.out.alloc B3.out.size _)
         have OU := Lib.hid (show PolAt (World.alloc v3 (.cells #[.slice q3.aq q3.an q3.ac, .int .u8 (P3.fl.1 : Nat), .slice q3.fq q3.fn q3.fc, .int .u32 (P3.dn : Nat), .int .u8 (P3.lg.1 : Nat), .slice q3.lq q3.ln q3.lc, .slice q3.mq q3.mn q3.mc, .int .u8 (P3.fm : Nat), .int .u64 (P3.sp : Nat), .bool P3.b1, .bool P3.b2, .bool P3.b3, .bool P3.b4] 32)) q3 P3 from O3.out.pol.on (below16 v3 _))
         have RU := Lib.hid (show RowsAt 4 encN (World.alloc v3 (.cells #[.slice q3.aq q3.an q3.ac, .int .u8 (P3.fl.1 : Nat), .slice q3.fq q3.fn q3.fc, .int .u32 (P3.dn : Nat), .int .u8 (P3.lg.1 : Nat), .slice q3.lq q3.ln q3.lc, .slice q3.mq q3.mn q3.mc, .int .u8 (P3.fm : Nat), .int .u64 (P3.sp : Nat), .bool P3.b1, .bool P3.b2, .bool P3.b3, .bool P3.b4] 32)) vN3 NN from rows_own encN_len (owns_on16 R3.out (below16 v3 _)))
         have MK1 := Lib.hid (show (World.alloc v3 (.cells #[.slice q3.aq q3.an q3.ac, .int .u8 (P3.fl.1 : Nat), .slice q3.fq q3.fn q3.fc, .int .u32 (P3.dn : Nat), .int .u8 (P3.lg.1 : Nat), .slice q3.lq q3.ln q3.lc, .slice q3.mq q3.mn q3.mc, .int .u8 (P3.fm : Nat), .int .u64 (P3.sp : Nat), .bool P3.b1, .bool P3.b2, .bool P3.b3, .bool P3.b4] 32)) = (World.alloc v3 (.cells #[.slice q3.aq q3.an q3.ac, .int .u8 (P3.fl.1 : Nat), .slice q3.fq q3.fn q3.fc, .int .u32 (P3.dn : Nat), .int .u8 (P3.lg.1 : Nat), .slice q3.lq q3.ln q3.lc, .slice q3.mq q3.mn q3.mc, .int .u8 (P3.fm : Nat), .int .u64 (P3.sp : Nat), .bool P3.b1, .bool P3.b2, .bool P3.b3, .bool P3.b4] 32)) from rfl)
         clear b3 own3 r3)
    )
    all_goals (first
      | (have mk := MK1; clear mk MK1; obtain ⟨g5, hg5⟩ : ∃ g, g = v3.heap.size := ⟨_, rfl⟩; generalize (World.alloc v3 (.cells #[.slice q3.aq q3.an q3.ac, .int .u8 (P3.fl.1 : Nat), .slice q3.fq q3.fn q3.fc, .int .u32 (P3.dn : Nat), .int .u8 (P3.lg.1 : Nat), .slice q3.lq q3.ln q3.lc, .slice q3.mq q3.mn q3.mc, .int .u8 (P3.fm : Nat), .int .u64 (P3.sp : Nat), .bool P3.b1, .bool P3.b2, .bool P3.b3, .bool P3.b4] 32)) = Z at XU YU QU BU OU RU ⊢; rw [← hg5] at QU ⊢; clear hg5; exact KEY Z g5 q2 q3 P3 NN vN3 ⟨XU.out, YU.out, QU.out, BU.out, OU.out, RU.out, HPR.out⟩)
      | (have mk := MK2; clear mk MK2; obtain ⟨g5, hg5⟩ : ∃ g, g = v2.heap.size := ⟨_, rfl⟩; generalize (World.setCell (World.setCell (World.setCell (World.setCell (World.setCell (World.setCell (World.setCell (World.setCell (World.setCell (World.setCell (World.setCell (World.setCell (World.setCell v3 ⟨v2.heap.size, 0, none⟩ (.slice q3.aq q3.an q3.ac)) ⟨v2.heap.size, 1, none⟩ (.int .u8 (P3.fl.1 : Nat))) ⟨v2.heap.size, 2, none⟩ (.slice q3.fq q3.fn q3.fc)) ⟨v2.heap.size, 3, none⟩ (.int .u32 (P3.dn : Nat))) ⟨v2.heap.size, 4, none⟩ (.int .u8 (P3.lg.1 : Nat))) ⟨v2.heap.size, 5, none⟩ (.slice q3.lq q3.ln q3.lc)) ⟨v2.heap.size, 6, none⟩ (.slice q3.mq q3.mn q3.mc)) ⟨v2.heap.size, 7, none⟩ (.int .u8 (P3.fm : Nat))) ⟨v2.heap.size, 8, none⟩ (.int .u64 (P3.sp : Nat))) ⟨v2.heap.size, 9, none⟩ (.bool P3.b1)) ⟨v2.heap.size, 10, none⟩ (.bool P3.b2)) ⟨v2.heap.size, 11, none⟩ (.bool P3.b3)) ⟨v2.heap.size, 12, none⟩ (.bool P3.b4)) = Z at XU YU QU BU OU RU ⊢; rw [← hg5] at QU ⊢; clear hg5; exact KEY Z g5 q2 q3 P3 NN vN3 ⟨XU.out, YU.out, QU.out, BU.out, OU.out, RU.out, HPR.out⟩)
      | (have mk := MK3; clear mk MK3; obtain ⟨g5, hg5⟩ : ∃ g, g = v1.heap.size := ⟨_, rfl⟩; generalize (World.setCell (World.setCell (World.setCell (World.setCell (World.setCell (World.setCell (World.setCell (World.setCell (World.setCell (World.setCell (World.setCell (World.setCell (World.setCell v3 ⟨v1.heap.size, 0, none⟩ (.slice q3.aq q3.an q3.ac)) ⟨v1.heap.size, 1, none⟩ (.int .u8 (P3.fl.1 : Nat))) ⟨v1.heap.size, 2, none⟩ (.slice q3.fq q3.fn q3.fc)) ⟨v1.heap.size, 3, none⟩ (.int .u32 (P3.dn : Nat))) ⟨v1.heap.size, 4, none⟩ (.int .u8 (P3.lg.1 : Nat))) ⟨v1.heap.size, 5, none⟩ (.slice q3.lq q3.ln q3.lc)) ⟨v1.heap.size, 6, none⟩ (.slice q3.mq q3.mn q3.mc)) ⟨v1.heap.size, 7, none⟩ (.int .u8 (P3.fm : Nat))) ⟨v1.heap.size, 8, none⟩ (.int .u64 (P3.sp : Nat))) ⟨v1.heap.size, 9, none⟩ (.bool P3.b1)) ⟨v1.heap.size, 10, none⟩ (.bool P3.b2)) ⟨v1.heap.size, 11, none⟩ (.bool P3.b3)) ⟨v1.heap.size, 12, none⟩ (.bool P3.b4)) = Z at XU YU QU BU OU RU ⊢; rw [← hg5] at QU ⊢; clear hg5; exact KEY Z g5 q2 q3 P3 NN vN3 ⟨XU.out, YU.out, QU.out, BU.out, OU.out, RU.out, HPR.out⟩))
  case k18 =>
    intro Z g5 q2 q3 P3 NN vN3 hF
    obtain ⟨xu, yu, qu, bu, ou, ru, hpr⟩ := hF
    obtain ⟨aq3, an3, ac3, fq3, fn3, fc3, lq3, ln3, lc3, mq3, mn3, mc3⟩ := q3
    obtain ⟨r1, f3, d3, g3, r2, m3, s3, c1, c2, c3, c4⟩ := P3
    obtain rfl : f3 = P.fl := hpr.fl
    obtain rfl : d3 = P.dn := hpr.dn
    obtain rfl : g3 = P.lg := hpr.lg
    obtain rfl : fn3 = p.fn := ou.fl.trans HFL.out.symm
    obtain rfl : ln3 = p.ln := ou.ll.trans HLL.out.symm
    have HQRI := Lib.hid (fun (X : World) (b : Below Z.heap.size Z X) => rises_yes18 (⟨aq3, an3, ac3, fq3, p.fn, fc3, lq3, p.ln, lc3, mq3, mn3, mc3⟩ : Pls) (⟨r1, P.fl, P.dn, P.lg, r2, m3, s3, c1, c2, c3, c4⟩ : Pol) X (ou.on b) (by rw [ou.al]; exact hpr.la) (by rw [ou.ml]; exact hpr.lm) hpr.rs)
    simp only [plV_eq18] at HQRI
    have XU := Lib.hid xu
    have YU := Lib.hid yu
    have QU := Lib.hid qu
    have BU := Lib.hid bu
    have OU := Lib.hid ou
    have HAR := Lib.hid (show ak ≠ kArc → r1 = P.ar from hpr.ar)
    have HFA := Lib.hid (show ak ≠ kFam → r2 = P.fa ∧ m3 = P.fm from hpr.fa)
    have HSPX := Lib.hid (show ak ≠ kSpa → s3 = P.sp from hpr.sp)
    have HB1X := Lib.hid (show ak ≠ kWri → c1 = P.b1 from hpr.b1)
    have HB2X := Lib.hid (show ak ≠ kPer → c2 = P.b2 from hpr.b2)
    have HB3X := Lib.hid (show ak ≠ kRea → c3 = P.b3 from hpr.b3)
    have HB4X := Lib.hid (show ak ≠ kNop → c4 = P.b4 from hpr.b4)
    have HAL3 := Lib.hid (show an3 = r1.length from ou.al)
    have HML3 := Lib.hid (show mn3 = r2.length from ou.ml)
    have hnn := hpr.nn
    have HNT := Lib.hid (show ∀ (i : Nat) (x : Nte), NN[i]? = some x → x.file = af ∧ x.line = al ∧ (x.err == 0) = false from hpr.nt)
    obtain ⟨qN, cN, hN, _⟩ := id ru
    subst hN
    have HRN := Lib.hid (fun (X : World) (b : Below Z.heap.size Z X) (k : Nat) (x : Nte) (hx : NN[k]? = some x) => row_nte (ru.on b) hx)
    obtain ⟨nN, hnN⟩ : ∃ n, n = NN.length := ⟨_, rfl⟩
    have HNO := Lib.hid (show keyR18 ak = false → nN = 0 from fun h => by rw [hnN, hpr.no h]; rfl)
    rw [← hnN] at hnn ⊢
    have HNN := Lib.hid hnN
    have HPZ := Lib.hid (fun (X : World) (b : Below Z.heap.size Z X) => (HP0.out.on BU.out).on b)
    have OUX := Lib.hid (fun (X : World) (b : Below Z.heap.size Z X) => OU.out.on b)
    have BZ := Lib.hid (Below.refl Z.heap.size Z)
    have han : an3 ≤ 10000 := by rw [HAL3.out]; exact hpr.la
    have hmn : mn3 ≤ 10000 := by rw [HML3.out]; exact hpr.lm
    dsimp only
    clear xu yu qu bu ou ru hpr hnN HGR HRI HCO HOR HST
    have h0 := H0K.out
    have h1 := H1K.out
    have h2 := H2K.out
    have h3 := H3K.out
    have h4 := H4K.out
    have h5 := H5K.out
    obtain rfl : r1 = P.ar := HAR.out h0
    obtain rfl : an3 = p.an := HAL3.out.trans HAL.out.symm
    obtain rfl : r2 = P.fa := (HFA.out h1).1
    obtain rfl : m3 = P.fm := (HFA.out h1).2
    obtain rfl : mn3 = p.mn := HML3.out.trans HML.out.symm
    obtain rfl : s3 = P.sp := HSPX.out h2
    obtain rfl : c1 = P.b1 := HB1X.out h3
    obtain rfl : c2 = P.b2 := HB2X.out h4
    obtain rfl : c4 = P.b4 := HB4X.out (by rw [h5]; decide)
    have hk : keyR18 ak = true := by rw [h5]; kernel_rfl
    rw [hk] at HKV
    clear hk
    have e0 : (ak.toList == [83, 121, 115, 116, 101, 109, 67, 97, 108, 108, 65, 114, 99, 104, 105, 116, 101, 99, 116, 117, 114, 101, 115]) = false := ne_str h0
    have n0 : (ak.toList != [83, 121, 115, 116, 101, 109, 67, 97, 108, 108, 65, 114, 99, 104, 105, 116, 101, 99, 116, 117, 114, 101, 115]) = !(ak.toList == [83, 121, 115, 116, 101, 109, 67, 97, 108, 108, 65, 114, 99, 104, 105, 116, 101, 99, 116, 117, 114, 101, 115]) := rfl
    rw [e0] at n0
    simp only [Bool.not_true, Bool.not_false] at n0
    have e1 : (ak.toList == [82, 101, 115, 116, 114, 105, 99, 116, 65, 100, 100, 114, 101, 115, 115, 70, 97, 109, 105, 108, 105, 101, 115]) = false := ne_str h1
    have n1 : (ak.toList != [82, 101, 115, 116, 114, 105, 99, 116, 65, 100, 100, 114, 101, 115, 115, 70, 97, 109, 105, 108, 105, 101, 115]) = !(ak.toList == [82, 101, 115, 116, 114, 105, 99, 116, 65, 100, 100, 114, 101, 115, 115, 70, 97, 109, 105, 108, 105, 101, 115]) := rfl
    rw [e1] at n1
    simp only [Bool.not_true, Bool.not_false] at n1
    have e2 : (ak.toList == [82, 101, 115, 116, 114, 105, 99, 116, 78, 97, 109, 101, 115, 112, 97, 99, 101, 115]) = false := ne_str h2
    have n2 : (ak.toList != [82, 101, 115, 116, 114, 105, 99, 116, 78, 97, 109, 101, 115, 112, 97, 99, 101, 115]) = !(ak.toList == [82, 101, 115, 116, 114, 105, 99, 116, 78, 97, 109, 101, 115, 112, 97, 99, 101, 115]) := rfl
    rw [e2] at n2
    simp only [Bool.not_true, Bool.not_false] at n2
    have e3 : (ak.toList == [77, 101, 109, 111, 114, 121, 68, 101, 110, 121, 87, 114, 105, 116, 101, 69, 120, 101, 99, 117, 116, 101]) = false := ne_str h3
    have n3 : (ak.toList != [77, 101, 109, 111, 114, 121, 68, 101, 110, 121, 87, 114, 105, 116, 101, 69, 120, 101, 99, 117, 116, 101]) = !(ak.toList == [77, 101, 109, 111, 114, 121, 68, 101, 110, 121, 87, 114, 105, 116, 101, 69, 120, 101, 99, 117, 116, 101]) := rfl
    rw [e3] at n3
    simp only [Bool.not_true, Bool.not_false] at n3
    have e4 : (ak.toList == [76, 111, 99, 107, 80, 101, 114, 115, 111, 110, 97, 108, 105, 116, 121]) = false := ne_str h4
    have n4 : (ak.toList != [76, 111, 99, 107, 80, 101, 114, 115, 111, 110, 97, 108, 105, 116, 121]) = !(ak.toList == [76, 111, 99, 107, 80, 101, 114, 115, 111, 110, 97, 108, 105, 116, 121]) := rfl
    rw [e4] at n4
    simp only [Bool.not_true, Bool.not_false] at n4
    have e5 : (ak.toList == [82, 101, 115, 116, 114, 105, 99, 116, 82, 101, 97, 108, 116, 105, 109, 101]) = true := eq_str h5
    have n5 : (ak.toList != [82, 101, 115, 116, 114, 105, 99, 116, 82, 101, 97, 108, 116, 105, 109, 101]) = !(ak.toList == [82, 101, 115, 116, 114, 105, 99, 116, 82, 101, 97, 108, 116, 105, 109, 101]) := rfl
    rw [e5] at n5
    simp only [Bool.not_true, Bool.not_false] at n5
    have e6 : (ak.toList == [78, 111, 78, 101, 119, 80, 114, 105, 118, 105, 108, 101, 103, 101, 115]) = false := by rw [h5, bs_toList]; rfl
    have n6 : (ak.toList != [78, 111, 78, 101, 119, 80, 114, 105, 118, 105, 108, 101, 103, 101, 115]) = !(ak.toList == [78, 111, 78, 101, 119, 80, 114, 105, 118, 105, 108, 101, 103, 101, 115]) := rfl
    rw [e6] at n6
    simp only [Bool.not_true, Bool.not_false] at n6
    clear h0 h1 h2 h3 h4 h5
    obtain ⟨gp0, gp1, gp2, gp3, gp4, gp5, gp6, gp7, gp8, gp9, gp10, gp11, gp12⟩ := (show Z.cell? ⟨w.heap.size, 0, none⟩ = some (.slice p.aq p.an p.ac) ∧ Z.cell? ⟨w.heap.size, 1, none⟩ = some (.int .u8 (P.fl.1 : Nat)) ∧ Z.cell? ⟨w.heap.size, 2, none⟩ = some (.slice p.fq p.fn p.fc) ∧ Z.cell? ⟨w.heap.size, 3, none⟩ = some (.int .u32 (P.dn : Nat)) ∧ Z.cell? ⟨w.heap.size, 4, none⟩ = some (.int .u8 (P.lg.1 : Nat)) ∧ Z.cell? ⟨w.heap.size, 5, none⟩ = some (.slice p.lq p.ln p.lc) ∧ Z.cell? ⟨w.heap.size, 6, none⟩ = some (.slice p.mq p.mn p.mc) ∧ Z.cell? ⟨w.heap.size, 7, none⟩ = some (.int .u8 (P.fm : Nat)) ∧ Z.cell? ⟨w.heap.size, 8, none⟩ = some (.int .u64 (P.sp : Nat)) ∧ Z.cell? ⟨w.heap.size, 9, none⟩ = some (.bool P.b1) ∧ Z.cell? ⟨w.heap.size, 10, none⟩ = some (.bool P.b2) ∧ Z.cell? ⟨w.heap.size, 11, none⟩ = some (.bool P.b3) ∧ Z.cell? ⟨w.heap.size, 12, none⟩ = some (.bool P.b4) from pcells17 (blk_on XU.out BZ.out))
    obtain ⟨ga0, ga1, ga2, ga3, ga4⟩ := (acells17 (V := Z) (g := w.heap.size + 1) (blk_on YU.out BZ.out))
    have gq0 : Z.cell? ⟨g5, 0, none⟩ = some (.slice aq3 p.an ac3) := (cell_of_row Z g5 0 _ _ (0, 0) (blk_on QU.out BZ.out)).trans rfl
    have gq1 : Z.cell? ⟨g5, 1, none⟩ = some (.int .u8 (P.fl.1 : Nat)) := (cell_of_row Z g5 1 _ _ (0, 0) (blk_on QU.out BZ.out)).trans rfl
    have gq2 : Z.cell? ⟨g5, 2, none⟩ = some (.slice fq3 p.fn fc3) := (cell_of_row Z g5 2 _ _ (0, 0) (blk_on QU.out BZ.out)).trans rfl
    have gq3 : Z.cell? ⟨g5, 3, none⟩ = some (.int .u32 (P.dn : Nat)) := (cell_of_row Z g5 3 _ _ (0, 0) (blk_on QU.out BZ.out)).trans rfl
    have gq4 : Z.cell? ⟨g5, 4, none⟩ = some (.int .u8 (P.lg.1 : Nat)) := (cell_of_row Z g5 4 _ _ (0, 0) (blk_on QU.out BZ.out)).trans rfl
    have gq5 : Z.cell? ⟨g5, 5, none⟩ = some (.slice lq3 p.ln lc3) := (cell_of_row Z g5 5 _ _ (0, 0) (blk_on QU.out BZ.out)).trans rfl
    have gq6 : Z.cell? ⟨g5, 6, none⟩ = some (.slice mq3 p.mn mc3) := (cell_of_row Z g5 6 _ _ (0, 0) (blk_on QU.out BZ.out)).trans rfl
    have gq7 : Z.cell? ⟨g5, 7, none⟩ = some (.int .u8 (P.fm : Nat)) := (cell_of_row Z g5 7 _ _ (0, 0) (blk_on QU.out BZ.out)).trans rfl
    have gq8 : Z.cell? ⟨g5, 8, none⟩ = some (.int .u64 (P.sp : Nat)) := (cell_of_row Z g5 8 _ _ (0, 0) (blk_on QU.out BZ.out)).trans rfl
    have gq9 : Z.cell? ⟨g5, 9, none⟩ = some (.bool P.b1) := (cell_of_row Z g5 9 _ _ (0, 0) (blk_on QU.out BZ.out)).trans rfl
    have gq10 : Z.cell? ⟨g5, 10, none⟩ = some (.bool P.b2) := (cell_of_row Z g5 10 _ _ (0, 0) (blk_on QU.out BZ.out)).trans rfl
    have gq11 : Z.cell? ⟨g5, 11, none⟩ = some (.bool c3) := (cell_of_row Z g5 11 _ _ (0, 0) (blk_on QU.out BZ.out)).trans rfl
    have gq12 : Z.cell? ⟨g5, 12, none⟩ = some (.bool P.b4) := (cell_of_row Z g5 12 _ _ (0, 0) (blk_on QU.out BZ.out)).trans rfl
    go_wp2_with (first
      | (go_at_call 11
         (with_reducible refine (HQRI.out _ BZ.out).mono ?_)
         rintro e z1 ⟨rfl, b⟩
         have BZ := Lib.hid (thn16 BZ.out b)
         clear gp0 gp1 gp2 gp3 gp4 gp5 gp6 gp7 gp8 gp9 gp10 gp11 gp12 ga0 ga1 ga2 ga3 ga4 gq0 gq1 gq2 gq3 gq4 gq5 gq6 gq7 gq8 gq9 gq10 gq11 gq12
         obtain ⟨gp0, gp1, gp2, gp3, gp4, gp5, gp6, gp7, gp8, gp9, gp10, gp11, gp12⟩ := (show z1.cell? ⟨w.heap.size, 0, none⟩ = some (.slice p.aq p.an p.ac) ∧ z1.cell? ⟨w.heap.size, 1, none⟩ = some (.int .u8 (P.fl.1 : Nat)) ∧ z1.cell? ⟨w.heap.size, 2, none⟩ = some (.slice p.fq p.fn p.fc) ∧ z1.cell? ⟨w.heap.size, 3, none⟩ = some (.int .u32 (P.dn : Nat)) ∧ z1.cell? ⟨w.heap.size, 4, none⟩ = some (.int .u8 (P.lg.1 : Nat)) ∧ z1.cell? ⟨w.heap.size, 5, none⟩ = some (.slice p.lq p.ln p.lc) ∧ z1.cell? ⟨w.heap.size, 6, none⟩ = some (.slice p.mq p.mn p.mc) ∧ z1.cell? ⟨w.heap.size, 7, none⟩ = some (.int .u8 (P.fm : Nat)) ∧ z1.cell? ⟨w.heap.size, 8, none⟩ = some (.int .u64 (P.sp : Nat)) ∧ z1.cell? ⟨w.heap.size, 9, none⟩ = some (.bool P.b1) ∧ z1.cell? ⟨w.heap.size, 10, none⟩ = some (.bool P.b2) ∧ z1.cell? ⟨w.heap.size, 11, none⟩ = some (.bool P.b3) ∧ z1.cell? ⟨w.heap.size, 12, none⟩ = some (.bool P.b4) from pcells17 (blk_on XU.out BZ.out))
         obtain ⟨ga0, ga1, ga2, ga3, ga4⟩ := (acells17 (V := z1) (g := w.heap.size + 1) (blk_on YU.out BZ.out))
         have gq0 : z1.cell? ⟨g5, 0, none⟩ = some (.slice aq3 p.an ac3) := (cell_of_row z1 g5 0 _ _ (0, 0) (blk_on QU.out BZ.out)).trans rfl
         have gq1 : z1.cell? ⟨g5, 1, none⟩ = some (.int .u8 (P.fl.1 : Nat)) := (cell_of_row z1 g5 1 _ _ (0, 0) (blk_on QU.out BZ.out)).trans rfl
         have gq2 : z1.cell? ⟨g5, 2, none⟩ = some (.slice fq3 p.fn fc3) := (cell_of_row z1 g5 2 _ _ (0, 0) (blk_on QU.out BZ.out)).trans rfl
         have gq3 : z1.cell? ⟨g5, 3, none⟩ = some (.int .u32 (P.dn : Nat)) := (cell_of_row z1 g5 3 _ _ (0, 0) (blk_on QU.out BZ.out)).trans rfl
         have gq4 : z1.cell? ⟨g5, 4, none⟩ = some (.int .u8 (P.lg.1 : Nat)) := (cell_of_row z1 g5 4 _ _ (0, 0) (blk_on QU.out BZ.out)).trans rfl
         have gq5 : z1.cell? ⟨g5, 5, none⟩ = some (.slice lq3 p.ln lc3) := (cell_of_row z1 g5 5 _ _ (0, 0) (blk_on QU.out BZ.out)).trans rfl
         have gq6 : z1.cell? ⟨g5, 6, none⟩ = some (.slice mq3 p.mn mc3) := (cell_of_row z1 g5 6 _ _ (0, 0) (blk_on QU.out BZ.out)).trans rfl
         have gq7 : z1.cell? ⟨g5, 7, none⟩ = some (.int .u8 (P.fm : Nat)) := (cell_of_row z1 g5 7 _ _ (0, 0) (blk_on QU.out BZ.out)).trans rfl
         have gq8 : z1.cell? ⟨g5, 8, none⟩ = some (.int .u64 (P.sp : Nat)) := (cell_of_row z1 g5 8 _ _ (0, 0) (blk_on QU.out BZ.out)).trans rfl
         have gq9 : z1.cell? ⟨g5, 9, none⟩ = some (.bool P.b1) := (cell_of_row z1 g5 9 _ _ (0, 0) (blk_on QU.out BZ.out)).trans rfl
         have gq10 : z1.cell? ⟨g5, 10, none⟩ = some (.bool P.b2) := (cell_of_row z1 g5 10 _ _ (0, 0) (blk_on QU.out BZ.out)).trans rfl
         have gq11 : z1.cell? ⟨g5, 11, none⟩ = some (.bool c3) := (cell_of_row z1 g5 11 _ _ (0, 0) (blk_on QU.out BZ.out)).trans rfl
         have gq12 : z1.cell? ⟨g5, 12, none⟩ = some (.bool P.b4) := (cell_of_row z1 g5 12 _ _ (0, 0) (blk_on QU.out BZ.out)).trans rfl
         clear b))
    clear gp0 gp1 gp2 gp3 gp4 gp5 gp6 gp7 gp8 gp9 gp10 gp11 gp12 ga0 ga1 ga2 ga3 ga4 gq0 gq1 gq2 gq3 gq4 gq5 gq6 gq7 gq8 gq9 gq10 gq11 gq12
    go_loopw [7, 8] (fun v7 v8 wr => ∃ k : Nat, k ≤ p.an ∧ v7 = .bool true ∧ v8 = .int .i64 k ∧ Hid (Below Z.heap.size Z wr)) (fun _ v8 _ => p.an - (intOf v8).toNat)
    case atStart => exact ⟨0, Nat.zero_le _, by first | rfl | simp, rfl, BZ⟩
    case round =>
      clear BZ
      obtain ⟨k, hk, rfl, rfl, BZ⟩ := hrel
      obtain ⟨V, rfl⟩ : ∃ wo : World, wo = wr := ⟨_, rfl⟩
      obtain ⟨gp0, gp1, gp2, gp3, gp4, gp5, gp6, gp7, gp8, gp9, gp10, gp11, gp12⟩ := (show V.cell? ⟨w.heap.size, 0, none⟩ = some (.slice p.aq p.an p.ac) ∧ V.cell? ⟨w.heap.size, 1, none⟩ = some (.int .u8 (P.fl.1 : Nat)) ∧ V.cell? ⟨w.heap.size, 2, none⟩ = some (.slice p.fq p.fn p.fc) ∧ V.cell? ⟨w.heap.size, 3, none⟩ = some (.int .u32 (P.dn : Nat)) ∧ V.cell? ⟨w.heap.size, 4, none⟩ = some (.int .u8 (P.lg.1 : Nat)) ∧ V.cell? ⟨w.heap.size, 5, none⟩ = some (.slice p.lq p.ln p.lc) ∧ V.cell? ⟨w.heap.size, 6, none⟩ = some (.slice p.mq p.mn p.mc) ∧ V.cell? ⟨w.heap.size, 7, none⟩ = some (.int .u8 (P.fm : Nat)) ∧ V.cell? ⟨w.heap.size, 8, none⟩ = some (.int .u64 (P.sp : Nat)) ∧ V.cell? ⟨w.heap.size, 9, none⟩ = some (.bool P.b1) ∧ V.cell? ⟨w.heap.size, 10, none⟩ = some (.bool P.b2) ∧ V.cell? ⟨w.heap.size, 11, none⟩ = some (.bool P.b3) ∧ V.cell? ⟨w.heap.size, 12, none⟩ = some (.bool P.b4) from pcells17 (blk_on XU.out BZ.out))
      obtain ⟨ga0, ga1, ga2, ga3, ga4⟩ := (acells17 (V := V) (g := w.heap.size + 1) (blk_on YU.out BZ.out))
      have gq0 : V.cell? ⟨g5, 0, none⟩ = some (.slice aq3 p.an ac3) := (cell_of_row V g5 0 _ _ (0, 0) (blk_on QU.out BZ.out)).trans rfl
      have gq1 : V.cell? ⟨g5, 1, none⟩ = some (.int .u8 (P.fl.1 : Nat)) := (cell_of_row V g5 1 _ _ (0, 0) (blk_on QU.out BZ.out)).trans rfl
      have gq2 : V.cell? ⟨g5, 2, none⟩ = some (.slice fq3 p.fn fc3) := (cell_of_row V g5 2 _ _ (0, 0) (blk_on QU.out BZ.out)).trans rfl
      have gq3 : V.cell? ⟨g5, 3, none⟩ = some (.int .u32 (P.dn : Nat)) := (cell_of_row V g5 3 _ _ (0, 0) (blk_on QU.out BZ.out)).trans rfl
      have gq4 : V.cell? ⟨g5, 4, none⟩ = some (.int .u8 (P.lg.1 : Nat)) := (cell_of_row V g5 4 _ _ (0, 0) (blk_on QU.out BZ.out)).trans rfl
      have gq5 : V.cell? ⟨g5, 5, none⟩ = some (.slice lq3 p.ln lc3) := (cell_of_row V g5 5 _ _ (0, 0) (blk_on QU.out BZ.out)).trans rfl
      have gq6 : V.cell? ⟨g5, 6, none⟩ = some (.slice mq3 p.mn mc3) := (cell_of_row V g5 6 _ _ (0, 0) (blk_on QU.out BZ.out)).trans rfl
      have gq7 : V.cell? ⟨g5, 7, none⟩ = some (.int .u8 (P.fm : Nat)) := (cell_of_row V g5 7 _ _ (0, 0) (blk_on QU.out BZ.out)).trans rfl
      have gq8 : V.cell? ⟨g5, 8, none⟩ = some (.int .u64 (P.sp : Nat)) := (cell_of_row V g5 8 _ _ (0, 0) (blk_on QU.out BZ.out)).trans rfl
      have gq9 : V.cell? ⟨g5, 9, none⟩ = some (.bool P.b1) := (cell_of_row V g5 9 _ _ (0, 0) (blk_on QU.out BZ.out)).trans rfl
      have gq10 : V.cell? ⟨g5, 10, none⟩ = some (.bool P.b2) := (cell_of_row V g5 10 _ _ (0, 0) (blk_on QU.out BZ.out)).trans rfl
      have gq11 : V.cell? ⟨g5, 11, none⟩ = some (.bool c3) := (cell_of_row V g5 11 _ _ (0, 0) (blk_on QU.out BZ.out)).trans rfl
      have gq12 : V.cell? ⟨g5, 12, none⟩ = some (.bool P.b4) := (cell_of_row V g5 12 _ _ (0, 0) (blk_on QU.out BZ.out)).trans rfl
      by_cases hlt : k < p.an
      · obtain ⟨x, hx⟩ : ∃ x, P.ar[k]? = some x := ⟨P.ar[k]'(by rw [← HAL.out]; exact hlt), List.getElem?_eq_getElem _⟩
        obtain ⟨g, o, y1, d0⟩ := (HPZ.out V BZ.out).ar k x hx
        obtain ⟨g', o', y2, d1⟩ := (OUX.out V BZ.out).ar k x hx
        simp only at y2
        rw [y1] at gp0
        rw [y2] at gq0
        have t2 : (x == x) = true := by simp
        clear hx y1 y2
        have k1 : (k : Int) < p.an := by omega
        have k0 : (0 : Int) ≤ k := by omega
        go_wp2_with fail
        go_quiet (fail)
        go_wp2_with fail
        go_roundw
        case rel => exact ⟨k + 1, by omega, by first | rfl | simp, by go_num, Lib.hid (Go.below_drewN BZ.out _)⟩
        case measure => first | (simp [intOf]; done) | (simp [intOf]; omega)
      · have hkn : k = p.an := by omega
        have k1 : ¬ (k : Int) < (p.an : Nat) := by omega
        go_wp2_with fail
        clear gp0 gp1 gp2 gp3 gp4 gp5 gp6 gp7 gp8 gp9 gp10 gp11 gp12 ga0 ga1 ga2 ga3 ga4 gq0 gq1 gq2 gq3 gq4 gq5 gq6 gq7 gq8 gq9 gq10 gq11 gq12
        go_loopw [9, 10] (fun v9 v10 wr => ∃ k : Nat, k ≤ p.mn ∧ v9 = .bool true ∧ v10 = .int .i64 k ∧ Hid (Below Z.heap.size Z wr)) (fun _ v10 _ => p.mn - (intOf v10).toNat)
        case atStart => exact ⟨0, Nat.zero_le _, by first | rfl | simp, rfl, BZ⟩
        case round =>
          clear BZ
          obtain ⟨k, hk, rfl, rfl, BZ⟩ := hrel
          obtain ⟨V, rfl⟩ : ∃ wo : World, wo = wr := ⟨_, rfl⟩
          obtain ⟨gp0, gp1, gp2, gp3, gp4, gp5, gp6, gp7, gp8, gp9, gp10, gp11, gp12⟩ := (show V.cell? ⟨w.heap.size, 0, none⟩ = some (.slice p.aq p.an p.ac) ∧ V.cell? ⟨w.heap.size, 1, none⟩ = some (.int .u8 (P.fl.1 : Nat)) ∧ V.cell? ⟨w.heap.size, 2, none⟩ = some (.slice p.fq p.fn p.fc) ∧ V.cell? ⟨w.heap.size, 3, none⟩ = some (.int .u32 (P.dn : Nat)) ∧ V.cell? ⟨w.heap.size, 4, none⟩ = some (.int .u8 (P.lg.1 : Nat)) ∧ V.cell? ⟨w.heap.size, 5, none⟩ = some (.slice p.lq p.ln p.lc) ∧ V.cell? ⟨w.heap.size, 6, none⟩ = some (.slice p.mq p.mn p.mc) ∧ V.cell? ⟨w.heap.size, 7, none⟩ = some (.int .u8 (P.fm : Nat)) ∧ V.cell? ⟨w.heap.size, 8, none⟩ = some (.int .u64 (P.sp : Nat)) ∧ V.cell? ⟨w.heap.size, 9, none⟩ = some (.bool P.b1) ∧ V.cell? ⟨w.heap.size, 10, none⟩ = some (.bool P.b2) ∧ V.cell? ⟨w.heap.size, 11, none⟩ = some (.bool P.b3) ∧ V.cell? ⟨w.heap.size, 12, none⟩ = some (.bool P.b4) from pcells17 (blk_on XU.out BZ.out))
          obtain ⟨ga0, ga1, ga2, ga3, ga4⟩ := (acells17 (V := V) (g := w.heap.size + 1) (blk_on YU.out BZ.out))
          have gq0 : V.cell? ⟨g5, 0, none⟩ = some (.slice aq3 p.an ac3) := (cell_of_row V g5 0 _ _ (0, 0) (blk_on QU.out BZ.out)).trans rfl
          have gq1 : V.cell? ⟨g5, 1, none⟩ = some (.int .u8 (P.fl.1 : Nat)) := (cell_of_row V g5 1 _ _ (0, 0) (blk_on QU.out BZ.out)).trans rfl
          have gq2 : V.cell? ⟨g5, 2, none⟩ = some (.slice fq3 p.fn fc3) := (cell_of_row V g5 2 _ _ (0, 0) (blk_on QU.out BZ.out)).trans rfl
          have gq3 : V.cell? ⟨g5, 3, none⟩ = some (.int .u32 (P.dn : Nat)) := (cell_of_row V g5 3 _ _ (0, 0) (blk_on QU.out BZ.out)).trans rfl
          have gq4 : V.cell? ⟨g5, 4, none⟩ = some (.int .u8 (P.lg.1 : Nat)) := (cell_of_row V g5 4 _ _ (0, 0) (blk_on QU.out BZ.out)).trans rfl
          have gq5 : V.cell? ⟨g5, 5, none⟩ = some (.slice lq3 p.ln lc3) := (cell_of_row V g5 5 _ _ (0, 0) (blk_on QU.out BZ.out)).trans rfl
          have gq6 : V.cell? ⟨g5, 6, none⟩ = some (.slice mq3 p.mn mc3) := (cell_of_row V g5 6 _ _ (0, 0) (blk_on QU.out BZ.out)).trans rfl
          have gq7 : V.cell? ⟨g5, 7, none⟩ = some (.int .u8 (P.fm : Nat)) := (cell_of_row V g5 7 _ _ (0, 0) (blk_on QU.out BZ.out)).trans rfl
          have gq8 : V.cell? ⟨g5, 8, none⟩ = some (.int .u64 (P.sp : Nat)) := (cell_of_row V g5 8 _ _ (0, 0) (blk_on QU.out BZ.out)).trans rfl
          have gq9 : V.cell? ⟨g5, 9, none⟩ = some (.bool P.b1) := (cell_of_row V g5 9 _ _ (0, 0) (blk_on QU.out BZ.out)).trans rfl
          have gq10 : V.cell? ⟨g5, 10, none⟩ = some (.bool P.b2) := (cell_of_row V g5 10 _ _ (0, 0) (blk_on QU.out BZ.out)).trans rfl
          have gq11 : V.cell? ⟨g5, 11, none⟩ = some (.bool c3) := (cell_of_row V g5 11 _ _ (0, 0) (blk_on QU.out BZ.out)).trans rfl
          have gq12 : V.cell? ⟨g5, 12, none⟩ = some (.bool P.b4) := (cell_of_row V g5 12 _ _ (0, 0) (blk_on QU.out BZ.out)).trans rfl
          by_cases hlt : k < p.mn
          · obtain ⟨x, hx⟩ : ∃ x, (P.fa.map fun (x : Nat) => (x : Int))[k]? = some x := ⟨(P.fa.map fun (x : Nat) => (x : Int))[k]'(by rw [List.length_map, ← HML.out]; exact hlt), List.getElem?_eq_getElem _⟩
            obtain ⟨g, o, y1, d0⟩ := (HPZ.out V BZ.out).fa k x hx
            obtain ⟨g', o', y2, d1⟩ := (OUX.out V BZ.out).fa k x hx
            simp only at y2
            rw [y1] at gp6
            rw [y2] at gq6
            have t2 : (x == x) = true := by simp
            clear hx y1 y2
            have k1 : (k : Int) < p.mn := by omega
            have k0 : (0 : Int) ≤ k := by omega
            go_wp2_with fail
            go_quiet (fail)
            go_wp2_with fail
            go_roundw
            case rel => exact ⟨k + 1, by omega, by first | rfl | simp, by go_num, Lib.hid (Go.below_drewN BZ.out _)⟩
            case measure => first | (simp [intOf]; done) | (simp [intOf]; omega)
          · have hkn : k = p.mn := by omega
            have k1 : ¬ (k : Int) < (p.mn : Nat) := by omega
            go_wp2_with fail
            clear gp0 gp1 gp2 gp3 gp4 gp5 gp6 gp7 gp8 gp9 gp10 gp11 gp12 ga0 ga1 ga2 ga3 ga4 gq0 gq1 gq2 gq3 gq4 gq5 gq6 gq7 gq8 gq9 gq10 gq11 gq12
            go_loopw [11] (fun v11 wr => ∃ k : Nat, k ≤ nN ∧ v11 = .int .i64 k ∧ Hid (Below Z.heap.size Z wr)) (fun v11 _ => nN - (intOf v11).toNat)
            case atStart => exact ⟨0, Nat.zero_le _, rfl, BZ⟩
            case round =>
              clear BZ
              obtain ⟨k, hk, rfl, BZ⟩ := hrel
              obtain ⟨V, rfl⟩ : ∃ wo : World, wo = wr := ⟨_, rfl⟩
              obtain ⟨gp0, gp1, gp2, gp3, gp4, gp5, gp6, gp7, gp8, gp9, gp10, gp11, gp12⟩ := (show V.cell? ⟨w.heap.size, 0, none⟩ = some (.slice p.aq p.an p.ac) ∧ V.cell? ⟨w.heap.size, 1, none⟩ = some (.int .u8 (P.fl.1 : Nat)) ∧ V.cell? ⟨w.heap.size, 2, none⟩ = some (.slice p.fq p.fn p.fc) ∧ V.cell? ⟨w.heap.size, 3, none⟩ = some (.int .u32 (P.dn : Nat)) ∧ V.cell? ⟨w.heap.size, 4, none⟩ = some (.int .u8 (P.lg.1 : Nat)) ∧ V.cell? ⟨w.heap.size, 5, none⟩ = some (.slice p.lq p.ln p.lc) ∧ V.cell? ⟨w.heap.size, 6, none⟩ = some (.slice p.mq p.mn p.mc) ∧ V.cell? ⟨w.heap.size, 7, none⟩ = some (.int .u8 (P.fm : Nat)) ∧ V.cell? ⟨w.heap.size, 8, none⟩ = some (.int .u64 (P.sp : Nat)) ∧ V.cell? ⟨w.heap.size, 9, none⟩ = some (.bool P.b1) ∧ V.cell? ⟨w.heap.size, 10, none⟩ = some (.bool P.b2) ∧ V.cell? ⟨w.heap.size, 11, none⟩ = some (.bool P.b3) ∧ V.cell? ⟨w.heap.size, 12, none⟩ = some (.bool P.b4) from pcells17 (blk_on XU.out BZ.out))
              obtain ⟨ga0, ga1, ga2, ga3, ga4⟩ := (acells17 (V := V) (g := w.heap.size + 1) (blk_on YU.out BZ.out))
              have gq0 : V.cell? ⟨g5, 0, none⟩ = some (.slice aq3 p.an ac3) := (cell_of_row V g5 0 _ _ (0, 0) (blk_on QU.out BZ.out)).trans rfl
              have gq1 : V.cell? ⟨g5, 1, none⟩ = some (.int .u8 (P.fl.1 : Nat)) := (cell_of_row V g5 1 _ _ (0, 0) (blk_on QU.out BZ.out)).trans rfl
              have gq2 : V.cell? ⟨g5, 2, none⟩ = some (.slice fq3 p.fn fc3) := (cell_of_row V g5 2 _ _ (0, 0) (blk_on QU.out BZ.out)).trans rfl
              have gq3 : V.cell? ⟨g5, 3, none⟩ = some (.int .u32 (P.dn : Nat)) := (cell_of_row V g5 3 _ _ (0, 0) (blk_on QU.out BZ.out)).trans rfl
              have gq4 : V.cell? ⟨g5, 4, none⟩ = some (.int .u8 (P.lg.1 : Nat)) := (cell_of_row V g5 4 _ _ (0, 0) (blk_on QU.out BZ.out)).trans rfl
              have gq5 : V.cell? ⟨g5, 5, none⟩ = some (.slice lq3 p.ln lc3) := (cell_of_row V g5 5 _ _ (0, 0) (blk_on QU.out BZ.out)).trans rfl
              have gq6 : V.cell? ⟨g5, 6, none⟩ = some (.slice mq3 p.mn mc3) := (cell_of_row V g5 6 _ _ (0, 0) (blk_on QU.out BZ.out)).trans rfl
              have gq7 : V.cell? ⟨g5, 7, none⟩ = some (.int .u8 (P.fm : Nat)) := (cell_of_row V g5 7 _ _ (0, 0) (blk_on QU.out BZ.out)).trans rfl
              have gq8 : V.cell? ⟨g5, 8, none⟩ = some (.int .u64 (P.sp : Nat)) := (cell_of_row V g5 8 _ _ (0, 0) (blk_on QU.out BZ.out)).trans rfl
              have gq9 : V.cell? ⟨g5, 9, none⟩ = some (.bool P.b1) := (cell_of_row V g5 9 _ _ (0, 0) (blk_on QU.out BZ.out)).trans rfl
              have gq10 : V.cell? ⟨g5, 10, none⟩ = some (.bool P.b2) := (cell_of_row V g5 10 _ _ (0, 0) (blk_on QU.out BZ.out)).trans rfl
              have gq11 : V.cell? ⟨g5, 11, none⟩ = some (.bool c3) := (cell_of_row V g5 11 _ _ (0, 0) (blk_on QU.out BZ.out)).trans rfl
              have gq12 : V.cell? ⟨g5, 12, none⟩ = some (.bool P.b4) := (cell_of_row V g5 12 _ _ (0, 0) (blk_on QU.out BZ.out)).trans rfl
              by_cases hlt : k < nN
              · obtain ⟨x, hx⟩ : ∃ x, NN[k]? = some x := ⟨NN[k]'(by rw [← HNN.out]; exact hlt), List.getElem?_eq_getElem _⟩
                obtain ⟨g, o, y1, d0, d1, d2, _⟩ := HRN.out V BZ.out k x hx
                obtain ⟨x1, x2, x3⟩ := HNT.out k x hx
                rw [x1] at d0
                rw [x2] at d1
                obtain ⟨xe, hxe⟩ : ∃ e, e = x.err := ⟨_, rfl⟩
                rw [← hxe] at d2 x3
                subst y1
                have t2 : (af.toList == af.toList) = true := by simp
                have t3 : (al == al) = true := by simp
                have t4 : (af.toList != af.toList) = false := by simp
                have t5 : (al != al) = false := by simp
                clear hx x1 x2 hxe
                have k1 : (k : Int) < nN := by omega
                have k0 : (0 : Int) ≤ k := by omega
                go_wp2_with fail
                go_quiet (fail)
                go_wp2_with fail
                go_roundw
                case rel => exact ⟨k + 1, by omega, by go_num, Lib.hid (Go.below_drewN BZ.out _)⟩
                case measure => first | (simp [intOf]; done) | (simp [intOf]; omega)
              · have hkn : k = nN := by omega
                have k1 : ¬ (k : Int) < (nN : Nat) := by omega
                go_wp2_with (first
                  | (go_at_call 7; ((with_reducible refine (HKV.out _ (HON.out _ _ HG.out (thn16 BU.out BZ.out))).mono ?_); rintro e z3 ⟨rfl, b⟩); have BK := Lib.hid (thn16 (thn16 BU.out BZ.out) b); clear b)
                  | (go_at_call 9; ((with_reducible refine (HAW.out _ (HON.out _ _ HG.out BK.out)).mono ?_); rintro e v9 ⟨rfl, b9⟩)))
                go_ret
                exact ⟨rfl, thn16 BK.out b9⟩
end Go.Proofs.YtbjhleajhkofeaaDoor.restrictOwn
