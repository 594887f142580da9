/- The walk of RestrictOwn, over what the calls have to return. -/
import Derived.Test.YtbjhleajhkofeaaDoorDp
import Derived.Test.YtbjhleajhkofeaaDoorDq
import Derived.Test.YtbjhleajhkofeaaDoorDs
import Derived.Test.YtbjhleajhkofeaaDoorDu
import Derived.Test.YtbjhleajhkofeaaDoorDw
namespace Go.Proofs.YtbjhleajhkofeaaDoor.restrictOwn
open Go.RowKit
set_option linter.unusedVariables false
set_option linter.unusedSimpArgs false
attribute [local go_sem ↓] Go.wp_at_zero Go.wp_at_succ

set_option maxRecDepth 100000 in
set_option maxHeartbeats 16000000 in
theorem walk_no {G : World → Prop} (HC : RestrictC G) (p : Pls) (P : Pol) (a : As) (w : World) (hG : G w) (ok : P.Ok) (hP : PolAt w p P) (hgr : GreatB p a) (hri : ¬ Rises18 P) : Calls Tryd.prog 4 #[plV p P, asV a] w fun e w' => e = .returned (.bool true) ∧ Below w.heap.size w w' := by
  obtain ⟨af, al, ax, ak, av⟩ := a
  have HON := Lib.hid (fun (w w' : World) => HC.on (w := w) (w' := w'))
  have HG := Lib.hid hG
  have HAW := Lib.hid (fun (W : World) (g : G W) => awake18_any HC W g)
  have HP0 := Lib.hid hP
  obtain ⟨W, hW⟩ : ∃ W, W = (w.alloc (.cells #[.slice p.aq p.an p.ac, .int .u8 (P.fl.1 : Nat), .slice p.fq p.fn p.fc, .int .u32 (P.dn : Nat), .int .u8 (P.lg.1 : Nat), .slice p.lq p.ln p.lc, .slice p.mq p.mn p.mc, .int .u8 (P.fm : Nat), .int .u64 (P.sp : Nat), .bool P.b1, .bool P.b2, .bool P.b3, .bool P.b4] 32)).alloc (.cells #[.string af, .int .i64 al, .string ax, .string ak, .string av] 34) := ⟨_, rfl⟩
  have X0 := Lib.hid (show W.heap[w.heap.size]? = some (.cells (plC p P).toArray 32 (0, 0)) by rw [hW]; exact (Below.heap_alloc _ _ _ (by rw [World.size_alloc]; exact Nat.lt_succ_self _)).trans (heap_alloc_new w _))
  have Y0 := Lib.hid (show W.heap[w.heap.size + 1]? = some (.cells #[.string af, .int .i64 al, .string ax, .string ak, .string av] 34 (0, 0)) by rw [hW, ← World.size_alloc w]; exact heap_alloc_new _ _)
  have B0 := Lib.hid (show Below w.heap.size w W from hW ▸ ((Below.refl _ _).alloc (Nat.le_refl _) _).alloc (by rw [World.size_alloc]; exact Nat.le_succ _) _)
  have HWW := Lib.hid hW
  clear hW
  have HGR := Lib.hid (fun (X : World) => great_no17 p P ⟨af, al, ax, ak, av⟩ hgr X)
  have hg2 : p.an ≤ 20 ∧ p.mn ≤ 20 ∧ p.fn ≤ 100 ∧ p.ln ≤ 100 ∧ av.size ≤ 1000 ∧ ak.size ≤ 200 ∧ af.size ≤ 200 := hgr
  obtain ⟨l1, l2, l3, l4, l5, l6, l7⟩ := hg2
  have HRI := Lib.hid (fun (X : World) (b : Below w.heap.size w X) => rises_no18 p P X (hP.on b) (by omega) (by omega) hri)
  simp only [plV_eq18, asV] at HGR HRI ⊢
  clear hgr hri l1 l2 l3 l4 l5 l6 l7 hG hP HC ok
  go_enter Tryd.func4, Tryd.ntmps4
  go_wp2_with (first
  | (go_at_call 10
     rw [← HWW.out]
     (with_reducible refine (HGR.out _).mono ?_)
     rintro e v0 ⟨rfl, b1⟩
     have BG := Lib.hid (thn16 B0.out b1)
     have XG := Lib.hid (blk_on X0.out b1)
     have YG := Lib.hid (blk_on Y0.out b1)
     obtain ⟨gp0, gp1, gp2, gp3, gp4, gp5, gp6, gp7, gp8, gp9, gp10, gp11, gp12⟩ := (show v0.cell? ⟨w.heap.size, 0, none⟩ = some (.slice p.aq p.an p.ac) ∧ v0.cell? ⟨w.heap.size, 1, none⟩ = some (.int .u8 (P.fl.1 : Nat)) ∧ v0.cell? ⟨w.heap.size, 2, none⟩ = some (.slice p.fq p.fn p.fc) ∧ v0.cell? ⟨w.heap.size, 3, none⟩ = some (.int .u32 (P.dn : Nat)) ∧ v0.cell? ⟨w.heap.size, 4, none⟩ = some (.int .u8 (P.lg.1 : Nat)) ∧ v0.cell? ⟨w.heap.size, 5, none⟩ = some (.slice p.lq p.ln p.lc) ∧ v0.cell? ⟨w.heap.size, 6, none⟩ = some (.slice p.mq p.mn p.mc) ∧ v0.cell? ⟨w.heap.size, 7, none⟩ = some (.int .u8 (P.fm : Nat)) ∧ v0.cell? ⟨w.heap.size, 8, none⟩ = some (.int .u64 (P.sp : Nat)) ∧ v0.cell? ⟨w.heap.size, 9, none⟩ = some (.bool P.b1) ∧ v0.cell? ⟨w.heap.size, 10, none⟩ = some (.bool P.b2) ∧ v0.cell? ⟨w.heap.size, 11, none⟩ = some (.bool P.b3) ∧ v0.cell? ⟨w.heap.size, 12, none⟩ = some (.bool P.b4) from pcells17 XG.out)
     clear b1)
  | (go_at_call 11
     (with_reducible refine (HRI.out _ BG.out).mono ?_)
     rintro e v1 ⟨rfl, b1⟩
     have B1 := Lib.hid (thn16 BG.out b1)
     have X1 := Lib.hid (blk_on XG.out b1)
     have Y1 := Lib.hid (blk_on YG.out b1)
     clear gp0 gp1 gp2 gp3 gp4 gp5 gp6 gp7 gp8 gp9 gp10 gp11 gp12
     clear b1)
  | (go_at_call 9; ((with_reducible refine (HAW.out _ (HON.out _ _ HG.out B1.out)).mono ?_); rintro e v2 ⟨rfl, b2⟩)))
  go_ret
  exact ⟨rfl, thn16 B1.out b2⟩
set_option maxRecDepth 100000 in
set_option maxHeartbeats 16000000 in
theorem walk_great {G : World → Prop} (HC : RestrictC G) (p : Pls) (P : Pol) (a : As) (w : World) (hG : G w) (ok : P.Ok) (hP : PolAt w p P) (hgr : ¬ GreatB p a) : Calls Tryd.prog 4 #[plV p P, asV a] w fun e w' => e = .returned (.bool true) ∧ Below w.heap.size w w' := by
  obtain ⟨af, al, ax, ak, av⟩ := a
  have HON := Lib.hid (fun (w w' : World) => HC.on (w := w) (w' := w'))
  have HG := Lib.hid hG
  have HAW := Lib.hid (fun (W : World) (g : G W) => awake18_any HC W g)
  have HP0 := Lib.hid hP
  obtain ⟨W, hW⟩ : ∃ W, W = (w.alloc (.cells #[.slice p.aq p.an p.ac, .int .u8 (P.fl.1 : Nat), .slice p.fq p.fn p.fc, .int .u32 (P.dn : Nat), .int .u8 (P.lg.1 : Nat), .slice p.lq p.ln p.lc, .slice p.mq p.mn p.mc, .int .u8 (P.fm : Nat), .int .u64 (P.sp : Nat), .bool P.b1, .bool P.b2, .bool P.b3, .bool P.b4] 32)).alloc (.cells #[.string af, .int .i64 al, .string ax, .string ak, .string av] 34) := ⟨_, rfl⟩
  have X0 := Lib.hid (show W.heap[w.heap.size]? = some (.cells (plC p P).toArray 32 (0, 0)) by rw [hW]; exact (Below.heap_alloc _ _ _ (by rw [World.size_alloc]; exact Nat.lt_succ_self _)).trans (heap_alloc_new w _))
  have Y0 := Lib.hid (show W.heap[w.heap.size + 1]? = some (.cells #[.string af, .int .i64 al, .string ax, .string ak, .string av] 34 (0, 0)) by rw [hW, ← World.size_alloc w]; exact heap_alloc_new _ _)
  have B0 := Lib.hid (show Below w.heap.size w W from hW ▸ ((Below.refl _ _).alloc (Nat.le_refl _) _).alloc (by rw [World.size_alloc]; exact Nat.le_succ _) _)
  have HWW := Lib.hid hW
  clear hW
  have HGR := Lib.hid (fun (X : World) => great_yes17 p P ⟨af, al, ax, ak, av⟩ hgr X)
  simp only [plV_eq18, asV] at HGR ⊢
  clear hgr hG hP HC ok
  go_enter Tryd.func4, Tryd.ntmps4
  go_wp2_with (first
    | (go_at_call 10; rw [← HWW.out]; ((with_reducible refine (HGR.out _).mono ?_); rintro e v1 ⟨rfl, b1⟩); have B1 := Lib.hid (thn16 B0.out b1))
    | (go_at_call 9; ((with_reducible refine (HAW.out _ (HON.out _ _ HG.out B1.out)).mono ?_); rintro e v2 ⟨rfl, b2⟩)))
  go_ret
  exact ⟨rfl, thn16 B1.out b2⟩
theorem walk {G : World → Prop} (HC : RestrictC G) (p : Pls) (P : Pol) (a : As) (w : World) (hG : G w) (ok : P.Ok) (hP : PolAt w p P) : Calls Tryd.prog 4 #[plV p P, asV a] w fun e w' => e = .returned (.bool true) ∧ Below w.heap.size w w' := by
  by_cases hgr : GreatB p a
  · by_cases hri : Rises18 P
    · by_cases h0 : a.key = kArc
      · exact walk_0 HC p P a w hG ok hP hgr hri h0
      by_cases h1 : a.key = kFam
      · exact walk_1 HC p P a w hG ok hP hgr hri h0 h1
      by_cases h2 : a.key = kSpa
      · exact walk_2 HC p P a w hG ok hP hgr hri h0 h1 h2
      by_cases h3 : a.key = kWri
      · exact walk_3 HC p P a w hG ok hP hgr hri h0 h1 h2 h3
      by_cases h4 : a.key = kPer
      · exact walk_4 HC p P a w hG ok hP hgr hri h0 h1 h2 h3 h4
      by_cases h5 : a.key = kRea
      · exact walk_5 HC p P a w hG ok hP hgr hri h0 h1 h2 h3 h4 h5
      by_cases h6 : a.key = kNop
      · exact walk_6 HC p P a w hG ok hP hgr hri h0 h1 h2 h3 h4 h5 h6
      exact walk_7 HC p P a w hG ok hP hgr hri h0 h1 h2 h3 h4 h5 h6
    · exact walk_no HC p P a w hG ok hP hgr hri
  · exact walk_great HC p P a w hG ok hP hgr
end Go.Proofs.YtbjhleajhkofeaaDoor.restrictOwn
