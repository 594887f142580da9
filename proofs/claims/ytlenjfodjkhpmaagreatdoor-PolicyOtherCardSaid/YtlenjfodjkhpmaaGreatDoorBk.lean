/- What the calls of the landed package arch return, of a world in which its table of architectures lies as the text lays it: as the chapter says. No other condition. -/
import Derived.Test.YtlenjfodjkhpmaaGreatDoorF2
import Derived.Test.YtlenjfodjkhpmaaGreatDoorD2
import Derived.Test.YtlenjfodjkhpmaaGreatDoorP3
import Derived.Deep.QuietTactic
import Derived.BigQuiet
import Derived.Laws.BitsAllLaws
import Derived.WalkSmall
namespace Go.Proofs.YtlenjfodjkhpmaaGreatDoor
set_option maxRecDepth 100000
open Go.Lib (hid)
open Go.RowKit
set_option linter.unusedVariables false
set_option linter.unusedSimpArgs false
attribute [local go_sem ↓] Go.wp_at_zero Go.wp_at_succ

set_option maxHeartbeats 4000000 in
theorem clone_i18 (q : Option Addr) (n c : Nat) (L : List Int) (w : World) (hl : n = L.length) (hn : n ≤ 100000) (h : NumsAt .i64 w q L) : Calls Tryz.prog 125 #[.slice q n c] w fun e w' => ∃ q' c', e = .returned (.slice q' n c') ∧ w'.ownsRow w.heap.size 3 1 (.slice q' n c') n (L.map (Value.int .i64)) ∧ Below w.heap.size w w' := by
 have q22 : ∀ (w : World) (a : Option Addr) (n c n' c' : Nat), (binOp .eql 24 (.slice a n c) (.slice none n' c')).run Tryz.prog w = .ok (.bool a.isNone) w := fun w a n c n' c' => Lib.run_eql_slice_nil w _ _ a n c n' c' Tryz.underlying24
 cases q with
 | none =>
  obtain rfl : L = [] := by
   cases L with
   | nil => rfl
   | cons x r => obtain ⟨g, o, e, _⟩ := h 0 x rfl; cases e
  obtain rfl : n = 0 := hl
  clear h hn
  go_enter Tryz.func125, Tryz.ntmps125
  go_wp2
  go_ret
  exact ⟨none, 0, rfl, World.ownsRow_nil _ _ _ _, Below.refl _ _⟩
 | some ad =>
  obtain ⟨i0, hi0, hz0, hz1, hz2⟩ := info_parts (show (Tryz.prog.info? 3).map (fun i => (i.zero, i.size, i.bytes)) = some (some (.int .i64 0), 1, 8) by kernel_rfl)
  have HI := hid hi0
  have HZ0 := hid hz0
  have HZ1 := hid hz1
  have HZ2 := hid hz2
  have HN := hid (show ∀ j u, (L.map (Value.int .i64))[j]? = some u → w.cell? (ad.add j) = some u from fun j u hu => by
   have h0 : 0 < L.length := by
    rcases Nat.eq_zero_or_pos L.length with e | e
    ·rw [List.eq_nil_of_length_eq_zero e] at hu; simp at hu
    ·exact e
   obtain ⟨ad', e, hc⟩ := nums_flat17 h h0
   injection e with e
   subst e
   exact hc j u hu)
  have HL := hid hl
  have HM := hid hn
  clear hi0 hz0 hz1 hz2 h hl hn
  go_enter Tryz.func125, Tryz.ntmps125
  go_wp2_with (at_builtin
               go_loud (refine wpList_append_own _ rfl _ _ 24 rfl w.heap.size 3 i0 _ 1 8 Tryz.underlying24 HI.out HZ0.out HZ1.out HZ2.out rfl (by decide) _ _ _ rfl (World.ownsRow_made w #[] 0 (Nat.le_refl _) (Nat.zero_le _) rfl) ad n c (L.map (Value.int .i64)) rfl ?qc1 ?qc2 ?qc3 ?qc4 ?qc5 ?qc6 ?_))
  case qc1 => rw [List.length_map, HL.out, Nat.mul_one]
  case qc2 => exact fun j u hu => cell_alloc16 (HN.out j u hu)
  case qc3 => exact nums_one17 _ _
  case qc4 => have := HM.out; unfold maxLen; omega
  case qc5 => have := HM.out; omega
  case qc6 => rw [World.size_alloc]; exact Nat.le_succ _
  intro v' w' h1 h2 h3
  obtain ⟨q', c', rfl⟩ := own16 h1
  go_wp2
  go_ret
  exact ⟨q', c', rfl, by simpa using h1, (below16 w _).grown h2 (by rw [World.size_alloc]; exact Nat.le_succ _) (fun k e => Nat.le_of_eq (Option.some.inj e))⟩
set_option maxHeartbeats 4000000 in
theorem clone_u18 (q : Option Addr) (n c : Nat) (L : List Int) (w : World) (hl : n = L.length) (hn : n ≤ 100000) (h : NumsAt .u32 w q L) : Calls Tryz.prog 127 #[.slice q n c] w fun e w' => ∃ q' c', e = .returned (.slice q' n c') ∧ w'.ownsRow w.heap.size 28 1 (.slice q' n c') n (L.map (Value.int .u32)) ∧ Below w.heap.size w w' := by
 have q22 : ∀ (w : World) (a : Option Addr) (n c n' c' : Nat), (binOp .eql 29 (.slice a n c) (.slice none n' c')).run Tryz.prog w = .ok (.bool a.isNone) w := fun w a n c n' c' => Lib.run_eql_slice_nil w _ _ a n c n' c' Tryz.underlying29
 cases q with
 | none =>
  obtain rfl : L = [] := by
   cases L with
   | nil => rfl
   | cons x r => obtain ⟨g, o, e, _⟩ := h 0 x rfl; cases e
  obtain rfl : n = 0 := hl
  clear h hn
  go_enter Tryz.func127, Tryz.ntmps127
  go_wp2
  go_ret
  exact ⟨none, 0, rfl, World.ownsRow_nil _ _ _ _, Below.refl _ _⟩
 | some ad =>
  obtain ⟨i0, hi0, hz0, hz1, hz2⟩ := info_parts (show (Tryz.prog.info? 28).map (fun i => (i.zero, i.size, i.bytes)) = some (some (.int .u32 0), 1, 4) by kernel_rfl)
  have HI := hid hi0
  have HZ0 := hid hz0
  have HZ1 := hid hz1
  have HZ2 := hid hz2
  have HN := hid (show ∀ j u, (L.map (Value.int .u32))[j]? = some u → w.cell? (ad.add j) = some u from fun j u hu => by
   have h0 : 0 < L.length := by
    rcases Nat.eq_zero_or_pos L.length with e | e
    ·rw [List.eq_nil_of_length_eq_zero e] at hu; simp at hu
    ·exact e
   obtain ⟨ad', e, hc⟩ := nums_flat17 h h0
   injection e with e
   subst e
   exact hc j u hu)
  have HL := hid hl
  have HM := hid hn
  clear hi0 hz0 hz1 hz2 h hl hn
  go_enter Tryz.func127, Tryz.ntmps127
  go_wp2_with (at_builtin
               go_loud (refine wpList_append_own _ rfl _ _ 29 rfl w.heap.size 28 i0 _ 1 4 Tryz.underlying29 HI.out HZ0.out HZ1.out HZ2.out rfl (by decide) _ _ _ rfl (World.ownsRow_made w #[] 0 (Nat.le_refl _) (Nat.zero_le _) rfl) ad n c (L.map (Value.int .u32)) rfl ?qc1 ?qc2 ?qc3 ?qc4 ?qc5 ?qc6 ?_))
  case qc1 => rw [List.length_map, HL.out, Nat.mul_one]
  case qc2 => exact fun j u hu => cell_alloc16 (HN.out j u hu)
  case qc3 => exact nums_one17 _ _
  case qc4 => have := HM.out; unfold maxLen; omega
  case qc5 => have := HM.out; omega
  case qc6 => rw [World.size_alloc]; exact Nat.le_succ _
  intro v' w' h1 h2 h3
  obtain ⟨q', c', rfl⟩ := own16 h1
  go_wp2
  go_ret
  exact ⟨q', c', rfl, by simpa using h1, (below16 w _).grown h2 (by rw [World.size_alloc]; exact Nat.le_succ _) (fun k e => Nat.le_of_eq (Option.some.inj e))⟩
set_option maxHeartbeats 16000000 in
theorem own_c18 (p : Pls) (P : Pol) (w : World) (hP : PolAt w p P) (ha : p.an ≤ 20000) (hfl : p.fn ≤ 20000) (hll : p.ln ≤ 20000) (hm : p.mn ≤ 20000) : Calls Tryz.prog 101 #[plV p P] w fun e w' => ∃ p', e = .returned (plV p' P) ∧ OwnP w.heap.size w' p' P ∧ Below w.heap.size w w' := by
 obtain ⟨aq, an, ac, fq, fn, fc, lq, ln, lc, mq, mn, mc⟩ := p
 simp only at ha hfl hll hm
 obtain ⟨NM, hNM⟩ : ∃ l : List Int, l = P.fa.map fun (x : Nat) => (x : Int) := ⟨_, rfl⟩
 have HNM := hid hNM
 have HL0 := hid (show an = P.ar.length from hP.al)
 have HL1 := hid (show mn = NM.length by rw [hNM, List.length_map]; exact hP.ml)
 have HF := hid (show fn = P.fl.2.length from hP.fl)
 have HG := hid (show ln = P.lg.2.length from hP.ll)
 have HC0 := hid (fun (X : World) (b : Below w.heap.size w X) => clone_i18 aq an ac P.ar X hP.al (by omega) (hP.ar.on b))
 have HC1 := hid (fun (X : World) (b : Below w.heap.size w X) => clone_l fq fn fc P.fl.2 X hP.fl (by omega) (hP.fi.on b))
 have HC2 := hid (fun (X : World) (b : Below w.heap.size w X) => clone_l lq ln lc P.lg.2 X hP.ll (by omega) (hP.lo.on b))
 have HC3 := hid (fun (X : World) (b : Below w.heap.size w X) => clone_u18 mq mn mc NM X HL1.out (by omega) (by rw [hNM]; exact hP.fa.on b))
 obtain ⟨W, hW⟩ : ∃ W, W = (w.alloc (.cells #[.slice aq an ac, .int .u8 (P.fl.1 : Nat), .slice fq fn fc, .int .u32 (P.dn : Nat), .int .u8 (P.lg.1 : Nat), .slice lq ln lc, .slice mq mn mc, .int .u8 (P.fm : Nat), .int .u64 (P.sp : Nat), .bool P.b1, .bool P.b2, .bool P.b3, .bool P.b4] 32)).alloc (.cells #[.slice none 0 0, .int .u8 0, .slice none 0 0, .int .u32 0, .int .u8 0, .slice none 0 0, .slice none 0 0, .int .u8 0, .int .u64 0, .bool false, .bool false, .bool false, .bool false] 32) := ⟨_, rfl⟩
 have CWW := hid (show C17 w ⟨aq, an, ac, fq, fn, fc, lq, ln, lc, mq, mn, mc⟩ P W from
  ⟨hW ▸ ((Below.refl _ _).alloc (Nat.le_refl _) _).alloc (by rw [World.size_alloc]; exact Nat.le_succ _) _, by rw [hW]; exact (Below.heap_alloc _ _ _ (by rw [World.size_alloc]; exact Nat.lt_succ_self _)).trans (heap_alloc_new w _), by rw [hW, ← World.size_alloc w]; exact heap_alloc_new _ _⟩)
 have HWW := hid hW
 rw [show plV ⟨aq, an, ac, fq, fn, fc, lq, ln, lc, mq, mn, mc⟩ P = .agg #[.slice aq an ac, .int .u8 (P.fl.1 : Nat), .slice fq fn fc, .int .u32 (P.dn : Nat), .int .u8 (P.lg.1 : Nat), .slice lq ln lc, .slice mq mn mc, .int .u8 (P.fm : Nat), .int .u64 (P.sp : Nat), .bool P.b1, .bool P.b2, .bool P.b3, .bool P.b4] from rfl]
 clear hP hNM hW
 go_enter Tryz.func101, Tryz.ntmps101
 go_wp2_with (first
 | (go_at_call 125
    rw [← HWW.out]
    ((with_reducible refine (HC0.out W CWW.out.bel).mono ?_); rintro e w1 ⟨qA, cA, rfl, o6, b⟩)
    have CWw1 := hid (CWW.out.on b)
    have RAw1 := hid (owns_low16 o6 CWW.out.bel.size)
    clear o6 b)
 | ((with_reducible show wpList _ _ _ (⟨none, .store 24 (.tmp 6) (.tmp 5), _, _, _, _⟩ :: _) _ _)
    refine wpList_store_cell17 rfl 24 (.tmp 6) (.tmp 5) rfl w.heap.size 0 (.slice qA an cA) (by rfl) (by rfl) rfl (there_row17 CWw1.out.pol (show 0 + 1 ≤ 13 by decide)) (by kernel_rfl) ?_
    have CWY1 := hid (CWw1.out.store (p' := ⟨qA, an, cA, fq, fn, fc, lq, ln, lc, mq, mn, mc⟩) 0 [.slice qA an cA] (show 0 + 1 ≤ 13 by decide) rfl)
    have RAY1 := hid (rows_box17 (i := 0) CWw1.out.pol (by decide) RAw1.out [.slice qA an cA])
    generalize w1.setCells w.heap.size 0 [.slice qA an cA] = Y1 at CWY1 RAY1 ⊢
    obtain ⟨f0, f1, f2, f3, f4, f5, f6, f7, f8, f9, f10, f11, f12⟩ := (show Y1.cell? ⟨w.heap.size, 0, none⟩ = some (.slice qA an cA) ∧ Y1.cell? ⟨w.heap.size, 1, none⟩ = some (.int .u8 (P.fl.1 : Nat)) ∧ Y1.cell? ⟨w.heap.size, 2, none⟩ = some (.slice fq fn fc) ∧ Y1.cell? ⟨w.heap.size, 3, none⟩ = some (.int .u32 (P.dn : Nat)) ∧ Y1.cell? ⟨w.heap.size, 4, none⟩ = some (.int .u8 (P.lg.1 : Nat)) ∧ Y1.cell? ⟨w.heap.size, 5, none⟩ = some (.slice lq ln lc) ∧ Y1.cell? ⟨w.heap.size, 6, none⟩ = some (.slice mq mn mc) ∧ Y1.cell? ⟨w.heap.size, 7, none⟩ = some (.int .u8 (P.fm : Nat)) ∧ Y1.cell? ⟨w.heap.size, 8, none⟩ = some (.int .u64 (P.sp : Nat)) ∧ Y1.cell? ⟨w.heap.size, 9, none⟩ = some (.bool P.b1) ∧ Y1.cell? ⟨w.heap.size, 10, none⟩ = some (.bool P.b2) ∧ Y1.cell? ⟨w.heap.size, 11, none⟩ = some (.bool P.b3) ∧ Y1.cell? ⟨w.heap.size, 12, none⟩ = some (.bool P.b4) from pcells17 CWY1.out.pol)
    clear CWw1 RAw1)
 | (go_at_call 126
    skip
    ((with_reducible refine (HC1.out Y1 CWY1.out.bel).mono ?_); rintro e w2 ⟨qF, cF, rfl, o6, b⟩)
    have CWw2 := hid (CWY1.out.on b)
    have RFw2 := hid (owns_low16 o6 CWY1.out.bel.size)
    have RAw2 := hid (owns_on16 RAY1.out b)
    clear o6 b)
 | ((with_reducible show wpList _ _ _ (⟨none, .store 25 (.tmp 12) (.tmp 10), _, _, _, _⟩ :: _) _ _)
    refine wpList_store_cell17 rfl 25 (.tmp 12) (.tmp 10) rfl w.heap.size 2 (.slice qF fn cF) (by rfl) (by rfl) rfl (there_row17 CWw2.out.pol (show 2 + 1 ≤ 13 by decide)) (by kernel_rfl) ?_
    have CWY2 := hid (CWw2.out.store (p' := ⟨qA, an, cA, qF, fn, cF, lq, ln, lc, mq, mn, mc⟩) 2 [.slice qF fn cF] (show 2 + 1 ≤ 13 by decide) rfl)
    have RAY2 := hid (rows_box17 (i := 2) CWw2.out.pol (by decide) RAw2.out [.slice qF fn cF])
    have RFY2 := hid (rows_box17 (i := 2) CWw2.out.pol (by decide) RFw2.out [.slice qF fn cF])
    generalize w2.setCells w.heap.size 2 [.slice qF fn cF] = Y2 at CWY2 RAY2 RFY2 ⊢
    obtain ⟨f0, f1, f2, f3, f4, f5, f6, f7, f8, f9, f10, f11, f12⟩ := (show Y2.cell? ⟨w.heap.size, 0, none⟩ = some (.slice qA an cA) ∧ Y2.cell? ⟨w.heap.size, 1, none⟩ = some (.int .u8 (P.fl.1 : Nat)) ∧ Y2.cell? ⟨w.heap.size, 2, none⟩ = some (.slice qF fn cF) ∧ Y2.cell? ⟨w.heap.size, 3, none⟩ = some (.int .u32 (P.dn : Nat)) ∧ Y2.cell? ⟨w.heap.size, 4, none⟩ = some (.int .u8 (P.lg.1 : Nat)) ∧ Y2.cell? ⟨w.heap.size, 5, none⟩ = some (.slice lq ln lc) ∧ Y2.cell? ⟨w.heap.size, 6, none⟩ = some (.slice mq mn mc) ∧ Y2.cell? ⟨w.heap.size, 7, none⟩ = some (.int .u8 (P.fm : Nat)) ∧ Y2.cell? ⟨w.heap.size, 8, none⟩ = some (.int .u64 (P.sp : Nat)) ∧ Y2.cell? ⟨w.heap.size, 9, none⟩ = some (.bool P.b1) ∧ Y2.cell? ⟨w.heap.size, 10, none⟩ = some (.bool P.b2) ∧ Y2.cell? ⟨w.heap.size, 11, none⟩ = some (.bool P.b3) ∧ Y2.cell? ⟨w.heap.size, 12, none⟩ = some (.bool P.b4) from pcells17 CWY2.out.pol)
    clear CWw2 RAw2 RFw2)
 | (go_at_call 126
    skip
    ((with_reducible refine (HC2.out Y2 CWY2.out.bel).mono ?_); rintro e w3 ⟨qG, cG, rfl, o6, b⟩)
    have CWw3 := hid (CWY2.out.on b)
    have RGw3 := hid (owns_low16 o6 CWY2.out.bel.size)
    have RAw3 := hid (owns_on16 RAY2.out b)
    have RFw3 := hid (owns_on16 RFY2.out b)
    clear o6 b)
 | ((with_reducible show wpList _ _ _ (⟨none, .store 25 (.tmp 18) (.tmp 16), _, _, _, _⟩ :: _) _ _)
    refine wpList_store_cell17 rfl 25 (.tmp 18) (.tmp 16) rfl w.heap.size 5 (.slice qG ln cG) (by rfl) (by rfl) rfl (there_row17 CWw3.out.pol (show 5 + 1 ≤ 13 by decide)) (by kernel_rfl) ?_
    have CWY3 := hid (CWw3.out.store (p' := ⟨qA, an, cA, qF, fn, cF, qG, ln, cG, mq, mn, mc⟩) 5 [.slice qG ln cG] (show 5 + 1 ≤ 13 by decide) rfl)
    have RAY3 := hid (rows_box17 (i := 5) CWw3.out.pol (by decide) RAw3.out [.slice qG ln cG])
    have RFY3 := hid (rows_box17 (i := 5) CWw3.out.pol (by decide) RFw3.out [.slice qG ln cG])
    have RGY3 := hid (rows_box17 (i := 5) CWw3.out.pol (by decide) RGw3.out [.slice qG ln cG])
    generalize w3.setCells w.heap.size 5 [.slice qG ln cG] = Y3 at CWY3 RAY3 RFY3 RGY3 ⊢
    obtain ⟨f0, f1, f2, f3, f4, f5, f6, f7, f8, f9, f10, f11, f12⟩ := (show Y3.cell? ⟨w.heap.size, 0, none⟩ = some (.slice qA an cA) ∧ Y3.cell? ⟨w.heap.size, 1, none⟩ = some (.int .u8 (P.fl.1 : Nat)) ∧ Y3.cell? ⟨w.heap.size, 2, none⟩ = some (.slice qF fn cF) ∧ Y3.cell? ⟨w.heap.size, 3, none⟩ = some (.int .u32 (P.dn : Nat)) ∧ Y3.cell? ⟨w.heap.size, 4, none⟩ = some (.int .u8 (P.lg.1 : Nat)) ∧ Y3.cell? ⟨w.heap.size, 5, none⟩ = some (.slice qG ln cG) ∧ Y3.cell? ⟨w.heap.size, 6, none⟩ = some (.slice mq mn mc) ∧ Y3.cell? ⟨w.heap.size, 7, none⟩ = some (.int .u8 (P.fm : Nat)) ∧ Y3.cell? ⟨w.heap.size, 8, none⟩ = some (.int .u64 (P.sp : Nat)) ∧ Y3.cell? ⟨w.heap.size, 9, none⟩ = some (.bool P.b1) ∧ Y3.cell? ⟨w.heap.size, 10, none⟩ = some (.bool P.b2) ∧ Y3.cell? ⟨w.heap.size, 11, none⟩ = some (.bool P.b3) ∧ Y3.cell? ⟨w.heap.size, 12, none⟩ = some (.bool P.b4) from pcells17 CWY3.out.pol)
    clear CWw3 RAw3 RFw3 RGw3)
 | (go_at_call 127
    skip
    ((with_reducible refine (HC3.out Y3 CWY3.out.bel).mono ?_); rintro e w4 ⟨qM, cM, rfl, o6, b⟩)
    have CWw4 := hid (CWY3.out.on b)
    have RMw4 := hid (owns_low16 o6 CWY3.out.bel.size)
    have RAw4 := hid (owns_on16 RAY3.out b)
    have RFw4 := hid (owns_on16 RFY3.out b)
    have RGw4 := hid (owns_on16 RGY3.out b)
    clear o6 b)
 | ((with_reducible show wpList _ _ _ (⟨none, .store 29 (.tmp 22) (.tmp 21), _, _, _, _⟩ :: _) _ _)
    refine wpList_store_cell17 rfl 29 (.tmp 22) (.tmp 21) rfl w.heap.size 6 (.slice qM mn cM) (by rfl) (by rfl) rfl (there_row17 CWw4.out.pol (show 6 + 1 ≤ 13 by decide)) (by kernel_rfl) ?_
    have CWY4 := hid (CWw4.out.store (p' := ⟨qA, an, cA, qF, fn, cF, qG, ln, cG, qM, mn, cM⟩) 6 [.slice qM mn cM] (show 6 + 1 ≤ 13 by decide) rfl)
    have RAY4 := hid (rows_box17 (i := 6) CWw4.out.pol (by decide) RAw4.out [.slice qM mn cM])
    have RFY4 := hid (rows_box17 (i := 6) CWw4.out.pol (by decide) RFw4.out [.slice qM mn cM])
    have RGY4 := hid (rows_box17 (i := 6) CWw4.out.pol (by decide) RGw4.out [.slice qM mn cM])
    have RMY4 := hid (rows_box17 (i := 6) CWw4.out.pol (by decide) RMw4.out [.slice qM mn cM])
    generalize w4.setCells w.heap.size 6 [.slice qM mn cM] = Y4 at CWY4 RAY4 RFY4 RGY4 RMY4 ⊢
    obtain ⟨f0, f1, f2, f3, f4, f5, f6, f7, f8, f9, f10, f11, f12⟩ := (show Y4.cell? ⟨w.heap.size, 0, none⟩ = some (.slice qA an cA) ∧ Y4.cell? ⟨w.heap.size, 1, none⟩ = some (.int .u8 (P.fl.1 : Nat)) ∧ Y4.cell? ⟨w.heap.size, 2, none⟩ = some (.slice qF fn cF) ∧ Y4.cell? ⟨w.heap.size, 3, none⟩ = some (.int .u32 (P.dn : Nat)) ∧ Y4.cell? ⟨w.heap.size, 4, none⟩ = some (.int .u8 (P.lg.1 : Nat)) ∧ Y4.cell? ⟨w.heap.size, 5, none⟩ = some (.slice qG ln cG) ∧ Y4.cell? ⟨w.heap.size, 6, none⟩ = some (.slice qM mn cM) ∧ Y4.cell? ⟨w.heap.size, 7, none⟩ = some (.int .u8 (P.fm : Nat)) ∧ Y4.cell? ⟨w.heap.size, 8, none⟩ = some (.int .u64 (P.sp : Nat)) ∧ Y4.cell? ⟨w.heap.size, 9, none⟩ = some (.bool P.b1) ∧ Y4.cell? ⟨w.heap.size, 10, none⟩ = some (.bool P.b2) ∧ Y4.cell? ⟨w.heap.size, 11, none⟩ = some (.bool P.b3) ∧ Y4.cell? ⟨w.heap.size, 12, none⟩ = some (.bool P.b4) from pcells17 CWY4.out.pol)
    clear CWw4 RAw4 RFw4 RGw4 RMw4)
 | ((with_reducible show wpList _ _ _ (⟨none, .store 32 (.tmp 2) (.tmp 23), _, _, _, _⟩ :: _) _ _)
    refine wpList_store_mid rfl 32 (.tmp 2) (.tmp 23) rfl (w.heap.size + 1) 0 (plC ⟨qA, an, cA, qF, fn, cF, qG, ln, cG, qM, mn, cM⟩ P).toArray (by rfl) (by rfl) (there_row17 CWY4.out.res (show 0 + 13 ≤ 13 by decide)) pl_info (plC_one _ _) ?_
    show wpList _ _ _ _ _ (Y4.setCells (w.heap.size + 1) 0 (plC ⟨qA, an, cA, qF, fn, cF, qG, ln, cG, qM, mn, cM⟩ P))
    have hl := run_loadVar_mid (P := Tryz.prog) (Y4.setCells (w.heap.size + 1) 0 (plC ⟨qA, an, cA, qF, fn, cF, qG, ln, cG, qM, mn, cM⟩ P)) (w.heap.size + 1) 0 32 (plC ⟨qA, an, cA, qF, fn, cF, qG, ln, cG, qM, mn, cM⟩ P) _ (World.rangeAt_setCells_same Y4 _ 0 _ (there_row17 CWY4.out.res (show 0 + 13 ≤ 13 by decide))) Tryz.underlying32 rfl pl_info
    have HB := hid (below_setCells16 (show w.heap.size ≤ w.heap.size + 1 by omega) (plC ⟨qA, an, cA, qF, fn, cF, qG, ln, cG, qM, mn, cM⟩ P) 0 _ CWY4.out.bel)
    have RAZ := hid (rows_box17 (i := 0) CWY4.out.res (by decide) RAY4.out (plC ⟨qA, an, cA, qF, fn, cF, qG, ln, cG, qM, mn, cM⟩ P))
    have RFZ := hid (rows_box17 (i := 0) CWY4.out.res (by decide) RFY4.out (plC ⟨qA, an, cA, qF, fn, cF, qG, ln, cG, qM, mn, cM⟩ P))
    have RGZ := hid (rows_box17 (i := 0) CWY4.out.res (by decide) RGY4.out (plC ⟨qA, an, cA, qF, fn, cF, qG, ln, cG, qM, mn, cM⟩ P))
    have RMZ := hid (rows_box17 (i := 0) CWY4.out.res (by decide) RMY4.out (plC ⟨qA, an, cA, qF, fn, cF, qG, ln, cG, qM, mn, cM⟩ P))
    generalize Y4.setCells (w.heap.size + 1) 0 (plC ⟨qA, an, cA, qF, fn, cF, qG, ln, cG, qM, mn, cM⟩ P) = Z at hl HB RAZ RFZ RGZ RMZ ⊢)
 | fail)
 (try simp only [Exit.inBlock, Exit.then])
 refine bodyPost_ret (v := .agg (plC ⟨qA, an, cA, qF, fn, cF, qG, ln, cG, qM, mn, cM⟩ P).toArray) (results_one16 Tryz.results101 ?_ hl) rfl ⟨⟨qA, an, cA, qF, fn, cF, qG, ln, cG, qM, mn, cM⟩, rfl, ⟨HL0.out, HF.out, HG.out, ?_, RAZ.out, RFZ.out, RGZ.out, ?_⟩, HB.out⟩
 ·rfl
 ·exact HL1.out.trans (by rw [HNM.out, List.length_map])
 ·rw [← HNM.out]
  exact RMZ.out
set_option maxRecDepth 100000
open Go.Lib (hid)
open Go.RowKit
set_option linter.unusedVariables false
attribute [local go_sem ↓] Go.wp_at_zero Go.wp_at_succ

def GA8 (w : World) : Prop := ∀ k, k < 6 → w.cell? ⟨1, k * 2, none⟩ = some (.string (archN.getD k ⟨#[]⟩)) ∧ w.cell? ⟨1, k * 2 + 1, none⟩ = some (.int .u32 (archT.getD k 0))
theorem GA8.lt {w : World} (h : GA8 w) : 1 < w.heap.size := World.block_lt_of_cell? w _ (h 0 (by omega)).1
theorem GA8.on {w w' : World} (h : GA8 w) (b : Below w.heap.size w w') : GA8 w' := fun k hk =>
 ⟨(b.cell (p := ⟨1, k * 2, none⟩) h.lt).trans (h k hk).1, (b.cell (p := ⟨1, k * 2 + 1, none⟩) h.lt).trans (h k hk).2⟩
theorem GA8.al {w : World} (h : GA8 w) (o : Obj) : GA8 (w.alloc o) := h.on ((Below.refl _ _).alloc (Nat.le_refl _) o)
def inA8 (a : Int) : Bool := decide (0 ≤ a ∧ a < 6)
set_option maxHeartbeats 1600000 in
theorem rowOf_in (k : Nat) (hk : k < 6) (w : World) (hG : GA8 w) : Calls Tryz.prog 80 #[.int .i64 k] w fun e w' =>
 e = .returned (.tuple #[.agg #[.string (archN.getD k ⟨#[]⟩), .int .u32 (archT.getD k 0)], .bool true]) ∧ Below w.heap.size w w' := by
 have HG := hG.al (.cells #[.string ⟨#[]⟩, .int .u32 0] 106) k hk
 obtain ⟨c0, c1⟩ := HG
 obtain ⟨x, hx⟩ : ∃ x, x = archN.getD k ⟨#[]⟩ := ⟨_, rfl⟩
 obtain ⟨y, hy⟩ : ∃ y, y = archT.getD k 0 := ⟨_, rfl⟩
 rw [← hx] at c0 ⊢
 rw [← hy] at c1 ⊢
 have k0 : decide ((k : Int) < 0) = false := decide_eq_false (by omega)
 have k1 : decide ((6 : Int) ≤ k) = false := decide_eq_false (by omega)
 have k2 : (k : Int) < 6 := by omega
 have k3 : (0 : Int) ≤ k := by omega
 have hl := hid hG.lt
 clear hx hy hG
 go_enter Tryz.func80, Tryz.ntmps80
 go_wp2
 refine bodyPost_ret (v := .tuple #[.agg #[.string x, .int .u32 y], .bool true]) (by simp [results, Tryz.results80, go_sem]) rfl ⟨rfl, ?_⟩
 exact (Below.refl _ _).alloc (Nat.le_refl _) _
theorem rowOf_neg (a : Int) (ha : a < 0) (w : World) : Calls Tryz.prog 80 #[.int .i64 a] w fun e w' =>
 e = .returned (.tuple #[.agg #[.string ⟨#[]⟩, .int .u32 0], .bool false]) ∧ Below w.heap.size w w' := by
 have k0 : decide (a < 0) = true := decide_eq_true ha
 go_enter Tryz.func80, Tryz.ntmps80
 go_wp2
 refine bodyPost_ret (v := .tuple #[.agg #[.string ⟨#[]⟩, .int .u32 0], .bool false]) (by simp [results, Tryz.results80, go_sem]) rfl ⟨rfl, ?_⟩
 exact (Below.refl _ _).alloc (Nat.le_refl _) _
theorem rowOf_big (a : Int) (ha : 6 ≤ a) (w : World) : Calls Tryz.prog 80 #[.int .i64 a] w fun e w' =>
 e = .returned (.tuple #[.agg #[.string ⟨#[]⟩, .int .u32 0], .bool false]) ∧ Below w.heap.size w w' := by
 have k0 : decide (a < 0) = false := decide_eq_false (by omega)
 have k1 : decide (6 ≤ a) = true := decide_eq_true ha
 go_enter Tryz.func80, Tryz.ntmps80
 go_wp2
 refine bodyPost_ret (v := .tuple #[.agg #[.string ⟨#[]⟩, .int .u32 0], .bool false]) (by simp [results, Tryz.results80, go_sem]) rfl ⟨rfl, ?_⟩
 exact (Below.refl _ _).alloc (Nat.le_refl _) _
theorem rowOf_any (a : Int) (w : World) (hG : GA8 w) : Calls Tryz.prog 80 #[.int .i64 a] w fun e w' =>
 e = .returned (.tuple #[.agg #[.string (nameA8 a), .int .u32 (tokR a)], .bool (inA8 a)]) ∧ Below w.heap.size w w' := by
 by_cases h0 : a < 0
 ·have h := rowOf_neg a h0 w
  rwa [show (⟨#[]⟩ : ByteArray) = nameA8 a from by unfold nameA8; rw [if_neg (by omega)], show (0 : Int) = tokR a from by unfold tokR; rw [if_neg (by omega)], show false = inA8 a from by unfold inA8; rw [decide_eq_false (by omega)]] at h
 ·by_cases h6 : 6 ≤ a
  ·have h := rowOf_big a h6 w
   rwa [show (⟨#[]⟩ : ByteArray) = nameA8 a from by unfold nameA8; rw [if_neg (by omega)], show (0 : Int) = tokR a from by unfold tokR; rw [if_neg (by omega)], show false = inA8 a from by unfold inA8; rw [decide_eq_false (by omega)]] at h
  ·obtain ⟨k, rfl⟩ := Int.eq_ofNat_of_zero_le (by omega : 0 ≤ a)
   have h := rowOf_in k (by omega) w hG
   rwa [show archN.getD k ⟨#[]⟩ = nameA8 k from by unfold nameA8; rw [if_pos (by omega), Int.toNat_natCast], show archT.getD k 0 = tokR k from by unfold tokR; rw [if_pos (by omega), Int.toNat_natCast], show true = inA8 k from by unfold inA8; rw [decide_eq_true (by omega)]] at h
theorem name8 (a : Int) (w : World) (hG : GA8 w) : Calls Tryz.prog 38 #[.int .i64 a] w fun e w' => e = .returned (.string (nameA8 a)) ∧ Below w.heap.size w w' := by
 have H := hid (rowOf_any a w hG)
 generalize nameA8 a = x at H ⊢
 generalize tokR a = y at H
 generalize inA8 a = z at H
 clear hG
 go_enter Tryz.func38, Tryz.ntmps38
 go_wp2_with (go_at_call 80; ((with_reducible refine H.out.mono ?_); rintro e w1 ⟨rfl, b1⟩))
 go_ret
 exact ⟨rfl, b1.alloc b1.size _⟩
theorem pclos (k : Nat) (hk : k < 6) (s : ByteArray) (b : Nat) (w : World) (hG : GA8 w) (hb : w.cell? ⟨b, 0, none⟩ = some (.string s)) : Calls Tryz.prog 183 #[.int .i64 k, .pointer (some ⟨b, 0, none⟩)] w fun e w' =>
 e = .returned (.bool (decide (archN.getD k ⟨#[]⟩ = s))) ∧ Below w.heap.size w w' := by
 obtain ⟨c0, c1⟩ := hG k hk
 have hv := hid (show decide (archN.getD k ⟨#[]⟩ = s) = ((archN.getD k ⟨#[]⟩).toList == s.toList) from by
  rw [Bool.eq_iff_iff, decide_eq_true_iff, beq_iff_eq]
  exact ⟨fun h => by rw [h], list_of_bytes8⟩)
 obtain ⟨x, hx⟩ : ∃ x, x = archN.getD k ⟨#[]⟩ := ⟨_, rfl⟩
 rw [← hx] at c0 hv ⊢
 have k2 : (k : Int) < 6 := by omega
 have k3 : (0 : Int) ≤ k := by omega
 clear hx hG c1
 go_enter Tryz.func183, Tryz.ntmps183
 go_wp2
 go_quiet (fail)
 go_wp2
 go_ret
 exact ⟨by rw [hv.out]; rfl, Go.below_drewN (Below.refl _ _) _⟩
def firI (p : Nat → Bool) : Nat := if p 0 then 0 else if p 1 then 1 else if p 2 then 2 else if p 3 then 3 else if p 4 then 4 else if p 5 then 5 else 0
def firB (p : Nat → Bool) : Bool := p 0 || p 1 || p 2 || p 3 || p 4 || p 5
theorem fir_hit {p : Nat → Bool} {k : Nat} (hk : k < 6) (h : p k = true) (hm : ∀ j, j < k → p j = false) : firI p = k ∧ firB p = true := by
 unfold firI firB
 match k, hk, h, hm with
 | 0, _, h, hm => simp [h]
 | 1, _, h, hm => simp [h, hm 0 (by omega)]
 | 2, _, h, hm => simp [h, hm 0 (by omega), hm 1 (by omega)]
 | 3, _, h, hm => simp [h, hm 0 (by omega), hm 1 (by omega), hm 2 (by omega)]
 | 4, _, h, hm => simp [h, hm 0 (by omega), hm 1 (by omega), hm 2 (by omega), hm 3 (by omega)]
 | 5, _, h, hm => simp [h, hm 0 (by omega), hm 1 (by omega), hm 2 (by omega), hm 3 (by omega), hm 4 (by omega)]
 | k + 6, hk, _, _ => omega
theorem fir_miss {p : Nat → Bool} (hm : ∀ j, j < 6 → p j = false) : firI p = 0 ∧ firB p = false := by
 unfold firI firB
 simp [hm 0 (by omega), hm 1 (by omega), hm 2 (by omega), hm 3 (by omega), hm 4 (by omega), hm 5 (by omega)]
set_option maxHeartbeats 1600000 in
theorem find_p (p : Nat → Bool) (b : Nat) (w : World) (HP : ∀ (k : Nat) (W : World), k < 6 → Below w.heap.size w W → Calls Tryz.prog 183 #[.int .i64 k, .pointer (some ⟨b, 0, none⟩)] W fun e w' => e = .returned (.bool (p k)) ∧ Below W.heap.size W w') :
 Calls Tryz.prog 182 #[.func (.func 183) #[] #[.pointer (some ⟨b, 0, none⟩)]] w fun e w' => e = .returned (.tuple #[.int .i64 (firI p : Nat), .bool (firB p)]) ∧ Below w.heap.size w w' := by
 have HP := hid HP
 go_enter Tryz.func182, Tryz.ntmps182
 go_wp2
 go_loopw [5] (fun i wr => ∃ k : Nat, k ≤ 6 ∧ i = .int .i64 k ∧ Hid (∀ j, j < k → p j = false) ∧ Hid (Below w.heap.size w wr)) (fun i _ => 6 - (intOf i).toNat)
 case atStart => exact ⟨0, by omega, rfl, hid (fun j hj => absurd hj (by omega)), hid (Below.refl _ _)⟩
 case round =>
  obtain ⟨k, hk, rfl, hm, hB⟩ := hrel
  by_cases hlt : k < 6
  ·have k1 : (k : Int) < 6 := by omega
   have k0 : (0 : Int) ≤ k := by omega
   have HK := hid (fun W hb => HP.out k W hlt hb)
   have HH := hid (fun h => fir_hit hlt h hm.out)
   have HS := hid (fun (h : p k = false) => (fun j hj => by
    by_cases e : j = k
    ·rw [e]; exact h
    ·exact hm.out j (by omega) : ∀ j, j < k + 1 → p j = false))
   generalize p k = x at HK HH HS
   clear HP hm
   cases x
   ·have hv := hid (HS.out rfl)
    clear HS HH
    go_wp2_with (go_at_call 183; ((with_reducible refine (HK.out _ hB.out).mono ?_); rintro e w1 ⟨rfl, b1⟩); have B1 := hid (thn hB.out b1))
    go_roundw
    case rel => exact ⟨k + 1, by omega, by go_num, hv, B1⟩
    case measure => simp [intOf]; omega
   ·have hv := hid (HH.out rfl)
    clear HS HH
    go_wp2_with (go_at_call 183; ((with_reducible refine (HK.out _ hB.out).mono ?_); rintro e w1 ⟨rfl, b1⟩); have B1 := hid (thn hB.out b1))
    go_ret2
    exact ⟨by rw [hv.out.1, hv.out.2]; rfl, B1.out⟩
  ·obtain rfl : k = 6 := by omega
   have hv := hid (fir_miss hm.out)
   go_wp2
   go_ret2
   exact ⟨by rw [hv.out.1, hv.out.2]; rfl, hB.out⟩
theorem least6 (P : Nat → Prop) [DecidablePred P] : ∀ (k : Nat), k < 6 → P k → ∃ k, k < 6 ∧ (∀ j, j < k → ¬ P j) ∧ P k := by
 intro k
 induction k using Nat.strongRecOn with
 | _ k ih =>
  intro hk h
  by_cases g : ∃ j, j < k ∧ P j
  ·obtain ⟨j, hj, e⟩ := g
   exact ih j hj (Nat.lt_trans hj hk) e
  ·exact ⟨k, hk, fun j hj e => g ⟨j, hj, e⟩, h⟩
def nameT (s : ByteArray) (k : Nat) : Bool := decide (archN.getD k ⟨#[]⟩ = s)
theorem parR_fir (s : ByteArray) : parR s = if s = ⟨#[110, 97, 116, 105, 118, 101]⟩ then ((0 : Int), (0 : Int)) else if firB (nameT s) then (((firI (nameT s) : Nat) : Int), 0) else (0, 80) := by
 by_cases hn : s = ⟨#[110, 97, 116, 105, 118, 101]⟩
 ·subst hn
  rw [if_pos rfl]
  decide +kernel
 ·rw [if_neg hn]
  unfold parR
  by_cases h : ∃ k, k < 6 ∧ archN.getD k ⟨#[]⟩ = s
  ·obtain ⟨k, hk, hm, he⟩ : ∃ k, k < 6 ∧ (∀ j, j < k → archN.getD j ⟨#[]⟩ ≠ s) ∧ archN.getD k ⟨#[]⟩ = s := by
    obtain ⟨k, hk, he⟩ := h
    exact least6 (fun k => archN.getD k ⟨#[]⟩ = s) k hk he
   rw [findN_hit hk he hm]
   obtain ⟨e1, e2⟩ := fir_hit (p := nameT s) hk (decide_eq_true he) (fun j hj => decide_eq_false (hm j hj))
   rw [e1, e2, if_pos rfl]
  ·have hm : ∀ j, j < 6 → archN.getD j ⟨#[]⟩ ≠ s := fun j hj e => h ⟨j, hj, e⟩
   rw [findN_miss hm]
   obtain ⟨e1, e2⟩ := fir_miss (p := nameT s) (fun j hj => decide_eq_false (hm j hj))
   rw [e2]
   simp only
   rw [if_neg hn]
   rfl
set_option maxHeartbeats 1600000 in
theorem parse8 (s : ByteArray) (w : World) (hG : GA8 w) : Calls Tryz.prog 155 #[.string s] w fun e w' => e = .returned (.tuple #[.int .i64 (parR s).1, .int .i64 (parR s).2]) ∧ Below w.heap.size w w' := by
 rw [parR_fir]
 have B0 := hid ((Below.refl w.heap.size w).alloc (Nat.le_refl _) (.cells #[.string s] 9))
 by_cases hn : s = ⟨#[110, 97, 116, 105, 118, 101]⟩
 ·subst hn
  rw [if_pos rfl]
  clear hG
  go_enter Tryz.func155, Tryz.ntmps155
  go_wp2
  go_ret2
  exact ⟨rfl, B0.out⟩
 ·rw [if_neg hn]
  have hbb : (s.toList == [110, 97, 116, 105, 118, 101]) = false := beq_eq_false_iff_ne.2 (fun e => hn (list_of_bytes8 (e.trans (by decide +kernel))))
  have HF := hid (find_p (nameT s) w.heap.size (w.alloc (.cells #[.string s] 9)) (fun k W hk hb => pclos k hk s w.heap.size W ((hG.al _).on hb) ((hb.cell (p := ⟨w.heap.size, 0, none⟩) (by simp)).trans (by simp [go_sem]))))
  obtain ⟨k, hk⟩ : ∃ k, k = firI (nameT s) := ⟨_, rfl⟩
  rw [← hk] at HF ⊢
  generalize firB (nameT s) = z at HF ⊢
  clear hk hn hG
  cases z
  ·go_enter Tryz.func155, Tryz.ntmps155
   go_wp2_with (go_at_call 182; ((with_reducible refine (HF.out).mono ?_); rintro e w1 ⟨rfl, b1⟩))
   go_ret2
   exact ⟨rfl, thn B0.out b1⟩
  ·go_enter Tryz.func155, Tryz.ntmps155
   go_wp2_with (go_at_call 182; ((with_reducible refine (HF.out).mono ?_); rintro e w1 ⟨rfl, b1⟩))
   go_ret2
   exact ⟨rfl, thn B0.out b1⟩
end Go.Proofs.YtlenjfodjkhpmaaGreatDoor
