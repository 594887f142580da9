/- The landed restrict's policy with lists of its own; the library's Clone at numbers. Condition: lists of at most 1,000. -/
import Derived.Test.YtbjhleajhkofeaaDoorF2
import Derived.Test.YtbjhleajhkofeaaDoorP8
namespace Go.Proofs.YtbjhleajhkofeaaDoor
open Go.RowKit
set_option linter.unusedVariables false
set_option linter.unusedSimpArgs false
attribute [local go_sem ↓] Go.wp_at_zero Go.wp_at_succ

set_option maxRecDepth 100000 in
set_option maxHeartbeats 4000000 in
/-- Clone: the numbers in a row of the call's own. -/
theorem clone_i18 (q : Option Addr) (n c : Nat) (L : List Int) (w : World) (hl : n = L.length) (hn : n ≤ 100000) (h : NumsAt .i64 w q L) : Calls Tryd.prog 37 #[.slice q n c] w fun e w' => ∃ q' c', e = .returned (.slice q' n c') ∧ w'.ownsRow w.heap.size 3 1 (.slice q' n c') n (L.map (Value.int .i64)) ∧ Below w.heap.size w w' := by
  have q22 : ∀ (w : World) (a : Option Addr) (n c n' c' : Nat), (binOp .eql 24 (.slice a n c) (.slice none n' c')).run Tryd.prog w = .ok (.bool a.isNone) w := fun w a n c n' c' => Lib.run_eql_slice_nil w _ _ a n c n' c' Tryd.underlying24
  cases q with
  | none =>
    obtain rfl : L = [] := by
      cases L with
      | nil => rfl
      | cons x r => obtain ⟨g, o, e, _⟩ := h 0 x rfl; cases e
    obtain rfl : n = 0 := hl
    clear h hn
    go_enter Tryd.func37, Tryd.ntmps37
    go_wp2
    go_ret
    exact ⟨none, 0, rfl, World.ownsRow_nil _ _ _ _, Below.refl _ _⟩
  | some ad =>
    obtain ⟨i0, hi0, hz0, hz1, hz2⟩ := info_parts (show (Tryd.prog.info? 3).map (fun i => (i.zero, i.size, i.bytes)) = some (some (.int .i64 0), 1, 8) by kernel_rfl)
    have HI := Lib.hid hi0
    have HZ0 := Lib.hid hz0
    have HZ1 := Lib.hid hz1
    have HZ2 := Lib.hid hz2
    have HN := Lib.hid (show ∀ j u, (L.map (Value.int .i64))[j]? = some u → w.cell? (ad.add j) = some u from fun j u hu => by
      have h0 : 0 < L.length := by
        rcases Nat.eq_zero_or_pos L.length with e | e
        · rw [List.eq_nil_of_length_eq_zero e] at hu; simp at hu
        · exact e
      obtain ⟨ad', e, hc⟩ := nums_flat17 h h0
      injection e with e
      subst e
      exact hc j u hu)
    have HL := Lib.hid hl
    have HM := Lib.hid hn
    clear hi0 hz0 hz1 hz2 h hl hn
    go_enter Tryd.func37, Tryd.ntmps37
    go_wp2_with (at_builtin
                 go_loud (refine wpList_append_own _ rfl _ _ 24 rfl w.heap.size 3 i0 _ 1 8 Tryd.underlying24 HI.out HZ0.out HZ1.out HZ2.out rfl (by decide) _ _ _ rfl (World.ownsRow_made w #[] 0 (Nat.le_refl _) (Nat.zero_le _) rfl) ad n c (L.map (Value.int .i64)) rfl ?qc1 ?qc2 ?qc3 ?qc4 ?qc5 ?qc6 ?_))
    case qc1 => rw [List.length_map, HL.out, Nat.mul_one]
    case qc2 => exact fun j u hu => cell_alloc16 (HN.out j u hu)
    case qc3 => exact nums_one17 _ _
    case qc4 => have := HM.out; unfold maxLen; omega
    case qc5 => have := HM.out; omega
    case qc6 => rw [World.size_alloc]; exact Nat.le_succ _
    intro v' w' h1 h2 h3
    obtain ⟨q', c', rfl⟩ := own16 h1
    go_wp2
    go_ret
    exact ⟨q', c', rfl, by simpa using h1, (below16 w _).grown h2 (by rw [World.size_alloc]; exact Nat.le_succ _) (fun k e => Nat.le_of_eq (Option.some.inj e))⟩
set_option maxRecDepth 100000 in
set_option maxHeartbeats 4000000 in
/-- Clone: the numbers in a row of the call's own. -/
theorem clone_u18 (q : Option Addr) (n c : Nat) (L : List Int) (w : World) (hl : n = L.length) (hn : n ≤ 100000) (h : NumsAt .u32 w q L) : Calls Tryd.prog 39 #[.slice q n c] w fun e w' => ∃ q' c', e = .returned (.slice q' n c') ∧ w'.ownsRow w.heap.size 28 1 (.slice q' n c') n (L.map (Value.int .u32)) ∧ Below w.heap.size w w' := by
  have q22 : ∀ (w : World) (a : Option Addr) (n c n' c' : Nat), (binOp .eql 29 (.slice a n c) (.slice none n' c')).run Tryd.prog w = .ok (.bool a.isNone) w := fun w a n c n' c' => Lib.run_eql_slice_nil w _ _ a n c n' c' Tryd.underlying29
  cases q with
  | none =>
    obtain rfl : L = [] := by
      cases L with
      | nil => rfl
      | cons x r => obtain ⟨g, o, e, _⟩ := h 0 x rfl; cases e
    obtain rfl : n = 0 := hl
    clear h hn
    go_enter Tryd.func39, Tryd.ntmps39
    go_wp2
    go_ret
    exact ⟨none, 0, rfl, World.ownsRow_nil _ _ _ _, Below.refl _ _⟩
  | some ad =>
    obtain ⟨i0, hi0, hz0, hz1, hz2⟩ := info_parts (show (Tryd.prog.info? 28).map (fun i => (i.zero, i.size, i.bytes)) = some (some (.int .u32 0), 1, 4) by kernel_rfl)
    have HI := Lib.hid hi0
    have HZ0 := Lib.hid hz0
    have HZ1 := Lib.hid hz1
    have HZ2 := Lib.hid hz2
    have HN := Lib.hid (show ∀ j u, (L.map (Value.int .u32))[j]? = some u → w.cell? (ad.add j) = some u from fun j u hu => by
      have h0 : 0 < L.length := by
        rcases Nat.eq_zero_or_pos L.length with e | e
        · rw [List.eq_nil_of_length_eq_zero e] at hu; simp at hu
        · exact e
      obtain ⟨ad', e, hc⟩ := nums_flat17 h h0
      injection e with e
      subst e
      exact hc j u hu)
    have HL := Lib.hid hl
    have HM := Lib.hid hn
    clear hi0 hz0 hz1 hz2 h hl hn
    go_enter Tryd.func39, Tryd.ntmps39
    go_wp2_with (at_builtin
                 go_loud (refine wpList_append_own _ rfl _ _ 29 rfl w.heap.size 28 i0 _ 1 4 Tryd.underlying29 HI.out HZ0.out HZ1.out HZ2.out rfl (by decide) _ _ _ rfl (World.ownsRow_made w #[] 0 (Nat.le_refl _) (Nat.zero_le _) rfl) ad n c (L.map (Value.int .u32)) rfl ?qc1 ?qc2 ?qc3 ?qc4 ?qc5 ?qc6 ?_))
    case qc1 => rw [List.length_map, HL.out, Nat.mul_one]
    case qc2 => exact fun j u hu => cell_alloc16 (HN.out j u hu)
    case qc3 => exact nums_one17 _ _
    case qc4 => have := HM.out; unfold maxLen; omega
    case qc5 => have := HM.out; omega
    case qc6 => rw [World.size_alloc]; exact Nat.le_succ _
    intro v' w' h1 h2 h3
    obtain ⟨q', c', rfl⟩ := own16 h1
    go_wp2
    go_ret
    exact ⟨q', c', rfl, by simpa using h1, (below16 w _).grown h2 (by rw [World.size_alloc]; exact Nat.le_succ _) (fun k e => Nat.le_of_eq (Option.some.inj e))⟩
set_option maxRecDepth 100000 in
set_option maxHeartbeats 16000000 in
theorem own_c18 (p : Pls) (P : Pol) (w : World) (hP : PolAt w p P) (ha : p.an ≤ 20000) (hfl : p.fn ≤ 20000) (hll : p.ln ≤ 20000) (hm : p.mn ≤ 20000) : Calls Tryd.prog 24 #[plV p P] w fun e w' => ∃ p', e = .returned (plV p' P) ∧ OwnP w.heap.size w' p' P ∧ Below w.heap.size w w' := by
  obtain ⟨aq, an, ac, fq, fn, fc, lq, ln, lc, mq, mn, mc⟩ := p
  simp only at ha hfl hll hm
  obtain ⟨NM, hNM⟩ : ∃ l : List Int, l = P.fa.map fun (x : Nat) => (x : Int) := ⟨_, rfl⟩
  have HNM := Lib.hid hNM
  have HL0 := Lib.hid (show an = P.ar.length from hP.al)
  have HL1 := Lib.hid (show mn = NM.length by rw [hNM, List.length_map]; exact hP.ml)
  have HF := Lib.hid (show fn = P.fl.2.length from hP.fl)
  have HG := Lib.hid (show ln = P.lg.2.length from hP.ll)
  have HC0 := Lib.hid (fun (X : World) (b : Below w.heap.size w X) => clone_i18 aq an ac P.ar X hP.al (by omega) (hP.ar.on b))
  have HC1 := Lib.hid (fun (X : World) (b : Below w.heap.size w X) => clone_l fq fn fc P.fl.2 X hP.fl (by omega) (hP.fi.on b))
  have HC2 := Lib.hid (fun (X : World) (b : Below w.heap.size w X) => clone_l lq ln lc P.lg.2 X hP.ll (by omega) (hP.lo.on b))
  have HC3 := Lib.hid (fun (X : World) (b : Below w.heap.size w X) => clone_u18 mq mn mc NM X HL1.out (by omega) (by rw [hNM]; exact hP.fa.on b))
  obtain ⟨W, hW⟩ : ∃ W, W = (w.alloc (.cells #[.slice aq an ac, .int .u8 (P.fl.1 : Nat), .slice fq fn fc, .int .u32 (P.dn : Nat), .int .u8 (P.lg.1 : Nat), .slice lq ln lc, .slice mq mn mc, .int .u8 (P.fm : Nat), .int .u64 (P.sp : Nat), .bool P.b1, .bool P.b2, .bool P.b3, .bool P.b4] 32)).alloc (.cells #[.slice none 0 0, .int .u8 0, .slice none 0 0, .int .u32 0, .int .u8 0, .slice none 0 0, .slice none 0 0, .int .u8 0, .int .u64 0, .bool false, .bool false, .bool false, .bool false] 32) := ⟨_, rfl⟩
  have CWW := Lib.hid (show C17 w ⟨aq, an, ac, fq, fn, fc, lq, ln, lc, mq, mn, mc⟩ P W from
    ⟨hW ▸ ((Below.refl _ _).alloc (Nat.le_refl _) _).alloc (by rw [World.size_alloc]; exact Nat.le_succ _) _, by rw [hW]; exact (Below.heap_alloc _ _ _ (by rw [World.size_alloc]; exact Nat.lt_succ_self _)).trans (heap_alloc_new w _), by rw [hW, ← World.size_alloc w]; exact heap_alloc_new _ _⟩)
  have HWW := Lib.hid hW
  rw [show plV ⟨aq, an, ac, fq, fn, fc, lq, ln, lc, mq, mn, mc⟩ P = .agg #[.slice aq an ac, .int .u8 (P.fl.1 : Nat), .slice fq fn fc, .int .u32 (P.dn : Nat), .int .u8 (P.lg.1 : Nat), .slice lq ln lc, .slice mq mn mc, .int .u8 (P.fm : Nat), .int .u64 (P.sp : Nat), .bool P.b1, .bool P.b2, .bool P.b3, .bool P.b4] from rfl]
  clear hP hNM hW
  go_enter Tryd.func24, Tryd.ntmps24
  go_wp2_with (first
  | (go_at_call 37
     rw [← HWW.out]
     ((with_reducible refine (HC0.out W CWW.out.bel).mono ?_); rintro e w1 ⟨qA, cA, rfl, o6, b⟩)
     have CWw1 := Lib.hid (CWW.out.on b)
     have RAw1 := Lib.hid (owns_low16 o6 CWW.out.bel.size)
     clear o6 b)
  | ((with_reducible show wpList _ _ _ (⟨none, .store 24 (.tmp 6) (.tmp 5), _, _, _, _⟩ :: _) _ _)
     refine wpList_store_cell17 rfl 24 (.tmp 6) (.tmp 5) rfl w.heap.size 0 (.slice qA an cA) (by rfl) (by rfl) rfl (there_row17 CWw1.out.pol (show 0 + 1 ≤ 13 by decide)) (by kernel_rfl) ?_
     have CWY1 := Lib.hid (CWw1.out.store (p' := ⟨qA, an, cA, fq, fn, fc, lq, ln, lc, mq, mn, mc⟩) 0 [.slice qA an cA] (show 0 + 1 ≤ 13 by decide) rfl)
     have RAY1 := Lib.hid (rows_box17 (i := 0) CWw1.out.pol (by decide) RAw1.out [.slice qA an cA])
     generalize w1.setCells w.heap.size 0 [.slice qA an cA] = Y1 at CWY1 RAY1 ⊢
     obtain ⟨f0, f1, f2, f3, f4, f5, f6, f7, f8, f9, f10, f11, f12⟩ := (show Y1.cell? ⟨w.heap.size, 0, none⟩ = some (.slice qA an cA) ∧ Y1.cell? ⟨w.heap.size, 1, none⟩ = some (.int .u8 (P.fl.1 : Nat)) ∧ Y1.cell? ⟨w.heap.size, 2, none⟩ = some (.slice fq fn fc) ∧ Y1.cell? ⟨w.heap.size, 3, none⟩ = some (.int .u32 (P.dn : Nat)) ∧ Y1.cell? ⟨w.heap.size, 4, none⟩ = some (.int .u8 (P.lg.1 : Nat)) ∧ Y1.cell? ⟨w.heap.size, 5, none⟩ = some (.slice lq ln lc) ∧ Y1.cell? ⟨w.heap.size, 6, none⟩ = some (.slice mq mn mc) ∧ Y1.cell? ⟨w.heap.size, 7, none⟩ = some (.int .u8 (P.fm : Nat)) ∧ Y1.cell? ⟨w.heap.size, 8, none⟩ = some (.int .u64 (P.sp : Nat)) ∧ Y1.cell? ⟨w.heap.size, 9, none⟩ = some (.bool P.b1) ∧ Y1.cell? ⟨w.heap.size, 10, none⟩ = some (.bool P.b2) ∧ Y1.cell? ⟨w.heap.size, 11, none⟩ = some (.bool P.b3) ∧ Y1.cell? ⟨w.heap.size, 12, none⟩ = some (.bool P.b4) from pcells17 CWY1.out.pol)
     clear CWw1 RAw1)
  | (go_at_call 38
     skip
     ((with_reducible refine (HC1.out Y1 CWY1.out.bel).mono ?_); rintro e w2 ⟨qF, cF, rfl, o6, b⟩)
     have CWw2 := Lib.hid (CWY1.out.on b)
     have RFw2 := Lib.hid (owns_low16 o6 CWY1.out.bel.size)
     have RAw2 := Lib.hid (owns_on16 RAY1.out b)
     clear o6 b)
  | ((with_reducible show wpList _ _ _ (⟨none, .store 25 (.tmp 12) (.tmp 10), _, _, _, _⟩ :: _) _ _)
     refine wpList_store_cell17 rfl 25 (.tmp 12) (.tmp 10) rfl w.heap.size 2 (.slice qF fn cF) (by rfl) (by rfl) rfl (there_row17 CWw2.out.pol (show 2 + 1 ≤ 13 by decide)) (by kernel_rfl) ?_
     have CWY2 := Lib.hid (CWw2.out.store (p' := ⟨qA, an, cA, qF, fn, cF, lq, ln, lc, mq, mn, mc⟩) 2 [.slice qF fn cF] (show 2 + 1 ≤ 13 by decide) rfl)
     have RAY2 := Lib.hid (rows_box17 (i := 2) CWw2.out.pol (by decide) RAw2.out [.slice qF fn cF])
     have RFY2 := Lib.hid (rows_box17 (i := 2) CWw2.out.pol (by decide) RFw2.out [.slice qF fn cF])
     generalize w2.setCells w.heap.size 2 [.slice qF fn cF] = Y2 at CWY2 RAY2 RFY2 ⊢
     obtain ⟨f0, f1, f2, f3, f4, f5, f6, f7, f8, f9, f10, f11, f12⟩ := (show Y2.cell? ⟨w.heap.size, 0, none⟩ = some (.slice qA an cA) ∧ Y2.cell? ⟨w.heap.size, 1, none⟩ = some (.int .u8 (P.fl.1 : Nat)) ∧ Y2.cell? ⟨w.heap.size, 2, none⟩ = some (.slice qF fn cF) ∧ Y2.cell? ⟨w.heap.size, 3, none⟩ = some (.int .u32 (P.dn : Nat)) ∧ Y2.cell? ⟨w.heap.size, 4, none⟩ = some (.int .u8 (P.lg.1 : Nat)) ∧ Y2.cell? ⟨w.heap.size, 5, none⟩ = some (.slice lq ln lc) ∧ Y2.cell? ⟨w.heap.size, 6, none⟩ = some (.slice mq mn mc) ∧ Y2.cell? ⟨w.heap.size, 7, none⟩ = some (.int .u8 (P.fm : Nat)) ∧ Y2.cell? ⟨w.heap.size, 8, none⟩ = some (.int .u64 (P.sp : Nat)) ∧ Y2.cell? ⟨w.heap.size, 9, none⟩ = some (.bool P.b1) ∧ Y2.cell? ⟨w.heap.size, 10, none⟩ = some (.bool P.b2) ∧ Y2.cell? ⟨w.heap.size, 11, none⟩ = some (.bool P.b3) ∧ Y2.cell? ⟨w.heap.size, 12, none⟩ = some (.bool P.b4) from pcells17 CWY2.out.pol)
     clear CWw2 RAw2 RFw2)
  | (go_at_call 38
     skip
     ((with_reducible refine (HC2.out Y2 CWY2.out.bel).mono ?_); rintro e w3 ⟨qG, cG, rfl, o6, b⟩)
     have CWw3 := Lib.hid (CWY2.out.on b)
     have RGw3 := Lib.hid (owns_low16 o6 CWY2.out.bel.size)
     have RAw3 := Lib.hid (owns_on16 RAY2.out b)
     have RFw3 := Lib.hid (owns_on16 RFY2.out b)
     clear o6 b)
  | ((with_reducible show wpList _ _ _ (⟨none, .store 25 (.tmp 18) (.tmp 16), _, _, _, _⟩ :: _) _ _)
     refine wpList_store_cell17 rfl 25 (.tmp 18) (.tmp 16) rfl w.heap.size 5 (.slice qG ln cG) (by rfl) (by rfl) rfl (there_row17 CWw3.out.pol (show 5 + 1 ≤ 13 by decide)) (by kernel_rfl) ?_
     have CWY3 := Lib.hid (CWw3.out.store (p' := ⟨qA, an, cA, qF, fn, cF, qG, ln, cG, mq, mn, mc⟩) 5 [.slice qG ln cG] (show 5 + 1 ≤ 13 by decide) rfl)
     have RAY3 := Lib.hid (rows_box17 (i := 5) CWw3.out.pol (by decide) RAw3.out [.slice qG ln cG])
     have RFY3 := Lib.hid (rows_box17 (i := 5) CWw3.out.pol (by decide) RFw3.out [.slice qG ln cG])
     have RGY3 := Lib.hid (rows_box17 (i := 5) CWw3.out.pol (by decide) RGw3.out [.slice qG ln cG])
     generalize w3.setCells w.heap.size 5 [.slice qG ln cG] = Y3 at CWY3 RAY3 RFY3 RGY3 ⊢
     obtain ⟨f0, f1, f2, f3, f4, f5, f6, f7, f8, f9, f10, f11, f12⟩ := (show Y3.cell? ⟨w.heap.size, 0, none⟩ = some (.slice qA an cA) ∧ Y3.cell? ⟨w.heap.size, 1, none⟩ = some (.int .u8 (P.fl.1 : Nat)) ∧ Y3.cell? ⟨w.heap.size, 2, none⟩ = some (.slice qF fn cF) ∧ Y3.cell? ⟨w.heap.size, 3, none⟩ = some (.int .u32 (P.dn : Nat)) ∧ Y3.cell? ⟨w.heap.size, 4, none⟩ = some (.int .u8 (P.lg.1 : Nat)) ∧ Y3.cell? ⟨w.heap.size, 5, none⟩ = some (.slice qG ln cG) ∧ Y3.cell? ⟨w.heap.size, 6, none⟩ = some (.slice mq mn mc) ∧ Y3.cell? ⟨w.heap.size, 7, none⟩ = some (.int .u8 (P.fm : Nat)) ∧ Y3.cell? ⟨w.heap.size, 8, none⟩ = some (.int .u64 (P.sp : Nat)) ∧ Y3.cell? ⟨w.heap.size, 9, none⟩ = some (.bool P.b1) ∧ Y3.cell? ⟨w.heap.size, 10, none⟩ = some (.bool P.b2) ∧ Y3.cell? ⟨w.heap.size, 11, none⟩ = some (.bool P.b3) ∧ Y3.cell? ⟨w.heap.size, 12, none⟩ = some (.bool P.b4) from pcells17 CWY3.out.pol)
     clear CWw3 RAw3 RFw3 RGw3)
  | (go_at_call 39
     skip
     ((with_reducible refine (HC3.out Y3 CWY3.out.bel).mono ?_); rintro e w4 ⟨qM, cM, rfl, o6, b⟩)
     have CWw4 := Lib.hid (CWY3.out.on b)
     have RMw4 := Lib.hid (owns_low16 o6 CWY3.out.bel.size)
     have RAw4 := Lib.hid (owns_on16 RAY3.out b)
     have RFw4 := Lib.hid (owns_on16 RFY3.out b)
     have RGw4 := Lib.hid (owns_on16 RGY3.out b)
     clear o6 b)
  | ((with_reducible show wpList _ _ _ (⟨none, .store 29 (.tmp 22) (.tmp 21), _, _, _, _⟩ :: _) _ _)
     refine wpList_store_cell17 rfl 29 (.tmp 22) (.tmp 21) rfl w.heap.size 6 (.slice qM mn cM) (by rfl) (by rfl) rfl (there_row17 CWw4.out.pol (show 6 + 1 ≤ 13 by decide)) (by kernel_rfl) ?_
     have CWY4 := Lib.hid (CWw4.out.store (p' := ⟨qA, an, cA, qF, fn, cF, qG, ln, cG, qM, mn, cM⟩) 6 [.slice qM mn cM] (show 6 + 1 ≤ 13 by decide) rfl)
     have RAY4 := Lib.hid (rows_box17 (i := 6) CWw4.out.pol (by decide) RAw4.out [.slice qM mn cM])
     have RFY4 := Lib.hid (rows_box17 (i := 6) CWw4.out.pol (by decide) RFw4.out [.slice qM mn cM])
     have RGY4 := Lib.hid (rows_box17 (i := 6) CWw4.out.pol (by decide) RGw4.out [.slice qM mn cM])
     have RMY4 := Lib.hid (rows_box17 (i := 6) CWw4.out.pol (by decide) RMw4.out [.slice qM mn cM])
     generalize w4.setCells w.heap.size 6 [.slice qM mn cM] = Y4 at CWY4 RAY4 RFY4 RGY4 RMY4 ⊢
     obtain ⟨f0, f1, f2, f3, f4, f5, f6, f7, f8, f9, f10, f11, f12⟩ := (show Y4.cell? ⟨w.heap.size, 0, none⟩ = some (.slice qA an cA) ∧ Y4.cell? ⟨w.heap.size, 1, none⟩ = some (.int .u8 (P.fl.1 : Nat)) ∧ Y4.cell? ⟨w.heap.size, 2, none⟩ = some (.slice qF fn cF) ∧ Y4.cell? ⟨w.heap.size, 3, none⟩ = some (.int .u32 (P.dn : Nat)) ∧ Y4.cell? ⟨w.heap.size, 4, none⟩ = some (.int .u8 (P.lg.1 : Nat)) ∧ Y4.cell? ⟨w.heap.size, 5, none⟩ = some (.slice qG ln cG) ∧ Y4.cell? ⟨w.heap.size, 6, none⟩ = some (.slice qM mn cM) ∧ Y4.cell? ⟨w.heap.size, 7, none⟩ = some (.int .u8 (P.fm : Nat)) ∧ Y4.cell? ⟨w.heap.size, 8, none⟩ = some (.int .u64 (P.sp : Nat)) ∧ Y4.cell? ⟨w.heap.size, 9, none⟩ = some (.bool P.b1) ∧ Y4.cell? ⟨w.heap.size, 10, none⟩ = some (.bool P.b2) ∧ Y4.cell? ⟨w.heap.size, 11, none⟩ = some (.bool P.b3) ∧ Y4.cell? ⟨w.heap.size, 12, none⟩ = some (.bool P.b4) from pcells17 CWY4.out.pol)
     clear CWw4 RAw4 RFw4 RGw4 RMw4)
  | ((with_reducible show wpList _ _ _ (⟨none, .store 32 (.tmp 2) (.tmp 23), _, _, _, _⟩ :: _) _ _)
     refine wpList_store_mid rfl 32 (.tmp 2) (.tmp 23) rfl (w.heap.size + 1) 0 (plC ⟨qA, an, cA, qF, fn, cF, qG, ln, cG, qM, mn, cM⟩ P).toArray (by rfl) (by rfl) (there_row17 CWY4.out.res (show 0 + 13 ≤ 13 by decide)) pl_info (plC_one _ _) ?_
     show wpList _ _ _ _ _ (Y4.setCells (w.heap.size + 1) 0 (plC ⟨qA, an, cA, qF, fn, cF, qG, ln, cG, qM, mn, cM⟩ P))
     have hl := run_loadVar_mid (P := Tryd.prog) (Y4.setCells (w.heap.size + 1) 0 (plC ⟨qA, an, cA, qF, fn, cF, qG, ln, cG, qM, mn, cM⟩ P)) (w.heap.size + 1) 0 32 (plC ⟨qA, an, cA, qF, fn, cF, qG, ln, cG, qM, mn, cM⟩ P) _ (World.rangeAt_setCells_same Y4 _ 0 _ (there_row17 CWY4.out.res (show 0 + 13 ≤ 13 by decide))) Tryd.underlying32 rfl pl_info
     have HB := Lib.hid (below_setCells16 (show w.heap.size ≤ w.heap.size + 1 by omega) (plC ⟨qA, an, cA, qF, fn, cF, qG, ln, cG, qM, mn, cM⟩ P) 0 _ CWY4.out.bel)
     have RAZ := Lib.hid (rows_box17 (i := 0) CWY4.out.res (by decide) RAY4.out (plC ⟨qA, an, cA, qF, fn, cF, qG, ln, cG, qM, mn, cM⟩ P))
     have RFZ := Lib.hid (rows_box17 (i := 0) CWY4.out.res (by decide) RFY4.out (plC ⟨qA, an, cA, qF, fn, cF, qG, ln, cG, qM, mn, cM⟩ P))
     have RGZ := Lib.hid (rows_box17 (i := 0) CWY4.out.res (by decide) RGY4.out (plC ⟨qA, an, cA, qF, fn, cF, qG, ln, cG, qM, mn, cM⟩ P))
     have RMZ := Lib.hid (rows_box17 (i := 0) CWY4.out.res (by decide) RMY4.out (plC ⟨qA, an, cA, qF, fn, cF, qG, ln, cG, qM, mn, cM⟩ P))
     generalize Y4.setCells (w.heap.size + 1) 0 (plC ⟨qA, an, cA, qF, fn, cF, qG, ln, cG, qM, mn, cM⟩ P) = Z at hl HB RAZ RFZ RGZ RMZ ⊢)
  | fail)
  (try simp only [Exit.inBlock, Exit.then])
  refine bodyPost_ret (v := .agg (plC ⟨qA, an, cA, qF, fn, cF, qG, ln, cG, qM, mn, cM⟩ P).toArray) (results_one16 Tryd.results24 ?_ hl) rfl ⟨⟨qA, an, cA, qF, fn, cF, qG, ln, cG, qM, mn, cM⟩, rfl, ⟨HL0.out, HF.out, HG.out, ?_, RAZ.out, RFZ.out, RGZ.out, ?_⟩, HB.out⟩
  · rfl
  · exact HL1.out.trans (by rw [HNM.out, List.length_map])
  · rw [← HNM.out]
    exact RMZ.out
end Go.Proofs.YtbjhleajhkofeaaDoor
