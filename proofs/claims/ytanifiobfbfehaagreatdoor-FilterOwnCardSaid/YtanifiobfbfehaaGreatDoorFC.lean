/- The landed fold's Step of any list, its Fold; all its calls return what the chapter says. Conditions: names' tables lie in their variables; lists of at most 1,000 calls, values of at most 1,000 bytes. -/
import Derived.Test.YtanifiobfbfehaaGreatDoorFB
namespace Go.Proofs.YtanifiobfbfehaaGreatDoor
open Go.RowKit Go.Shelf
set_option linter.unusedVariables false
set_option linter.unusedSimpArgs false
attribute [local go_sem ↓] Go.wp_at_zero Go.wp_at_succ

theorem rows_flat {w : World} {q : Option Addr} {n c : Nat} {O : List Nte} (h : RowsAt 4 encN w (.slice q n c) O) (h0 : 0 < O.length) : ∃ ad, q = some ad ∧ ∀ j u, (rowC encN O)[j]? = some u → w.cell? (ad.add j) = some u := by
  obtain ⟨q', c', e, hr⟩ := h
  injection e with e1 e2 e3
  subst e1
  obtain ⟨g, o, e, _⟩ := hr 0 O[0] (List.getElem?_eq_getElem h0)
  refine ⟨_, e, fun j u hu => ?_⟩
  have hj : j < O.length * 4 := by rw [← rowC_length encN_len]; exact (List.getElem?_eq_some_iff.1 hu).1
  have hk : O[j / 4]? = some (O[j / 4]'(by omega)) := List.getElem?_eq_getElem _
  obtain ⟨g', o', e', hc⟩ := hr (j / 4) _ hk
  rw [e] at e'
  injection e' with e'
  injection e' with e1 e2
  subst e1 e2
  rw [Addr.add_lit]
  have hm : j % 4 < (encN (O[j / 4]'(by omega))).length := by rw [encN_len]; exact Nat.mod_lt _ (by decide)
  have hv := List.getElem?_eq_getElem hm
  have h1 := rowC_get encN_len hk (j % 4) _ hv
  rw [show j / 4 * 4 + j % 4 = j by omega, hu] at h1
  injection h1 with h1
  have h2 := hc (j % 4) _ hv
  rw [← h1, show o + j / 4 * 4 + j % 4 = o + j by omega] at h2
  exact h2
theorem fw_keep {w : World} {m : Nat} {L : List Cl} {q : Option Addr} {n c : Nat} {N : List Nte} {vN : Value} {W wA : World} (h : FW w m L q n c N vN W) (hg : W.grownBy wA vN.ownBlock) {k : Nat} {cs : Array Value} {t : TypeId} {fz : Nat × Nat} (hk : W.heap[k]? = some (.cells cs t fz)) (ht : t ≠ 51) : wA.heap[k]? = some (.cells cs t fz) := by
  refine (hg.block k (Array.getElem?_eq_some_iff.1 hk).1 (fun e => ?_)).trans hk
  rcases h.nts.2 with ⟨hv, _⟩ | ⟨g, cap, cur, hv, hB, hg2, _⟩
  · rw [hv] at e; cases e
  · rw [hv] at e
    have e2 : k = g := Option.some.inj e
    exact ne_type16 hk hg2 ht e2
/-- Step of any list. -/
theorem step_all (m : Nat) (q : Option Addr) (n cap : Nat) (L : List Cl) (v : ByteArray) (sfx : Bool) (w : World) (hG : GN w) (hmm : m < 256) (hl : n = L.length) (hn : n ≤ 100000) (ha : ∀ e ∈ L, e.2 < 4294967296) (hv : v.size ≤ 1000) (h : LsAt w q L) : Calls Tryz.prog 32 #[lsV m q n cap, .string v, .bool sfx] w fun e w' => ∃ q' n' c' vN, e = .returned (.tuple #[lsV (stepA sfx v (m, L)).1.1 q' n' c', vN]) ∧ n' = (stepA sfx v (m, L)).1.2.length ∧ w'.ownsRow w.heap.size 71 2 (.slice q' n' c') n' (rowC encC (stepA sfx v (m, L)).1.2) ∧ w'.ownsRow w.heap.size 51 4 vN (stepA sfx v (m, L)).2.length (rowC encN ((stepA sfx v (m, L)).2.map nteS)) ∧ Below w.heap.size w w' := by
  unfold stepA
  cases hm : mayR knownR m L with
  | false =>
    rw [if_neg Bool.noConfusion]
    exact (step_no m q n cap L v sfx w hG hmm hl hn ha hv h hm).mono fun e w' ⟨q', n', c', h1, h2, h3, h4⟩ => ⟨q', n', c', _, h1, h2, h3, World.ownsRow_nil _ _ _ _, h4⟩
  | true =>
    rw [if_pos rfl]
    by_cases h0 : wdL v.data.toList = []
    · rw [show stepC knownR grpX sfx v (m, L) = ((0, []), []) by unfold stepC; rw [if_pos h0]]
      exact (step_nil m q n cap L v sfx w hG hmm hl hn ha hv h hm h0).mono fun e w' ⟨h1, h2⟩ => ⟨none, 0, 0, _, h1, rfl, World.ownsRow_nil _ _ _ _, World.ownsRow_nil _ _ _ _, h2⟩
    · exact step_go m q n cap L v sfx w hG hmm hl hn ha hv h hm h0
set_option maxRecDepth 100000 in
set_option maxHeartbeats 32000000 in
theorem fold_c (u : Value) (V : List ByteArray) (sfx : Bool) (w : World) (hG : GN w) (hV : StrsAt w u V) (hn : V.length ≤ 100) (hs : ∀ x ∈ V, x.size ≤ 1000) : Calls Tryz.prog 21 #[u, .bool sfx] w fun e w' => FoldL w w' e (foldK sfx V V.length) := by
  obtain ⟨j0, hj0, hy0, hy1, hy2⟩ := info_parts nte_info
  have JI := Lib.hid hj0
  have JZ0 := Lib.hid hy0
  have JZ1 := Lib.hid hy1
  have JZ2 := Lib.hid hy2
  clear hj0 hy0 hy1 hy2
  have HIN := Lib.hid (show (Tryz.prog.info? 25).map (·.size) = some 2 by kernel_rfl)
  obtain ⟨qu, cu, rfl, hr⟩ := hV
  have HR := Lib.hid hr
  obtain ⟨nV, hnV⟩ : ∃ k, k = V.length := ⟨_, rfl⟩
  have HNV := Lib.hid hnV
  rw [← hnV] at hn ⊢
  have HS := Lib.hid hs
  have HG := Lib.hid hG
  obtain ⟨F, hF⟩ : ∃ F, F = foldK sfx V := ⟨_, rfl⟩
  have HF := Lib.hid hF
  rw [← hF]
  unfold FoldL lsV
  obtain ⟨W, hW⟩ : ∃ W, W = (w.alloc (.cells #[.int .u8 0, .slice none 0 0] 25)).alloc (.cells #[.int .u8 0, .slice none 0 0] 25) := ⟨_, rfl⟩
  have S0 := Lib.hid (show FW w (F 0).1.1 (F 0).1.2 none 0 0 ((F 0).2.map nteS) (.slice none 0 0) W from by
    rw [hF]
    exact ⟨hW ▸ ((Below.refl _ _).alloc (Nat.le_refl _) _).alloc (by rw [World.size_alloc]; omega) _, by rw [hW, heap_old16], by rw [hW, heap_new16]; rfl, rfl, Or.inl rfl, World.ownsRow_nil _ _ _ _⟩)
  obtain ⟨fm, hfm⟩ : ∃ x : Int, x = ((F nV).1.1 : Nat) := ⟨_, rfl⟩
  have HFM := Lib.hid hfm
  rw [← hfm]
  clear hr hnV hs hF hfm hG
  go_enter Tryz.func21, Tryz.ntmps21
  go_wp2
  rw [← hW]
  clear hW
  go_loopw [7, 14] (fun v7 v14 wr => ∃ (k : Nat) (q : Option Addr) (n c : Nat), k ≤ nV ∧ v14 = .int .i64 k ∧ Hid (FW w (F k).1.1 (F k).1.2 q n c ((F k).2.map nteS) v7 wr)) (fun _ v14 _ => nV - (intOf v14).toNat)
  case atStart => exact ⟨0, none, 0, 0, by omega, rfl, S0⟩
  case round =>
    clear S0
    obtain ⟨k, q, n, c, hk, rfl, SF⟩ := hrel
    obtain ⟨V0, rfl⟩ : ∃ wo : World, wo = wr := ⟨_, rfl⟩
    by_cases hlt : k < nV
    · have hx : V[k]? = some (V[k]'(by rw [← HNV.out]; exact hlt)) := List.getElem?_eq_getElem _
      obtain ⟨x, hxe⟩ : ∃ e, e = V[k]'(by rw [← HNV.out]; exact hlt) := ⟨_, rfl⟩
      rw [← hxe] at hx
      have hxs := HS.out x (List.mem_of_getElem? hx)
      obtain ⟨g, o, rfl, hc0⟩ := HR.out k x hx
      have cx := (SF.out.bel.cell (World.block_lt_of_cell? w _ hc0)).trans hc0
      have hok : Okl knownR (F k).1.1 (F k).1.2 := by rw [HF.out]; exact foldK_ok sfx V k
      have hok2 : Okl knownR (F (k + 1)).1.1 (F (k + 1)).1.2 := by rw [HF.out]; exact foldK_ok sfx V (k + 1)
      have hst : F (k + 1) = ((stepC knownR grpX sfx x (F k).1).1, (F k).2 ++ (stepC knownR grpX sfx x (F k).1).2) := by rw [HF.out]; exact foldK_step hx
      have HST := Lib.hid (fun (_ : True) => step_all (F k).1.1 q n c (F k).1.2 x sfx V0 (HG.out.on SF.out.bel) (by have := hok.mode; omega) SF.out.len (by have := okl_le hok; have := SF.out.len; omega) (okl_act hok) hxs SF.out.ls)
      have hN1 : (F k).2.length ≤ 100000 := by
        rw [HF.out]
        exact Nat.le_trans (foldK_nts sfx V HS.out k) (by omega)
      have hN2 : (stepC knownR grpX sfx x (F k).1).2.length ≤ 1000 := stepC_nts_le sfx x _ hxs
      rw [show ((F k).1.1, (F k).1.2) = (F k).1 from rfl] at HST
      rw [stepA_ok hok] at HST
      obtain ⟨r, hr⟩ : ∃ r, r = stepC knownR grpX sfx x (F k).1 := ⟨_, rfl⟩
      rw [← hr] at HST hst hN2
      have HFS := Lib.hid hst
      unfold lsV at HST
      obtain ⟨m1, hm1⟩ : ∃ a : Int, a = ((F k).1.1 : Nat) := ⟨_, rfl⟩
      have HM1 := Lib.hid hm1
      obtain ⟨m9, hm9⟩ : ∃ a : Int, a = (r.1.1 : Nat) := ⟨_, rfl⟩
      have HM9 := Lib.hid hm9
      rw [← hm1, ← hm9] at HST
      have x0 : V0.cell? ⟨w.heap.size + 1, 0, none⟩ = some (.int .u8 m1) := by rw [HM1.out]; exact SF.out.x0
      have x1 := SF.out.x1
      have k1 : (k : Int) < nV := by omega
      have k0 : (0 : Int) ≤ k := by omega
      obtain ⟨N1, hN1e⟩ : ∃ a, a = (F k).2.length := ⟨_, rfl⟩
      obtain ⟨N2, hN2e⟩ : ∃ a, a = r.2.length := ⟨_, rfl⟩
      have HNE1 := Lib.hid hN1e
      have HNE2 := Lib.hid hN2e
      rw [← hN1e] at hN1
      rw [← hN2e] at hN2
      clear hx hxe hxs hc0 hok hst hr hm1 hm9 hN1e hN2e hok2
      go_wp2_with (go_at_call 32
                   ((with_reducible refine (HST.out trivial).mono ?_); rintro e w9 ⟨q9, n9, c9, vN, rfl, l9, o9, r9, b9⟩)
                   have L9 := Lib.hid l9
                   have O9 := Lib.hid (owns_low16 o9 SF.out.bel.size)
                   have R9 := Lib.hid (nts_rows r9)
                   have B9 := Lib.hid b9
                   clear l9 o9 r9 b9)
      have SX := Lib.hid (SF.out.on (B9.out.alloc B9.out.size (.cells #[.int .u8 m9, .slice q9 n9 c9] 25)))
      have CX := Lib.hid (O9.out.alloc (.cells #[.int .u8 m9, .slice q9 n9 c9] 25))
      have NX := Lib.hid (R9.out.on (below16 w9 (.cells #[.int .u8 m9, .slice q9 n9 c9] 25)))
      have BX := Lib.hid (heap_alloc_new w9 (.cells #[.int .u8 m9, .slice q9 n9 c9] 25))
      have HBN := Lib.hid (show w9.heap.size ≠ w.heap.size + 1 by have := SF.out.lt; have := B9.out.size; omega)
      obtain ⟨bN, hbN⟩ : ∃ b, b = w9.heap.size := ⟨_, rfl⟩
      rw [← hbN] at BX HBN ⊢
      clear hbN
      generalize w9.alloc (.cells #[.int .u8 m9, .slice q9 n9 c9] 25) = X at SX CX NX BX ⊢
      obtain ⟨qN, cN, hqN, _⟩ := NX.out
      rw [List.length_map, ← HNE2.out] at hqN
      subst hqN
      have HRF := Lib.hid (fun (h0 : 0 < N2) => rows_flat (NX.out) (by rw [List.length_map, ← HNE2.out]; exact h0))
      clear x0 x1 cx
      have y0 := (cell_of_row X bN 0 _ _ (0, 0) BX.out).trans (show _ = some (Value.int .u8 m9) from rfl)
      have y1 := (cell_of_row X bN 1 _ _ (0, 0) BX.out).trans (show _ = some (Value.slice q9 n9 c9) from rfl)
      go_wp2_with fail
      go_region_held3 (fun w' => w'.cell? ⟨bN, 0, none⟩ = some (.int .u8 m9) ∧ w'.cell? ⟨bN, 1, none⟩ = some (.slice q9 n9 c9)) (first
        | exact ⟨y0, y1⟩
        | exact ⟨(cell_of_row w7 bN 0 _ _ (0, 0) X7.out).trans rfl, (cell_of_row w7 bN 1 _ _ (0, 0) X7.out).trans rfl⟩
        | exact ⟨(World.cell?_of_block ((heap_setCell_other _ ⟨w.heap.size + 1, 1, none⟩ bN _ HBN.out).trans (heap_setCell_other w7 ⟨w.heap.size + 1, 0, none⟩ bN _ HBN.out))).trans ((cell_of_row w7 bN 0 _ _ (0, 0) X7.out).trans rfl), (World.cell?_of_block ((heap_setCell_other _ ⟨w.heap.size + 1, 1, none⟩ bN _ HBN.out).trans (heap_setCell_other w7 ⟨w.heap.size + 1, 0, none⟩ bN _ HBN.out))).trans ((cell_of_row w7 bN 1 _ _ (0, 0) X7.out).trans rfl)⟩) (first
        | (refine step_app16 rfl (.tmp 26) (.tmp 27) 35 (by rfl) w.heap.size 51 j0 _ 4 48 Tryz.underlying35 JI.out JZ0.out JZ1.out JZ2.out rfl (by omega) _ N1 (rowC encN ((F k).2.map nteS)) (by rfl) (by have h1 := (SX.out.on ((Below.refl _ _).drew)).nts; rw [List.length_map, ← HNE1.out] at h1; exact h1) _ N2 cN (rowC encN (r.2.map nteS)) (by rfl) (by rw [rowC_length encN_len, List.length_map, ← HNE2.out]) (fun h0 => HRF.out h0) (rowC_oneCell encN_one _) (by unfold maxLen; omega) (by omega) (by have := SX.out.bel.size; show w.heap.size ≤ X.heap.size; omega) ?_
           intro v7 w7 o7 hg7
           have S7 := Lib.hid ((SX.out.on ((Below.refl X.heap.size X).drew)).note (N' := (F (k + 1)).2.map nteS) hg7 (by rw [HFS.out, List.map_append, List.length_append, List.length_map, List.length_map, ← HNE1.out, ← HNE2.out, rowC_app]; exact o7))
           have X7 := Lib.hid (fw_keep (SX.out.on ((Below.refl X.heap.size X).drew)) hg7 BX.out (by decide))
           have C7 := Lib.hid (owns_same16 CX.out fun g cs fz _ hk => fw_keep (SX.out.on ((Below.refl X.heap.size X).drew)) hg7 hk (by decide))
           have z0 := (cell_of_row w7 (w.heap.size + 1) 0 _ _ (0, 0) S7.out.box).trans (show _ = some (Value.int .u8 ((F k).1.1 : Nat)) from rfl)
           have z1 := (cell_of_row w7 (w.heap.size + 1) 1 _ _ (0, 0) S7.out.box).trans (show _ = some (Value.slice q n c) from rfl)
           have zf0 := frozen_of_row w7 (w.heap.size + 1) 0 _ _ S7.out.box
           have zf1 := frozen_of_row w7 (w.heap.size + 1) 1 _ _ S7.out.box
           clear o7 hg7))
      all_goals
        have S9 := Lib.hid (show FW w r.1.1 r.1.2 q9 n9 c9 ((F (k + 1)).2.map nteS) v7 ((w7.setCell ⟨w.heap.size + 1, 0, none⟩ (.int .u8 m9)).setCell ⟨w.heap.size + 1, 1, none⟩ (.slice q9 n9 c9)) by rw [HM9.out]; exact S7.out.next (m' := r.1.1) L9.out (Or.inr C7.out))
        go_wp2_with fail
        go_roundw
        case rel => exact ⟨k + 1, q9, n9, c9, by omega, by go_num, by rw [show (F (k + 1)).1.1 = r.1.1 by rw [HFS.out], show (F (k + 1)).1.2 = r.1.2 by rw [HFS.out]]; exact S9⟩
        case measure => first | (simp [intOf]; done) | (simp [intOf]; omega)
    · obtain rfl : k = nV := by omega
      have k1 : ¬ (k : Int) < k := by omega
      have x0 : V0.cell? ⟨w.heap.size + 1, 0, none⟩ = some (.int .u8 fm) := by rw [HFM.out]; exact SF.out.x0
      have x1 := SF.out.x1
      have F0 := Lib.hid SF.out.res
      have ⟨hl, hb3⟩ := retL16 F0.out SF.out.bel (Nat.le_refl _) fm q n c
      have HB3 := Lib.hid hb3
      have HLN := Lib.hid SF.out.len
      have HLS := Lib.hid (show (F k).1.2 = [] ∨ (V0.setCells w.heap.size 0 [.int .u8 fm, .slice q n c]).ownsRow w.heap.size 71 2 (.slice q n c) n (rowC encC (F k).1.2) from
        SF.out.cur.imp id (fun h1 => own_box16 SF.out.res (by decide) h1 _))
      have HNT := Lib.hid (show (V0.setCells w.heap.size 0 [.int .u8 fm, .slice q n c]).ownsRow w.heap.size 51 4 u7 (F k).2.length (rowC encN ((F k).2.map nteS)) from by
        rw [← List.length_map (f := nteS)]
        exact own_box16 SF.out.res (by decide) SF.out.nts _)
      clear hb3
      go_wp2_with ((with_reducible show wpList _ _ _ (⟨none, .store 25 (.tmp 4) (.tmp 30), _, _, _, _⟩ :: _) _ _)
                   refine wpList_store_mid rfl 25 (.tmp 4) (.tmp 30) rfl w.heap.size 0 #[.int .u8 fm, .slice q n c] rfl rfl (there16 F0.out) HIN.out (one16 _ _ _ _) ?_
                   show wpList _ _ _ _ _ (V0.setCells w.heap.size 0 [.int .u8 fm, .slice q n c])
                   generalize V0.setCells w.heap.size 0 [.int .u8 fm, .slice q n c] = w3 at hl HB3 HLS HNT ⊢)
      (try simp only [Exit.inBlock, Exit.then])
      refine bodyPost_ret (v := .tuple #[.agg #[.int .u8 fm, .slice q n c], u7]) (results_two15 Tryz.results21 ?_ ?_ hl) rfl ⟨q, n, c, _, rfl, HLN.out, HLS.out, HNT.out, HB3.out⟩
      all_goals rfl
end Go.Proofs.YtanifiobfbfehaaGreatDoor
