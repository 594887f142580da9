/- What the landed effect of families leaves. Conditions: the tables lie in their variables; lists of at most 10,000, values of at most 1,000 bytes. -/
import Derived.Test.YtlenjfodjkhpmaaGreatDoorR7
namespace Go.Proofs.YtlenjfodjkhpmaaGreatDoor
set_option maxRecDepth 100000
open Go.Lib (hid)
open Go.RowKit Go.Shelf
set_option linter.unusedVariables false
set_option linter.unusedSimpArgs false
attribute [local go_sem ↓] Go.wp_at_zero Go.wp_at_succ

theorem insU_cast18 (x : Nat) : ∀ L : List Nat, insU ltI (x : Int) (L.map (fun (x : Nat) => (x : Int))) = (insU ltN18 x L).map (fun (x : Nat) => (x : Int))
 | [] => rfl
 | a :: r => by
   rw [List.map_cons]
   unfold insU
   by_cases h : x = a
   ·rw [if_pos h, if_pos (by rw [h])]; rfl
   ·rw [if_neg h, if_neg (by omega)]
    have hl : ltI (x : Int) (a : Int) = ltN18 x a := by unfold ltI ltN18; congr 1; apply propext; omega
    rw [hl]
    by_cases h2 : ltN18 x a = true
    ·rw [if_pos h2, if_pos h2]; rfl
    ·rw [if_neg h2, if_neg h2, insU_cast18 x r]; rfl
theorem filter_cast18 (x : Nat) : ∀ L : List Nat, (L.map (fun (x : Nat) => (x : Int))).filter (fun y => y != (x : Int)) = (L.filter (fun y => y != x)).map (fun (x : Nat) => (x : Int))
 | [] => rfl
 | a :: r => by
   rw [List.map_cons, List.filter_cons, List.filter_cons, filter_cast18 x r]
   have hb : ((a : Int) != (x : Int)) = (a != x) := by
    rw [Bool.eq_iff_iff, bne_iff_ne, bne_iff_ne]
    omega
   rw [hb]
   split <;> rfl
theorem pair_cast18 {L : List Nat} (h : L.Pairwise fun a b => ltN18 a b = true) : (L.map (fun (x : Nat) => (x : Int))).Pairwise fun a b => ltI a b = true := by
 rw [List.pairwise_map]
 exact h.imp fun {a b} hab => by unfold ltN18 at hab; unfold ltI; simp at *; omega
theorem insert_f18 (w : World) (B : Nat) (q : Option Addr) (n c : Nat) (L : List Nat) (x : Nat) (hO : w.ownsRow B 28 1 (.slice q n c) n ((L.map (fun (x : Nat) => (x : Int))).map (Value.int .u32))) (hn : n = L.length) (hb : n ≤ 50000) (hBW : B ≤ w.heap.size) (hs : L.Pairwise fun a b => ltN18 a b = true) :
 Calls Tryz.prog 190 #[.slice q n c, .int .u32 (x : Nat)] w fun e w' => ∃ q' c', e = .returned (.slice q' (insU ltN18 x L).length c') ∧ w'.ownsRow B 28 1 (.slice q' (insU ltN18 x L).length c') (insU ltN18 x L).length (((insU ltN18 x L).map (fun (x : Nat) => (x : Int))).map (Value.int .u32)) ∧ Below B w w' ∧ KeepT 28 w w' := by
 have h := insert_u18 w B q n c (L.map (fun (x : Nat) => (x : Int))) (x : Int) hO (by rw [List.length_map]; exact hn) hb hBW (pair_cast18 hs)
 rw [insU_cast18, List.length_map] at h
 exact h
theorem remove_f18 (w : World) (B : Nat) (q : Option Addr) (n c : Nat) (L : List Nat) (x : Nat) (hO : w.ownsRow B 28 1 (.slice q n c) n ((L.map (fun (x : Nat) => (x : Int))).map (Value.int .u32))) (hn : n = L.length) (hb : n ≤ 50000) (hBW : B ≤ w.heap.size) :
 Calls Tryz.prog 189 #[.slice q n c, .int .u32 (x : Nat)] w fun e w' => ∃ q' c', e = .returned (.slice q' (L.filter (fun y => y != x)).length c') ∧ w'.ownsRow B 28 1 (.slice q' (L.filter (fun y => y != x)).length c') (L.filter (fun y => y != x)).length (((L.filter (fun y => y != x)).map (fun (x : Nat) => (x : Int))).map (Value.int .u32)) ∧ Below B w w' ∧ KeepT 28 w w' := by
 have h := remove_u18 w B q n c (L.map (fun (x : Nat) => (x : Int))) (x : Int) hO (by rw [List.length_map]; exact hn) hb hBW
 rw [filter_cast18, List.length_map] at h
 exact h
def putC18 (m : Nat) (T : Bool) : Bool := decide (mdF m T = if T = true then 2 else 1)
theorem putC_is18 {m : Nat} {v : ByteArray} (h : m ≤ 2) : putC18 m (turnR v).2 = putB18 m v := by
 unfold putC18 putB18 mdF
 generalize (turnR v).2 = T
 obtain rfl | rfl | rfl : m = 0 ∨ m = 1 ∨ m = 2 := by omega
 all_goals cases T <;> rfl
theorem fam_some18 {pb : Bool} {R : List Nat × List (Int × ByteArray)} {x : List UInt8} {n : Nat} (h : findR famT (bs x) = some n) : famS pb R x = (if pb = true then insU ltN18 n R.1 else R.1.filter (fun x => x != n), R.2) := by
 unfold famS; rw [h]
theorem fam_none18 {pb : Bool} {R : List Nat × List (Int × ByteArray)} {x : List UInt8} (h : findR famT (bs x) = none) : famS pb R x = (R.1, R.2 ++ [(180, t60 x)]) := by
 unfold famS; rw [h]
set_option maxHeartbeats 16000000 in
theorem listFamilies_c18 (B b : Nat) (w : World) (p : Pls) (P : Pol) (a : As) (hG : ∀ X, Below B w X → G18 X) (h : St B b w p P a (.slice none 0 0) []) (hv : a.val.size ≤ 1000) (hn : P.fa.length ≤ 10000) (hs : P.fa.Pairwise fun a b => ltN18 a b = true) :
 Calls Tryz.prog 158 #[.pointer (some ⟨b, 0, none⟩)] w fun e w' => e = .returned (.tuple #[]) ∧ (∃ p' v', St B b w' p' { P with fm := mdF P.fm (turnR a.val).2, fa := ((wdL (turnR a.val).1.data.toList).foldl (famS (putC18 P.fm (turnR a.val).2)) (P.fa, [])).1 } a v' (((wdL (turnR a.val).1.data.toList).foldl (famS (putC18 P.fm (turnR a.val).2)) (P.fa, [])).2.map (nteP a))) ∧ Below B w w' := by
 have HT := hid (turned15 a.val w)
 have HV := hid (fun (X : World) => words_c18 (turnR a.val).1 X (by have := turn_size a.val; omega))
 obtain ⟨ws, hws⟩ : ∃ l, l = wdL (turnR a.val).1.data.toList := ⟨_, rfl⟩
 have hwl : ws.length ≤ 1000 := by rw [hws]; exact Nat.le_trans (wd_size _) (Nat.le_trans (turn_size _) hv)
 rw [← hws] at HV ⊢
 obtain ⟨m, hm⟩ : ∃ m, m = ws.length := ⟨_, rfl⟩
 rw [← hm] at HV
 have m3 : m ≤ 1000 := by omega
 obtain ⟨rest, hrest⟩ : ∃ r, r = (turnR a.val).1 := ⟨_, rfl⟩
 rw [← hrest] at HT HV
 obtain ⟨mi, hmi⟩ : ∃ x : Int, x = (P.fm : Nat) := ⟨_, rfl⟩
 have c17 := h.cell 17 (.string a.val) rfl
 have HS := hid h
 have HG := hid hG
 have HB := hid h.le
 have HWL := hid hwl
 have HM := hid hm
 have HMI := hid hmi
 have HN := hid hn
 have HP := hid hs
 obtain ⟨T, hTT⟩ : ∃ T, T = (turnR a.val).2 := ⟨_, rfl⟩
 rw [← hTT] at HT ⊢
 clear hv hws hwl h hG hn hs hm hrest hmi hTT
 cases hT : T with
 | true =>
  subst hT
  by_cases h0 : mi = 0
  ·subst h0
   rw [show putC18 P.fm true = true by unfold putC18 mdF; rw [if_pos (by have := HMI.out; omega)]; rfl]
   have HMD := hid (show mdF P.fm true = 2 by unfold mdF; rw [if_pos (by have := HMI.out; omega)]; rfl)
   go_enter Tryz.func158, Tryz.ntmps158
   go_wp2_with (first
    | (go_at_call 188; ((with_reducible refine (HT.out).mono ?_); rintro e w1 ⟨rfl, b1⟩); have S1 := hid (HS.out.on b1); have B1 := hid (b1.mono HB.out); have c7 := S1.out.cell 7 (.int .u8 0) (by show some (Value.int .u8 (P.fm : Nat)) = _; rw [← HMI.out]); have x7 := S1.out.frz 7; have SZ := hid (show St B b (w1.setCell ⟨b, 7, none⟩ (.int .u8 2)) p { P with fm := 2 } a (.slice none 0 0) [] from St.set S1.out 7 (.int .u8 2) (by decide) rfl ⟨S1.out.own.al, S1.out.own.fl, S1.out.own.ll, S1.out.own.ml, S1.out.own.ar, S1.out.own.fi, S1.out.own.lo, S1.out.own.fa⟩ S1.out.nts); have BZ := hid (B1.out.trans (S1.out.low 7 (.int .u8 2))); clear b1)
    | (go_at_call 154; ((with_reducible refine (HV.out _).mono ?_); rintro e w2 ⟨q1, d1, rfl, o1, b1⟩); have S2 := hid (SZ.out.on b1); have B2 := hid (BZ.out.trans (b1.mono SZ.out.le)); have O2 := hid (owns_low16 o1 SZ.out.le); clear o1 b1))
   go_loopw [41] (fun v41 wr => ∃ (k : Nat) (p' : Pls) (v' : Value), k ≤ m ∧ v41 = .int .i64 k ∧ Hid (St B b wr p' { { P with fm := 2 } with fa := ((ws.take k).foldl (famS true) (P.fa, [])).1 } a v' (((ws.take k).foldl (famS true) (P.fa, [])).2.map (nteP a))) ∧ Hid (wr.ownsRow B 9 1 (.slice q1 m d1) m (sL ws)) ∧ Hid (Below B w wr)) (fun v41 _ => m - (intOf v41).toNat)
   case atStart => exact ⟨0, p, _, Nat.zero_le _, rfl, S2, O2, B2⟩
   case round =>
    obtain ⟨k, p', v', hk, rfl, SS, OO, BB⟩ := hrel
    obtain ⟨V, rfl⟩ : ∃ wo : World, wo = wr := ⟨_, rfl⟩
    by_cases hlt : k < m
    ·obtain ⟨x, hx⟩ : ∃ x, ws[k]? = some x := ⟨ws[k]'(by rw [← HM.out]; exact hlt), List.getElem?_eq_getElem _⟩
     obtain ⟨g, o, hq, hc⟩ := words_at18 OO.out HM.out hx
     subst hq
     have k1 : (k : Int) < m := by omega
     have k0 : (0 : Int) ≤ k := by omega
     have HST := hid (fold_step18 (famS true) (P.fa, []) hx)
     obtain ⟨R, hR⟩ : ∃ R, R = ((ws.take k).foldl (famS true) (P.fa, [])) := ⟨_, rfl⟩
     have hlen := famS_len true (ws.take k) (P.fa, [])
     have hpair := famS_pair true (ws.take k) (P.fa, []) HP.out
     rw [← hR] at hlen hpair
     rw [← hR] at HST SS
     have hl2 : (ws.take k).length ≤ 1000 := Nat.le_trans (by rw [List.length_take]; omega) HWL.out
     have HL1 := hid (show R.1.length ≤ 20000 by have := HN.out; simp only at hlen; omega)
     have HL2 := hid (show R.2.length ≤ 2000 by simp only [List.length_nil] at hlen; omega)
     have HPR := hid hpair
     have HPA := hid (familyN (bs x) V (HG.out V BB.out).nm)
     have OKB := hid SS.out.le
     clear hx hlen hpair hl2 hR
     cases hf : findR famT (bs x) with
     | some n =>
      rw [hf] at HPA
      simp only [Option.getD_some, Option.isSome_some, if_true] at HPA
      have HS2 := hid (HST.out.trans (fam_some18 hf))
      clear HST hf
      have HIN := hid (fun (X : World) (s : St B b X p' { { P with fm := 2 } with fa := R.1 } a v' (R.2.map (nteP a))) => insert_f18 X B p'.mq p'.mn p'.mc R.1 n s.own.fa s.own.ml (by rw [s.own.ml]; have := HL1.out; simp only; omega) s.le HPR.out)
      go_wp2_with (first
       | (go_at_call 191; ((with_reducible refine (HPA.out).mono ?_); rintro e w2 ⟨rfl, b2⟩); have S2 := hid (SS.out.on b2); have B2 := hid (BB.out.trans (b2.mono OKB.out)); have O2 := hid (owns_on16 OO.out b2); have d0 := S2.out.cell 6 _ rfl; clear b2)
       | (go_at_call 190; ((with_reducible refine (HIN.out w2 S2.out).mono ?_); rintro e w3 ⟨q3, n3, rfl, o3, b3, k3⟩); have T3 := hid (S2.out.fams k3 o3 rfl); have y0 := (cell_of_row w3 b 6 _ _ (0, 0) T3.out.1).trans (show _ = some (Value.slice p'.mq p'.mn p'.mc) from rfl); have yf := frozen_of_row w3 b 6 _ _ T3.out.1; have O3 := hid (k3.own (by decide) O2.out); have B3 := hid (B2.out.trans b3); have LO := hid S2.out.hb; clear o3 b3 k3))
      go_roundw
      case rel => exact ⟨k + 1, { p' with mq := q3, mn := (insU ltN18 n R.1).length, mc := n3 }, v', by omega, by go_num, hid (by
       rw [HS2.out]
       have kk := KeepT.cell (i := 6) T3.out.1 (.slice q3 (insU ltN18 n R.1).length n3)
       refine ⟨?_, T3.out.2.1.kept kk (by decide) (by decide) (by decide), kk.own (by decide) T3.out.2.2, LO.out⟩
       rw [set_cell18 T3.out.1 _ 6 (by rw [stC_len]; decide)]
       rfl), hid ((KeepT.cell (i := 6) T3.out.1 _).own (by decide) O3.out), hid (B3.out.setCell (p := ⟨b, 6, none⟩) LO.out _)⟩
      case measure => first | (simp [intOf]; done) | (simp [intOf]; omega)
     | none =>
      rw [hf] at HPA
      simp only [Option.getD_none, Option.isSome_none, Bool.false_eq_true, if_false] at HPA
      have HS2 := hid (HST.out.trans (fam_none18 hf))
      clear HST hf
      have HNO := hid (fun (X : World) (s : St B b X p' { { P with fm := 2 } with fa := R.1 } a v' (R.2.map (nteP a))) => note_c18 B b X p' { { P with fm := 2 } with fa := R.1 } a v' (R.2.map (nteP a)) 180 (bs x) s (by rw [List.length_map]; have := HL2.out; omega))
      go_wp2_with (first
       | (go_at_call 191; ((with_reducible refine (HPA.out).mono ?_); rintro e w2 ⟨rfl, b2⟩); have S2 := hid (SS.out.on b2); have B2 := hid (BB.out.trans (b2.mono OKB.out)); have O2 := hid (owns_on16 OO.out b2); clear b2)
       | (go_at_call 156; ((with_reducible refine (HNO.out w2 S2.out).mono ?_); rintro e w3 ⟨rfl, ⟨v3, s3⟩, b3, k3⟩); have S3 := hid s3; have O3 := hid (k3.own (by decide) (by decide) O2.out); have B3 := hid (B2.out.trans b3); clear s3))
      go_roundw
      case rel => exact ⟨k + 1, p', v3, by omega, by go_num, hid (by rw [HS2.out]; exact S3.out.cast rfl (by rw [nte_t60, List.map_append]; rfl)), O3, B3⟩
      case measure => first | (simp [intOf]; done) | (simp [intOf]; omega)
    ·obtain rfl : k = m := by omega
     have k1 : ¬ (k : Int) < (k : Nat) := by omega
     have hst := SS.out
     rw [List.take_of_length_le (by rw [← HM.out]; exact Nat.le_refl _)] at hst
     have HSF := hid hst
     clear hst
     go_wp2_with fail
     (try simp only [Exit.inBlock, Exit.then])
     first | refine bodyPost_ret (results_none rfl _ _ _) rfl ?_ | refine bodyPost_end (results_none rfl _ _ _) rfl ?_
     exact ⟨rfl, ⟨p', v', HSF.out.cast (by rw [HMD.out]) rfl⟩, BB.out⟩
  by_cases h1 : mi = 2
  ·rw [show putC18 P.fm true = true by unfold putC18 mdF; rw [if_neg (by have := HMI.out; omega)]; exact decide_eq_true (by have := HMI.out; show P.fm = 2; omega)]
   have HMD := hid (show mdF P.fm true = P.fm by unfold mdF; rw [if_neg (by have := HMI.out; omega)])
   have e1 : (mi == 0) = false := beq_eq_false_iff_ne.2 h0
   have e2 : (mi == 2) = true := by rw [h1]; rfl
   clear h1
   go_enter Tryz.func158, Tryz.ntmps158
   go_wp2_with (first
    | (go_at_call 188; ((with_reducible refine (HT.out).mono ?_); rintro e w1 ⟨rfl, b1⟩); have S1 := hid (HS.out.on b1); have B1 := hid (b1.mono HB.out); have c7 := S1.out.cell 7 (.int .u8 mi) (by rw [HMI.out]; rfl); have SZ := S1; have BZ := B1; clear b1)
    | (go_at_call 154; ((with_reducible refine (HV.out _).mono ?_); rintro e w2 ⟨q1, d1, rfl, o1, b1⟩); have S2 := hid (SZ.out.on b1); have B2 := hid (BZ.out.trans (b1.mono SZ.out.le)); have O2 := hid (owns_low16 o1 SZ.out.le); clear o1 b1))
   go_loopw [41] (fun v41 wr => ∃ (k : Nat) (p' : Pls) (v' : Value), k ≤ m ∧ v41 = .int .i64 k ∧ Hid (St B b wr p' { P with fa := ((ws.take k).foldl (famS true) (P.fa, [])).1 } a v' (((ws.take k).foldl (famS true) (P.fa, [])).2.map (nteP a))) ∧ Hid (wr.ownsRow B 9 1 (.slice q1 m d1) m (sL ws)) ∧ Hid (Below B w wr)) (fun v41 _ => m - (intOf v41).toNat)
   case atStart => exact ⟨0, p, _, Nat.zero_le _, rfl, S2, O2, B2⟩
   case round =>
    obtain ⟨k, p', v', hk, rfl, SS, OO, BB⟩ := hrel
    obtain ⟨V, rfl⟩ : ∃ wo : World, wo = wr := ⟨_, rfl⟩
    by_cases hlt : k < m
    ·obtain ⟨x, hx⟩ : ∃ x, ws[k]? = some x := ⟨ws[k]'(by rw [← HM.out]; exact hlt), List.getElem?_eq_getElem _⟩
     obtain ⟨g, o, hq, hc⟩ := words_at18 OO.out HM.out hx
     subst hq
     have k1 : (k : Int) < m := by omega
     have k0 : (0 : Int) ≤ k := by omega
     have HST := hid (fold_step18 (famS true) (P.fa, []) hx)
     obtain ⟨R, hR⟩ : ∃ R, R = ((ws.take k).foldl (famS true) (P.fa, [])) := ⟨_, rfl⟩
     have hlen := famS_len true (ws.take k) (P.fa, [])
     have hpair := famS_pair true (ws.take k) (P.fa, []) HP.out
     rw [← hR] at hlen hpair
     rw [← hR] at HST SS
     have hl2 : (ws.take k).length ≤ 1000 := Nat.le_trans (by rw [List.length_take]; omega) HWL.out
     have HL1 := hid (show R.1.length ≤ 20000 by have := HN.out; simp only at hlen; omega)
     have HL2 := hid (show R.2.length ≤ 2000 by simp only [List.length_nil] at hlen; omega)
     have HPR := hid hpair
     have HPA := hid (familyN (bs x) V (HG.out V BB.out).nm)
     have OKB := hid SS.out.le
     clear hx hlen hpair hl2 hR
     cases hf : findR famT (bs x) with
     | some n =>
      rw [hf] at HPA
      simp only [Option.getD_some, Option.isSome_some, if_true] at HPA
      have HS2 := hid (HST.out.trans (fam_some18 hf))
      clear HST hf
      have HIN := hid (fun (X : World) (s : St B b X p' { P with fa := R.1 } a v' (R.2.map (nteP a))) => insert_f18 X B p'.mq p'.mn p'.mc R.1 n s.own.fa s.own.ml (by rw [s.own.ml]; have := HL1.out; simp only; omega) s.le HPR.out)
      go_wp2_with (first
       | (go_at_call 191; ((with_reducible refine (HPA.out).mono ?_); rintro e w2 ⟨rfl, b2⟩); have S2 := hid (SS.out.on b2); have B2 := hid (BB.out.trans (b2.mono OKB.out)); have O2 := hid (owns_on16 OO.out b2); have d0 := S2.out.cell 6 _ rfl; clear b2)
       | (go_at_call 190; ((with_reducible refine (HIN.out w2 S2.out).mono ?_); rintro e w3 ⟨q3, n3, rfl, o3, b3, k3⟩); have T3 := hid (S2.out.fams k3 o3 rfl); have y0 := (cell_of_row w3 b 6 _ _ (0, 0) T3.out.1).trans (show _ = some (Value.slice p'.mq p'.mn p'.mc) from rfl); have yf := frozen_of_row w3 b 6 _ _ T3.out.1; have O3 := hid (k3.own (by decide) O2.out); have B3 := hid (B2.out.trans b3); have LO := hid S2.out.hb; clear o3 b3 k3))
      go_roundw
      case rel => exact ⟨k + 1, { p' with mq := q3, mn := (insU ltN18 n R.1).length, mc := n3 }, v', by omega, by go_num, hid (by
       rw [HS2.out]
       have kk := KeepT.cell (i := 6) T3.out.1 (.slice q3 (insU ltN18 n R.1).length n3)
       refine ⟨?_, T3.out.2.1.kept kk (by decide) (by decide) (by decide), kk.own (by decide) T3.out.2.2, LO.out⟩
       rw [set_cell18 T3.out.1 _ 6 (by rw [stC_len]; decide)]
       rfl), hid ((KeepT.cell (i := 6) T3.out.1 _).own (by decide) O3.out), hid (B3.out.setCell (p := ⟨b, 6, none⟩) LO.out _)⟩
      case measure => first | (simp [intOf]; done) | (simp [intOf]; omega)
     | none =>
      rw [hf] at HPA
      simp only [Option.getD_none, Option.isSome_none, Bool.false_eq_true, if_false] at HPA
      have HS2 := hid (HST.out.trans (fam_none18 hf))
      clear HST hf
      have HNO := hid (fun (X : World) (s : St B b X p' { P with fa := R.1 } a v' (R.2.map (nteP a))) => note_c18 B b X p' { P with fa := R.1 } a v' (R.2.map (nteP a)) 180 (bs x) s (by rw [List.length_map]; have := HL2.out; omega))
      go_wp2_with (first
       | (go_at_call 191; ((with_reducible refine (HPA.out).mono ?_); rintro e w2 ⟨rfl, b2⟩); have S2 := hid (SS.out.on b2); have B2 := hid (BB.out.trans (b2.mono OKB.out)); have O2 := hid (owns_on16 OO.out b2); clear b2)
       | (go_at_call 156; ((with_reducible refine (HNO.out w2 S2.out).mono ?_); rintro e w3 ⟨rfl, ⟨v3, s3⟩, b3, k3⟩); have S3 := hid s3; have O3 := hid (k3.own (by decide) (by decide) O2.out); have B3 := hid (B2.out.trans b3); clear s3))
      go_roundw
      case rel => exact ⟨k + 1, p', v3, by omega, by go_num, hid (by rw [HS2.out]; exact S3.out.cast rfl (by rw [nte_t60, List.map_append]; rfl)), O3, B3⟩
      case measure => first | (simp [intOf]; done) | (simp [intOf]; omega)
    ·obtain rfl : k = m := by omega
     have k1 : ¬ (k : Int) < (k : Nat) := by omega
     have hst := SS.out
     rw [List.take_of_length_le (by rw [← HM.out]; exact Nat.le_refl _)] at hst
     have HSF := hid hst
     clear hst
     go_wp2_with fail
     (try simp only [Exit.inBlock, Exit.then])
     first | refine bodyPost_ret (results_none rfl _ _ _) rfl ?_ | refine bodyPost_end (results_none rfl _ _ _) rfl ?_
     exact ⟨rfl, ⟨p', v', HSF.out.cast (by rw [HMD.out]) rfl⟩, BB.out⟩
  rw [show putC18 P.fm true = false by unfold putC18 mdF; rw [if_neg (by have := HMI.out; omega)]; exact decide_eq_false (by have := HMI.out; show ¬ P.fm = 2; omega)]
  have HMD := hid (show mdF P.fm true = P.fm by unfold mdF; rw [if_neg (by have := HMI.out; omega)])
  have e1 : (mi == 0) = false := beq_eq_false_iff_ne.2 h0
  have e2 : (mi == 2) = false := beq_eq_false_iff_ne.2 h1
  go_enter Tryz.func158, Tryz.ntmps158
  go_wp2_with (first
   | (go_at_call 188; ((with_reducible refine (HT.out).mono ?_); rintro e w1 ⟨rfl, b1⟩); have S1 := hid (HS.out.on b1); have B1 := hid (b1.mono HB.out); have c7 := S1.out.cell 7 (.int .u8 mi) (by rw [HMI.out]; rfl); have SZ := S1; have BZ := B1; clear b1)
   | (go_at_call 154; ((with_reducible refine (HV.out _).mono ?_); rintro e w2 ⟨q1, d1, rfl, o1, b1⟩); have S2 := hid (SZ.out.on b1); have B2 := hid (BZ.out.trans (b1.mono SZ.out.le)); have O2 := hid (owns_low16 o1 SZ.out.le); clear o1 b1))
  go_loopw [41] (fun v41 wr => ∃ (k : Nat) (p' : Pls) (v' : Value), k ≤ m ∧ v41 = .int .i64 k ∧ Hid (St B b wr p' { P with fa := ((ws.take k).foldl (famS false) (P.fa, [])).1 } a v' (((ws.take k).foldl (famS false) (P.fa, [])).2.map (nteP a))) ∧ Hid (wr.ownsRow B 9 1 (.slice q1 m d1) m (sL ws)) ∧ Hid (Below B w wr)) (fun v41 _ => m - (intOf v41).toNat)
  case atStart => exact ⟨0, p, _, Nat.zero_le _, rfl, S2, O2, B2⟩
  case round =>
   obtain ⟨k, p', v', hk, rfl, SS, OO, BB⟩ := hrel
   obtain ⟨V, rfl⟩ : ∃ wo : World, wo = wr := ⟨_, rfl⟩
   by_cases hlt : k < m
   ·obtain ⟨x, hx⟩ : ∃ x, ws[k]? = some x := ⟨ws[k]'(by rw [← HM.out]; exact hlt), List.getElem?_eq_getElem _⟩
    obtain ⟨g, o, hq, hc⟩ := words_at18 OO.out HM.out hx
    subst hq
    have k1 : (k : Int) < m := by omega
    have k0 : (0 : Int) ≤ k := by omega
    have HST := hid (fold_step18 (famS false) (P.fa, []) hx)
    obtain ⟨R, hR⟩ : ∃ R, R = ((ws.take k).foldl (famS false) (P.fa, [])) := ⟨_, rfl⟩
    have hlen := famS_len false (ws.take k) (P.fa, [])
    have hpair := famS_pair false (ws.take k) (P.fa, []) HP.out
    rw [← hR] at hlen hpair
    rw [← hR] at HST SS
    have hl2 : (ws.take k).length ≤ 1000 := Nat.le_trans (by rw [List.length_take]; omega) HWL.out
    have HL1 := hid (show R.1.length ≤ 20000 by have := HN.out; simp only at hlen; omega)
    have HL2 := hid (show R.2.length ≤ 2000 by simp only [List.length_nil] at hlen; omega)
    have HPR := hid hpair
    have HPA := hid (familyN (bs x) V (HG.out V BB.out).nm)
    have OKB := hid SS.out.le
    clear hx hlen hpair hl2 hR
    cases hf : findR famT (bs x) with
    | some n =>
     rw [hf] at HPA
     simp only [Option.getD_some, Option.isSome_some, if_true] at HPA
     have HS2 := hid (HST.out.trans (fam_some18 hf))
     clear HST hf
     have HIN := hid (fun (X : World) (s : St B b X p' { P with fa := R.1 } a v' (R.2.map (nteP a))) => remove_f18 X B p'.mq p'.mn p'.mc R.1 n s.own.fa s.own.ml (by rw [s.own.ml]; have := HL1.out; simp only; omega) s.le)
     go_wp2_with (first
      | (go_at_call 191; ((with_reducible refine (HPA.out).mono ?_); rintro e w2 ⟨rfl, b2⟩); have S2 := hid (SS.out.on b2); have B2 := hid (BB.out.trans (b2.mono OKB.out)); have O2 := hid (owns_on16 OO.out b2); have d0 := S2.out.cell 6 _ rfl; clear b2)
      | (go_at_call 189; ((with_reducible refine (HIN.out w2 S2.out).mono ?_); rintro e w3 ⟨q3, n3, rfl, o3, b3, k3⟩); have T3 := hid (S2.out.fams k3 o3 rfl); have y0 := (cell_of_row w3 b 6 _ _ (0, 0) T3.out.1).trans (show _ = some (Value.slice p'.mq p'.mn p'.mc) from rfl); have yf := frozen_of_row w3 b 6 _ _ T3.out.1; have O3 := hid (k3.own (by decide) O2.out); have B3 := hid (B2.out.trans b3); have LO := hid S2.out.hb; clear o3 b3 k3))
     go_roundw
     case rel => exact ⟨k + 1, { p' with mq := q3, mn := (R.1.filter (fun y => y != n)).length, mc := n3 }, v', by omega, by go_num, hid (by
      rw [HS2.out]
      have kk := KeepT.cell (i := 6) T3.out.1 (.slice q3 (R.1.filter (fun y => y != n)).length n3)
      refine ⟨?_, T3.out.2.1.kept kk (by decide) (by decide) (by decide), kk.own (by decide) T3.out.2.2, LO.out⟩
      rw [set_cell18 T3.out.1 _ 6 (by rw [stC_len]; decide)]
      rfl), hid ((KeepT.cell (i := 6) T3.out.1 _).own (by decide) O3.out), hid (B3.out.setCell (p := ⟨b, 6, none⟩) LO.out _)⟩
     case measure => first | (simp [intOf]; done) | (simp [intOf]; omega)
    | none =>
     rw [hf] at HPA
     simp only [Option.getD_none, Option.isSome_none, Bool.false_eq_true, if_false] at HPA
     have HS2 := hid (HST.out.trans (fam_none18 hf))
     clear HST hf
     have HNO := hid (fun (X : World) (s : St B b X p' { P with fa := R.1 } a v' (R.2.map (nteP a))) => note_c18 B b X p' { P with fa := R.1 } a v' (R.2.map (nteP a)) 180 (bs x) s (by rw [List.length_map]; have := HL2.out; omega))
     go_wp2_with (first
      | (go_at_call 191; ((with_reducible refine (HPA.out).mono ?_); rintro e w2 ⟨rfl, b2⟩); have S2 := hid (SS.out.on b2); have B2 := hid (BB.out.trans (b2.mono OKB.out)); have O2 := hid (owns_on16 OO.out b2); clear b2)
      | (go_at_call 156; ((with_reducible refine (HNO.out w2 S2.out).mono ?_); rintro e w3 ⟨rfl, ⟨v3, s3⟩, b3, k3⟩); have S3 := hid s3; have O3 := hid (k3.own (by decide) (by decide) O2.out); have B3 := hid (B2.out.trans b3); clear s3))
     go_roundw
     case rel => exact ⟨k + 1, p', v3, by omega, by go_num, hid (by rw [HS2.out]; exact S3.out.cast rfl (by rw [nte_t60, List.map_append]; rfl)), O3, B3⟩
     case measure => first | (simp [intOf]; done) | (simp [intOf]; omega)
   ·obtain rfl : k = m := by omega
    have k1 : ¬ (k : Int) < (k : Nat) := by omega
    have hst := SS.out
    rw [List.take_of_length_le (by rw [← HM.out]; exact Nat.le_refl _)] at hst
    have HSF := hid hst
    clear hst
    go_wp2_with fail
    (try simp only [Exit.inBlock, Exit.then])
    first | refine bodyPost_ret (results_none rfl _ _ _) rfl ?_ | refine bodyPost_end (results_none rfl _ _ _) rfl ?_
    exact ⟨rfl, ⟨p', v', HSF.out.cast (by rw [HMD.out]) rfl⟩, BB.out⟩
 | false =>
  subst hT
  by_cases h0 : mi = 0
  ·subst h0
   rw [show putC18 P.fm false = true by unfold putC18 mdF; rw [if_pos (by have := HMI.out; omega)]; rfl]
   have HMD := hid (show mdF P.fm false = 1 by unfold mdF; rw [if_pos (by have := HMI.out; omega)]; rfl)
   go_enter Tryz.func158, Tryz.ntmps158
   go_wp2_with (first
    | (go_at_call 188; ((with_reducible refine (HT.out).mono ?_); rintro e w1 ⟨rfl, b1⟩); have S1 := hid (HS.out.on b1); have B1 := hid (b1.mono HB.out); have c7 := S1.out.cell 7 (.int .u8 0) (by show some (Value.int .u8 (P.fm : Nat)) = _; rw [← HMI.out]); have x7 := S1.out.frz 7; have SZ := hid (show St B b (w1.setCell ⟨b, 7, none⟩ (.int .u8 1)) p { P with fm := 1 } a (.slice none 0 0) [] from St.set S1.out 7 (.int .u8 1) (by decide) rfl ⟨S1.out.own.al, S1.out.own.fl, S1.out.own.ll, S1.out.own.ml, S1.out.own.ar, S1.out.own.fi, S1.out.own.lo, S1.out.own.fa⟩ S1.out.nts); have BZ := hid (B1.out.trans (S1.out.low 7 (.int .u8 1))); clear b1)
    | (go_at_call 154; ((with_reducible refine (HV.out _).mono ?_); rintro e w2 ⟨q1, d1, rfl, o1, b1⟩); have S2 := hid (SZ.out.on b1); have B2 := hid (BZ.out.trans (b1.mono SZ.out.le)); have O2 := hid (owns_low16 o1 SZ.out.le); clear o1 b1))
   go_loopw [41] (fun v41 wr => ∃ (k : Nat) (p' : Pls) (v' : Value), k ≤ m ∧ v41 = .int .i64 k ∧ Hid (St B b wr p' { { P with fm := 1 } with fa := ((ws.take k).foldl (famS true) (P.fa, [])).1 } a v' (((ws.take k).foldl (famS true) (P.fa, [])).2.map (nteP a))) ∧ Hid (wr.ownsRow B 9 1 (.slice q1 m d1) m (sL ws)) ∧ Hid (Below B w wr)) (fun v41 _ => m - (intOf v41).toNat)
   case atStart => exact ⟨0, p, _, Nat.zero_le _, rfl, S2, O2, B2⟩
   case round =>
    obtain ⟨k, p', v', hk, rfl, SS, OO, BB⟩ := hrel
    obtain ⟨V, rfl⟩ : ∃ wo : World, wo = wr := ⟨_, rfl⟩
    by_cases hlt : k < m
    ·obtain ⟨x, hx⟩ : ∃ x, ws[k]? = some x := ⟨ws[k]'(by rw [← HM.out]; exact hlt), List.getElem?_eq_getElem _⟩
     obtain ⟨g, o, hq, hc⟩ := words_at18 OO.out HM.out hx
     subst hq
     have k1 : (k : Int) < m := by omega
     have k0 : (0 : Int) ≤ k := by omega
     have HST := hid (fold_step18 (famS true) (P.fa, []) hx)
     obtain ⟨R, hR⟩ : ∃ R, R = ((ws.take k).foldl (famS true) (P.fa, [])) := ⟨_, rfl⟩
     have hlen := famS_len true (ws.take k) (P.fa, [])
     have hpair := famS_pair true (ws.take k) (P.fa, []) HP.out
     rw [← hR] at hlen hpair
     rw [← hR] at HST SS
     have hl2 : (ws.take k).length ≤ 1000 := Nat.le_trans (by rw [List.length_take]; omega) HWL.out
     have HL1 := hid (show R.1.length ≤ 20000 by have := HN.out; simp only at hlen; omega)
     have HL2 := hid (show R.2.length ≤ 2000 by simp only [List.length_nil] at hlen; omega)
     have HPR := hid hpair
     have HPA := hid (familyN (bs x) V (HG.out V BB.out).nm)
     have OKB := hid SS.out.le
     clear hx hlen hpair hl2 hR
     cases hf : findR famT (bs x) with
     | some n =>
      rw [hf] at HPA
      simp only [Option.getD_some, Option.isSome_some, if_true] at HPA
      have HS2 := hid (HST.out.trans (fam_some18 hf))
      clear HST hf
      have HIN := hid (fun (X : World) (s : St B b X p' { { P with fm := 1 } with fa := R.1 } a v' (R.2.map (nteP a))) => insert_f18 X B p'.mq p'.mn p'.mc R.1 n s.own.fa s.own.ml (by rw [s.own.ml]; have := HL1.out; simp only; omega) s.le HPR.out)
      go_wp2_with (first
       | (go_at_call 191; ((with_reducible refine (HPA.out).mono ?_); rintro e w2 ⟨rfl, b2⟩); have S2 := hid (SS.out.on b2); have B2 := hid (BB.out.trans (b2.mono OKB.out)); have O2 := hid (owns_on16 OO.out b2); have d0 := S2.out.cell 6 _ rfl; clear b2)
       | (go_at_call 190; ((with_reducible refine (HIN.out w2 S2.out).mono ?_); rintro e w3 ⟨q3, n3, rfl, o3, b3, k3⟩); have T3 := hid (S2.out.fams k3 o3 rfl); have y0 := (cell_of_row w3 b 6 _ _ (0, 0) T3.out.1).trans (show _ = some (Value.slice p'.mq p'.mn p'.mc) from rfl); have yf := frozen_of_row w3 b 6 _ _ T3.out.1; have O3 := hid (k3.own (by decide) O2.out); have B3 := hid (B2.out.trans b3); have LO := hid S2.out.hb; clear o3 b3 k3))
      go_roundw
      case rel => exact ⟨k + 1, { p' with mq := q3, mn := (insU ltN18 n R.1).length, mc := n3 }, v', by omega, by go_num, hid (by
       rw [HS2.out]
       have kk := KeepT.cell (i := 6) T3.out.1 (.slice q3 (insU ltN18 n R.1).length n3)
       refine ⟨?_, T3.out.2.1.kept kk (by decide) (by decide) (by decide), kk.own (by decide) T3.out.2.2, LO.out⟩
       rw [set_cell18 T3.out.1 _ 6 (by rw [stC_len]; decide)]
       rfl), hid ((KeepT.cell (i := 6) T3.out.1 _).own (by decide) O3.out), hid (B3.out.setCell (p := ⟨b, 6, none⟩) LO.out _)⟩
      case measure => first | (simp [intOf]; done) | (simp [intOf]; omega)
     | none =>
      rw [hf] at HPA
      simp only [Option.getD_none, Option.isSome_none, Bool.false_eq_true, if_false] at HPA
      have HS2 := hid (HST.out.trans (fam_none18 hf))
      clear HST hf
      have HNO := hid (fun (X : World) (s : St B b X p' { { P with fm := 1 } with fa := R.1 } a v' (R.2.map (nteP a))) => note_c18 B b X p' { { P with fm := 1 } with fa := R.1 } a v' (R.2.map (nteP a)) 180 (bs x) s (by rw [List.length_map]; have := HL2.out; omega))
      go_wp2_with (first
       | (go_at_call 191; ((with_reducible refine (HPA.out).mono ?_); rintro e w2 ⟨rfl, b2⟩); have S2 := hid (SS.out.on b2); have B2 := hid (BB.out.trans (b2.mono OKB.out)); have O2 := hid (owns_on16 OO.out b2); clear b2)
       | (go_at_call 156; ((with_reducible refine (HNO.out w2 S2.out).mono ?_); rintro e w3 ⟨rfl, ⟨v3, s3⟩, b3, k3⟩); have S3 := hid s3; have O3 := hid (k3.own (by decide) (by decide) O2.out); have B3 := hid (B2.out.trans b3); clear s3))
      go_roundw
      case rel => exact ⟨k + 1, p', v3, by omega, by go_num, hid (by rw [HS2.out]; exact S3.out.cast rfl (by rw [nte_t60, List.map_append]; rfl)), O3, B3⟩
      case measure => first | (simp [intOf]; done) | (simp [intOf]; omega)
    ·obtain rfl : k = m := by omega
     have k1 : ¬ (k : Int) < (k : Nat) := by omega
     have hst := SS.out
     rw [List.take_of_length_le (by rw [← HM.out]; exact Nat.le_refl _)] at hst
     have HSF := hid hst
     clear hst
     go_wp2_with fail
     (try simp only [Exit.inBlock, Exit.then])
     first | refine bodyPost_ret (results_none rfl _ _ _) rfl ?_ | refine bodyPost_end (results_none rfl _ _ _) rfl ?_
     exact ⟨rfl, ⟨p', v', HSF.out.cast (by rw [HMD.out]) rfl⟩, BB.out⟩
  by_cases h1 : mi = 1
  ·rw [show putC18 P.fm false = true by unfold putC18 mdF; rw [if_neg (by have := HMI.out; omega)]; exact decide_eq_true (by have := HMI.out; show P.fm = 1; omega)]
   have HMD := hid (show mdF P.fm false = P.fm by unfold mdF; rw [if_neg (by have := HMI.out; omega)])
   have e1 : (mi == 0) = false := beq_eq_false_iff_ne.2 h0
   have e2 : (mi == 1) = true := by rw [h1]; rfl
   clear h1
   go_enter Tryz.func158, Tryz.ntmps158
   go_wp2_with (first
    | (go_at_call 188; ((with_reducible refine (HT.out).mono ?_); rintro e w1 ⟨rfl, b1⟩); have S1 := hid (HS.out.on b1); have B1 := hid (b1.mono HB.out); have c7 := S1.out.cell 7 (.int .u8 mi) (by rw [HMI.out]; rfl); have SZ := S1; have BZ := B1; clear b1)
    | (go_at_call 154; ((with_reducible refine (HV.out _).mono ?_); rintro e w2 ⟨q1, d1, rfl, o1, b1⟩); have S2 := hid (SZ.out.on b1); have B2 := hid (BZ.out.trans (b1.mono SZ.out.le)); have O2 := hid (owns_low16 o1 SZ.out.le); clear o1 b1))
   go_loopw [41] (fun v41 wr => ∃ (k : Nat) (p' : Pls) (v' : Value), k ≤ m ∧ v41 = .int .i64 k ∧ Hid (St B b wr p' { P with fa := ((ws.take k).foldl (famS true) (P.fa, [])).1 } a v' (((ws.take k).foldl (famS true) (P.fa, [])).2.map (nteP a))) ∧ Hid (wr.ownsRow B 9 1 (.slice q1 m d1) m (sL ws)) ∧ Hid (Below B w wr)) (fun v41 _ => m - (intOf v41).toNat)
   case atStart => exact ⟨0, p, _, Nat.zero_le _, rfl, S2, O2, B2⟩
   case round =>
    obtain ⟨k, p', v', hk, rfl, SS, OO, BB⟩ := hrel
    obtain ⟨V, rfl⟩ : ∃ wo : World, wo = wr := ⟨_, rfl⟩
    by_cases hlt : k < m
    ·obtain ⟨x, hx⟩ : ∃ x, ws[k]? = some x := ⟨ws[k]'(by rw [← HM.out]; exact hlt), List.getElem?_eq_getElem _⟩
     obtain ⟨g, o, hq, hc⟩ := words_at18 OO.out HM.out hx
     subst hq
     have k1 : (k : Int) < m := by omega
     have k0 : (0 : Int) ≤ k := by omega
     have HST := hid (fold_step18 (famS true) (P.fa, []) hx)
     obtain ⟨R, hR⟩ : ∃ R, R = ((ws.take k).foldl (famS true) (P.fa, [])) := ⟨_, rfl⟩
     have hlen := famS_len true (ws.take k) (P.fa, [])
     have hpair := famS_pair true (ws.take k) (P.fa, []) HP.out
     rw [← hR] at hlen hpair
     rw [← hR] at HST SS
     have hl2 : (ws.take k).length ≤ 1000 := Nat.le_trans (by rw [List.length_take]; omega) HWL.out
     have HL1 := hid (show R.1.length ≤ 20000 by have := HN.out; simp only at hlen; omega)
     have HL2 := hid (show R.2.length ≤ 2000 by simp only [List.length_nil] at hlen; omega)
     have HPR := hid hpair
     have HPA := hid (familyN (bs x) V (HG.out V BB.out).nm)
     have OKB := hid SS.out.le
     clear hx hlen hpair hl2 hR
     cases hf : findR famT (bs x) with
     | some n =>
      rw [hf] at HPA
      simp only [Option.getD_some, Option.isSome_some, if_true] at HPA
      have HS2 := hid (HST.out.trans (fam_some18 hf))
      clear HST hf
      have HIN := hid (fun (X : World) (s : St B b X p' { P with fa := R.1 } a v' (R.2.map (nteP a))) => insert_f18 X B p'.mq p'.mn p'.mc R.1 n s.own.fa s.own.ml (by rw [s.own.ml]; have := HL1.out; simp only; omega) s.le HPR.out)
      go_wp2_with (first
       | (go_at_call 191; ((with_reducible refine (HPA.out).mono ?_); rintro e w2 ⟨rfl, b2⟩); have S2 := hid (SS.out.on b2); have B2 := hid (BB.out.trans (b2.mono OKB.out)); have O2 := hid (owns_on16 OO.out b2); have d0 := S2.out.cell 6 _ rfl; clear b2)
       | (go_at_call 190; ((with_reducible refine (HIN.out w2 S2.out).mono ?_); rintro e w3 ⟨q3, n3, rfl, o3, b3, k3⟩); have T3 := hid (S2.out.fams k3 o3 rfl); have y0 := (cell_of_row w3 b 6 _ _ (0, 0) T3.out.1).trans (show _ = some (Value.slice p'.mq p'.mn p'.mc) from rfl); have yf := frozen_of_row w3 b 6 _ _ T3.out.1; have O3 := hid (k3.own (by decide) O2.out); have B3 := hid (B2.out.trans b3); have LO := hid S2.out.hb; clear o3 b3 k3))
      go_roundw
      case rel => exact ⟨k + 1, { p' with mq := q3, mn := (insU ltN18 n R.1).length, mc := n3 }, v', by omega, by go_num, hid (by
       rw [HS2.out]
       have kk := KeepT.cell (i := 6) T3.out.1 (.slice q3 (insU ltN18 n R.1).length n3)
       refine ⟨?_, T3.out.2.1.kept kk (by decide) (by decide) (by decide), kk.own (by decide) T3.out.2.2, LO.out⟩
       rw [set_cell18 T3.out.1 _ 6 (by rw [stC_len]; decide)]
       rfl), hid ((KeepT.cell (i := 6) T3.out.1 _).own (by decide) O3.out), hid (B3.out.setCell (p := ⟨b, 6, none⟩) LO.out _)⟩
      case measure => first | (simp [intOf]; done) | (simp [intOf]; omega)
     | none =>
      rw [hf] at HPA
      simp only [Option.getD_none, Option.isSome_none, Bool.false_eq_true, if_false] at HPA
      have HS2 := hid (HST.out.trans (fam_none18 hf))
      clear HST hf
      have HNO := hid (fun (X : World) (s : St B b X p' { P with fa := R.1 } a v' (R.2.map (nteP a))) => note_c18 B b X p' { P with fa := R.1 } a v' (R.2.map (nteP a)) 180 (bs x) s (by rw [List.length_map]; have := HL2.out; omega))
      go_wp2_with (first
       | (go_at_call 191; ((with_reducible refine (HPA.out).mono ?_); rintro e w2 ⟨rfl, b2⟩); have S2 := hid (SS.out.on b2); have B2 := hid (BB.out.trans (b2.mono OKB.out)); have O2 := hid (owns_on16 OO.out b2); clear b2)
       | (go_at_call 156; ((with_reducible refine (HNO.out w2 S2.out).mono ?_); rintro e w3 ⟨rfl, ⟨v3, s3⟩, b3, k3⟩); have S3 := hid s3; have O3 := hid (k3.own (by decide) (by decide) O2.out); have B3 := hid (B2.out.trans b3); clear s3))
      go_roundw
      case rel => exact ⟨k + 1, p', v3, by omega, by go_num, hid (by rw [HS2.out]; exact S3.out.cast rfl (by rw [nte_t60, List.map_append]; rfl)), O3, B3⟩
      case measure => first | (simp [intOf]; done) | (simp [intOf]; omega)
    ·obtain rfl : k = m := by omega
     have k1 : ¬ (k : Int) < (k : Nat) := by omega
     have hst := SS.out
     rw [List.take_of_length_le (by rw [← HM.out]; exact Nat.le_refl _)] at hst
     have HSF := hid hst
     clear hst
     go_wp2_with fail
     (try simp only [Exit.inBlock, Exit.then])
     first | refine bodyPost_ret (results_none rfl _ _ _) rfl ?_ | refine bodyPost_end (results_none rfl _ _ _) rfl ?_
     exact ⟨rfl, ⟨p', v', HSF.out.cast (by rw [HMD.out]) rfl⟩, BB.out⟩
  rw [show putC18 P.fm false = false by unfold putC18 mdF; rw [if_neg (by have := HMI.out; omega)]; exact decide_eq_false (by have := HMI.out; show ¬ P.fm = 1; omega)]
  have HMD := hid (show mdF P.fm false = P.fm by unfold mdF; rw [if_neg (by have := HMI.out; omega)])
  have e1 : (mi == 0) = false := beq_eq_false_iff_ne.2 h0
  have e2 : (mi == 1) = false := beq_eq_false_iff_ne.2 h1
  go_enter Tryz.func158, Tryz.ntmps158
  go_wp2_with (first
   | (go_at_call 188; ((with_reducible refine (HT.out).mono ?_); rintro e w1 ⟨rfl, b1⟩); have S1 := hid (HS.out.on b1); have B1 := hid (b1.mono HB.out); have c7 := S1.out.cell 7 (.int .u8 mi) (by rw [HMI.out]; rfl); have SZ := S1; have BZ := B1; clear b1)
   | (go_at_call 154; ((with_reducible refine (HV.out _).mono ?_); rintro e w2 ⟨q1, d1, rfl, o1, b1⟩); have S2 := hid (SZ.out.on b1); have B2 := hid (BZ.out.trans (b1.mono SZ.out.le)); have O2 := hid (owns_low16 o1 SZ.out.le); clear o1 b1))
  go_loopw [41] (fun v41 wr => ∃ (k : Nat) (p' : Pls) (v' : Value), k ≤ m ∧ v41 = .int .i64 k ∧ Hid (St B b wr p' { P with fa := ((ws.take k).foldl (famS false) (P.fa, [])).1 } a v' (((ws.take k).foldl (famS false) (P.fa, [])).2.map (nteP a))) ∧ Hid (wr.ownsRow B 9 1 (.slice q1 m d1) m (sL ws)) ∧ Hid (Below B w wr)) (fun v41 _ => m - (intOf v41).toNat)
  case atStart => exact ⟨0, p, _, Nat.zero_le _, rfl, S2, O2, B2⟩
  case round =>
   obtain ⟨k, p', v', hk, rfl, SS, OO, BB⟩ := hrel
   obtain ⟨V, rfl⟩ : ∃ wo : World, wo = wr := ⟨_, rfl⟩
   by_cases hlt : k < m
   ·obtain ⟨x, hx⟩ : ∃ x, ws[k]? = some x := ⟨ws[k]'(by rw [← HM.out]; exact hlt), List.getElem?_eq_getElem _⟩
    obtain ⟨g, o, hq, hc⟩ := words_at18 OO.out HM.out hx
    subst hq
    have k1 : (k : Int) < m := by omega
    have k0 : (0 : Int) ≤ k := by omega
    have HST := hid (fold_step18 (famS false) (P.fa, []) hx)
    obtain ⟨R, hR⟩ : ∃ R, R = ((ws.take k).foldl (famS false) (P.fa, [])) := ⟨_, rfl⟩
    have hlen := famS_len false (ws.take k) (P.fa, [])
    have hpair := famS_pair false (ws.take k) (P.fa, []) HP.out
    rw [← hR] at hlen hpair
    rw [← hR] at HST SS
    have hl2 : (ws.take k).length ≤ 1000 := Nat.le_trans (by rw [List.length_take]; omega) HWL.out
    have HL1 := hid (show R.1.length ≤ 20000 by have := HN.out; simp only at hlen; omega)
    have HL2 := hid (show R.2.length ≤ 2000 by simp only [List.length_nil] at hlen; omega)
    have HPR := hid hpair
    have HPA := hid (familyN (bs x) V (HG.out V BB.out).nm)
    have OKB := hid SS.out.le
    clear hx hlen hpair hl2 hR
    cases hf : findR famT (bs x) with
    | some n =>
     rw [hf] at HPA
     simp only [Option.getD_some, Option.isSome_some, if_true] at HPA
     have HS2 := hid (HST.out.trans (fam_some18 hf))
     clear HST hf
     have HIN := hid (fun (X : World) (s : St B b X p' { P with fa := R.1 } a v' (R.2.map (nteP a))) => remove_f18 X B p'.mq p'.mn p'.mc R.1 n s.own.fa s.own.ml (by rw [s.own.ml]; have := HL1.out; simp only; omega) s.le)
     go_wp2_with (first
      | (go_at_call 191; ((with_reducible refine (HPA.out).mono ?_); rintro e w2 ⟨rfl, b2⟩); have S2 := hid (SS.out.on b2); have B2 := hid (BB.out.trans (b2.mono OKB.out)); have O2 := hid (owns_on16 OO.out b2); have d0 := S2.out.cell 6 _ rfl; clear b2)
      | (go_at_call 189; ((with_reducible refine (HIN.out w2 S2.out).mono ?_); rintro e w3 ⟨q3, n3, rfl, o3, b3, k3⟩); have T3 := hid (S2.out.fams k3 o3 rfl); have y0 := (cell_of_row w3 b 6 _ _ (0, 0) T3.out.1).trans (show _ = some (Value.slice p'.mq p'.mn p'.mc) from rfl); have yf := frozen_of_row w3 b 6 _ _ T3.out.1; have O3 := hid (k3.own (by decide) O2.out); have B3 := hid (B2.out.trans b3); have LO := hid S2.out.hb; clear o3 b3 k3))
     go_roundw
     case rel => exact ⟨k + 1, { p' with mq := q3, mn := (R.1.filter (fun y => y != n)).length, mc := n3 }, v', by omega, by go_num, hid (by
      rw [HS2.out]
      have kk := KeepT.cell (i := 6) T3.out.1 (.slice q3 (R.1.filter (fun y => y != n)).length n3)
      refine ⟨?_, T3.out.2.1.kept kk (by decide) (by decide) (by decide), kk.own (by decide) T3.out.2.2, LO.out⟩
      rw [set_cell18 T3.out.1 _ 6 (by rw [stC_len]; decide)]
      rfl), hid ((KeepT.cell (i := 6) T3.out.1 _).own (by decide) O3.out), hid (B3.out.setCell (p := ⟨b, 6, none⟩) LO.out _)⟩
     case measure => first | (simp [intOf]; done) | (simp [intOf]; omega)
    | none =>
     rw [hf] at HPA
     simp only [Option.getD_none, Option.isSome_none, Bool.false_eq_true, if_false] at HPA
     have HS2 := hid (HST.out.trans (fam_none18 hf))
     clear HST hf
     have HNO := hid (fun (X : World) (s : St B b X p' { P with fa := R.1 } a v' (R.2.map (nteP a))) => note_c18 B b X p' { P with fa := R.1 } a v' (R.2.map (nteP a)) 180 (bs x) s (by rw [List.length_map]; have := HL2.out; omega))
     go_wp2_with (first
      | (go_at_call 191; ((with_reducible refine (HPA.out).mono ?_); rintro e w2 ⟨rfl, b2⟩); have S2 := hid (SS.out.on b2); have B2 := hid (BB.out.trans (b2.mono OKB.out)); have O2 := hid (owns_on16 OO.out b2); clear b2)
      | (go_at_call 156; ((with_reducible refine (HNO.out w2 S2.out).mono ?_); rintro e w3 ⟨rfl, ⟨v3, s3⟩, b3, k3⟩); have S3 := hid s3; have O3 := hid (k3.own (by decide) (by decide) O2.out); have B3 := hid (B2.out.trans b3); clear s3))
     go_roundw
     case rel => exact ⟨k + 1, p', v3, by omega, by go_num, hid (by rw [HS2.out]; exact S3.out.cast rfl (by rw [nte_t60, List.map_append]; rfl)), O3, B3⟩
     case measure => first | (simp [intOf]; done) | (simp [intOf]; omega)
   ·obtain rfl : k = m := by omega
    have k1 : ¬ (k : Int) < (k : Nat) := by omega
    have hst := SS.out
    rw [List.take_of_length_le (by rw [← HM.out]; exact Nat.le_refl _)] at hst
    have HSF := hid hst
    clear hst
    go_wp2_with fail
    (try simp only [Exit.inBlock, Exit.then])
    first | refine bodyPost_ret (results_none rfl _ _ _) rfl ?_ | refine bodyPost_end (results_none rfl _ _ _) rfl ?_
    exact ⟨rfl, ⟨p', v', HSF.out.cast (by rw [HMD.out]) rfl⟩, BB.out⟩
end Go.Proofs.YtlenjfodjkhpmaaGreatDoor
