/- What the landed effect of families leaves. Conditions: the tables lie in their variables; lists of at most 10,000, values of at most 1,000 bytes. -/
import Derived.Test.YtbjhleajhkofeaaDoorR6
namespace Go.Proofs.YtbjhleajhkofeaaDoor
open Go.RowKit Go.Shelf
set_option linter.unusedVariables false
set_option linter.unusedSimpArgs false
attribute [local go_sem ↓] Go.wp_at_zero Go.wp_at_succ

theorem fold_step18 {α β : Type} (f : β → α → β) (r : β) {l : List α} {k : Nat} {x : α} (h : l[k]? = some x) : (l.take (k + 1)).foldl f r = f ((l.take k).foldl f r) x := by
  rw [List.take_add_one, h]
  show List.foldl f r (l.take k ++ [x]) = _
  rw [List.foldl_append]
  rfl
theorem nte_t60 (a : As) (E : Int) (x : List UInt8) : (⟨a.file, a.line, E, bs ((bs x).data.toList.take 60)⟩ : Nte) = nteP a (E, t60 x) := by
  rw [bs_list]; rfl
theorem St.cast {B b : Nat} {w : World} {p : Pls} {P P2 : Pol} {a : As} {v : Value} {N N2 : List Nte} (h : St B b w p P a v N) (e : P = P2) (e2 : N = N2) : St B b w p P2 a v N2 := by rw [← e, ← e2]; exact h
theorem words_at18 {B : Nat} {w : World} {q : Option Addr} {n c : Nat} {L : List (List UInt8)} {T : TypeId} (h : w.ownsRow B T 1 (.slice q n c) n (sL L)) (hn : n = L.length) {k : Nat} {x : List UInt8} (hx : L[k]? = some x) : ∃ g o, q = some ⟨g, o, none⟩ ∧ w.cell? ⟨g, o + k, none⟩ = some (.string (bs x)) := WdsAt.of_own h hn k x hx
set_option maxRecDepth 100000 in
set_option maxHeartbeats 16000000 in
theorem arches_c18 (B b : Nat) (w : World) (p : Pls) (P : Pol) (a : As) (hG : ∀ X, Below B w X → G18 X) (h : St B b w p P a (.slice none 0 0) []) (hv : a.val.size ≤ 1000) (hn : p.an ≤ 10000) (hs : P.ar.Pairwise fun a b => ltI a b = true) :
    Calls Tryd.prog 30 #[.pointer (some ⟨b, 0, none⟩)] w fun e w' => e = .returned (.tuple #[]) ∧ (∃ p' v', St B b w' p' { P with ar := (arcF P.ar a.val).1 } a v' ((arcF P.ar a.val).2.map (nteP a))) ∧ Below B w w' := by
  have HV := Lib.hid (words_c18 a.val w (by omega))
  obtain ⟨ws, hws⟩ : ∃ l, l = wdL a.val.data.toList := ⟨_, rfl⟩
  have hwl : ws.length ≤ 1000 := by rw [hws]; exact Nat.le_trans (wd_size _) hv
  have hF : arcF P.ar a.val = if ws = [] then ([], []) else ws.foldl arcS (P.ar, []) := by rw [hws]; rfl
  rw [hF]
  rw [← hws] at HV
  have c17 := h.cell 17 (.string a.val) rfl
  have HS := Lib.hid h
  have HG := Lib.hid hG
  have HB := Lib.hid h.le
  have HWL := Lib.hid hwl
  have HN := Lib.hid (show P.ar.length ≤ 10000 by rw [← h.own.al]; exact hn)
  have HP := Lib.hid hs
  by_cases h0 : ws = []
  · rw [if_pos h0]
    subst h0
    simp only [List.length_nil] at HV
    clear hv hws hwl hF h hG hn hs
    go_enter Tryd.func30, Tryd.ntmps30
    go_wp2_with (go_at_call 14; ((with_reducible refine (HV.out).mono ?_); rintro e w1 ⟨q1, d1, rfl, o1, b1⟩); have S1 := Lib.hid (HS.out.on b1); have B1 := Lib.hid (b1.mono HB.out); have x0 := S1.out.cell 0 _ rfl; have xf := S1.out.frz 0; clear o1 b1)
    have F1 := Lib.hid (show St B b (w1.setCell ⟨b, 0, none⟩ (.slice none 0 0)) { p with aq := none, an := 0, ac := 0 } { P with ar := [] } a (.slice none 0 0) [] from St.set S1.out 0 (.slice none 0 0) (by decide) rfl ⟨rfl, S1.out.own.fl, S1.out.own.ll, S1.out.own.ml, World.ownsRow_nil _ _ _ _, S1.out.own.fi, S1.out.own.lo, S1.out.own.fa⟩ S1.out.nts)
    have F2 := Lib.hid (B1.out.trans (S1.out.low 0 (.slice none 0 0)))
    generalize w1.setCell ⟨b, 0, none⟩ (.slice none 0 0) = Z at F1 F2 ⊢
    go_loopw [22] (fun v22 wr => v22 = .int .i64 0 ∧ Hid (wr = Z)) (fun _ _ => 0)
    case atStart => exact ⟨rfl, Lib.hid rfl⟩
    case round =>
      obtain ⟨rfl, hZ⟩ := hrel
      have hZ2 := hZ.out
      subst hZ2
      go_wp2_with fail
      (try simp only [Exit.inBlock, Exit.then])
      first | refine bodyPost_ret (results_none rfl _ _ _) rfl ?_ | refine bodyPost_end (results_none rfl _ _ _) rfl ?_
      exact ⟨rfl, ⟨_, _, F1.out⟩, F2.out⟩
  · rw [if_neg h0]
    obtain ⟨m, hm⟩ : ∃ m, m = ws.length := ⟨_, rfl⟩
    have hm0 : 0 < m := by rw [hm]; exact List.length_pos_iff.2 h0
    rw [← hm] at HV
    have HM := Lib.hid hm
    have m1 : ¬ (m : Int) = 0 := by omega
    have m3 : m ≤ 1000 := by omega
    have m2 : ((m : Int) == 0) = false := beq_eq_false_iff_ne.2 m1
    clear hv hws hwl hF h hG hn hs h0 hm hm0
    go_enter Tryd.func30, Tryd.ntmps30
    go_wp2_with (go_at_call 14; ((with_reducible refine (HV.out).mono ?_); rintro e w1 ⟨q1, d1, rfl, o1, b1⟩); have S1 := Lib.hid (HS.out.on b1); have B1 := Lib.hid (b1.mono HB.out); have O1 := Lib.hid (owns_low16 o1 HB.out); clear o1 b1)
    go_loopw [22] (fun v22 wr => ∃ (k : Nat) (p' : Pls) (v' : Value), k ≤ m ∧ v22 = .int .i64 k ∧ Hid (St B b wr p' { P with ar := ((ws.take k).foldl arcS (P.ar, [])).1 } a v' (((ws.take k).foldl arcS (P.ar, [])).2.map (nteP a))) ∧ Hid (wr.ownsRow B 9 1 (.slice q1 m d1) m (sL ws)) ∧ Hid (Below B w wr)) (fun v22 _ => m - (intOf v22).toNat)
    case atStart => exact ⟨0, p, _, Nat.zero_le _, rfl, S1, O1, B1⟩
    case round =>
      obtain ⟨k, p', v', hk, rfl, SS, OO, BB⟩ := hrel
      obtain ⟨V, rfl⟩ : ∃ wo : World, wo = wr := ⟨_, rfl⟩
      by_cases hlt : k < m
      · obtain ⟨x, hx⟩ : ∃ x, ws[k]? = some x := ⟨ws[k]'(by rw [← HM.out]; exact hlt), List.getElem?_eq_getElem _⟩
        obtain ⟨g, o, hq, hc⟩ := words_at18 OO.out HM.out hx
        subst hq
        have k1 : (k : Int) < m := by omega
        have k0 : (0 : Int) ≤ k := by omega
        have HST := Lib.hid (fold_step18 arcS (P.ar, []) hx)
        obtain ⟨R, hR⟩ : ∃ R, R = (ws.take k).foldl arcS (P.ar, []) := ⟨_, rfl⟩
        have hlen := arcS_len (ws.take k) (P.ar, [])
        have hpair := arcS_pair (ws.take k) (P.ar, []) HP.out
        rw [← hR] at hlen hpair
        rw [← hR] at HST SS
        have hl2 : (ws.take k).length ≤ 1000 := Nat.le_trans (by rw [List.length_take]; omega) HWL.out
        have HL1 := Lib.hid (show R.1.length ≤ 20000 by have := HN.out; simp only at hlen; omega)
        have HL2 := Lib.hid (show R.2.length ≤ 2000 by simp only [List.length_nil] at hlen; omega)
        have HPR := Lib.hid hpair
        have HPA := Lib.hid (parse8 (bs x) V (HG.out V BB.out).ar)
        have HER := Lib.hid (parR_err (bs x))
        have HST2 : Hid ((ws.take (k + 1)).foldl arcS (P.ar, []) = if (parR (bs x)).2 = 0 then (insU ltI (parR (bs x)).1 R.1, R.2) else (R.1, R.2 ++ [((parR (bs x)).2, t60 x)])) := Lib.hid HST.out
        obtain ⟨z, hz⟩ : ∃ z, z = (parR (bs x)).1 := ⟨_, rfl⟩
        obtain ⟨er, her⟩ : ∃ z, z = (parR (bs x)).2 := ⟨_, rfl⟩
        rw [← hz, ← her] at HPA HST2
        rw [← her] at HER
        have OKB := Lib.hid SS.out.le
        clear hx hlen hpair hl2 hR HST hz her
        have c0 := SS.out.cell 0 _ rfl
        by_cases he : er = 0
        · have hst := HST2.out
          rw [if_pos he] at hst
          have HS2 := Lib.hid hst
          clear hst HST2 HER
          subst he
          have HIN := Lib.hid (fun (X : World) (s : St B b X p' { P with ar := R.1 } a v' (R.2.map (nteP a))) => insert_i18 X B p'.aq p'.an p'.ac R.1 z s.own.ar s.own.al (by rw [s.own.al]; have := HL1.out; simp only; omega) s.le HPR.out)
          go_wp2_with (first
            | (go_at_call 43; ((with_reducible refine (HPA.out).mono ?_); rintro e w2 ⟨rfl, b2⟩); have S2 := Lib.hid (SS.out.on b2); have B2 := Lib.hid (BB.out.trans (b2.mono OKB.out)); have O2 := Lib.hid (owns_on16 OO.out b2); have d0 := S2.out.cell 0 _ rfl; clear b2)
            | (go_at_call 45; ((with_reducible refine (HIN.out w2 S2.out).mono ?_); rintro e w3 ⟨q3, n3, rfl, o3, b3, k3⟩); have T3 := Lib.hid (S2.out.arch k3 o3 rfl); have U3 := Lib.hid (show St B b w3 p' { P with ar := R.1 } a v' (R.2.map (nteP a)) → True from fun _ => trivial); have y0 := (cell_of_row w3 b 0 _ _ (0, 0) T3.out.1).trans (show _ = some (Value.slice p'.aq p'.an p'.ac) from rfl); have yf := frozen_of_row w3 b 0 _ _ T3.out.1; have O3 := Lib.hid (k3.own (by decide) O2.out); have B3 := Lib.hid (B2.out.trans b3); have LO := Lib.hid S2.out.hb; clear o3 b3 k3))
          go_roundw
          case rel => exact ⟨k + 1, { p' with aq := q3, an := (insU ltI z R.1).length, ac := n3 }, v', by omega, by go_num, Lib.hid (by
            rw [HS2.out]
            have kk := KeepT.cell (i := 0) T3.out.1 (.slice q3 (insU ltI z R.1).length n3)
            refine ⟨?_, T3.out.2.1.kept kk (by decide) (by decide) (by decide), kk.own (by decide) T3.out.2.2, LO.out⟩
            rw [set_cell18 T3.out.1 _ 0 (by rw [stC_len]; decide)]
            rfl), Lib.hid ((KeepT.cell (i := 0) T3.out.1 _).own (by decide) O3.out), Lib.hid (B3.out.setCell (p := ⟨b, 0, none⟩) LO.out _)⟩
          case measure => first | (simp [intOf]; done) | (simp [intOf]; omega)
        · have hst := HST2.out
          rw [if_neg he] at hst
          have HS2 := Lib.hid hst
          have e80 : er = 80 := HER.out.resolve_left he
          clear hst HST2 HER he
          subst e80
          have HNO := Lib.hid (fun (X : World) (s : St B b X p' { P with ar := R.1 } a v' (R.2.map (nteP a))) => note_c18 B b X p' { P with ar := R.1 } a v' (R.2.map (nteP a)) 80 (bs x) s (by rw [List.length_map]; have := HL2.out; omega))
          go_wp2_with (first
            | (go_at_call 43; ((with_reducible refine (HPA.out).mono ?_); rintro e w2 ⟨rfl, b2⟩); have S2 := Lib.hid (SS.out.on b2); have B2 := Lib.hid (BB.out.trans (b2.mono OKB.out)); have O2 := Lib.hid (owns_on16 OO.out b2); clear b2)
            | (go_at_call 44; ((with_reducible refine (HNO.out w2 S2.out).mono ?_); rintro e w3 ⟨rfl, ⟨v3, s3⟩, b3, k3⟩); have S3 := Lib.hid s3; have O3 := Lib.hid (k3.own (by decide) (by decide) O2.out); have B3 := Lib.hid (B2.out.trans b3); clear s3))
          go_roundw
          case rel => exact ⟨k + 1, p', v3, by omega, by go_num, Lib.hid (by rw [HS2.out]; exact S3.out.cast rfl (by rw [nte_t60, List.map_append]; rfl)), O3, B3⟩
          case measure => first | (simp [intOf]; done) | (simp [intOf]; omega)
      · obtain rfl : k = m := by omega
        have k1 : ¬ (k : Int) < (k : Nat) := by omega
        have hst := SS.out
        rw [List.take_of_length_le (by rw [← HM.out]; exact Nat.le_refl _)] at hst
        have HSF := Lib.hid hst
        clear hst
        go_wp2_with fail
        (try simp only [Exit.inBlock, Exit.then])
        first | refine bodyPost_ret (results_none rfl _ _ _) rfl ?_ | refine bodyPost_end (results_none rfl _ _ _) rfl ?_
        exact ⟨rfl, ⟨p', v', HSF.out⟩, BB.out⟩
end Go.Proofs.YtbjhleajhkofeaaDoor
namespace Go.Proofs.YtbjhleajhkofeaaDoor
open Go.RowKit Go.Shelf
set_option linter.unusedVariables false
set_option linter.unusedSimpArgs false
attribute [local go_sem ↓] Go.wp_at_zero Go.wp_at_succ

theorem insU_cast18 (x : Nat) : ∀ L : List Nat, insU ltI (x : Int) (L.map (fun (x : Nat) => (x : Int))) = (insU ltN18 x L).map (fun (x : Nat) => (x : Int))
  | [] => rfl
  | a :: r => by
    rw [List.map_cons]
    unfold insU
    by_cases h : x = a
    · rw [if_pos h, if_pos (by rw [h])]; rfl
    · rw [if_neg h, if_neg (by omega)]
      have hl : ltI (x : Int) (a : Int) = ltN18 x a := by unfold ltI ltN18; congr 1; apply propext; omega
      rw [hl]
      by_cases h2 : ltN18 x a = true
      · rw [if_pos h2, if_pos h2]; rfl
      · rw [if_neg h2, if_neg h2, insU_cast18 x r]; rfl
theorem filter_cast18 (x : Nat) : ∀ L : List Nat, (L.map (fun (x : Nat) => (x : Int))).filter (fun y => y != (x : Int)) = (L.filter (fun y => y != x)).map (fun (x : Nat) => (x : Int))
  | [] => rfl
  | a :: r => by
    rw [List.map_cons, List.filter_cons, List.filter_cons, filter_cast18 x r]
    have hb : ((a : Int) != (x : Int)) = (a != x) := by
      rw [Bool.eq_iff_iff, bne_iff_ne, bne_iff_ne]
      omega
    rw [hb]
    split <;> rfl
theorem pair_cast18 {L : List Nat} (h : L.Pairwise fun a b => ltN18 a b = true) : (L.map (fun (x : Nat) => (x : Int))).Pairwise fun a b => ltI a b = true := by
  rw [List.pairwise_map]
  exact h.imp fun {a b} hab => by unfold ltN18 at hab; unfold ltI; simp at *; omega
theorem insert_f18 (w : World) (B : Nat) (q : Option Addr) (n c : Nat) (L : List Nat) (x : Nat) (hO : w.ownsRow B 28 1 (.slice q n c) n ((L.map (fun (x : Nat) => (x : Int))).map (Value.int .u32))) (hn : n = L.length) (hb : n ≤ 50000) (hBW : B ≤ w.heap.size) (hs : L.Pairwise fun a b => ltN18 a b = true) :
    Calls Tryd.prog 58 #[.slice q n c, .int .u32 (x : Nat)] w fun e w' => ∃ q' c', e = .returned (.slice q' (insU ltN18 x L).length c') ∧ w'.ownsRow B 28 1 (.slice q' (insU ltN18 x L).length c') (insU ltN18 x L).length (((insU ltN18 x L).map (fun (x : Nat) => (x : Int))).map (Value.int .u32)) ∧ Below B w w' ∧ KeepT 28 w w' := by
  have h := insert_u18 w B q n c (L.map (fun (x : Nat) => (x : Int))) (x : Int) hO (by rw [List.length_map]; exact hn) hb hBW (pair_cast18 hs)
  rw [insU_cast18, List.length_map] at h
  exact h
theorem remove_f18 (w : World) (B : Nat) (q : Option Addr) (n c : Nat) (L : List Nat) (x : Nat) (hO : w.ownsRow B 28 1 (.slice q n c) n ((L.map (fun (x : Nat) => (x : Int))).map (Value.int .u32))) (hn : n = L.length) (hb : n ≤ 50000) (hBW : B ≤ w.heap.size) :
    Calls Tryd.prog 57 #[.slice q n c, .int .u32 (x : Nat)] w fun e w' => ∃ q' c', e = .returned (.slice q' (L.filter (fun y => y != x)).length c') ∧ w'.ownsRow B 28 1 (.slice q' (L.filter (fun y => y != x)).length c') (L.filter (fun y => y != x)).length (((L.filter (fun y => y != x)).map (fun (x : Nat) => (x : Int))).map (Value.int .u32)) ∧ Below B w w' ∧ KeepT 28 w w' := by
  have h := remove_u18 w B q n c (L.map (fun (x : Nat) => (x : Int))) (x : Int) hO (by rw [List.length_map]; exact hn) hb hBW
  rw [filter_cast18, List.length_map] at h
  exact h
/-- Is what is named put, or taken out? -/
def putC18 (m : Nat) (T : Bool) : Bool := decide (mdF m T = if T = true then 2 else 1)
theorem putC_is18 {m : Nat} {v : ByteArray} (h : m ≤ 2) : putC18 m (turnR v).2 = putB18 m v := by
  unfold putC18 putB18 mdF
  generalize (turnR v).2 = T
  obtain rfl | rfl | rfl : m = 0 ∨ m = 1 ∨ m = 2 := by omega
  all_goals cases T <;> rfl
theorem fam_some18 {pb : Bool} {R : List Nat × List (Int × ByteArray)} {x : List UInt8} {n : Nat} (h : findR famT (bs x) = some n) : famS pb R x = (if pb = true then insU ltN18 n R.1 else R.1.filter (fun x => x != n), R.2) := by
  unfold famS; rw [h]
theorem fam_none18 {pb : Bool} {R : List Nat × List (Int × ByteArray)} {x : List UInt8} (h : findR famT (bs x) = none) : famS pb R x = (R.1, R.2 ++ [(180, t60 x)]) := by
  unfold famS; rw [h]
set_option maxRecDepth 100000 in
set_option maxHeartbeats 16000000 in
theorem listFamilies_c18 (B b : Nat) (w : World) (p : Pls) (P : Pol) (a : As) (hG : ∀ X, Below B w X → G18 X) (h : St B b w p P a (.slice none 0 0) []) (hv : a.val.size ≤ 1000) (hn : P.fa.length ≤ 10000) (hs : P.fa.Pairwise fun a b => ltN18 a b = true) :
    Calls Tryd.prog 46 #[.pointer (some ⟨b, 0, none⟩)] w fun e w' => e = .returned (.tuple #[]) ∧ (∃ p' v', St B b w' p' { P with fm := mdF P.fm (turnR a.val).2, fa := ((wdL (turnR a.val).1.data.toList).foldl (famS (putC18 P.fm (turnR a.val).2)) (P.fa, [])).1 } a v' (((wdL (turnR a.val).1.data.toList).foldl (famS (putC18 P.fm (turnR a.val).2)) (P.fa, [])).2.map (nteP a))) ∧ Below B w w' := by
  have HT := Lib.hid (turned15 a.val w)
  have HV := Lib.hid (fun (X : World) => words_c18 (turnR a.val).1 X (by have := turn_size a.val; omega))
  obtain ⟨ws, hws⟩ : ∃ l, l = wdL (turnR a.val).1.data.toList := ⟨_, rfl⟩
  have hwl : ws.length ≤ 1000 := by rw [hws]; exact Nat.le_trans (wd_size _) (Nat.le_trans (turn_size _) hv)
  rw [← hws] at HV ⊢
  obtain ⟨m, hm⟩ : ∃ m, m = ws.length := ⟨_, rfl⟩
  rw [← hm] at HV
  have m3 : m ≤ 1000 := by omega
  obtain ⟨rest, hrest⟩ : ∃ r, r = (turnR a.val).1 := ⟨_, rfl⟩
  rw [← hrest] at HT HV
  obtain ⟨mi, hmi⟩ : ∃ x : Int, x = (P.fm : Nat) := ⟨_, rfl⟩
  have c17 := h.cell 17 (.string a.val) rfl
  have HS := Lib.hid h
  have HG := Lib.hid hG
  have HB := Lib.hid h.le
  have HWL := Lib.hid hwl
  have HM := Lib.hid hm
  have HMI := Lib.hid hmi
  have HN := Lib.hid hn
  have HP := Lib.hid hs
  obtain ⟨T, hTT⟩ : ∃ T, T = (turnR a.val).2 := ⟨_, rfl⟩
  rw [← hTT] at HT ⊢
  clear hv hws hwl h hG hn hs hm hrest hmi hTT
  cases hT : T with
  | true =>
    subst hT
    by_cases h0 : mi = 0
    · subst h0
      rw [show putC18 P.fm true = true by unfold putC18 mdF; rw [if_pos (by have := HMI.out; omega)]; rfl]
      have HMD := Lib.hid (show mdF P.fm true = 2 by unfold mdF; rw [if_pos (by have := HMI.out; omega)]; rfl)
      go_enter Tryd.func46, Tryd.ntmps46
      go_wp2_with (first
        | (go_at_call 16; ((with_reducible refine (HT.out).mono ?_); rintro e w1 ⟨rfl, b1⟩); have S1 := Lib.hid (HS.out.on b1); have B1 := Lib.hid (b1.mono HB.out); have c7 := S1.out.cell 7 (.int .u8 0) (by show some (Value.int .u8 (P.fm : Nat)) = _; rw [← HMI.out]); have x7 := S1.out.frz 7; have SZ := Lib.hid (show St B b (w1.setCell ⟨b, 7, none⟩ (.int .u8 2)) p { P with fm := 2 } a (.slice none 0 0) [] from St.set S1.out 7 (.int .u8 2) (by decide) rfl ⟨S1.out.own.al, S1.out.own.fl, S1.out.own.ll, S1.out.own.ml, S1.out.own.ar, S1.out.own.fi, S1.out.own.lo, S1.out.own.fa⟩ S1.out.nts); have BZ := Lib.hid (B1.out.trans (S1.out.low 7 (.int .u8 2))); clear b1)
        | (go_at_call 14; ((with_reducible refine (HV.out _).mono ?_); rintro e w2 ⟨q1, d1, rfl, o1, b1⟩); have S2 := Lib.hid (SZ.out.on b1); have B2 := Lib.hid (BZ.out.trans (b1.mono SZ.out.le)); have O2 := Lib.hid (owns_low16 o1 SZ.out.le); clear o1 b1))
      go_loopw [41] (fun v41 wr => ∃ (k : Nat) (p' : Pls) (v' : Value), k ≤ m ∧ v41 = .int .i64 k ∧ Hid (St B b wr p' { { P with fm := 2 } with fa := ((ws.take k).foldl (famS true) (P.fa, [])).1 } a v' (((ws.take k).foldl (famS true) (P.fa, [])).2.map (nteP a))) ∧ Hid (wr.ownsRow B 9 1 (.slice q1 m d1) m (sL ws)) ∧ Hid (Below B w wr)) (fun v41 _ => m - (intOf v41).toNat)
      case atStart => exact ⟨0, p, _, Nat.zero_le _, rfl, S2, O2, B2⟩
      case round =>
        obtain ⟨k, p', v', hk, rfl, SS, OO, BB⟩ := hrel
        obtain ⟨V, rfl⟩ : ∃ wo : World, wo = wr := ⟨_, rfl⟩
        by_cases hlt : k < m
        · obtain ⟨x, hx⟩ : ∃ x, ws[k]? = some x := ⟨ws[k]'(by rw [← HM.out]; exact hlt), List.getElem?_eq_getElem _⟩
          obtain ⟨g, o, hq, hc⟩ := words_at18 OO.out HM.out hx
          subst hq
          have k1 : (k : Int) < m := by omega
          have k0 : (0 : Int) ≤ k := by omega
          have HST := Lib.hid (fold_step18 (famS true) (P.fa, []) hx)
          obtain ⟨R, hR⟩ : ∃ R, R = ((ws.take k).foldl (famS true) (P.fa, [])) := ⟨_, rfl⟩
          have hlen := famS_len true (ws.take k) (P.fa, [])
          have hpair := famS_pair true (ws.take k) (P.fa, []) HP.out
          rw [← hR] at hlen hpair
          rw [← hR] at HST SS
          have hl2 : (ws.take k).length ≤ 1000 := Nat.le_trans (by rw [List.length_take]; omega) HWL.out
          have HL1 := Lib.hid (show R.1.length ≤ 20000 by have := HN.out; simp only at hlen; omega)
          have HL2 := Lib.hid (show R.2.length ≤ 2000 by simp only [List.length_nil] at hlen; omega)
          have HPR := Lib.hid hpair
          have HPA := Lib.hid (familyN (bs x) V (HG.out V BB.out).nm)
          have OKB := Lib.hid SS.out.le
          clear hx hlen hpair hl2 hR
          cases hf : findR famT (bs x) with
          | some n =>
            rw [hf] at HPA
            simp only [Option.getD_some, Option.isSome_some, if_true] at HPA
            have HS2 := Lib.hid (HST.out.trans (fam_some18 hf))
            clear HST hf
            have HIN := Lib.hid (fun (X : World) (s : St B b X p' { { P with fm := 2 } with fa := R.1 } a v' (R.2.map (nteP a))) => insert_f18 X B p'.mq p'.mn p'.mc R.1 n s.own.fa s.own.ml (by rw [s.own.ml]; have := HL1.out; simp only; omega) s.le HPR.out)
            go_wp2_with (first
              | (go_at_call 59; ((with_reducible refine (HPA.out).mono ?_); rintro e w2 ⟨rfl, b2⟩); have S2 := Lib.hid (SS.out.on b2); have B2 := Lib.hid (BB.out.trans (b2.mono OKB.out)); have O2 := Lib.hid (owns_on16 OO.out b2); have d0 := S2.out.cell 6 _ rfl; clear b2)
              | (go_at_call 58; ((with_reducible refine (HIN.out w2 S2.out).mono ?_); rintro e w3 ⟨q3, n3, rfl, o3, b3, k3⟩); have T3 := Lib.hid (S2.out.fams k3 o3 rfl); have y0 := (cell_of_row w3 b 6 _ _ (0, 0) T3.out.1).trans (show _ = some (Value.slice p'.mq p'.mn p'.mc) from rfl); have yf := frozen_of_row w3 b 6 _ _ T3.out.1; have O3 := Lib.hid (k3.own (by decide) O2.out); have B3 := Lib.hid (B2.out.trans b3); have LO := Lib.hid S2.out.hb; clear o3 b3 k3))
            go_roundw
            case rel => exact ⟨k + 1, { p' with mq := q3, mn := (insU ltN18 n R.1).length, mc := n3 }, v', by omega, by go_num, Lib.hid (by
              rw [HS2.out]
              have kk := KeepT.cell (i := 6) T3.out.1 (.slice q3 (insU ltN18 n R.1).length n3)
              refine ⟨?_, T3.out.2.1.kept kk (by decide) (by decide) (by decide), kk.own (by decide) T3.out.2.2, LO.out⟩
              rw [set_cell18 T3.out.1 _ 6 (by rw [stC_len]; decide)]
              rfl), Lib.hid ((KeepT.cell (i := 6) T3.out.1 _).own (by decide) O3.out), Lib.hid (B3.out.setCell (p := ⟨b, 6, none⟩) LO.out _)⟩
            case measure => first | (simp [intOf]; done) | (simp [intOf]; omega)
          | none =>
            rw [hf] at HPA
            simp only [Option.getD_none, Option.isSome_none, Bool.false_eq_true, if_false] at HPA
            have HS2 := Lib.hid (HST.out.trans (fam_none18 hf))
            clear HST hf
            have HNO := Lib.hid (fun (X : World) (s : St B b X p' { { P with fm := 2 } with fa := R.1 } a v' (R.2.map (nteP a))) => note_c18 B b X p' { { P with fm := 2 } with fa := R.1 } a v' (R.2.map (nteP a)) 180 (bs x) s (by rw [List.length_map]; have := HL2.out; omega))
            go_wp2_with (first
              | (go_at_call 59; ((with_reducible refine (HPA.out).mono ?_); rintro e w2 ⟨rfl, b2⟩); have S2 := Lib.hid (SS.out.on b2); have B2 := Lib.hid (BB.out.trans (b2.mono OKB.out)); have O2 := Lib.hid (owns_on16 OO.out b2); clear b2)
              | (go_at_call 44; ((with_reducible refine (HNO.out w2 S2.out).mono ?_); rintro e w3 ⟨rfl, ⟨v3, s3⟩, b3, k3⟩); have S3 := Lib.hid s3; have O3 := Lib.hid (k3.own (by decide) (by decide) O2.out); have B3 := Lib.hid (B2.out.trans b3); clear s3))
            go_roundw
            case rel => exact ⟨k + 1, p', v3, by omega, by go_num, Lib.hid (by rw [HS2.out]; exact S3.out.cast rfl (by rw [nte_t60, List.map_append]; rfl)), O3, B3⟩
            case measure => first | (simp [intOf]; done) | (simp [intOf]; omega)
        · obtain rfl : k = m := by omega
          have k1 : ¬ (k : Int) < (k : Nat) := by omega
          have hst := SS.out
          rw [List.take_of_length_le (by rw [← HM.out]; exact Nat.le_refl _)] at hst
          have HSF := Lib.hid hst
          clear hst
          go_wp2_with fail
          (try simp only [Exit.inBlock, Exit.then])
          first | refine bodyPost_ret (results_none rfl _ _ _) rfl ?_ | refine bodyPost_end (results_none rfl _ _ _) rfl ?_
          exact ⟨rfl, ⟨p', v', HSF.out.cast (by rw [HMD.out]) rfl⟩, BB.out⟩
    by_cases h1 : mi = 2
    · rw [show putC18 P.fm true = true by unfold putC18 mdF; rw [if_neg (by have := HMI.out; omega)]; exact decide_eq_true (by have := HMI.out; show P.fm = 2; omega)]
      have HMD := Lib.hid (show mdF P.fm true = P.fm by unfold mdF; rw [if_neg (by have := HMI.out; omega)])
      have e1 : (mi == 0) = false := beq_eq_false_iff_ne.2 h0
      have e2 : (mi == 2) = true := by rw [h1]; rfl
      clear h1
      go_enter Tryd.func46, Tryd.ntmps46
      go_wp2_with (first
        | (go_at_call 16; ((with_reducible refine (HT.out).mono ?_); rintro e w1 ⟨rfl, b1⟩); have S1 := Lib.hid (HS.out.on b1); have B1 := Lib.hid (b1.mono HB.out); have c7 := S1.out.cell 7 (.int .u8 mi) (by rw [HMI.out]; rfl); have SZ := S1; have BZ := B1; clear b1)
        | (go_at_call 14; ((with_reducible refine (HV.out _).mono ?_); rintro e w2 ⟨q1, d1, rfl, o1, b1⟩); have S2 := Lib.hid (SZ.out.on b1); have B2 := Lib.hid (BZ.out.trans (b1.mono SZ.out.le)); have O2 := Lib.hid (owns_low16 o1 SZ.out.le); clear o1 b1))
      go_loopw [41] (fun v41 wr => ∃ (k : Nat) (p' : Pls) (v' : Value), k ≤ m ∧ v41 = .int .i64 k ∧ Hid (St B b wr p' { P with fa := ((ws.take k).foldl (famS true) (P.fa, [])).1 } a v' (((ws.take k).foldl (famS true) (P.fa, [])).2.map (nteP a))) ∧ Hid (wr.ownsRow B 9 1 (.slice q1 m d1) m (sL ws)) ∧ Hid (Below B w wr)) (fun v41 _ => m - (intOf v41).toNat)
      case atStart => exact ⟨0, p, _, Nat.zero_le _, rfl, S2, O2, B2⟩
      case round =>
        obtain ⟨k, p', v', hk, rfl, SS, OO, BB⟩ := hrel
        obtain ⟨V, rfl⟩ : ∃ wo : World, wo = wr := ⟨_, rfl⟩
        by_cases hlt : k < m
        · obtain ⟨x, hx⟩ : ∃ x, ws[k]? = some x := ⟨ws[k]'(by rw [← HM.out]; exact hlt), List.getElem?_eq_getElem _⟩
          obtain ⟨g, o, hq, hc⟩ := words_at18 OO.out HM.out hx
          subst hq
          have k1 : (k : Int) < m := by omega
          have k0 : (0 : Int) ≤ k := by omega
          have HST := Lib.hid (fold_step18 (famS true) (P.fa, []) hx)
          obtain ⟨R, hR⟩ : ∃ R, R = ((ws.take k).foldl (famS true) (P.fa, [])) := ⟨_, rfl⟩
          have hlen := famS_len true (ws.take k) (P.fa, [])
          have hpair := famS_pair true (ws.take k) (P.fa, []) HP.out
          rw [← hR] at hlen hpair
          rw [← hR] at HST SS
          have hl2 : (ws.take k).length ≤ 1000 := Nat.le_trans (by rw [List.length_take]; omega) HWL.out
          have HL1 := Lib.hid (show R.1.length ≤ 20000 by have := HN.out; simp only at hlen; omega)
          have HL2 := Lib.hid (show R.2.length ≤ 2000 by simp only [List.length_nil] at hlen; omega)
          have HPR := Lib.hid hpair
          have HPA := Lib.hid (familyN (bs x) V (HG.out V BB.out).nm)
          have OKB := Lib.hid SS.out.le
          clear hx hlen hpair hl2 hR
          cases hf : findR famT (bs x) with
          | some n =>
            rw [hf] at HPA
            simp only [Option.getD_some, Option.isSome_some, if_true] at HPA
            have HS2 := Lib.hid (HST.out.trans (fam_some18 hf))
            clear HST hf
            have HIN := Lib.hid (fun (X : World) (s : St B b X p' { P with fa := R.1 } a v' (R.2.map (nteP a))) => insert_f18 X B p'.mq p'.mn p'.mc R.1 n s.own.fa s.own.ml (by rw [s.own.ml]; have := HL1.out; simp only; omega) s.le HPR.out)
            go_wp2_with (first
              | (go_at_call 59; ((with_reducible refine (HPA.out).mono ?_); rintro e w2 ⟨rfl, b2⟩); have S2 := Lib.hid (SS.out.on b2); have B2 := Lib.hid (BB.out.trans (b2.mono OKB.out)); have O2 := Lib.hid (owns_on16 OO.out b2); have d0 := S2.out.cell 6 _ rfl; clear b2)
              | (go_at_call 58; ((with_reducible refine (HIN.out w2 S2.out).mono ?_); rintro e w3 ⟨q3, n3, rfl, o3, b3, k3⟩); have T3 := Lib.hid (S2.out.fams k3 o3 rfl); have y0 := (cell_of_row w3 b 6 _ _ (0, 0) T3.out.1).trans (show _ = some (Value.slice p'.mq p'.mn p'.mc) from rfl); have yf := frozen_of_row w3 b 6 _ _ T3.out.1; have O3 := Lib.hid (k3.own (by decide) O2.out); have B3 := Lib.hid (B2.out.trans b3); have LO := Lib.hid S2.out.hb; clear o3 b3 k3))
            go_roundw
            case rel => exact ⟨k + 1, { p' with mq := q3, mn := (insU ltN18 n R.1).length, mc := n3 }, v', by omega, by go_num, Lib.hid (by
              rw [HS2.out]
              have kk := KeepT.cell (i := 6) T3.out.1 (.slice q3 (insU ltN18 n R.1).length n3)
              refine ⟨?_, T3.out.2.1.kept kk (by decide) (by decide) (by decide), kk.own (by decide) T3.out.2.2, LO.out⟩
              rw [set_cell18 T3.out.1 _ 6 (by rw [stC_len]; decide)]
              rfl), Lib.hid ((KeepT.cell (i := 6) T3.out.1 _).own (by decide) O3.out), Lib.hid (B3.out.setCell (p := ⟨b, 6, none⟩) LO.out _)⟩
            case measure => first | (simp [intOf]; done) | (simp [intOf]; omega)
          | none =>
            rw [hf] at HPA
            simp only [Option.getD_none, Option.isSome_none, Bool.false_eq_true, if_false] at HPA
            have HS2 := Lib.hid (HST.out.trans (fam_none18 hf))
            clear HST hf
            have HNO := Lib.hid (fun (X : World) (s : St B b X p' { P with fa := R.1 } a v' (R.2.map (nteP a))) => note_c18 B b X p' { P with fa := R.1 } a v' (R.2.map (nteP a)) 180 (bs x) s (by rw [List.length_map]; have := HL2.out; omega))
            go_wp2_with (first
              | (go_at_call 59; ((with_reducible refine (HPA.out).mono ?_); rintro e w2 ⟨rfl, b2⟩); have S2 := Lib.hid (SS.out.on b2); have B2 := Lib.hid (BB.out.trans (b2.mono OKB.out)); have O2 := Lib.hid (owns_on16 OO.out b2); clear b2)
              | (go_at_call 44; ((with_reducible refine (HNO.out w2 S2.out).mono ?_); rintro e w3 ⟨rfl, ⟨v3, s3⟩, b3, k3⟩); have S3 := Lib.hid s3; have O3 := Lib.hid (k3.own (by decide) (by decide) O2.out); have B3 := Lib.hid (B2.out.trans b3); clear s3))
            go_roundw
            case rel => exact ⟨k + 1, p', v3, by omega, by go_num, Lib.hid (by rw [HS2.out]; exact S3.out.cast rfl (by rw [nte_t60, List.map_append]; rfl)), O3, B3⟩
            case measure => first | (simp [intOf]; done) | (simp [intOf]; omega)
        · obtain rfl : k = m := by omega
          have k1 : ¬ (k : Int) < (k : Nat) := by omega
          have hst := SS.out
          rw [List.take_of_length_le (by rw [← HM.out]; exact Nat.le_refl _)] at hst
          have HSF := Lib.hid hst
          clear hst
          go_wp2_with fail
          (try simp only [Exit.inBlock, Exit.then])
          first | refine bodyPost_ret (results_none rfl _ _ _) rfl ?_ | refine bodyPost_end (results_none rfl _ _ _) rfl ?_
          exact ⟨rfl, ⟨p', v', HSF.out.cast (by rw [HMD.out]) rfl⟩, BB.out⟩
    rw [show putC18 P.fm true = false by unfold putC18 mdF; rw [if_neg (by have := HMI.out; omega)]; exact decide_eq_false (by have := HMI.out; show ¬ P.fm = 2; omega)]
    have HMD := Lib.hid (show mdF P.fm true = P.fm by unfold mdF; rw [if_neg (by have := HMI.out; omega)])
    have e1 : (mi == 0) = false := beq_eq_false_iff_ne.2 h0
    have e2 : (mi == 2) = false := beq_eq_false_iff_ne.2 h1
    go_enter Tryd.func46, Tryd.ntmps46
    go_wp2_with (first
      | (go_at_call 16; ((with_reducible refine (HT.out).mono ?_); rintro e w1 ⟨rfl, b1⟩); have S1 := Lib.hid (HS.out.on b1); have B1 := Lib.hid (b1.mono HB.out); have c7 := S1.out.cell 7 (.int .u8 mi) (by rw [HMI.out]; rfl); have SZ := S1; have BZ := B1; clear b1)
      | (go_at_call 14; ((with_reducible refine (HV.out _).mono ?_); rintro e w2 ⟨q1, d1, rfl, o1, b1⟩); have S2 := Lib.hid (SZ.out.on b1); have B2 := Lib.hid (BZ.out.trans (b1.mono SZ.out.le)); have O2 := Lib.hid (owns_low16 o1 SZ.out.le); clear o1 b1))
    go_loopw [41] (fun v41 wr => ∃ (k : Nat) (p' : Pls) (v' : Value), k ≤ m ∧ v41 = .int .i64 k ∧ Hid (St B b wr p' { P with fa := ((ws.take k).foldl (famS false) (P.fa, [])).1 } a v' (((ws.take k).foldl (famS false) (P.fa, [])).2.map (nteP a))) ∧ Hid (wr.ownsRow B 9 1 (.slice q1 m d1) m (sL ws)) ∧ Hid (Below B w wr)) (fun v41 _ => m - (intOf v41).toNat)
    case atStart => exact ⟨0, p, _, Nat.zero_le _, rfl, S2, O2, B2⟩
    case round =>
      obtain ⟨k, p', v', hk, rfl, SS, OO, BB⟩ := hrel
      obtain ⟨V, rfl⟩ : ∃ wo : World, wo = wr := ⟨_, rfl⟩
      by_cases hlt : k < m
      · obtain ⟨x, hx⟩ : ∃ x, ws[k]? = some x := ⟨ws[k]'(by rw [← HM.out]; exact hlt), List.getElem?_eq_getElem _⟩
        obtain ⟨g, o, hq, hc⟩ := words_at18 OO.out HM.out hx
        subst hq
        have k1 : (k : Int) < m := by omega
        have k0 : (0 : Int) ≤ k := by omega
        have HST := Lib.hid (fold_step18 (famS false) (P.fa, []) hx)
        obtain ⟨R, hR⟩ : ∃ R, R = ((ws.take k).foldl (famS false) (P.fa, [])) := ⟨_, rfl⟩
        have hlen := famS_len false (ws.take k) (P.fa, [])
        have hpair := famS_pair false (ws.take k) (P.fa, []) HP.out
        rw [← hR] at hlen hpair
        rw [← hR] at HST SS
        have hl2 : (ws.take k).length ≤ 1000 := Nat.le_trans (by rw [List.length_take]; omega) HWL.out
        have HL1 := Lib.hid (show R.1.length ≤ 20000 by have := HN.out; simp only at hlen; omega)
        have HL2 := Lib.hid (show R.2.length ≤ 2000 by simp only [List.length_nil] at hlen; omega)
        have HPR := Lib.hid hpair
        have HPA := Lib.hid (familyN (bs x) V (HG.out V BB.out).nm)
        have OKB := Lib.hid SS.out.le
        clear hx hlen hpair hl2 hR
        cases hf : findR famT (bs x) with
        | some n =>
          rw [hf] at HPA
          simp only [Option.getD_some, Option.isSome_some, if_true] at HPA
          have HS2 := Lib.hid (HST.out.trans (fam_some18 hf))
          clear HST hf
          have HIN := Lib.hid (fun (X : World) (s : St B b X p' { P with fa := R.1 } a v' (R.2.map (nteP a))) => remove_f18 X B p'.mq p'.mn p'.mc R.1 n s.own.fa s.own.ml (by rw [s.own.ml]; have := HL1.out; simp only; omega) s.le)
          go_wp2_with (first
            | (go_at_call 59; ((with_reducible refine (HPA.out).mono ?_); rintro e w2 ⟨rfl, b2⟩); have S2 := Lib.hid (SS.out.on b2); have B2 := Lib.hid (BB.out.trans (b2.mono OKB.out)); have O2 := Lib.hid (owns_on16 OO.out b2); have d0 := S2.out.cell 6 _ rfl; clear b2)
            | (go_at_call 57; ((with_reducible refine (HIN.out w2 S2.out).mono ?_); rintro e w3 ⟨q3, n3, rfl, o3, b3, k3⟩); have T3 := Lib.hid (S2.out.fams k3 o3 rfl); have y0 := (cell_of_row w3 b 6 _ _ (0, 0) T3.out.1).trans (show _ = some (Value.slice p'.mq p'.mn p'.mc) from rfl); have yf := frozen_of_row w3 b 6 _ _ T3.out.1; have O3 := Lib.hid (k3.own (by decide) O2.out); have B3 := Lib.hid (B2.out.trans b3); have LO := Lib.hid S2.out.hb; clear o3 b3 k3))
          go_roundw
          case rel => exact ⟨k + 1, { p' with mq := q3, mn := (R.1.filter (fun y => y != n)).length, mc := n3 }, v', by omega, by go_num, Lib.hid (by
            rw [HS2.out]
            have kk := KeepT.cell (i := 6) T3.out.1 (.slice q3 (R.1.filter (fun y => y != n)).length n3)
            refine ⟨?_, T3.out.2.1.kept kk (by decide) (by decide) (by decide), kk.own (by decide) T3.out.2.2, LO.out⟩
            rw [set_cell18 T3.out.1 _ 6 (by rw [stC_len]; decide)]
            rfl), Lib.hid ((KeepT.cell (i := 6) T3.out.1 _).own (by decide) O3.out), Lib.hid (B3.out.setCell (p := ⟨b, 6, none⟩) LO.out _)⟩
          case measure => first | (simp [intOf]; done) | (simp [intOf]; omega)
        | none =>
          rw [hf] at HPA
          simp only [Option.getD_none, Option.isSome_none, Bool.false_eq_true, if_false] at HPA
          have HS2 := Lib.hid (HST.out.trans (fam_none18 hf))
          clear HST hf
          have HNO := Lib.hid (fun (X : World) (s : St B b X p' { P with fa := R.1 } a v' (R.2.map (nteP a))) => note_c18 B b X p' { P with fa := R.1 } a v' (R.2.map (nteP a)) 180 (bs x) s (by rw [List.length_map]; have := HL2.out; omega))
          go_wp2_with (first
            | (go_at_call 59; ((with_reducible refine (HPA.out).mono ?_); rintro e w2 ⟨rfl, b2⟩); have S2 := Lib.hid (SS.out.on b2); have B2 := Lib.hid (BB.out.trans (b2.mono OKB.out)); have O2 := Lib.hid (owns_on16 OO.out b2); clear b2)
            | (go_at_call 44; ((with_reducible refine (HNO.out w2 S2.out).mono ?_); rintro e w3 ⟨rfl, ⟨v3, s3⟩, b3, k3⟩); have S3 := Lib.hid s3; have O3 := Lib.hid (k3.own (by decide) (by decide) O2.out); have B3 := Lib.hid (B2.out.trans b3); clear s3))
          go_roundw
          case rel => exact ⟨k + 1, p', v3, by omega, by go_num, Lib.hid (by rw [HS2.out]; exact S3.out.cast rfl (by rw [nte_t60, List.map_append]; rfl)), O3, B3⟩
          case measure => first | (simp [intOf]; done) | (simp [intOf]; omega)
      · obtain rfl : k = m := by omega
        have k1 : ¬ (k : Int) < (k : Nat) := by omega
        have hst := SS.out
        rw [List.take_of_length_le (by rw [← HM.out]; exact Nat.le_refl _)] at hst
        have HSF := Lib.hid hst
        clear hst
        go_wp2_with fail
        (try simp only [Exit.inBlock, Exit.then])
        first | refine bodyPost_ret (results_none rfl _ _ _) rfl ?_ | refine bodyPost_end (results_none rfl _ _ _) rfl ?_
        exact ⟨rfl, ⟨p', v', HSF.out.cast (by rw [HMD.out]) rfl⟩, BB.out⟩
  | false =>
    subst hT
    by_cases h0 : mi = 0
    · subst h0
      rw [show putC18 P.fm false = true by unfold putC18 mdF; rw [if_pos (by have := HMI.out; omega)]; rfl]
      have HMD := Lib.hid (show mdF P.fm false = 1 by unfold mdF; rw [if_pos (by have := HMI.out; omega)]; rfl)
      go_enter Tryd.func46, Tryd.ntmps46
      go_wp2_with (first
        | (go_at_call 16; ((with_reducible refine (HT.out).mono ?_); rintro e w1 ⟨rfl, b1⟩); have S1 := Lib.hid (HS.out.on b1); have B1 := Lib.hid (b1.mono HB.out); have c7 := S1.out.cell 7 (.int .u8 0) (by show some (Value.int .u8 (P.fm : Nat)) = _; rw [← HMI.out]); have x7 := S1.out.frz 7; have SZ := Lib.hid (show St B b (w1.setCell ⟨b, 7, none⟩ (.int .u8 1)) p { P with fm := 1 } a (.slice none 0 0) [] from St.set S1.out 7 (.int .u8 1) (by decide) rfl ⟨S1.out.own.al, S1.out.own.fl, S1.out.own.ll, S1.out.own.ml, S1.out.own.ar, S1.out.own.fi, S1.out.own.lo, S1.out.own.fa⟩ S1.out.nts); have BZ := Lib.hid (B1.out.trans (S1.out.low 7 (.int .u8 1))); clear b1)
        | (go_at_call 14; ((with_reducible refine (HV.out _).mono ?_); rintro e w2 ⟨q1, d1, rfl, o1, b1⟩); have S2 := Lib.hid (SZ.out.on b1); have B2 := Lib.hid (BZ.out.trans (b1.mono SZ.out.le)); have O2 := Lib.hid (owns_low16 o1 SZ.out.le); clear o1 b1))
      go_loopw [41] (fun v41 wr => ∃ (k : Nat) (p' : Pls) (v' : Value), k ≤ m ∧ v41 = .int .i64 k ∧ Hid (St B b wr p' { { P with fm := 1 } with fa := ((ws.take k).foldl (famS true) (P.fa, [])).1 } a v' (((ws.take k).foldl (famS true) (P.fa, [])).2.map (nteP a))) ∧ Hid (wr.ownsRow B 9 1 (.slice q1 m d1) m (sL ws)) ∧ Hid (Below B w wr)) (fun v41 _ => m - (intOf v41).toNat)
      case atStart => exact ⟨0, p, _, Nat.zero_le _, rfl, S2, O2, B2⟩
      case round =>
        obtain ⟨k, p', v', hk, rfl, SS, OO, BB⟩ := hrel
        obtain ⟨V, rfl⟩ : ∃ wo : World, wo = wr := ⟨_, rfl⟩
        by_cases hlt : k < m
        · obtain ⟨x, hx⟩ : ∃ x, ws[k]? = some x := ⟨ws[k]'(by rw [← HM.out]; exact hlt), List.getElem?_eq_getElem _⟩
          obtain ⟨g, o, hq, hc⟩ := words_at18 OO.out HM.out hx
          subst hq
          have k1 : (k : Int) < m := by omega
          have k0 : (0 : Int) ≤ k := by omega
          have HST := Lib.hid (fold_step18 (famS true) (P.fa, []) hx)
          obtain ⟨R, hR⟩ : ∃ R, R = ((ws.take k).foldl (famS true) (P.fa, [])) := ⟨_, rfl⟩
          have hlen := famS_len true (ws.take k) (P.fa, [])
          have hpair := famS_pair true (ws.take k) (P.fa, []) HP.out
          rw [← hR] at hlen hpair
          rw [← hR] at HST SS
          have hl2 : (ws.take k).length ≤ 1000 := Nat.le_trans (by rw [List.length_take]; omega) HWL.out
          have HL1 := Lib.hid (show R.1.length ≤ 20000 by have := HN.out; simp only at hlen; omega)
          have HL2 := Lib.hid (show R.2.length ≤ 2000 by simp only [List.length_nil] at hlen; omega)
          have HPR := Lib.hid hpair
          have HPA := Lib.hid (familyN (bs x) V (HG.out V BB.out).nm)
          have OKB := Lib.hid SS.out.le
          clear hx hlen hpair hl2 hR
          cases hf : findR famT (bs x) with
          | some n =>
            rw [hf] at HPA
            simp only [Option.getD_some, Option.isSome_some, if_true] at HPA
            have HS2 := Lib.hid (HST.out.trans (fam_some18 hf))
            clear HST hf
            have HIN := Lib.hid (fun (X : World) (s : St B b X p' { { P with fm := 1 } with fa := R.1 } a v' (R.2.map (nteP a))) => insert_f18 X B p'.mq p'.mn p'.mc R.1 n s.own.fa s.own.ml (by rw [s.own.ml]; have := HL1.out; simp only; omega) s.le HPR.out)
            go_wp2_with (first
              | (go_at_call 59; ((with_reducible refine (HPA.out).mono ?_); rintro e w2 ⟨rfl, b2⟩); have S2 := Lib.hid (SS.out.on b2); have B2 := Lib.hid (BB.out.trans (b2.mono OKB.out)); have O2 := Lib.hid (owns_on16 OO.out b2); have d0 := S2.out.cell 6 _ rfl; clear b2)
              | (go_at_call 58; ((with_reducible refine (HIN.out w2 S2.out).mono ?_); rintro e w3 ⟨q3, n3, rfl, o3, b3, k3⟩); have T3 := Lib.hid (S2.out.fams k3 o3 rfl); have y0 := (cell_of_row w3 b 6 _ _ (0, 0) T3.out.1).trans (show _ = some (Value.slice p'.mq p'.mn p'.mc) from rfl); have yf := frozen_of_row w3 b 6 _ _ T3.out.1; have O3 := Lib.hid (k3.own (by decide) O2.out); have B3 := Lib.hid (B2.out.trans b3); have LO := Lib.hid S2.out.hb; clear o3 b3 k3))
            go_roundw
            case rel => exact ⟨k + 1, { p' with mq := q3, mn := (insU ltN18 n R.1).length, mc := n3 }, v', by omega, by go_num, Lib.hid (by
              rw [HS2.out]
              have kk := KeepT.cell (i := 6) T3.out.1 (.slice q3 (insU ltN18 n R.1).length n3)
              refine ⟨?_, T3.out.2.1.kept kk (by decide) (by decide) (by decide), kk.own (by decide) T3.out.2.2, LO.out⟩
              rw [set_cell18 T3.out.1 _ 6 (by rw [stC_len]; decide)]
              rfl), Lib.hid ((KeepT.cell (i := 6) T3.out.1 _).own (by decide) O3.out), Lib.hid (B3.out.setCell (p := ⟨b, 6, none⟩) LO.out _)⟩
            case measure => first | (simp [intOf]; done) | (simp [intOf]; omega)
          | none =>
            rw [hf] at HPA
            simp only [Option.getD_none, Option.isSome_none, Bool.false_eq_true, if_false] at HPA
            have HS2 := Lib.hid (HST.out.trans (fam_none18 hf))
            clear HST hf
            have HNO := Lib.hid (fun (X : World) (s : St B b X p' { { P with fm := 1 } with fa := R.1 } a v' (R.2.map (nteP a))) => note_c18 B b X p' { { P with fm := 1 } with fa := R.1 } a v' (R.2.map (nteP a)) 180 (bs x) s (by rw [List.length_map]; have := HL2.out; omega))
            go_wp2_with (first
              | (go_at_call 59; ((with_reducible refine (HPA.out).mono ?_); rintro e w2 ⟨rfl, b2⟩); have S2 := Lib.hid (SS.out.on b2); have B2 := Lib.hid (BB.out.trans (b2.mono OKB.out)); have O2 := Lib.hid (owns_on16 OO.out b2); clear b2)
              | (go_at_call 44; ((with_reducible refine (HNO.out w2 S2.out).mono ?_); rintro e w3 ⟨rfl, ⟨v3, s3⟩, b3, k3⟩); have S3 := Lib.hid s3; have O3 := Lib.hid (k3.own (by decide) (by decide) O2.out); have B3 := Lib.hid (B2.out.trans b3); clear s3))
            go_roundw
            case rel => exact ⟨k + 1, p', v3, by omega, by go_num, Lib.hid (by rw [HS2.out]; exact S3.out.cast rfl (by rw [nte_t60, List.map_append]; rfl)), O3, B3⟩
            case measure => first | (simp [intOf]; done) | (simp [intOf]; omega)
        · obtain rfl : k = m := by omega
          have k1 : ¬ (k : Int) < (k : Nat) := by omega
          have hst := SS.out
          rw [List.take_of_length_le (by rw [← HM.out]; exact Nat.le_refl _)] at hst
          have HSF := Lib.hid hst
          clear hst
          go_wp2_with fail
          (try simp only [Exit.inBlock, Exit.then])
          first | refine bodyPost_ret (results_none rfl _ _ _) rfl ?_ | refine bodyPost_end (results_none rfl _ _ _) rfl ?_
          exact ⟨rfl, ⟨p', v', HSF.out.cast (by rw [HMD.out]) rfl⟩, BB.out⟩
    by_cases h1 : mi = 1
    · rw [show putC18 P.fm false = true by unfold putC18 mdF; rw [if_neg (by have := HMI.out; omega)]; exact decide_eq_true (by have := HMI.out; show P.fm = 1; omega)]
      have HMD := Lib.hid (show mdF P.fm false = P.fm by unfold mdF; rw [if_neg (by have := HMI.out; omega)])
      have e1 : (mi == 0) = false := beq_eq_false_iff_ne.2 h0
      have e2 : (mi == 1) = true := by rw [h1]; rfl
      clear h1
      go_enter Tryd.func46, Tryd.ntmps46
      go_wp2_with (first
        | (go_at_call 16; ((with_reducible refine (HT.out).mono ?_); rintro e w1 ⟨rfl, b1⟩); have S1 := Lib.hid (HS.out.on b1); have B1 := Lib.hid (b1.mono HB.out); have c7 := S1.out.cell 7 (.int .u8 mi) (by rw [HMI.out]; rfl); have SZ := S1; have BZ := B1; clear b1)
        | (go_at_call 14; ((with_reducible refine (HV.out _).mono ?_); rintro e w2 ⟨q1, d1, rfl, o1, b1⟩); have S2 := Lib.hid (SZ.out.on b1); have B2 := Lib.hid (BZ.out.trans (b1.mono SZ.out.le)); have O2 := Lib.hid (owns_low16 o1 SZ.out.le); clear o1 b1))
      go_loopw [41] (fun v41 wr => ∃ (k : Nat) (p' : Pls) (v' : Value), k ≤ m ∧ v41 = .int .i64 k ∧ Hid (St B b wr p' { P with fa := ((ws.take k).foldl (famS true) (P.fa, [])).1 } a v' (((ws.take k).foldl (famS true) (P.fa, [])).2.map (nteP a))) ∧ Hid (wr.ownsRow B 9 1 (.slice q1 m d1) m (sL ws)) ∧ Hid (Below B w wr)) (fun v41 _ => m - (intOf v41).toNat)
      case atStart => exact ⟨0, p, _, Nat.zero_le _, rfl, S2, O2, B2⟩
      case round =>
        obtain ⟨k, p', v', hk, rfl, SS, OO, BB⟩ := hrel
        obtain ⟨V, rfl⟩ : ∃ wo : World, wo = wr := ⟨_, rfl⟩
        by_cases hlt : k < m
        · obtain ⟨x, hx⟩ : ∃ x, ws[k]? = some x := ⟨ws[k]'(by rw [← HM.out]; exact hlt), List.getElem?_eq_getElem _⟩
          obtain ⟨g, o, hq, hc⟩ := words_at18 OO.out HM.out hx
          subst hq
          have k1 : (k : Int) < m := by omega
          have k0 : (0 : Int) ≤ k := by omega
          have HST := Lib.hid (fold_step18 (famS true) (P.fa, []) hx)
          obtain ⟨R, hR⟩ : ∃ R, R = ((ws.take k).foldl (famS true) (P.fa, [])) := ⟨_, rfl⟩
          have hlen := famS_len true (ws.take k) (P.fa, [])
          have hpair := famS_pair true (ws.take k) (P.fa, []) HP.out
          rw [← hR] at hlen hpair
          rw [← hR] at HST SS
          have hl2 : (ws.take k).length ≤ 1000 := Nat.le_trans (by rw [List.length_take]; omega) HWL.out
          have HL1 := Lib.hid (show R.1.length ≤ 20000 by have := HN.out; simp only at hlen; omega)
          have HL2 := Lib.hid (show R.2.length ≤ 2000 by simp only [List.length_nil] at hlen; omega)
          have HPR := Lib.hid hpair
          have HPA := Lib.hid (familyN (bs x) V (HG.out V BB.out).nm)
          have OKB := Lib.hid SS.out.le
          clear hx hlen hpair hl2 hR
          cases hf : findR famT (bs x) with
          | some n =>
            rw [hf] at HPA
            simp only [Option.getD_some, Option.isSome_some, if_true] at HPA
            have HS2 := Lib.hid (HST.out.trans (fam_some18 hf))
            clear HST hf
            have HIN := Lib.hid (fun (X : World) (s : St B b X p' { P with fa := R.1 } a v' (R.2.map (nteP a))) => insert_f18 X B p'.mq p'.mn p'.mc R.1 n s.own.fa s.own.ml (by rw [s.own.ml]; have := HL1.out; simp only; omega) s.le HPR.out)
            go_wp2_with (first
              | (go_at_call 59; ((with_reducible refine (HPA.out).mono ?_); rintro e w2 ⟨rfl, b2⟩); have S2 := Lib.hid (SS.out.on b2); have B2 := Lib.hid (BB.out.trans (b2.mono OKB.out)); have O2 := Lib.hid (owns_on16 OO.out b2); have d0 := S2.out.cell 6 _ rfl; clear b2)
              | (go_at_call 58; ((with_reducible refine (HIN.out w2 S2.out).mono ?_); rintro e w3 ⟨q3, n3, rfl, o3, b3, k3⟩); have T3 := Lib.hid (S2.out.fams k3 o3 rfl); have y0 := (cell_of_row w3 b 6 _ _ (0, 0) T3.out.1).trans (show _ = some (Value.slice p'.mq p'.mn p'.mc) from rfl); have yf := frozen_of_row w3 b 6 _ _ T3.out.1; have O3 := Lib.hid (k3.own (by decide) O2.out); have B3 := Lib.hid (B2.out.trans b3); have LO := Lib.hid S2.out.hb; clear o3 b3 k3))
            go_roundw
            case rel => exact ⟨k + 1, { p' with mq := q3, mn := (insU ltN18 n R.1).length, mc := n3 }, v', by omega, by go_num, Lib.hid (by
              rw [HS2.out]
              have kk := KeepT.cell (i := 6) T3.out.1 (.slice q3 (insU ltN18 n R.1).length n3)
              refine ⟨?_, T3.out.2.1.kept kk (by decide) (by decide) (by decide), kk.own (by decide) T3.out.2.2, LO.out⟩
              rw [set_cell18 T3.out.1 _ 6 (by rw [stC_len]; decide)]
              rfl), Lib.hid ((KeepT.cell (i := 6) T3.out.1 _).own (by decide) O3.out), Lib.hid (B3.out.setCell (p := ⟨b, 6, none⟩) LO.out _)⟩
            case measure => first | (simp [intOf]; done) | (simp [intOf]; omega)
          | none =>
            rw [hf] at HPA
            simp only [Option.getD_none, Option.isSome_none, Bool.false_eq_true, if_false] at HPA
            have HS2 := Lib.hid (HST.out.trans (fam_none18 hf))
            clear HST hf
            have HNO := Lib.hid (fun (X : World) (s : St B b X p' { P with fa := R.1 } a v' (R.2.map (nteP a))) => note_c18 B b X p' { P with fa := R.1 } a v' (R.2.map (nteP a)) 180 (bs x) s (by rw [List.length_map]; have := HL2.out; omega))
            go_wp2_with (first
              | (go_at_call 59; ((with_reducible refine (HPA.out).mono ?_); rintro e w2 ⟨rfl, b2⟩); have S2 := Lib.hid (SS.out.on b2); have B2 := Lib.hid (BB.out.trans (b2.mono OKB.out)); have O2 := Lib.hid (owns_on16 OO.out b2); clear b2)
              | (go_at_call 44; ((with_reducible refine (HNO.out w2 S2.out).mono ?_); rintro e w3 ⟨rfl, ⟨v3, s3⟩, b3, k3⟩); have S3 := Lib.hid s3; have O3 := Lib.hid (k3.own (by decide) (by decide) O2.out); have B3 := Lib.hid (B2.out.trans b3); clear s3))
            go_roundw
            case rel => exact ⟨k + 1, p', v3, by omega, by go_num, Lib.hid (by rw [HS2.out]; exact S3.out.cast rfl (by rw [nte_t60, List.map_append]; rfl)), O3, B3⟩
            case measure => first | (simp [intOf]; done) | (simp [intOf]; omega)
        · obtain rfl : k = m := by omega
          have k1 : ¬ (k : Int) < (k : Nat) := by omega
          have hst := SS.out
          rw [List.take_of_length_le (by rw [← HM.out]; exact Nat.le_refl _)] at hst
          have HSF := Lib.hid hst
          clear hst
          go_wp2_with fail
          (try simp only [Exit.inBlock, Exit.then])
          first | refine bodyPost_ret (results_none rfl _ _ _) rfl ?_ | refine bodyPost_end (results_none rfl _ _ _) rfl ?_
          exact ⟨rfl, ⟨p', v', HSF.out.cast (by rw [HMD.out]) rfl⟩, BB.out⟩
    rw [show putC18 P.fm false = false by unfold putC18 mdF; rw [if_neg (by have := HMI.out; omega)]; exact decide_eq_false (by have := HMI.out; show ¬ P.fm = 1; omega)]
    have HMD := Lib.hid (show mdF P.fm false = P.fm by unfold mdF; rw [if_neg (by have := HMI.out; omega)])
    have e1 : (mi == 0) = false := beq_eq_false_iff_ne.2 h0
    have e2 : (mi == 1) = false := beq_eq_false_iff_ne.2 h1
    go_enter Tryd.func46, Tryd.ntmps46
    go_wp2_with (first
      | (go_at_call 16; ((with_reducible refine (HT.out).mono ?_); rintro e w1 ⟨rfl, b1⟩); have S1 := Lib.hid (HS.out.on b1); have B1 := Lib.hid (b1.mono HB.out); have c7 := S1.out.cell 7 (.int .u8 mi) (by rw [HMI.out]; rfl); have SZ := S1; have BZ := B1; clear b1)
      | (go_at_call 14; ((with_reducible refine (HV.out _).mono ?_); rintro e w2 ⟨q1, d1, rfl, o1, b1⟩); have S2 := Lib.hid (SZ.out.on b1); have B2 := Lib.hid (BZ.out.trans (b1.mono SZ.out.le)); have O2 := Lib.hid (owns_low16 o1 SZ.out.le); clear o1 b1))
    go_loopw [41] (fun v41 wr => ∃ (k : Nat) (p' : Pls) (v' : Value), k ≤ m ∧ v41 = .int .i64 k ∧ Hid (St B b wr p' { P with fa := ((ws.take k).foldl (famS false) (P.fa, [])).1 } a v' (((ws.take k).foldl (famS false) (P.fa, [])).2.map (nteP a))) ∧ Hid (wr.ownsRow B 9 1 (.slice q1 m d1) m (sL ws)) ∧ Hid (Below B w wr)) (fun v41 _ => m - (intOf v41).toNat)
    case atStart => exact ⟨0, p, _, Nat.zero_le _, rfl, S2, O2, B2⟩
    case round =>
      obtain ⟨k, p', v', hk, rfl, SS, OO, BB⟩ := hrel
      obtain ⟨V, rfl⟩ : ∃ wo : World, wo = wr := ⟨_, rfl⟩
      by_cases hlt : k < m
      · obtain ⟨x, hx⟩ : ∃ x, ws[k]? = some x := ⟨ws[k]'(by rw [← HM.out]; exact hlt), List.getElem?_eq_getElem _⟩
        obtain ⟨g, o, hq, hc⟩ := words_at18 OO.out HM.out hx
        subst hq
        have k1 : (k : Int) < m := by omega
        have k0 : (0 : Int) ≤ k := by omega
        have HST := Lib.hid (fold_step18 (famS false) (P.fa, []) hx)
        obtain ⟨R, hR⟩ : ∃ R, R = ((ws.take k).foldl (famS false) (P.fa, [])) := ⟨_, rfl⟩
        have hlen := famS_len false (ws.take k) (P.fa, [])
        have hpair := famS_pair false (ws.take k) (P.fa, []) HP.out
        rw [← hR] at hlen hpair
        rw [← hR] at HST SS
        have hl2 : (ws.take k).length ≤ 1000 := Nat.le_trans (by rw [List.length_take]; omega) HWL.out
        have HL1 := Lib.hid (show R.1.length ≤ 20000 by have := HN.out; simp only at hlen; omega)
        have HL2 := Lib.hid (show R.2.length ≤ 2000 by simp only [List.length_nil] at hlen; omega)
        have HPR := Lib.hid hpair
        have HPA := Lib.hid (familyN (bs x) V (HG.out V BB.out).nm)
        have OKB := Lib.hid SS.out.le
        clear hx hlen hpair hl2 hR
        cases hf : findR famT (bs x) with
        | some n =>
          rw [hf] at HPA
          simp only [Option.getD_some, Option.isSome_some, if_true] at HPA
          have HS2 := Lib.hid (HST.out.trans (fam_some18 hf))
          clear HST hf
          have HIN := Lib.hid (fun (X : World) (s : St B b X p' { P with fa := R.1 } a v' (R.2.map (nteP a))) => remove_f18 X B p'.mq p'.mn p'.mc R.1 n s.own.fa s.own.ml (by rw [s.own.ml]; have := HL1.out; simp only; omega) s.le)
          go_wp2_with (first
            | (go_at_call 59; ((with_reducible refine (HPA.out).mono ?_); rintro e w2 ⟨rfl, b2⟩); have S2 := Lib.hid (SS.out.on b2); have B2 := Lib.hid (BB.out.trans (b2.mono OKB.out)); have O2 := Lib.hid (owns_on16 OO.out b2); have d0 := S2.out.cell 6 _ rfl; clear b2)
            | (go_at_call 57; ((with_reducible refine (HIN.out w2 S2.out).mono ?_); rintro e w3 ⟨q3, n3, rfl, o3, b3, k3⟩); have T3 := Lib.hid (S2.out.fams k3 o3 rfl); have y0 := (cell_of_row w3 b 6 _ _ (0, 0) T3.out.1).trans (show _ = some (Value.slice p'.mq p'.mn p'.mc) from rfl); have yf := frozen_of_row w3 b 6 _ _ T3.out.1; have O3 := Lib.hid (k3.own (by decide) O2.out); have B3 := Lib.hid (B2.out.trans b3); have LO := Lib.hid S2.out.hb; clear o3 b3 k3))
          go_roundw
          case rel => exact ⟨k + 1, { p' with mq := q3, mn := (R.1.filter (fun y => y != n)).length, mc := n3 }, v', by omega, by go_num, Lib.hid (by
            rw [HS2.out]
            have kk := KeepT.cell (i := 6) T3.out.1 (.slice q3 (R.1.filter (fun y => y != n)).length n3)
            refine ⟨?_, T3.out.2.1.kept kk (by decide) (by decide) (by decide), kk.own (by decide) T3.out.2.2, LO.out⟩
            rw [set_cell18 T3.out.1 _ 6 (by rw [stC_len]; decide)]
            rfl), Lib.hid ((KeepT.cell (i := 6) T3.out.1 _).own (by decide) O3.out), Lib.hid (B3.out.setCell (p := ⟨b, 6, none⟩) LO.out _)⟩
          case measure => first | (simp [intOf]; done) | (simp [intOf]; omega)
        | none =>
          rw [hf] at HPA
          simp only [Option.getD_none, Option.isSome_none, Bool.false_eq_true, if_false] at HPA
          have HS2 := Lib.hid (HST.out.trans (fam_none18 hf))
          clear HST hf
          have HNO := Lib.hid (fun (X : World) (s : St B b X p' { P with fa := R.1 } a v' (R.2.map (nteP a))) => note_c18 B b X p' { P with fa := R.1 } a v' (R.2.map (nteP a)) 180 (bs x) s (by rw [List.length_map]; have := HL2.out; omega))
          go_wp2_with (first
            | (go_at_call 59; ((with_reducible refine (HPA.out).mono ?_); rintro e w2 ⟨rfl, b2⟩); have S2 := Lib.hid (SS.out.on b2); have B2 := Lib.hid (BB.out.trans (b2.mono OKB.out)); have O2 := Lib.hid (owns_on16 OO.out b2); clear b2)
            | (go_at_call 44; ((with_reducible refine (HNO.out w2 S2.out).mono ?_); rintro e w3 ⟨rfl, ⟨v3, s3⟩, b3, k3⟩); have S3 := Lib.hid s3; have O3 := Lib.hid (k3.own (by decide) (by decide) O2.out); have B3 := Lib.hid (B2.out.trans b3); clear s3))
          go_roundw
          case rel => exact ⟨k + 1, p', v3, by omega, by go_num, Lib.hid (by rw [HS2.out]; exact S3.out.cast rfl (by rw [nte_t60, List.map_append]; rfl)), O3, B3⟩
          case measure => first | (simp [intOf]; done) | (simp [intOf]; omega)
      · obtain rfl : k = m := by omega
        have k1 : ¬ (k : Int) < (k : Nat) := by omega
        have hst := SS.out
        rw [List.take_of_length_le (by rw [← HM.out]; exact Nat.le_refl _)] at hst
        have HSF := Lib.hid hst
        clear hst
        go_wp2_with fail
        (try simp only [Exit.inBlock, Exit.then])
        first | refine bodyPost_ret (results_none rfl _ _ _) rfl ?_ | refine bodyPost_end (results_none rfl _ _ _) rfl ?_
        exact ⟨rfl, ⟨p', v', HSF.out.cast (by rw [HMD.out]) rfl⟩, BB.out⟩
end Go.Proofs.YtbjhleajhkofeaaDoor
