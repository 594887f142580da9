/- What the landed effect of architectures leaves. Conditions: the tables lie in their variables; lists of at most 10,000, values of at most 1,000 bytes. -/
import Derived.Test.YtlenjfodjkhpmaaGreatDoorW5
namespace Go.Proofs.YtlenjfodjkhpmaaGreatDoor
set_option maxRecDepth 100000
open Go.Lib (hid)
open Go.RowKit Go.Shelf
set_option linter.unusedVariables false
set_option linter.unusedSimpArgs false
attribute [local go_sem ↓] Go.wp_at_zero Go.wp_at_succ

theorem fold_step18 {α β : Type} (f : β → α → β) (r : β) {l : List α} {k : Nat} {x : α} (h : l[k]? = some x) : (l.take (k + 1)).foldl f r = f ((l.take k).foldl f r) x := by
 rw [List.take_add_one, h]
 show List.foldl f r (l.take k ++ [x]) = _
 rw [List.foldl_append]
 rfl
theorem nte_t60 (a : As) (E : Int) (x : List UInt8) : (⟨a.file, a.line, E, bs ((bs x).data.toList.take 60)⟩ : Nte) = nteP a (E, t60 x) := by
 rw [bs_list]; rfl
theorem St.cast {B b : Nat} {w : World} {p : Pls} {P P2 : Pol} {a : As} {v : Value} {N N2 : List Nte} (h : St B b w p P a v N) (e : P = P2) (e2 : N = N2) : St B b w p P2 a v N2 := by rw [← e, ← e2]; exact h
theorem words_at18 {B : Nat} {w : World} {q : Option Addr} {n c : Nat} {L : List (List UInt8)} {T : TypeId} (h : w.ownsRow B T 1 (.slice q n c) n (sL L)) (hn : n = L.length) {k : Nat} {x : List UInt8} (hx : L[k]? = some x) : ∃ g o, q = some ⟨g, o, none⟩ ∧ w.cell? ⟨g, o + k, none⟩ = some (.string (bs x)) := WdsAt.of_own h hn k x hx
set_option maxHeartbeats 16000000 in
theorem arches_c18 (B b : Nat) (w : World) (p : Pls) (P : Pol) (a : As) (hG : ∀ X, Below B w X → G18 X) (h : St B b w p P a (.slice none 0 0) []) (hv : a.val.size ≤ 1000) (hn : p.an ≤ 10000) (hs : P.ar.Pairwise fun a b => ltI a b = true) :
 Calls Tryz.prog 128 #[.pointer (some ⟨b, 0, none⟩)] w fun e w' => e = .returned (.tuple #[]) ∧ (∃ p' v', St B b w' p' { P with ar := (arcF P.ar a.val).1 } a v' ((arcF P.ar a.val).2.map (nteP a))) ∧ Below B w w' := by
 have HV := hid (words_c18 a.val w (by omega))
 obtain ⟨ws, hws⟩ : ∃ l, l = wdL a.val.data.toList := ⟨_, rfl⟩
 have hwl : ws.length ≤ 1000 := by rw [hws]; exact Nat.le_trans (wd_size _) hv
 have hF : arcF P.ar a.val = if ws = [] then ([], []) else ws.foldl arcS (P.ar, []) := by rw [hws]; rfl
 rw [hF]
 rw [← hws] at HV
 have c17 := h.cell 17 (.string a.val) rfl
 have HS := hid h
 have HG := hid hG
 have HB := hid h.le
 have HWL := hid hwl
 have HN := hid (show P.ar.length ≤ 10000 by rw [← h.own.al]; exact hn)
 have HP := hid hs
 by_cases h0 : ws = []
 ·rw [if_pos h0]
  subst h0
  simp only [List.length_nil] at HV
  clear hv hws hwl hF h hG hn hs
  go_enter Tryz.func128, Tryz.ntmps128
  go_wp2_with (go_at_call 154; ((with_reducible refine (HV.out).mono ?_); rintro e w1 ⟨q1, d1, rfl, o1, b1⟩); have S1 := hid (HS.out.on b1); have B1 := hid (b1.mono HB.out); have x0 := S1.out.cell 0 _ rfl; have xf := S1.out.frz 0; clear o1 b1)
  have F1 := hid (show St B b (w1.setCell ⟨b, 0, none⟩ (.slice none 0 0)) { p with aq := none, an := 0, ac := 0 } { P with ar := [] } a (.slice none 0 0) [] from St.set S1.out 0 (.slice none 0 0) (by decide) rfl ⟨rfl, S1.out.own.fl, S1.out.own.ll, S1.out.own.ml, World.ownsRow_nil _ _ _ _, S1.out.own.fi, S1.out.own.lo, S1.out.own.fa⟩ S1.out.nts)
  have F2 := hid (B1.out.trans (S1.out.low 0 (.slice none 0 0)))
  generalize w1.setCell ⟨b, 0, none⟩ (.slice none 0 0) = Z at F1 F2 ⊢
  go_loopw [22] (fun v22 wr => v22 = .int .i64 0 ∧ Hid (wr = Z)) (fun _ _ => 0)
  case atStart => exact ⟨rfl, hid rfl⟩
  case round =>
   obtain ⟨rfl, hZ⟩ := hrel
   have hZ2 := hZ.out
   subst hZ2
   go_wp2_with fail
   (try simp only [Exit.inBlock, Exit.then])
   first | refine bodyPost_ret (results_none rfl _ _ _) rfl ?_ | refine bodyPost_end (results_none rfl _ _ _) rfl ?_
   exact ⟨rfl, ⟨_, _, F1.out⟩, F2.out⟩
 ·rw [if_neg h0]
  obtain ⟨m, hm⟩ : ∃ m, m = ws.length := ⟨_, rfl⟩
  have hm0 : 0 < m := by rw [hm]; exact List.length_pos_iff.2 h0
  rw [← hm] at HV
  have HM := hid hm
  have m1 : ¬ (m : Int) = 0 := by omega
  have m3 : m ≤ 1000 := by omega
  have m2 : ((m : Int) == 0) = false := beq_eq_false_iff_ne.2 m1
  clear hv hws hwl hF h hG hn hs h0 hm hm0
  go_enter Tryz.func128, Tryz.ntmps128
  go_wp2_with (go_at_call 154; ((with_reducible refine (HV.out).mono ?_); rintro e w1 ⟨q1, d1, rfl, o1, b1⟩); have S1 := hid (HS.out.on b1); have B1 := hid (b1.mono HB.out); have O1 := hid (owns_low16 o1 HB.out); clear o1 b1)
  go_loopw [22] (fun v22 wr => ∃ (k : Nat) (p' : Pls) (v' : Value), k ≤ m ∧ v22 = .int .i64 k ∧ Hid (St B b wr p' { P with ar := ((ws.take k).foldl arcS (P.ar, [])).1 } a v' (((ws.take k).foldl arcS (P.ar, [])).2.map (nteP a))) ∧ Hid (wr.ownsRow B 9 1 (.slice q1 m d1) m (sL ws)) ∧ Hid (Below B w wr)) (fun v22 _ => m - (intOf v22).toNat)
  case atStart => exact ⟨0, p, _, Nat.zero_le _, rfl, S1, O1, B1⟩
  case round =>
   obtain ⟨k, p', v', hk, rfl, SS, OO, BB⟩ := hrel
   obtain ⟨V, rfl⟩ : ∃ wo : World, wo = wr := ⟨_, rfl⟩
   by_cases hlt : k < m
   ·obtain ⟨x, hx⟩ : ∃ x, ws[k]? = some x := ⟨ws[k]'(by rw [← HM.out]; exact hlt), List.getElem?_eq_getElem _⟩
    obtain ⟨g, o, hq, hc⟩ := words_at18 OO.out HM.out hx
    subst hq
    have k1 : (k : Int) < m := by omega
    have k0 : (0 : Int) ≤ k := by omega
    have HST := hid (fold_step18 arcS (P.ar, []) hx)
    obtain ⟨R, hR⟩ : ∃ R, R = (ws.take k).foldl arcS (P.ar, []) := ⟨_, rfl⟩
    have hlen := arcS_len (ws.take k) (P.ar, [])
    have hpair := arcS_pair (ws.take k) (P.ar, []) HP.out
    rw [← hR] at hlen hpair
    rw [← hR] at HST SS
    have hl2 : (ws.take k).length ≤ 1000 := Nat.le_trans (by rw [List.length_take]; omega) HWL.out
    have HL1 := hid (show R.1.length ≤ 20000 by have := HN.out; simp only at hlen; omega)
    have HL2 := hid (show R.2.length ≤ 2000 by simp only [List.length_nil] at hlen; omega)
    have HPR := hid hpair
    have HPA := hid (parse8 (bs x) V (HG.out V BB.out).ar)
    have HER := hid (parR_err (bs x))
    have HST2 : Hid ((ws.take (k + 1)).foldl arcS (P.ar, []) = if (parR (bs x)).2 = 0 then (insU ltI (parR (bs x)).1 R.1, R.2) else (R.1, R.2 ++ [((parR (bs x)).2, t60 x)])) := hid HST.out
    obtain ⟨z, hz⟩ : ∃ z, z = (parR (bs x)).1 := ⟨_, rfl⟩
    obtain ⟨er, her⟩ : ∃ z, z = (parR (bs x)).2 := ⟨_, rfl⟩
    rw [← hz, ← her] at HPA HST2
    rw [← her] at HER
    have OKB := hid SS.out.le
    clear hx hlen hpair hl2 hR HST hz her
    have c0 := SS.out.cell 0 _ rfl
    by_cases he : er = 0
    ·have hst := HST2.out
     rw [if_pos he] at hst
     have HS2 := hid hst
     clear hst HST2 HER
     subst he
     have HIN := hid (fun (X : World) (s : St B b X p' { P with ar := R.1 } a v' (R.2.map (nteP a))) => insert_i18 X B p'.aq p'.an p'.ac R.1 z s.own.ar s.own.al (by rw [s.own.al]; have := HL1.out; simp only; omega) s.le HPR.out)
     go_wp2_with (first
      | (go_at_call 155; ((with_reducible refine (HPA.out).mono ?_); rintro e w2 ⟨rfl, b2⟩); have S2 := hid (SS.out.on b2); have B2 := hid (BB.out.trans (b2.mono OKB.out)); have O2 := hid (owns_on16 OO.out b2); have d0 := S2.out.cell 0 _ rfl; clear b2)
      | (go_at_call 157; ((with_reducible refine (HIN.out w2 S2.out).mono ?_); rintro e w3 ⟨q3, n3, rfl, o3, b3, k3⟩); have T3 := hid (S2.out.arch k3 o3 rfl); have U3 := hid (show St B b w3 p' { P with ar := R.1 } a v' (R.2.map (nteP a)) → True from fun _ => trivial); have y0 := (cell_of_row w3 b 0 _ _ (0, 0) T3.out.1).trans (show _ = some (Value.slice p'.aq p'.an p'.ac) from rfl); have yf := frozen_of_row w3 b 0 _ _ T3.out.1; have O3 := hid (k3.own (by decide) O2.out); have B3 := hid (B2.out.trans b3); have LO := hid S2.out.hb; clear o3 b3 k3))
     go_roundw
     case rel => exact ⟨k + 1, { p' with aq := q3, an := (insU ltI z R.1).length, ac := n3 }, v', by omega, by go_num, hid (by
      rw [HS2.out]
      have kk := KeepT.cell (i := 0) T3.out.1 (.slice q3 (insU ltI z R.1).length n3)
      refine ⟨?_, T3.out.2.1.kept kk (by decide) (by decide) (by decide), kk.own (by decide) T3.out.2.2, LO.out⟩
      rw [set_cell18 T3.out.1 _ 0 (by rw [stC_len]; decide)]
      rfl), hid ((KeepT.cell (i := 0) T3.out.1 _).own (by decide) O3.out), hid (B3.out.setCell (p := ⟨b, 0, none⟩) LO.out _)⟩
     case measure => first | (simp [intOf]; done) | (simp [intOf]; omega)
    ·have hst := HST2.out
     rw [if_neg he] at hst
     have HS2 := hid hst
     have e80 : er = 80 := HER.out.resolve_left he
     clear hst HST2 HER he
     subst e80
     have HNO := hid (fun (X : World) (s : St B b X p' { P with ar := R.1 } a v' (R.2.map (nteP a))) => note_c18 B b X p' { P with ar := R.1 } a v' (R.2.map (nteP a)) 80 (bs x) s (by rw [List.length_map]; have := HL2.out; omega))
     go_wp2_with (first
      | (go_at_call 155; ((with_reducible refine (HPA.out).mono ?_); rintro e w2 ⟨rfl, b2⟩); have S2 := hid (SS.out.on b2); have B2 := hid (BB.out.trans (b2.mono OKB.out)); have O2 := hid (owns_on16 OO.out b2); clear b2)
      | (go_at_call 156; ((with_reducible refine (HNO.out w2 S2.out).mono ?_); rintro e w3 ⟨rfl, ⟨v3, s3⟩, b3, k3⟩); have S3 := hid s3; have O3 := hid (k3.own (by decide) (by decide) O2.out); have B3 := hid (B2.out.trans b3); clear s3))
     go_roundw
     case rel => exact ⟨k + 1, p', v3, by omega, by go_num, hid (by rw [HS2.out]; exact S3.out.cast rfl (by rw [nte_t60, List.map_append]; rfl)), O3, B3⟩
     case measure => first | (simp [intOf]; done) | (simp [intOf]; omega)
   ·obtain rfl : k = m := by omega
    have k1 : ¬ (k : Int) < (k : Nat) := by omega
    have hst := SS.out
    rw [List.take_of_length_le (by rw [← HM.out]; exact Nat.le_refl _)] at hst
    have HSF := hid hst
    clear hst
    go_wp2_with fail
    (try simp only [Exit.inBlock, Exit.then])
    first | refine bodyPost_ret (results_none rfl _ _ _) rfl ?_ | refine bodyPost_end (results_none rfl _ _ _) rfl ?_
    exact ⟨rfl, ⟨p', v', HSF.out⟩, BB.out⟩
end Go.Proofs.YtlenjfodjkhpmaaGreatDoor
