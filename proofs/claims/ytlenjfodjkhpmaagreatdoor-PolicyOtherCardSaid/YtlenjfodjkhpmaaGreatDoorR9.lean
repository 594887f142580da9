/- What the landed effects of families and of truth values leave. Conditions: the tables lie in their variables; lists of at most 10,000, values of at most 1,000 bytes. -/
import Derived.Test.YtlenjfodjkhpmaaGreatDoorR8
namespace Go.Proofs.YtlenjfodjkhpmaaGreatDoor
set_option maxRecDepth 100000
open Go.Lib (hid)
open Go.RowKit Go.Shelf
set_option linter.unusedVariables false
set_option linter.unusedSimpArgs false
attribute [local go_sem ↓] Go.wp_at_zero Go.wp_at_succ

theorem famF_else18 {pb : Bool} {m : Nat} {l : List Nat} {v : ByteArray} (h1 : wdL v.data.toList ≠ []) (h2 : wdL v.data.toList ≠ [[110, 111, 110, 101]]) : famF pb m l v = ((mdF m (turnR v).2, ((wdL (turnR v).1.data.toList).foldl (famS pb) (l, [])).1), ((wdL (turnR v).1.data.toList).foldl (famS pb) (l, [])).2) := by
 unfold famF
 rw [if_neg h1, if_neg h2]
theorem fam_empty18 {B b : Nat} {w : World} {p : Pls} {P : Pol} {a : As} {v : Value} {N : List Nte} (h : St B b w p P a v N) (m : Nat) : St B b (w.setCell ⟨b, 6, none⟩ (.slice none 0 0)) { p with mq := none, mn := 0, mc := 0 } { P with fa := [] } a v N ∧ St B b ((w.setCell ⟨b, 6, none⟩ (.slice none 0 0)).setCell ⟨b, 7, none⟩ (.int .u8 (m : Nat))) { p with mq := none, mn := 0, mc := 0 } { P with fa := [], fm := m } a v N ∧ Below B w ((w.setCell ⟨b, 6, none⟩ (.slice none 0 0)).setCell ⟨b, 7, none⟩ (.int .u8 (m : Nat))) := by
 have h1 : St B b (w.setCell ⟨b, 6, none⟩ (.slice none 0 0)) { p with mq := none, mn := 0, mc := 0 } { P with fa := [] } a v N := h.set 6 (.slice none 0 0) (by decide) rfl ⟨h.own.al, h.own.fl, h.own.ll, rfl, h.own.ar, h.own.fi, h.own.lo, World.ownsRow_nil _ _ _ _⟩ h.nts
 refine ⟨h1, h1.set 7 (.int .u8 (m : Nat)) (by decide) rfl ⟨h1.own.al, h1.own.fl, h1.own.ll, h1.own.ml, h1.own.ar, h1.own.fi, h1.own.lo, h1.own.fa⟩ h1.nts, (h.low 6 _).trans (h1.low 7 _)⟩
set_option maxHeartbeats 16000000 in
theorem families_c18 (B b : Nat) (w : World) (p : Pls) (P : Pol) (a : As) (hG : ∀ X, Below B w X → G18 X) (h : St B b w p P a (.slice none 0 0) []) (hv : a.val.size ≤ 1000) (hn : P.fa.length ≤ 10000) (hs : P.fa.Pairwise fun a b => ltN18 a b = true) :
 Calls Tryz.prog 129 #[.pointer (some ⟨b, 0, none⟩)] w fun e w' => e = .returned (.tuple #[]) ∧ (∃ p' v', St B b w' p' { P with fa := (famF (putC18 P.fm (turnR a.val).2) P.fm P.fa a.val).1.2, fm := (famF (putC18 P.fm (turnR a.val).2) P.fm P.fa a.val).1.1 } a v' ((famF (putC18 P.fm (turnR a.val).2) P.fm P.fa a.val).2.map (nteP a))) ∧ Below B w w' := by
 have HV := hid (words_c18 a.val w (by omega))
 have HLF := hid (fun (X : World) (k : Below B w X) (s : St B b X p P a (.slice none 0 0) []) => listFamilies_c18 B b X p P a (fun Y y => hG Y (k.trans y)) s hv hn hs)
 obtain ⟨F, hF⟩ : ∃ F, F = famF (putC18 P.fm (turnR a.val).2) P.fm P.fa a.val := ⟨_, rfl⟩
 rw [← hF]
 obtain ⟨ws, hws⟩ : ∃ l, l = wdL a.val.data.toList := ⟨_, rfl⟩
 rw [← hws] at HV
 have c17 := h.cell 17 (.string a.val) rfl
 have HS := hid h
 have HB := hid h.le
 by_cases h0 : ws = []
 ·have hF2 : F = ((0, []), []) := by rw [hF]; unfold famF; rw [if_pos (hws ▸ h0)]
  rw [hF2]
  subst h0
  simp only [List.length_nil] at HV
  clear hv hws h hG hn hs hF hF2 HLF
  go_enter Tryz.func129, Tryz.ntmps129
  go_wp2_with (go_at_call 154; ((with_reducible refine (HV.out).mono ?_); rintro e w1 ⟨q1, d1, rfl, o1, b1⟩); have S1 := hid (HS.out.on b1); have B1 := hid (b1.mono HB.out); have O1 := hid o1; have x6 := S1.out.cell 6 _ rfl; have f6 := S1.out.frz 6; have E1 := hid (fam_empty18 S1.out 0); have x7 := E1.out.1.cell 7 _ rfl; have f7 := E1.out.1.frz 7; clear o1 b1)
  (try simp only [Exit.inBlock, Exit.then])
  first | refine bodyPost_ret (results_none rfl _ _ _) rfl ?_ | refine bodyPost_end (results_none rfl _ _ _) rfl ?_
  exact ⟨rfl, ⟨_, _, E1.out.2.1⟩, B1.out.trans E1.out.2.2⟩
 by_cases h1 : ws = [[110, 111, 110, 101]]
 ·have hF2 : F = ((1, []), []) := by rw [hF]; unfold famF; rw [if_neg (hws ▸ h0), if_pos (hws ▸ h1)]
  rw [hF2]
  have hx : ws[0]? = some [110, 111, 110, 101] := by rw [h1]; rfl
  have HM := hid (show 1 = ws.length by rw [h1]; rfl)
  rw [show ws.length = 1 from HM.out.symm] at HV
  have t1 : ((bs [110, 111, 110, 101]).toList == [110, 111, 110, 101]) = true := by rw [bs_toList]; rfl
  clear hv hws h hG hn hs hF hF2 HLF h0 h1
  go_enter Tryz.func129, Tryz.ntmps129
  go_wp2_with (go_at_call 154; ((with_reducible refine (HV.out).mono ?_); rintro e w1 ⟨q1, d1, rfl, o1, b1⟩); have S1 := hid (HS.out.on b1); have B1 := hid (b1.mono HB.out); have O1 := hid o1; have x6 := S1.out.cell 6 _ rfl; have f6 := S1.out.frz 6; have E1 := hid (fam_empty18 S1.out 1); have x7 := E1.out.1.cell 7 _ rfl; have f7 := E1.out.1.frz 7; obtain ⟨g, o, hq, hc⟩ := words_at18 (k := 0) O1.out HM.out hx; subst hq; rw [Nat.add_zero] at hc; clear o1 b1)
  (try simp only [Exit.inBlock, Exit.then])
  first | refine bodyPost_ret (results_none rfl _ _ _) rfl ?_ | refine bodyPost_end (results_none rfl _ _ _) rfl ?_
  exact ⟨rfl, ⟨_, _, E1.out.2.1⟩, B1.out.trans E1.out.2.2⟩
 have hF2 : F = ((mdF P.fm (turnR a.val).2, ((wdL (turnR a.val).1.data.toList).foldl (famS (putC18 P.fm (turnR a.val).2)) (P.fa, [])).1), ((wdL (turnR a.val).1.data.toList).foldl (famS (putC18 P.fm (turnR a.val).2)) (P.fa, [])).2) := by rw [hF]; exact famF_else18 (hws ▸ h0) (hws ▸ h1)
 rw [hF2]
 obtain ⟨PZ, hPZ⟩ : ∃ X, X = ({ P with fm := mdF P.fm (turnR a.val).2, fa := ((wdL (turnR a.val).1.data.toList).foldl (famS (putC18 P.fm (turnR a.val).2)) (P.fa, [])).1 } : Pol) := ⟨_, rfl⟩
 obtain ⟨NZ, hNZ⟩ : ∃ X, X = ((wdL (turnR a.val).1.data.toList).foldl (famS (putC18 P.fm (turnR a.val).2)) (P.fa, [])).2 := ⟨_, rfl⟩
 rw [← hPZ, ← hNZ] at HLF
 simp only
 rw [← hPZ, ← hNZ]
 obtain ⟨m, hm⟩ : ∃ m, m = ws.length := ⟨_, rfl⟩
 have hm0 : 0 < m := by rw [hm]; exact List.length_pos_iff.2 h0
 rw [← hm] at HV
 have HM := hid hm
 have m1 : ((m : Int) == 0) = false := beq_eq_false_iff_ne.2 (by omega)
 have W1 := hid h1
 clear hv hws h hG hn hs hF hF2 hPZ hNZ h0 h1
 by_cases h2 : m = 1
 ·subst h2
  obtain ⟨x, hx⟩ : ∃ x, ws[0]? = some x := ⟨ws[0]'(by rw [← HM.out]; decide), List.getElem?_eq_getElem _⟩
  have t1 : ((bs x).toList == [110, 111, 110, 101]) = false := by
   rw [bs_toList]
   refine beq_eq_false_iff_ne.2 fun e => W1.out ?_
   have h1 := HM.out
   match ws, h1, hx with
   | [y], _, hx => injection hx with hx; rw [hx, e]
  clear hm hm0 m1 W1
  go_enter Tryz.func129, Tryz.ntmps129
  go_wp2_with (first
   | (go_at_call 154; ((with_reducible refine (HV.out).mono ?_); rintro e w1 ⟨q1, d1, rfl, o1, b1⟩); have S1 := hid (HS.out.on b1); have B1 := hid (b1.mono HB.out); have O1 := hid o1; obtain ⟨g, o, hq, hc⟩ := words_at18 (k := 0) O1.out HM.out hx; subst hq; rw [Nat.add_zero] at hc; clear o1 b1)
   | (go_at_call 158; ((with_reducible refine (HLF.out w1 B1.out S1.out).mono ?_); rintro e w2 ⟨rfl, s2, b2⟩); have S2 := hid s2; have B2 := hid b2; clear s2 b2))
  (try simp only [Exit.inBlock, Exit.then])
  first | refine bodyPost_ret (results_none rfl _ _ _) rfl ?_ | refine bodyPost_end (results_none rfl _ _ _) rfl ?_
  exact ⟨rfl, S2.out, B1.out.trans B2.out⟩
 ·have m2 : ((m : Int) == 1) = false := beq_eq_false_iff_ne.2 (by omega)
  clear hm hm0 W1 h2
  go_enter Tryz.func129, Tryz.ntmps129
  go_wp2_with (first
   | (go_at_call 154; ((with_reducible refine (HV.out).mono ?_); rintro e w1 ⟨q1, d1, rfl, o1, b1⟩); have S1 := hid (HS.out.on b1); have B1 := hid (b1.mono HB.out); clear o1 b1)
   | (go_at_call 158; ((with_reducible refine (HLF.out w1 B1.out S1.out).mono ?_); rintro e w2 ⟨rfl, s2, b2⟩); have S2 := hid s2; have B2 := hid b2; clear s2 b2))
  (try simp only [Exit.inBlock, Exit.then])
  first | refine bodyPost_ret (results_none rfl _ _ _) rfl ?_ | refine bodyPost_end (results_none rfl _ _ _) rfl ?_
  exact ⟨rfl, S2.out, B1.out.trans B2.out⟩
theorem St.flag9 {B b : Nat} {w : World} {p : Pls} {P : Pol} {a : As} {v : Value} {N : List Nte} (h : St B b w p P a v N) (x : Bool) : St B b (w.setCell ⟨b, 9, none⟩ (.bool x)) p { P with b1 := x } a v N := h.set 9 (.bool x) (by decide) rfl ⟨h.own.al, h.own.fl, h.own.ll, h.own.ml, h.own.ar, h.own.fi, h.own.lo, h.own.fa⟩ h.nts
set_option maxHeartbeats 16000000 in
theorem truth9_c18 (B b : Nat) (w : World) (p : Pls) (P : Pol) (a : As) (hG : ∀ X, Below B w X → G18 X) (h : St B b w p P a (.slice none 0 0) []) (hv : a.val.size ≤ 1000) :
 Calls Tryz.prog 161 #[.pointer (some ⟨b, 0, none⟩), .pointer (some ⟨b, 9, none⟩)] w fun e w' => e = .returned (.tuple #[]) ∧ (∃ p' v', St B b w' p' { P with b1 := (flgF P.b1 a.val).1 } a v' ((flgF P.b1 a.val).2.map (nteP a))) ∧ Below B w w' := by
 have HV := hid (bool15 a.val w (hG w (Below.refl _ _)).boo)
 have c17 := h.cell 17 (.string a.val) rfl
 have x9 := h.cell 9 _ rfl
 have f9 := h.frz 9
 have HS := hid h
 have HB := hid h.le
 by_cases h0 : a.val = ⟨#[]⟩
 ·have hF : flgF P.b1 a.val = (false, []) := by unfold flgF; rw [if_pos h0]
  rw [hF]
  have t1 : (a.val.toList == []) = true := eq_str h0
  have t2 : a.val.toList.isEmpty = true := by rw [show a.val = bs [] from h0, bs_toList]; rfl
  clear hG h hv h0 hF HV
  go_enter Tryz.func161, Tryz.ntmps161
  go_wp2_with fail
  (try simp only [Exit.inBlock, Exit.then])
  first | refine bodyPost_ret (results_none rfl _ _ _) rfl ?_ | refine bodyPost_end (results_none rfl _ _ _) rfl ?_
  exact ⟨rfl, ⟨p, _, HS.out.flag9 false⟩, HS.out.low 9 _⟩
 ·have t1 : (a.val.toList == []) = false := ne_str (l := []) h0
  have t2 : a.val.toList.isEmpty = false := by
   cases e : a.val.toList with
   | nil => exact absurd (show a.val = bs [] from list_of_bytes10 (e.trans (bs_toList []).symm)) h0
   | cons _ _ => rfl
  cases hb : boolR a.val with
  | some x =>
   have hF : flgF P.b1 a.val = (x, []) := by unfold flgF; rw [if_neg h0, hb]
   rw [hF]
   unfold boolE at HV
   rw [hb] at HV
   simp only [Option.getD_some, Option.isSome_some, if_true] at HV
   clear hG h hv h0 hF hb
   go_enter Tryz.func161, Tryz.ntmps161
   go_wp2_with (go_at_call 159; ((with_reducible refine (HV.out).mono ?_); rintro e w1 ⟨rfl, b1⟩); have S1 := hid (HS.out.on b1); have B1 := hid (b1.mono HB.out); have y9 := S1.out.cell 9 _ rfl; have g9 := S1.out.frz 9; clear b1)
   (try simp only [Exit.inBlock, Exit.then])
   first | refine bodyPost_ret (results_none rfl _ _ _) rfl ?_ | refine bodyPost_end (results_none rfl _ _ _) rfl ?_
   exact ⟨rfl, ⟨p, _, S1.out.flag9 x⟩, B1.out.trans (S1.out.low 9 _)⟩
  | none =>
   have hF : flgF P.b1 a.val = (P.b1, [(150, t60 a.val.data.toList)]) := by unfold flgF; rw [if_neg h0, hb]
   rw [hF]
   unfold boolE at HV
   rw [hb] at HV
   simp only [Option.getD_none, Option.isSome_none, Bool.false_eq_true, if_false] at HV
   have HNO := hid (fun (X : World) (s : St B b X p P a (.slice none 0 0) []) => note_c18 B b X p P a (.slice none 0 0) [] 150 a.val s (by show 0 ≤ 100000; decide))
   have HX := hid (show (⟨a.file, a.line, 150, bs (a.val.data.toList.take 60)⟩ : Nte) = nteP a (150, t60 a.val.data.toList) from rfl)
   clear hG h hv h0 hF hb
   go_enter Tryz.func161, Tryz.ntmps161
   go_wp2_with (first
    | (go_at_call 159; ((with_reducible refine (HV.out).mono ?_); rintro e w1 ⟨rfl, b1⟩); have S1 := hid (HS.out.on b1); have B1 := hid (b1.mono HB.out); have y17 := S1.out.cell 17 (.string a.val) rfl; clear b1)
    | (go_at_call 156; ((with_reducible refine (HNO.out w1 S1.out).mono ?_); rintro e w2 ⟨rfl, ⟨v2, s2⟩, b2, _⟩); have S2 := hid s2; have B2 := hid b2; clear s2 b2))
   (try simp only [Exit.inBlock, Exit.then])
   first | refine bodyPost_ret (results_none rfl _ _ _) rfl ?_ | refine bodyPost_end (results_none rfl _ _ _) rfl ?_
   exact ⟨rfl, ⟨p, v2, S2.out.cast rfl (by rw [HX.out]; rfl)⟩, B1.out.trans B2.out⟩
set_option maxHeartbeats 16000000 in
theorem writeExecute_c18 (B b : Nat) (w : World) (p : Pls) (P : Pol) (a : As) (hG : ∀ X, Below B w X → G18 X) (h : St B b w p P a (.slice none 0 0) []) (hv : a.val.size ≤ 1000) :
 Calls Tryz.prog 131 #[.pointer (some ⟨b, 0, none⟩)] w fun e w' => e = .returned (.tuple #[]) ∧ (∃ p' v', St B b w' p' { P with b1 := (flgF P.b1 a.val).1 } a v' ((flgF P.b1 a.val).2.map (nteP a))) ∧ Below B w w' := by
 have HT := hid (truth9_c18 B b w p P a hG h hv)
 clear hG h hv
 go_enter Tryz.func131, Tryz.ntmps131
 go_wp2_with (go_at_call 161; ((with_reducible refine (HT.out).mono ?_); rintro e w1 ⟨rfl, s1, b1⟩))
 (try simp only [Exit.inBlock, Exit.then])
 first | refine bodyPost_ret (results_none rfl _ _ _) rfl ?_ | refine bodyPost_end (results_none rfl _ _ _) rfl ?_
 exact ⟨rfl, s1, b1⟩
theorem St.flag10 {B b : Nat} {w : World} {p : Pls} {P : Pol} {a : As} {v : Value} {N : List Nte} (h : St B b w p P a v N) (x : Bool) : St B b (w.setCell ⟨b, 10, none⟩ (.bool x)) p { P with b2 := x } a v N := h.set 10 (.bool x) (by decide) rfl ⟨h.own.al, h.own.fl, h.own.ll, h.own.ml, h.own.ar, h.own.fi, h.own.lo, h.own.fa⟩ h.nts
set_option maxHeartbeats 16000000 in
theorem truth10_c18 (B b : Nat) (w : World) (p : Pls) (P : Pol) (a : As) (hG : ∀ X, Below B w X → G18 X) (h : St B b w p P a (.slice none 0 0) []) (hv : a.val.size ≤ 1000) :
 Calls Tryz.prog 161 #[.pointer (some ⟨b, 0, none⟩), .pointer (some ⟨b, 10, none⟩)] w fun e w' => e = .returned (.tuple #[]) ∧ (∃ p' v', St B b w' p' { P with b2 := (flgF P.b2 a.val).1 } a v' ((flgF P.b2 a.val).2.map (nteP a))) ∧ Below B w w' := by
 have HV := hid (bool15 a.val w (hG w (Below.refl _ _)).boo)
 have c17 := h.cell 17 (.string a.val) rfl
 have x9 := h.cell 10 _ rfl
 have f9 := h.frz 10
 have HS := hid h
 have HB := hid h.le
 by_cases h0 : a.val = ⟨#[]⟩
 ·have hF : flgF P.b2 a.val = (false, []) := by unfold flgF; rw [if_pos h0]
  rw [hF]
  have t1 : (a.val.toList == []) = true := eq_str h0
  have t2 : a.val.toList.isEmpty = true := by rw [show a.val = bs [] from h0, bs_toList]; rfl
  clear hG h hv h0 hF HV
  go_enter Tryz.func161, Tryz.ntmps161
  go_wp2_with fail
  (try simp only [Exit.inBlock, Exit.then])
  first | refine bodyPost_ret (results_none rfl _ _ _) rfl ?_ | refine bodyPost_end (results_none rfl _ _ _) rfl ?_
  exact ⟨rfl, ⟨p, _, HS.out.flag10 false⟩, HS.out.low 10 _⟩
 ·have t1 : (a.val.toList == []) = false := ne_str (l := []) h0
  have t2 : a.val.toList.isEmpty = false := by
   cases e : a.val.toList with
   | nil => exact absurd (show a.val = bs [] from list_of_bytes10 (e.trans (bs_toList []).symm)) h0
   | cons _ _ => rfl
  cases hb : boolR a.val with
  | some x =>
   have hF : flgF P.b2 a.val = (x, []) := by unfold flgF; rw [if_neg h0, hb]
   rw [hF]
   unfold boolE at HV
   rw [hb] at HV
   simp only [Option.getD_some, Option.isSome_some, if_true] at HV
   clear hG h hv h0 hF hb
   go_enter Tryz.func161, Tryz.ntmps161
   go_wp2_with (go_at_call 159; ((with_reducible refine (HV.out).mono ?_); rintro e w1 ⟨rfl, b1⟩); have S1 := hid (HS.out.on b1); have B1 := hid (b1.mono HB.out); have y9 := S1.out.cell 10 _ rfl; have g9 := S1.out.frz 10; clear b1)
   (try simp only [Exit.inBlock, Exit.then])
   first | refine bodyPost_ret (results_none rfl _ _ _) rfl ?_ | refine bodyPost_end (results_none rfl _ _ _) rfl ?_
   exact ⟨rfl, ⟨p, _, S1.out.flag10 x⟩, B1.out.trans (S1.out.low 10 _)⟩
  | none =>
   have hF : flgF P.b2 a.val = (P.b2, [(150, t60 a.val.data.toList)]) := by unfold flgF; rw [if_neg h0, hb]
   rw [hF]
   unfold boolE at HV
   rw [hb] at HV
   simp only [Option.getD_none, Option.isSome_none, Bool.false_eq_true, if_false] at HV
   have HNO := hid (fun (X : World) (s : St B b X p P a (.slice none 0 0) []) => note_c18 B b X p P a (.slice none 0 0) [] 150 a.val s (by show 0 ≤ 100000; decide))
   have HX := hid (show (⟨a.file, a.line, 150, bs (a.val.data.toList.take 60)⟩ : Nte) = nteP a (150, t60 a.val.data.toList) from rfl)
   clear hG h hv h0 hF hb
   go_enter Tryz.func161, Tryz.ntmps161
   go_wp2_with (first
    | (go_at_call 159; ((with_reducible refine (HV.out).mono ?_); rintro e w1 ⟨rfl, b1⟩); have S1 := hid (HS.out.on b1); have B1 := hid (b1.mono HB.out); have y17 := S1.out.cell 17 (.string a.val) rfl; clear b1)
    | (go_at_call 156; ((with_reducible refine (HNO.out w1 S1.out).mono ?_); rintro e w2 ⟨rfl, ⟨v2, s2⟩, b2, _⟩); have S2 := hid s2; have B2 := hid b2; clear s2 b2))
   (try simp only [Exit.inBlock, Exit.then])
   first | refine bodyPost_ret (results_none rfl _ _ _) rfl ?_ | refine bodyPost_end (results_none rfl _ _ _) rfl ?_
   exact ⟨rfl, ⟨p, v2, S2.out.cast rfl (by rw [HX.out]; rfl)⟩, B1.out.trans B2.out⟩
set_option maxHeartbeats 16000000 in
theorem personality_c18 (B b : Nat) (w : World) (p : Pls) (P : Pol) (a : As) (hG : ∀ X, Below B w X → G18 X) (h : St B b w p P a (.slice none 0 0) []) (hv : a.val.size ≤ 1000) :
 Calls Tryz.prog 132 #[.pointer (some ⟨b, 0, none⟩)] w fun e w' => e = .returned (.tuple #[]) ∧ (∃ p' v', St B b w' p' { P with b2 := (flgF P.b2 a.val).1 } a v' ((flgF P.b2 a.val).2.map (nteP a))) ∧ Below B w w' := by
 have HT := hid (truth10_c18 B b w p P a hG h hv)
 clear hG h hv
 go_enter Tryz.func132, Tryz.ntmps132
 go_wp2_with (go_at_call 161; ((with_reducible refine (HT.out).mono ?_); rintro e w1 ⟨rfl, s1, b1⟩))
 (try simp only [Exit.inBlock, Exit.then])
 first | refine bodyPost_ret (results_none rfl _ _ _) rfl ?_ | refine bodyPost_end (results_none rfl _ _ _) rfl ?_
 exact ⟨rfl, s1, b1⟩
theorem St.flag11 {B b : Nat} {w : World} {p : Pls} {P : Pol} {a : As} {v : Value} {N : List Nte} (h : St B b w p P a v N) (x : Bool) : St B b (w.setCell ⟨b, 11, none⟩ (.bool x)) p { P with b3 := x } a v N := h.set 11 (.bool x) (by decide) rfl ⟨h.own.al, h.own.fl, h.own.ll, h.own.ml, h.own.ar, h.own.fi, h.own.lo, h.own.fa⟩ h.nts
set_option maxHeartbeats 16000000 in
theorem truth11_c18 (B b : Nat) (w : World) (p : Pls) (P : Pol) (a : As) (hG : ∀ X, Below B w X → G18 X) (h : St B b w p P a (.slice none 0 0) []) (hv : a.val.size ≤ 1000) :
 Calls Tryz.prog 161 #[.pointer (some ⟨b, 0, none⟩), .pointer (some ⟨b, 11, none⟩)] w fun e w' => e = .returned (.tuple #[]) ∧ (∃ p' v', St B b w' p' { P with b3 := (flgF P.b3 a.val).1 } a v' ((flgF P.b3 a.val).2.map (nteP a))) ∧ Below B w w' := by
 have HV := hid (bool15 a.val w (hG w (Below.refl _ _)).boo)
 have c17 := h.cell 17 (.string a.val) rfl
 have x9 := h.cell 11 _ rfl
 have f9 := h.frz 11
 have HS := hid h
 have HB := hid h.le
 by_cases h0 : a.val = ⟨#[]⟩
 ·have hF : flgF P.b3 a.val = (false, []) := by unfold flgF; rw [if_pos h0]
  rw [hF]
  have t1 : (a.val.toList == []) = true := eq_str h0
  have t2 : a.val.toList.isEmpty = true := by rw [show a.val = bs [] from h0, bs_toList]; rfl
  clear hG h hv h0 hF HV
  go_enter Tryz.func161, Tryz.ntmps161
  go_wp2_with fail
  (try simp only [Exit.inBlock, Exit.then])
  first | refine bodyPost_ret (results_none rfl _ _ _) rfl ?_ | refine bodyPost_end (results_none rfl _ _ _) rfl ?_
  exact ⟨rfl, ⟨p, _, HS.out.flag11 false⟩, HS.out.low 11 _⟩
 ·have t1 : (a.val.toList == []) = false := ne_str (l := []) h0
  have t2 : a.val.toList.isEmpty = false := by
   cases e : a.val.toList with
   | nil => exact absurd (show a.val = bs [] from list_of_bytes10 (e.trans (bs_toList []).symm)) h0
   | cons _ _ => rfl
  cases hb : boolR a.val with
  | some x =>
   have hF : flgF P.b3 a.val = (x, []) := by unfold flgF; rw [if_neg h0, hb]
   rw [hF]
   unfold boolE at HV
   rw [hb] at HV
   simp only [Option.getD_some, Option.isSome_some, if_true] at HV
   clear hG h hv h0 hF hb
   go_enter Tryz.func161, Tryz.ntmps161
   go_wp2_with (go_at_call 159; ((with_reducible refine (HV.out).mono ?_); rintro e w1 ⟨rfl, b1⟩); have S1 := hid (HS.out.on b1); have B1 := hid (b1.mono HB.out); have y9 := S1.out.cell 11 _ rfl; have g9 := S1.out.frz 11; clear b1)
   (try simp only [Exit.inBlock, Exit.then])
   first | refine bodyPost_ret (results_none rfl _ _ _) rfl ?_ | refine bodyPost_end (results_none rfl _ _ _) rfl ?_
   exact ⟨rfl, ⟨p, _, S1.out.flag11 x⟩, B1.out.trans (S1.out.low 11 _)⟩
  | none =>
   have hF : flgF P.b3 a.val = (P.b3, [(150, t60 a.val.data.toList)]) := by unfold flgF; rw [if_neg h0, hb]
   rw [hF]
   unfold boolE at HV
   rw [hb] at HV
   simp only [Option.getD_none, Option.isSome_none, Bool.false_eq_true, if_false] at HV
   have HNO := hid (fun (X : World) (s : St B b X p P a (.slice none 0 0) []) => note_c18 B b X p P a (.slice none 0 0) [] 150 a.val s (by show 0 ≤ 100000; decide))
   have HX := hid (show (⟨a.file, a.line, 150, bs (a.val.data.toList.take 60)⟩ : Nte) = nteP a (150, t60 a.val.data.toList) from rfl)
   clear hG h hv h0 hF hb
   go_enter Tryz.func161, Tryz.ntmps161
   go_wp2_with (first
    | (go_at_call 159; ((with_reducible refine (HV.out).mono ?_); rintro e w1 ⟨rfl, b1⟩); have S1 := hid (HS.out.on b1); have B1 := hid (b1.mono HB.out); have y17 := S1.out.cell 17 (.string a.val) rfl; clear b1)
    | (go_at_call 156; ((with_reducible refine (HNO.out w1 S1.out).mono ?_); rintro e w2 ⟨rfl, ⟨v2, s2⟩, b2, _⟩); have S2 := hid s2; have B2 := hid b2; clear s2 b2))
   (try simp only [Exit.inBlock, Exit.then])
   first | refine bodyPost_ret (results_none rfl _ _ _) rfl ?_ | refine bodyPost_end (results_none rfl _ _ _) rfl ?_
   exact ⟨rfl, ⟨p, v2, S2.out.cast rfl (by rw [HX.out]; rfl)⟩, B1.out.trans B2.out⟩
set_option maxHeartbeats 16000000 in
theorem realtime_c18 (B b : Nat) (w : World) (p : Pls) (P : Pol) (a : As) (hG : ∀ X, Below B w X → G18 X) (h : St B b w p P a (.slice none 0 0) []) (hv : a.val.size ≤ 1000) :
 Calls Tryz.prog 133 #[.pointer (some ⟨b, 0, none⟩)] w fun e w' => e = .returned (.tuple #[]) ∧ (∃ p' v', St B b w' p' { P with b3 := (flgF P.b3 a.val).1 } a v' ((flgF P.b3 a.val).2.map (nteP a))) ∧ Below B w w' := by
 have HT := hid (truth11_c18 B b w p P a hG h hv)
 clear hG h hv
 go_enter Tryz.func133, Tryz.ntmps133
 go_wp2_with (go_at_call 161; ((with_reducible refine (HT.out).mono ?_); rintro e w1 ⟨rfl, s1, b1⟩))
 (try simp only [Exit.inBlock, Exit.then])
 first | refine bodyPost_ret (results_none rfl _ _ _) rfl ?_ | refine bodyPost_end (results_none rfl _ _ _) rfl ?_
 exact ⟨rfl, s1, b1⟩
theorem St.flag12 {B b : Nat} {w : World} {p : Pls} {P : Pol} {a : As} {v : Value} {N : List Nte} (h : St B b w p P a v N) (x : Bool) : St B b (w.setCell ⟨b, 12, none⟩ (.bool x)) p { P with b4 := x } a v N := h.set 12 (.bool x) (by decide) rfl ⟨h.own.al, h.own.fl, h.own.ll, h.own.ml, h.own.ar, h.own.fi, h.own.lo, h.own.fa⟩ h.nts
set_option maxHeartbeats 16000000 in
theorem truth12_c18 (B b : Nat) (w : World) (p : Pls) (P : Pol) (a : As) (hG : ∀ X, Below B w X → G18 X) (h : St B b w p P a (.slice none 0 0) []) (hv : a.val.size ≤ 1000) :
 Calls Tryz.prog 161 #[.pointer (some ⟨b, 0, none⟩), .pointer (some ⟨b, 12, none⟩)] w fun e w' => e = .returned (.tuple #[]) ∧ (∃ p' v', St B b w' p' { P with b4 := (flgF P.b4 a.val).1 } a v' ((flgF P.b4 a.val).2.map (nteP a))) ∧ Below B w w' := by
 have HV := hid (bool15 a.val w (hG w (Below.refl _ _)).boo)
 have c17 := h.cell 17 (.string a.val) rfl
 have x9 := h.cell 12 _ rfl
 have f9 := h.frz 12
 have HS := hid h
 have HB := hid h.le
 by_cases h0 : a.val = ⟨#[]⟩
 ·have hF : flgF P.b4 a.val = (false, []) := by unfold flgF; rw [if_pos h0]
  rw [hF]
  have t1 : (a.val.toList == []) = true := eq_str h0
  have t2 : a.val.toList.isEmpty = true := by rw [show a.val = bs [] from h0, bs_toList]; rfl
  clear hG h hv h0 hF HV
  go_enter Tryz.func161, Tryz.ntmps161
  go_wp2_with fail
  (try simp only [Exit.inBlock, Exit.then])
  first | refine bodyPost_ret (results_none rfl _ _ _) rfl ?_ | refine bodyPost_end (results_none rfl _ _ _) rfl ?_
  exact ⟨rfl, ⟨p, _, HS.out.flag12 false⟩, HS.out.low 12 _⟩
 ·have t1 : (a.val.toList == []) = false := ne_str (l := []) h0
  have t2 : a.val.toList.isEmpty = false := by
   cases e : a.val.toList with
   | nil => exact absurd (show a.val = bs [] from list_of_bytes10 (e.trans (bs_toList []).symm)) h0
   | cons _ _ => rfl
  cases hb : boolR a.val with
  | some x =>
   have hF : flgF P.b4 a.val = (x, []) := by unfold flgF; rw [if_neg h0, hb]
   rw [hF]
   unfold boolE at HV
   rw [hb] at HV
   simp only [Option.getD_some, Option.isSome_some, if_true] at HV
   clear hG h hv h0 hF hb
   go_enter Tryz.func161, Tryz.ntmps161
   go_wp2_with (go_at_call 159; ((with_reducible refine (HV.out).mono ?_); rintro e w1 ⟨rfl, b1⟩); have S1 := hid (HS.out.on b1); have B1 := hid (b1.mono HB.out); have y9 := S1.out.cell 12 _ rfl; have g9 := S1.out.frz 12; clear b1)
   (try simp only [Exit.inBlock, Exit.then])
   first | refine bodyPost_ret (results_none rfl _ _ _) rfl ?_ | refine bodyPost_end (results_none rfl _ _ _) rfl ?_
   exact ⟨rfl, ⟨p, _, S1.out.flag12 x⟩, B1.out.trans (S1.out.low 12 _)⟩
  | none =>
   have hF : flgF P.b4 a.val = (P.b4, [(150, t60 a.val.data.toList)]) := by unfold flgF; rw [if_neg h0, hb]
   rw [hF]
   unfold boolE at HV
   rw [hb] at HV
   simp only [Option.getD_none, Option.isSome_none, Bool.false_eq_true, if_false] at HV
   have HNO := hid (fun (X : World) (s : St B b X p P a (.slice none 0 0) []) => note_c18 B b X p P a (.slice none 0 0) [] 150 a.val s (by show 0 ≤ 100000; decide))
   have HX := hid (show (⟨a.file, a.line, 150, bs (a.val.data.toList.take 60)⟩ : Nte) = nteP a (150, t60 a.val.data.toList) from rfl)
   clear hG h hv h0 hF hb
   go_enter Tryz.func161, Tryz.ntmps161
   go_wp2_with (first
    | (go_at_call 159; ((with_reducible refine (HV.out).mono ?_); rintro e w1 ⟨rfl, b1⟩); have S1 := hid (HS.out.on b1); have B1 := hid (b1.mono HB.out); have y17 := S1.out.cell 17 (.string a.val) rfl; clear b1)
    | (go_at_call 156; ((with_reducible refine (HNO.out w1 S1.out).mono ?_); rintro e w2 ⟨rfl, ⟨v2, s2⟩, b2, _⟩); have S2 := hid s2; have B2 := hid b2; clear s2 b2))
   (try simp only [Exit.inBlock, Exit.then])
   first | refine bodyPost_ret (results_none rfl _ _ _) rfl ?_ | refine bodyPost_end (results_none rfl _ _ _) rfl ?_
   exact ⟨rfl, ⟨p, v2, S2.out.cast rfl (by rw [HX.out]; rfl)⟩, B1.out.trans B2.out⟩
set_option maxHeartbeats 16000000 in
theorem noPrivileges_c18 (B b : Nat) (w : World) (p : Pls) (P : Pol) (a : As) (hG : ∀ X, Below B w X → G18 X) (h : St B b w p P a (.slice none 0 0) []) (hv : a.val.size ≤ 1000) :
 Calls Tryz.prog 134 #[.pointer (some ⟨b, 0, none⟩)] w fun e w' => e = .returned (.tuple #[]) ∧ (∃ p' v', St B b w' p' { P with b4 := (flgF P.b4 a.val).1 } a v' ((flgF P.b4 a.val).2.map (nteP a))) ∧ Below B w w' := by
 have HT := hid (truth12_c18 B b w p P a hG h hv)
 clear hG h hv
 go_enter Tryz.func134, Tryz.ntmps134
 go_wp2_with (go_at_call 161; ((with_reducible refine (HT.out).mono ?_); rintro e w1 ⟨rfl, s1, b1⟩))
 (try simp only [Exit.inBlock, Exit.then])
 first | refine bodyPost_ret (results_none rfl _ _ _) rfl ?_ | refine bodyPost_end (results_none rfl _ _ _) rfl ?_
 exact ⟨rfl, s1, b1⟩
end Go.Proofs.YtlenjfodjkhpmaaGreatDoor
