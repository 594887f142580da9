/- What the landed effect of namespaces leaves. Conditions: the tables lie in their variables; lists of at most 10,000, values of at most 1,000 bytes. -/
import Derived.Test.YtbjhleajhkofeaaDoorR8
import Derived.Test.YtbjhleajhkofeaaDoorD6
import Derived.Laws.BitsAllLaws
namespace Go.Proofs.YtbjhleajhkofeaaDoor
open Go.RowKit Go.Shelf
set_option linter.unusedVariables false
set_option linter.unusedSimpArgs false
attribute [local go_sem ↓] Go.wp_at_zero Go.wp_at_succ

theorem famF_else18 {pb : Bool} {m : Nat} {l : List Nat} {v : ByteArray} (h1 : wdL v.data.toList ≠ []) (h2 : wdL v.data.toList ≠ [[110, 111, 110, 101]]) : famF pb m l v = ((mdF m (turnR v).2, ((wdL (turnR v).1.data.toList).foldl (famS pb) (l, [])).1), ((wdL (turnR v).1.data.toList).foldl (famS pb) (l, [])).2) := by
  unfold famF
  rw [if_neg h1, if_neg h2]
theorem fam_empty18 {B b : Nat} {w : World} {p : Pls} {P : Pol} {a : As} {v : Value} {N : List Nte} (h : St B b w p P a v N) (m : Nat) : St B b (w.setCell ⟨b, 6, none⟩ (.slice none 0 0)) { p with mq := none, mn := 0, mc := 0 } { P with fa := [] } a v N ∧ St B b ((w.setCell ⟨b, 6, none⟩ (.slice none 0 0)).setCell ⟨b, 7, none⟩ (.int .u8 (m : Nat))) { p with mq := none, mn := 0, mc := 0 } { P with fa := [], fm := m } a v N ∧ Below B w ((w.setCell ⟨b, 6, none⟩ (.slice none 0 0)).setCell ⟨b, 7, none⟩ (.int .u8 (m : Nat))) := by
  have h1 : St B b (w.setCell ⟨b, 6, none⟩ (.slice none 0 0)) { p with mq := none, mn := 0, mc := 0 } { P with fa := [] } a v N := h.set 6 (.slice none 0 0) (by decide) rfl ⟨h.own.al, h.own.fl, h.own.ll, rfl, h.own.ar, h.own.fi, h.own.lo, World.ownsRow_nil _ _ _ _⟩ h.nts
  refine ⟨h1, h1.set 7 (.int .u8 (m : Nat)) (by decide) rfl ⟨h1.own.al, h1.own.fl, h1.own.ll, h1.own.ml, h1.own.ar, h1.own.fi, h1.own.lo, h1.own.fa⟩ h1.nts, (h.low 6 _).trans (h1.low 7 _)⟩
set_option maxRecDepth 100000 in
set_option maxHeartbeats 16000000 in
theorem families_c18 (B b : Nat) (w : World) (p : Pls) (P : Pol) (a : As) (hG : ∀ X, Below B w X → G18 X) (h : St B b w p P a (.slice none 0 0) []) (hv : a.val.size ≤ 1000) (hn : P.fa.length ≤ 10000) (hs : P.fa.Pairwise fun a b => ltN18 a b = true) :
    Calls Tryd.prog 31 #[.pointer (some ⟨b, 0, none⟩)] w fun e w' => e = .returned (.tuple #[]) ∧ (∃ p' v', St B b w' p' { P with fa := (famF (putC18 P.fm (turnR a.val).2) P.fm P.fa a.val).1.2, fm := (famF (putC18 P.fm (turnR a.val).2) P.fm P.fa a.val).1.1 } a v' ((famF (putC18 P.fm (turnR a.val).2) P.fm P.fa a.val).2.map (nteP a))) ∧ Below B w w' := by
  have HV := Lib.hid (words_c18 a.val w (by omega))
  have HLF := Lib.hid (fun (X : World) (k : Below B w X) (s : St B b X p P a (.slice none 0 0) []) => listFamilies_c18 B b X p P a (fun Y y => hG Y (k.trans y)) s hv hn hs)
  obtain ⟨F, hF⟩ : ∃ F, F = famF (putC18 P.fm (turnR a.val).2) P.fm P.fa a.val := ⟨_, rfl⟩
  rw [← hF]
  obtain ⟨ws, hws⟩ : ∃ l, l = wdL a.val.data.toList := ⟨_, rfl⟩
  rw [← hws] at HV
  have c17 := h.cell 17 (.string a.val) rfl
  have HS := Lib.hid h
  have HB := Lib.hid h.le
  by_cases h0 : ws = []
  · have hF2 : F = ((0, []), []) := by rw [hF]; unfold famF; rw [if_pos (hws ▸ h0)]
    rw [hF2]
    subst h0
    simp only [List.length_nil] at HV
    clear hv hws h hG hn hs hF hF2 HLF
    go_enter Tryd.func31, Tryd.ntmps31
    go_wp2_with (go_at_call 14; ((with_reducible refine (HV.out).mono ?_); rintro e w1 ⟨q1, d1, rfl, o1, b1⟩); have S1 := Lib.hid (HS.out.on b1); have B1 := Lib.hid (b1.mono HB.out); have O1 := Lib.hid o1; have x6 := S1.out.cell 6 _ rfl; have f6 := S1.out.frz 6; have E1 := Lib.hid (fam_empty18 S1.out 0); have x7 := E1.out.1.cell 7 _ rfl; have f7 := E1.out.1.frz 7; clear o1 b1)
    (try simp only [Exit.inBlock, Exit.then])
    first | refine bodyPost_ret (results_none rfl _ _ _) rfl ?_ | refine bodyPost_end (results_none rfl _ _ _) rfl ?_
    exact ⟨rfl, ⟨_, _, E1.out.2.1⟩, B1.out.trans E1.out.2.2⟩
  by_cases h1 : ws = [[110, 111, 110, 101]]
  · have hF2 : F = ((1, []), []) := by rw [hF]; unfold famF; rw [if_neg (hws ▸ h0), if_pos (hws ▸ h1)]
    rw [hF2]
    have hx : ws[0]? = some [110, 111, 110, 101] := by rw [h1]; rfl
    have HM := Lib.hid (show 1 = ws.length by rw [h1]; rfl)
    rw [show ws.length = 1 from HM.out.symm] at HV
    have t1 : ((bs [110, 111, 110, 101]).toList == [110, 111, 110, 101]) = true := by rw [bs_toList]; rfl
    clear hv hws h hG hn hs hF hF2 HLF h0 h1
    go_enter Tryd.func31, Tryd.ntmps31
    go_wp2_with (go_at_call 14; ((with_reducible refine (HV.out).mono ?_); rintro e w1 ⟨q1, d1, rfl, o1, b1⟩); have S1 := Lib.hid (HS.out.on b1); have B1 := Lib.hid (b1.mono HB.out); have O1 := Lib.hid o1; have x6 := S1.out.cell 6 _ rfl; have f6 := S1.out.frz 6; have E1 := Lib.hid (fam_empty18 S1.out 1); have x7 := E1.out.1.cell 7 _ rfl; have f7 := E1.out.1.frz 7; obtain ⟨g, o, hq, hc⟩ := words_at18 (k := 0) O1.out HM.out hx; subst hq; rw [Nat.add_zero] at hc; clear o1 b1)
    (try simp only [Exit.inBlock, Exit.then])
    first | refine bodyPost_ret (results_none rfl _ _ _) rfl ?_ | refine bodyPost_end (results_none rfl _ _ _) rfl ?_
    exact ⟨rfl, ⟨_, _, E1.out.2.1⟩, B1.out.trans E1.out.2.2⟩
  have hF2 : F = ((mdF P.fm (turnR a.val).2, ((wdL (turnR a.val).1.data.toList).foldl (famS (putC18 P.fm (turnR a.val).2)) (P.fa, [])).1), ((wdL (turnR a.val).1.data.toList).foldl (famS (putC18 P.fm (turnR a.val).2)) (P.fa, [])).2) := by rw [hF]; exact famF_else18 (hws ▸ h0) (hws ▸ h1)
  rw [hF2]
  obtain ⟨PZ, hPZ⟩ : ∃ X, X = ({ P with fm := mdF P.fm (turnR a.val).2, fa := ((wdL (turnR a.val).1.data.toList).foldl (famS (putC18 P.fm (turnR a.val).2)) (P.fa, [])).1 } : Pol) := ⟨_, rfl⟩
  obtain ⟨NZ, hNZ⟩ : ∃ X, X = ((wdL (turnR a.val).1.data.toList).foldl (famS (putC18 P.fm (turnR a.val).2)) (P.fa, [])).2 := ⟨_, rfl⟩
  rw [← hPZ, ← hNZ] at HLF
  simp only
  rw [← hPZ, ← hNZ]
  obtain ⟨m, hm⟩ : ∃ m, m = ws.length := ⟨_, rfl⟩
  have hm0 : 0 < m := by rw [hm]; exact List.length_pos_iff.2 h0
  rw [← hm] at HV
  have HM := Lib.hid hm
  have m1 : ((m : Int) == 0) = false := beq_eq_false_iff_ne.2 (by omega)
  have W1 := Lib.hid h1
  clear hv hws h hG hn hs hF hF2 hPZ hNZ h0 h1
  by_cases h2 : m = 1
  · subst h2
    obtain ⟨x, hx⟩ : ∃ x, ws[0]? = some x := ⟨ws[0]'(by rw [← HM.out]; decide), List.getElem?_eq_getElem _⟩
    have t1 : ((bs x).toList == [110, 111, 110, 101]) = false := by
      rw [bs_toList]
      refine beq_eq_false_iff_ne.2 fun e => W1.out ?_
      have h1 := HM.out
      match ws, h1, hx with
      | [y], _, hx => injection hx with hx; rw [hx, e]
    clear hm hm0 m1 W1
    go_enter Tryd.func31, Tryd.ntmps31
    go_wp2_with (first
      | (go_at_call 14; ((with_reducible refine (HV.out).mono ?_); rintro e w1 ⟨q1, d1, rfl, o1, b1⟩); have S1 := Lib.hid (HS.out.on b1); have B1 := Lib.hid (b1.mono HB.out); have O1 := Lib.hid o1; obtain ⟨g, o, hq, hc⟩ := words_at18 (k := 0) O1.out HM.out hx; subst hq; rw [Nat.add_zero] at hc; clear o1 b1)
      | (go_at_call 46; ((with_reducible refine (HLF.out w1 B1.out S1.out).mono ?_); rintro e w2 ⟨rfl, s2, b2⟩); have S2 := Lib.hid s2; have B2 := Lib.hid b2; clear s2 b2))
    (try simp only [Exit.inBlock, Exit.then])
    first | refine bodyPost_ret (results_none rfl _ _ _) rfl ?_ | refine bodyPost_end (results_none rfl _ _ _) rfl ?_
    exact ⟨rfl, S2.out, B1.out.trans B2.out⟩
  · have m2 : ((m : Int) == 1) = false := beq_eq_false_iff_ne.2 (by omega)
    clear hm hm0 W1 h2
    go_enter Tryd.func31, Tryd.ntmps31
    go_wp2_with (first
      | (go_at_call 14; ((with_reducible refine (HV.out).mono ?_); rintro e w1 ⟨q1, d1, rfl, o1, b1⟩); have S1 := Lib.hid (HS.out.on b1); have B1 := Lib.hid (b1.mono HB.out); clear o1 b1)
      | (go_at_call 46; ((with_reducible refine (HLF.out w1 B1.out S1.out).mono ?_); rintro e w2 ⟨rfl, s2, b2⟩); have S2 := Lib.hid s2; have B2 := Lib.hid b2; clear s2 b2))
    (try simp only [Exit.inBlock, Exit.then])
    first | refine bodyPost_ret (results_none rfl _ _ _) rfl ?_ | refine bodyPost_end (results_none rfl _ _ _) rfl ?_
    exact ⟨rfl, S2.out, B1.out.trans B2.out⟩
theorem St.flag9 {B b : Nat} {w : World} {p : Pls} {P : Pol} {a : As} {v : Value} {N : List Nte} (h : St B b w p P a v N) (x : Bool) : St B b (w.setCell ⟨b, 9, none⟩ (.bool x)) p { P with b1 := x } a v N := h.set 9 (.bool x) (by decide) rfl ⟨h.own.al, h.own.fl, h.own.ll, h.own.ml, h.own.ar, h.own.fi, h.own.lo, h.own.fa⟩ h.nts
set_option maxRecDepth 100000 in
set_option maxHeartbeats 16000000 in
theorem truth9_c18 (B b : Nat) (w : World) (p : Pls) (P : Pol) (a : As) (hG : ∀ X, Below B w X → G18 X) (h : St B b w p P a (.slice none 0 0) []) (hv : a.val.size ≤ 1000) :
    Calls Tryd.prog 48 #[.pointer (some ⟨b, 0, none⟩), .pointer (some ⟨b, 9, none⟩)] w fun e w' => e = .returned (.tuple #[]) ∧ (∃ p' v', St B b w' p' { P with b1 := (flgF P.b1 a.val).1 } a v' ((flgF P.b1 a.val).2.map (nteP a))) ∧ Below B w w' := by
  have HV := Lib.hid (bool15 a.val w (hG w (Below.refl _ _)).boo)
  have c17 := h.cell 17 (.string a.val) rfl
  have x9 := h.cell 9 _ rfl
  have f9 := h.frz 9
  have HS := Lib.hid h
  have HB := Lib.hid h.le
  by_cases h0 : a.val = ⟨#[]⟩
  · have hF : flgF P.b1 a.val = (false, []) := by unfold flgF; rw [if_pos h0]
    rw [hF]
    have t1 : (a.val.toList == []) = true := eq_str h0
    have t2 : a.val.toList.isEmpty = true := by rw [show a.val = bs [] from h0, bs_toList]; rfl
    clear hG h hv h0 hF HV
    go_enter Tryd.func48, Tryd.ntmps48
    go_wp2_with fail
    (try simp only [Exit.inBlock, Exit.then])
    first | refine bodyPost_ret (results_none rfl _ _ _) rfl ?_ | refine bodyPost_end (results_none rfl _ _ _) rfl ?_
    exact ⟨rfl, ⟨p, _, HS.out.flag9 false⟩, HS.out.low 9 _⟩
  · have t1 : (a.val.toList == []) = false := ne_str (l := []) h0
    have t2 : a.val.toList.isEmpty = false := by
      cases e : a.val.toList with
      | nil => exact absurd (show a.val = bs [] from list_of_bytes10 (e.trans (bs_toList []).symm)) h0
      | cons _ _ => rfl
    cases hb : boolR a.val with
    | some x =>
      have hF : flgF P.b1 a.val = (x, []) := by unfold flgF; rw [if_neg h0, hb]
      rw [hF]
      unfold boolE at HV
      rw [hb] at HV
      simp only [Option.getD_some, Option.isSome_some, if_true] at HV
      clear hG h hv h0 hF hb
      go_enter Tryd.func48, Tryd.ntmps48
      go_wp2_with (go_at_call 15; ((with_reducible refine (HV.out).mono ?_); rintro e w1 ⟨rfl, b1⟩); have S1 := Lib.hid (HS.out.on b1); have B1 := Lib.hid (b1.mono HB.out); have y9 := S1.out.cell 9 _ rfl; have g9 := S1.out.frz 9; clear b1)
      (try simp only [Exit.inBlock, Exit.then])
      first | refine bodyPost_ret (results_none rfl _ _ _) rfl ?_ | refine bodyPost_end (results_none rfl _ _ _) rfl ?_
      exact ⟨rfl, ⟨p, _, S1.out.flag9 x⟩, B1.out.trans (S1.out.low 9 _)⟩
    | none =>
      have hF : flgF P.b1 a.val = (P.b1, [(150, t60 a.val.data.toList)]) := by unfold flgF; rw [if_neg h0, hb]
      rw [hF]
      unfold boolE at HV
      rw [hb] at HV
      simp only [Option.getD_none, Option.isSome_none, Bool.false_eq_true, if_false] at HV
      have HNO := Lib.hid (fun (X : World) (s : St B b X p P a (.slice none 0 0) []) => note_c18 B b X p P a (.slice none 0 0) [] 150 a.val s (by show 0 ≤ 100000; decide))
      have HX := Lib.hid (show (⟨a.file, a.line, 150, bs (a.val.data.toList.take 60)⟩ : Nte) = nteP a (150, t60 a.val.data.toList) from rfl)
      clear hG h hv h0 hF hb
      go_enter Tryd.func48, Tryd.ntmps48
      go_wp2_with (first
        | (go_at_call 15; ((with_reducible refine (HV.out).mono ?_); rintro e w1 ⟨rfl, b1⟩); have S1 := Lib.hid (HS.out.on b1); have B1 := Lib.hid (b1.mono HB.out); have y17 := S1.out.cell 17 (.string a.val) rfl; clear b1)
        | (go_at_call 44; ((with_reducible refine (HNO.out w1 S1.out).mono ?_); rintro e w2 ⟨rfl, ⟨v2, s2⟩, b2, _⟩); have S2 := Lib.hid s2; have B2 := Lib.hid b2; clear s2 b2))
      (try simp only [Exit.inBlock, Exit.then])
      first | refine bodyPost_ret (results_none rfl _ _ _) rfl ?_ | refine bodyPost_end (results_none rfl _ _ _) rfl ?_
      exact ⟨rfl, ⟨p, v2, S2.out.cast rfl (by rw [HX.out]; rfl)⟩, B1.out.trans B2.out⟩
set_option maxRecDepth 100000 in
set_option maxHeartbeats 16000000 in
theorem writeExecute_c18 (B b : Nat) (w : World) (p : Pls) (P : Pol) (a : As) (hG : ∀ X, Below B w X → G18 X) (h : St B b w p P a (.slice none 0 0) []) (hv : a.val.size ≤ 1000) :
    Calls Tryd.prog 33 #[.pointer (some ⟨b, 0, none⟩)] w fun e w' => e = .returned (.tuple #[]) ∧ (∃ p' v', St B b w' p' { P with b1 := (flgF P.b1 a.val).1 } a v' ((flgF P.b1 a.val).2.map (nteP a))) ∧ Below B w w' := by
  have HT := Lib.hid (truth9_c18 B b w p P a hG h hv)
  clear hG h hv
  go_enter Tryd.func33, Tryd.ntmps33
  go_wp2_with (go_at_call 48; ((with_reducible refine (HT.out).mono ?_); rintro e w1 ⟨rfl, s1, b1⟩))
  (try simp only [Exit.inBlock, Exit.then])
  first | refine bodyPost_ret (results_none rfl _ _ _) rfl ?_ | refine bodyPost_end (results_none rfl _ _ _) rfl ?_
  exact ⟨rfl, s1, b1⟩
theorem St.flag10 {B b : Nat} {w : World} {p : Pls} {P : Pol} {a : As} {v : Value} {N : List Nte} (h : St B b w p P a v N) (x : Bool) : St B b (w.setCell ⟨b, 10, none⟩ (.bool x)) p { P with b2 := x } a v N := h.set 10 (.bool x) (by decide) rfl ⟨h.own.al, h.own.fl, h.own.ll, h.own.ml, h.own.ar, h.own.fi, h.own.lo, h.own.fa⟩ h.nts
set_option maxRecDepth 100000 in
set_option maxHeartbeats 16000000 in
theorem truth10_c18 (B b : Nat) (w : World) (p : Pls) (P : Pol) (a : As) (hG : ∀ X, Below B w X → G18 X) (h : St B b w p P a (.slice none 0 0) []) (hv : a.val.size ≤ 1000) :
    Calls Tryd.prog 48 #[.pointer (some ⟨b, 0, none⟩), .pointer (some ⟨b, 10, none⟩)] w fun e w' => e = .returned (.tuple #[]) ∧ (∃ p' v', St B b w' p' { P with b2 := (flgF P.b2 a.val).1 } a v' ((flgF P.b2 a.val).2.map (nteP a))) ∧ Below B w w' := by
  have HV := Lib.hid (bool15 a.val w (hG w (Below.refl _ _)).boo)
  have c17 := h.cell 17 (.string a.val) rfl
  have x9 := h.cell 10 _ rfl
  have f9 := h.frz 10
  have HS := Lib.hid h
  have HB := Lib.hid h.le
  by_cases h0 : a.val = ⟨#[]⟩
  · have hF : flgF P.b2 a.val = (false, []) := by unfold flgF; rw [if_pos h0]
    rw [hF]
    have t1 : (a.val.toList == []) = true := eq_str h0
    have t2 : a.val.toList.isEmpty = true := by rw [show a.val = bs [] from h0, bs_toList]; rfl
    clear hG h hv h0 hF HV
    go_enter Tryd.func48, Tryd.ntmps48
    go_wp2_with fail
    (try simp only [Exit.inBlock, Exit.then])
    first | refine bodyPost_ret (results_none rfl _ _ _) rfl ?_ | refine bodyPost_end (results_none rfl _ _ _) rfl ?_
    exact ⟨rfl, ⟨p, _, HS.out.flag10 false⟩, HS.out.low 10 _⟩
  · have t1 : (a.val.toList == []) = false := ne_str (l := []) h0
    have t2 : a.val.toList.isEmpty = false := by
      cases e : a.val.toList with
      | nil => exact absurd (show a.val = bs [] from list_of_bytes10 (e.trans (bs_toList []).symm)) h0
      | cons _ _ => rfl
    cases hb : boolR a.val with
    | some x =>
      have hF : flgF P.b2 a.val = (x, []) := by unfold flgF; rw [if_neg h0, hb]
      rw [hF]
      unfold boolE at HV
      rw [hb] at HV
      simp only [Option.getD_some, Option.isSome_some, if_true] at HV
      clear hG h hv h0 hF hb
      go_enter Tryd.func48, Tryd.ntmps48
      go_wp2_with (go_at_call 15; ((with_reducible refine (HV.out).mono ?_); rintro e w1 ⟨rfl, b1⟩); have S1 := Lib.hid (HS.out.on b1); have B1 := Lib.hid (b1.mono HB.out); have y9 := S1.out.cell 10 _ rfl; have g9 := S1.out.frz 10; clear b1)
      (try simp only [Exit.inBlock, Exit.then])
      first | refine bodyPost_ret (results_none rfl _ _ _) rfl ?_ | refine bodyPost_end (results_none rfl _ _ _) rfl ?_
      exact ⟨rfl, ⟨p, _, S1.out.flag10 x⟩, B1.out.trans (S1.out.low 10 _)⟩
    | none =>
      have hF : flgF P.b2 a.val = (P.b2, [(150, t60 a.val.data.toList)]) := by unfold flgF; rw [if_neg h0, hb]
      rw [hF]
      unfold boolE at HV
      rw [hb] at HV
      simp only [Option.getD_none, Option.isSome_none, Bool.false_eq_true, if_false] at HV
      have HNO := Lib.hid (fun (X : World) (s : St B b X p P a (.slice none 0 0) []) => note_c18 B b X p P a (.slice none 0 0) [] 150 a.val s (by show 0 ≤ 100000; decide))
      have HX := Lib.hid (show (⟨a.file, a.line, 150, bs (a.val.data.toList.take 60)⟩ : Nte) = nteP a (150, t60 a.val.data.toList) from rfl)
      clear hG h hv h0 hF hb
      go_enter Tryd.func48, Tryd.ntmps48
      go_wp2_with (first
        | (go_at_call 15; ((with_reducible refine (HV.out).mono ?_); rintro e w1 ⟨rfl, b1⟩); have S1 := Lib.hid (HS.out.on b1); have B1 := Lib.hid (b1.mono HB.out); have y17 := S1.out.cell 17 (.string a.val) rfl; clear b1)
        | (go_at_call 44; ((with_reducible refine (HNO.out w1 S1.out).mono ?_); rintro e w2 ⟨rfl, ⟨v2, s2⟩, b2, _⟩); have S2 := Lib.hid s2; have B2 := Lib.hid b2; clear s2 b2))
      (try simp only [Exit.inBlock, Exit.then])
      first | refine bodyPost_ret (results_none rfl _ _ _) rfl ?_ | refine bodyPost_end (results_none rfl _ _ _) rfl ?_
      exact ⟨rfl, ⟨p, v2, S2.out.cast rfl (by rw [HX.out]; rfl)⟩, B1.out.trans B2.out⟩
set_option maxRecDepth 100000 in
set_option maxHeartbeats 16000000 in
theorem personality_c18 (B b : Nat) (w : World) (p : Pls) (P : Pol) (a : As) (hG : ∀ X, Below B w X → G18 X) (h : St B b w p P a (.slice none 0 0) []) (hv : a.val.size ≤ 1000) :
    Calls Tryd.prog 34 #[.pointer (some ⟨b, 0, none⟩)] w fun e w' => e = .returned (.tuple #[]) ∧ (∃ p' v', St B b w' p' { P with b2 := (flgF P.b2 a.val).1 } a v' ((flgF P.b2 a.val).2.map (nteP a))) ∧ Below B w w' := by
  have HT := Lib.hid (truth10_c18 B b w p P a hG h hv)
  clear hG h hv
  go_enter Tryd.func34, Tryd.ntmps34
  go_wp2_with (go_at_call 48; ((with_reducible refine (HT.out).mono ?_); rintro e w1 ⟨rfl, s1, b1⟩))
  (try simp only [Exit.inBlock, Exit.then])
  first | refine bodyPost_ret (results_none rfl _ _ _) rfl ?_ | refine bodyPost_end (results_none rfl _ _ _) rfl ?_
  exact ⟨rfl, s1, b1⟩
theorem St.flag11 {B b : Nat} {w : World} {p : Pls} {P : Pol} {a : As} {v : Value} {N : List Nte} (h : St B b w p P a v N) (x : Bool) : St B b (w.setCell ⟨b, 11, none⟩ (.bool x)) p { P with b3 := x } a v N := h.set 11 (.bool x) (by decide) rfl ⟨h.own.al, h.own.fl, h.own.ll, h.own.ml, h.own.ar, h.own.fi, h.own.lo, h.own.fa⟩ h.nts
set_option maxRecDepth 100000 in
set_option maxHeartbeats 16000000 in
theorem truth11_c18 (B b : Nat) (w : World) (p : Pls) (P : Pol) (a : As) (hG : ∀ X, Below B w X → G18 X) (h : St B b w p P a (.slice none 0 0) []) (hv : a.val.size ≤ 1000) :
    Calls Tryd.prog 48 #[.pointer (some ⟨b, 0, none⟩), .pointer (some ⟨b, 11, none⟩)] w fun e w' => e = .returned (.tuple #[]) ∧ (∃ p' v', St B b w' p' { P with b3 := (flgF P.b3 a.val).1 } a v' ((flgF P.b3 a.val).2.map (nteP a))) ∧ Below B w w' := by
  have HV := Lib.hid (bool15 a.val w (hG w (Below.refl _ _)).boo)
  have c17 := h.cell 17 (.string a.val) rfl
  have x9 := h.cell 11 _ rfl
  have f9 := h.frz 11
  have HS := Lib.hid h
  have HB := Lib.hid h.le
  by_cases h0 : a.val = ⟨#[]⟩
  · have hF : flgF P.b3 a.val = (false, []) := by unfold flgF; rw [if_pos h0]
    rw [hF]
    have t1 : (a.val.toList == []) = true := eq_str h0
    have t2 : a.val.toList.isEmpty = true := by rw [show a.val = bs [] from h0, bs_toList]; rfl
    clear hG h hv h0 hF HV
    go_enter Tryd.func48, Tryd.ntmps48
    go_wp2_with fail
    (try simp only [Exit.inBlock, Exit.then])
    first | refine bodyPost_ret (results_none rfl _ _ _) rfl ?_ | refine bodyPost_end (results_none rfl _ _ _) rfl ?_
    exact ⟨rfl, ⟨p, _, HS.out.flag11 false⟩, HS.out.low 11 _⟩
  · have t1 : (a.val.toList == []) = false := ne_str (l := []) h0
    have t2 : a.val.toList.isEmpty = false := by
      cases e : a.val.toList with
      | nil => exact absurd (show a.val = bs [] from list_of_bytes10 (e.trans (bs_toList []).symm)) h0
      | cons _ _ => rfl
    cases hb : boolR a.val with
    | some x =>
      have hF : flgF P.b3 a.val = (x, []) := by unfold flgF; rw [if_neg h0, hb]
      rw [hF]
      unfold boolE at HV
      rw [hb] at HV
      simp only [Option.getD_some, Option.isSome_some, if_true] at HV
      clear hG h hv h0 hF hb
      go_enter Tryd.func48, Tryd.ntmps48
      go_wp2_with (go_at_call 15; ((with_reducible refine (HV.out).mono ?_); rintro e w1 ⟨rfl, b1⟩); have S1 := Lib.hid (HS.out.on b1); have B1 := Lib.hid (b1.mono HB.out); have y9 := S1.out.cell 11 _ rfl; have g9 := S1.out.frz 11; clear b1)
      (try simp only [Exit.inBlock, Exit.then])
      first | refine bodyPost_ret (results_none rfl _ _ _) rfl ?_ | refine bodyPost_end (results_none rfl _ _ _) rfl ?_
      exact ⟨rfl, ⟨p, _, S1.out.flag11 x⟩, B1.out.trans (S1.out.low 11 _)⟩
    | none =>
      have hF : flgF P.b3 a.val = (P.b3, [(150, t60 a.val.data.toList)]) := by unfold flgF; rw [if_neg h0, hb]
      rw [hF]
      unfold boolE at HV
      rw [hb] at HV
      simp only [Option.getD_none, Option.isSome_none, Bool.false_eq_true, if_false] at HV
      have HNO := Lib.hid (fun (X : World) (s : St B b X p P a (.slice none 0 0) []) => note_c18 B b X p P a (.slice none 0 0) [] 150 a.val s (by show 0 ≤ 100000; decide))
      have HX := Lib.hid (show (⟨a.file, a.line, 150, bs (a.val.data.toList.take 60)⟩ : Nte) = nteP a (150, t60 a.val.data.toList) from rfl)
      clear hG h hv h0 hF hb
      go_enter Tryd.func48, Tryd.ntmps48
      go_wp2_with (first
        | (go_at_call 15; ((with_reducible refine (HV.out).mono ?_); rintro e w1 ⟨rfl, b1⟩); have S1 := Lib.hid (HS.out.on b1); have B1 := Lib.hid (b1.mono HB.out); have y17 := S1.out.cell 17 (.string a.val) rfl; clear b1)
        | (go_at_call 44; ((with_reducible refine (HNO.out w1 S1.out).mono ?_); rintro e w2 ⟨rfl, ⟨v2, s2⟩, b2, _⟩); have S2 := Lib.hid s2; have B2 := Lib.hid b2; clear s2 b2))
      (try simp only [Exit.inBlock, Exit.then])
      first | refine bodyPost_ret (results_none rfl _ _ _) rfl ?_ | refine bodyPost_end (results_none rfl _ _ _) rfl ?_
      exact ⟨rfl, ⟨p, v2, S2.out.cast rfl (by rw [HX.out]; rfl)⟩, B1.out.trans B2.out⟩
set_option maxRecDepth 100000 in
set_option maxHeartbeats 16000000 in
theorem realtime_c18 (B b : Nat) (w : World) (p : Pls) (P : Pol) (a : As) (hG : ∀ X, Below B w X → G18 X) (h : St B b w p P a (.slice none 0 0) []) (hv : a.val.size ≤ 1000) :
    Calls Tryd.prog 35 #[.pointer (some ⟨b, 0, none⟩)] w fun e w' => e = .returned (.tuple #[]) ∧ (∃ p' v', St B b w' p' { P with b3 := (flgF P.b3 a.val).1 } a v' ((flgF P.b3 a.val).2.map (nteP a))) ∧ Below B w w' := by
  have HT := Lib.hid (truth11_c18 B b w p P a hG h hv)
  clear hG h hv
  go_enter Tryd.func35, Tryd.ntmps35
  go_wp2_with (go_at_call 48; ((with_reducible refine (HT.out).mono ?_); rintro e w1 ⟨rfl, s1, b1⟩))
  (try simp only [Exit.inBlock, Exit.then])
  first | refine bodyPost_ret (results_none rfl _ _ _) rfl ?_ | refine bodyPost_end (results_none rfl _ _ _) rfl ?_
  exact ⟨rfl, s1, b1⟩
theorem St.flag12 {B b : Nat} {w : World} {p : Pls} {P : Pol} {a : As} {v : Value} {N : List Nte} (h : St B b w p P a v N) (x : Bool) : St B b (w.setCell ⟨b, 12, none⟩ (.bool x)) p { P with b4 := x } a v N := h.set 12 (.bool x) (by decide) rfl ⟨h.own.al, h.own.fl, h.own.ll, h.own.ml, h.own.ar, h.own.fi, h.own.lo, h.own.fa⟩ h.nts
set_option maxRecDepth 100000 in
set_option maxHeartbeats 16000000 in
theorem truth12_c18 (B b : Nat) (w : World) (p : Pls) (P : Pol) (a : As) (hG : ∀ X, Below B w X → G18 X) (h : St B b w p P a (.slice none 0 0) []) (hv : a.val.size ≤ 1000) :
    Calls Tryd.prog 48 #[.pointer (some ⟨b, 0, none⟩), .pointer (some ⟨b, 12, none⟩)] w fun e w' => e = .returned (.tuple #[]) ∧ (∃ p' v', St B b w' p' { P with b4 := (flgF P.b4 a.val).1 } a v' ((flgF P.b4 a.val).2.map (nteP a))) ∧ Below B w w' := by
  have HV := Lib.hid (bool15 a.val w (hG w (Below.refl _ _)).boo)
  have c17 := h.cell 17 (.string a.val) rfl
  have x9 := h.cell 12 _ rfl
  have f9 := h.frz 12
  have HS := Lib.hid h
  have HB := Lib.hid h.le
  by_cases h0 : a.val = ⟨#[]⟩
  · have hF : flgF P.b4 a.val = (false, []) := by unfold flgF; rw [if_pos h0]
    rw [hF]
    have t1 : (a.val.toList == []) = true := eq_str h0
    have t2 : a.val.toList.isEmpty = true := by rw [show a.val = bs [] from h0, bs_toList]; rfl
    clear hG h hv h0 hF HV
    go_enter Tryd.func48, Tryd.ntmps48
    go_wp2_with fail
    (try simp only [Exit.inBlock, Exit.then])
    first | refine bodyPost_ret (results_none rfl _ _ _) rfl ?_ | refine bodyPost_end (results_none rfl _ _ _) rfl ?_
    exact ⟨rfl, ⟨p, _, HS.out.flag12 false⟩, HS.out.low 12 _⟩
  · have t1 : (a.val.toList == []) = false := ne_str (l := []) h0
    have t2 : a.val.toList.isEmpty = false := by
      cases e : a.val.toList with
      | nil => exact absurd (show a.val = bs [] from list_of_bytes10 (e.trans (bs_toList []).symm)) h0
      | cons _ _ => rfl
    cases hb : boolR a.val with
    | some x =>
      have hF : flgF P.b4 a.val = (x, []) := by unfold flgF; rw [if_neg h0, hb]
      rw [hF]
      unfold boolE at HV
      rw [hb] at HV
      simp only [Option.getD_some, Option.isSome_some, if_true] at HV
      clear hG h hv h0 hF hb
      go_enter Tryd.func48, Tryd.ntmps48
      go_wp2_with (go_at_call 15; ((with_reducible refine (HV.out).mono ?_); rintro e w1 ⟨rfl, b1⟩); have S1 := Lib.hid (HS.out.on b1); have B1 := Lib.hid (b1.mono HB.out); have y9 := S1.out.cell 12 _ rfl; have g9 := S1.out.frz 12; clear b1)
      (try simp only [Exit.inBlock, Exit.then])
      first | refine bodyPost_ret (results_none rfl _ _ _) rfl ?_ | refine bodyPost_end (results_none rfl _ _ _) rfl ?_
      exact ⟨rfl, ⟨p, _, S1.out.flag12 x⟩, B1.out.trans (S1.out.low 12 _)⟩
    | none =>
      have hF : flgF P.b4 a.val = (P.b4, [(150, t60 a.val.data.toList)]) := by unfold flgF; rw [if_neg h0, hb]
      rw [hF]
      unfold boolE at HV
      rw [hb] at HV
      simp only [Option.getD_none, Option.isSome_none, Bool.false_eq_true, if_false] at HV
      have HNO := Lib.hid (fun (X : World) (s : St B b X p P a (.slice none 0 0) []) => note_c18 B b X p P a (.slice none 0 0) [] 150 a.val s (by show 0 ≤ 100000; decide))
      have HX := Lib.hid (show (⟨a.file, a.line, 150, bs (a.val.data.toList.take 60)⟩ : Nte) = nteP a (150, t60 a.val.data.toList) from rfl)
      clear hG h hv h0 hF hb
      go_enter Tryd.func48, Tryd.ntmps48
      go_wp2_with (first
        | (go_at_call 15; ((with_reducible refine (HV.out).mono ?_); rintro e w1 ⟨rfl, b1⟩); have S1 := Lib.hid (HS.out.on b1); have B1 := Lib.hid (b1.mono HB.out); have y17 := S1.out.cell 17 (.string a.val) rfl; clear b1)
        | (go_at_call 44; ((with_reducible refine (HNO.out w1 S1.out).mono ?_); rintro e w2 ⟨rfl, ⟨v2, s2⟩, b2, _⟩); have S2 := Lib.hid s2; have B2 := Lib.hid b2; clear s2 b2))
      (try simp only [Exit.inBlock, Exit.then])
      first | refine bodyPost_ret (results_none rfl _ _ _) rfl ?_ | refine bodyPost_end (results_none rfl _ _ _) rfl ?_
      exact ⟨rfl, ⟨p, v2, S2.out.cast rfl (by rw [HX.out]; rfl)⟩, B1.out.trans B2.out⟩
set_option maxRecDepth 100000 in
set_option maxHeartbeats 16000000 in
theorem noPrivileges_c18 (B b : Nat) (w : World) (p : Pls) (P : Pol) (a : As) (hG : ∀ X, Below B w X → G18 X) (h : St B b w p P a (.slice none 0 0) []) (hv : a.val.size ≤ 1000) :
    Calls Tryd.prog 36 #[.pointer (some ⟨b, 0, none⟩)] w fun e w' => e = .returned (.tuple #[]) ∧ (∃ p' v', St B b w' p' { P with b4 := (flgF P.b4 a.val).1 } a v' ((flgF P.b4 a.val).2.map (nteP a))) ∧ Below B w w' := by
  have HT := Lib.hid (truth12_c18 B b w p P a hG h hv)
  clear hG h hv
  go_enter Tryd.func36, Tryd.ntmps36
  go_wp2_with (go_at_call 48; ((with_reducible refine (HT.out).mono ?_); rintro e w1 ⟨rfl, s1, b1⟩))
  (try simp only [Exit.inBlock, Exit.then])
  first | refine bodyPost_ret (results_none rfl _ _ _) rfl ?_ | refine bodyPost_end (results_none rfl _ _ _) rfl ?_
  exact ⟨rfl, s1, b1⟩
end Go.Proofs.YtbjhleajhkofeaaDoor
namespace Go.Proofs.YtbjhleajhkofeaaDoor
open Go.RowKit Go.Shelf
set_option linter.unusedVariables false
set_option linter.unusedSimpArgs false
attribute [local go_sem ↓] Go.wp_at_zero Go.wp_at_succ

theorem orL_app18 : ∀ (l : List (List UInt8)) (x : List UInt8), orL (l ++ [x]) = orL l ||| spcN x
  | [], x => by show spcN x ||| 0 = 0 ||| spcN x; rw [Nat.or_zero, Nat.zero_or]
  | a :: r, x => by
    show spcN a ||| orL (r ++ [x]) = (spcN a ||| orL r) ||| spcN x
    rw [orL_app18 r x, Nat.or_assoc]
theorem orL_step18 {l : List (List UInt8)} {k : Nat} {x : List UInt8} (h : l[k]? = some x) : orL (l.take (k + 1)) = orL (l.take k) ||| spcN x := by
  rw [List.take_add_one, h]
  exact orL_app18 _ _
theorem bad_step18 {l : List (List UInt8)} {k : Nat} {x : List UInt8} (h : l[k]? = some x) : (l.take (k + 1)).filter spcB = (l.take k).filter spcB ++ (if spcB x = true then [x] else []) := by
  rw [List.take_add_one, h]
  show (l.take k ++ [x]).filter spcB = _
  rw [List.filter_append]
  congr 1
  cases e : spcB x <;> simp [e]
theorem sub_not18 {x y : Nat} (hx : x < 2 ^ 64) (h : y &&& x = y) : x &&& (18446744073709551615 - y) = x - y := by
  have hy : y ≤ x := by rw [← h]; exact Nat.and_le_right
  obtain ⟨h1, h2⟩ := sub_bits18 x x y (Nat.le_refl _) h
  apply Nat.eq_of_testBit_eq
  intro i
  have e1 := congrArg (fun z => z.testBit i) h1
  have e2 := congrArg (fun z => z.testBit i) h2
  have e3 := congrArg (fun z => z.testBit i) h
  simp only [Nat.testBit_or, Nat.testBit_and, Nat.zero_testBit] at e1 e2 e3
  have e4 : (18446744073709551615 - y).testBit i = (decide (i < 64) && !y.testBit i) := by
    have := Nat.testBit_two_pow_sub_succ (x := y) (n := 64) (by omega) i
    rw [← this]
    congr 1
    omega
  rw [Nat.testBit_and, e4]
  by_cases hi : i < 64
  · rw [decide_eq_true hi]
    generalize (x - y).testBit i = d at *
    generalize x.testBit i = u at *
    generalize y.testBit i = v at *
    cases d <;> cases u <;> cases v <;> simp_all
  · have hx0 : x.testBit i = false := Nat.testBit_lt_two_pow (Nat.lt_of_lt_of_le hx (Nat.pow_le_pow_right (by decide) (by omega)))
    rw [hx0] at e1 ⊢
    cases hd : (x - y).testBit i
    · rfl
    · rw [hd] at e1; simp at e1
theorem St.spc18 {B b : Nat} {w : World} {p : Pls} {P : Pol} {a : As} {v : Value} {N : List Nte} (h : St B b w p P a v N) (x : Nat) : St B b (w.setCell ⟨b, 8, none⟩ (.int .u64 (x : Nat))) p { P with sp := x } a v N := h.set 8 (.int .u64 (x : Nat)) (by decide) rfl ⟨h.own.al, h.own.fl, h.own.ll, h.own.ml, h.own.ar, h.own.fi, h.own.lo, h.own.fa⟩ h.nts
/-- What a value that is no truth value makes of the namespaces. -/
def lsp18 (x : Nat) (v : ByteArray) : Nat × List (Int × ByteArray) :=
  if (wdL (turnR v).1.data.toList).any spcB = true then (x, ((wdL (turnR v).1.data.toList).filter spcB).map fun w => (181, t60 w))
  else (if (turnR v).2 = true then orL (wdL (turnR v).1.data.toList) else allN - orL (wdL (turnR v).1.data.toList), [])
theorem yes_words18 {v : ByteArray} (h : boolR v = some true) : wdL v.data.toList ≠ [] := by
  have hy : isIn yesT v = true := by
    unfold boolR at h
    cases e : isIn yesT v with
    | true => rfl
    | false =>
      rw [e, if_neg Bool.noConfusion] at h
      split at h
      · cases h
      · cases h
  obtain ⟨t, ht, h2⟩ := List.any_eq_true.1 hy
  have h3 : yesT.all (fun t => decide (wdL t.data.toList ≠ [])) = true := by decide +kernel
  rw [← of_decide_eq_true h2]
  exact of_decide_eq_true (List.all_eq_true.1 h3 t ht)
set_option maxRecDepth 100000 in
set_option maxHeartbeats 16000000 in
theorem listSpaces_c18 (B b : Nat) (w : World) (p : Pls) (P : Pol) (a : As) (hG : ∀ X, Below B w X → G18 X) (h : St B b w p P a (.slice none 0 0) []) (hv : a.val.size ≤ 1000) :
    Calls Tryd.prog 47 #[.pointer (some ⟨b, 0, none⟩)] w fun e w' => e = .returned (.tuple #[]) ∧ (∃ p' v', St B b w' p' { P with sp := (lsp18 P.sp a.val).1 } a v' ((lsp18 P.sp a.val).2.map (nteP a))) ∧ Below B w w' := by
  have HT := Lib.hid (turned15 a.val w)
  have HV := Lib.hid (fun (X : World) => words_c18 (turnR a.val).1 X (by have := turn_size a.val; omega))
  obtain ⟨F, hF⟩ : ∃ F, F = lsp18 P.sp a.val := ⟨_, rfl⟩
  rw [← hF]
  unfold lsp18 at hF
  obtain ⟨ws, hws⟩ : ∃ l, l = wdL (turnR a.val).1.data.toList := ⟨_, rfl⟩
  have hwl : ws.length ≤ 1000 := by rw [hws]; exact Nat.le_trans (wd_size _) (Nat.le_trans (turn_size _) hv)
  rw [← hws] at HV hF
  obtain ⟨m, hm⟩ : ∃ m, m = ws.length := ⟨_, rfl⟩
  rw [← hm] at HV
  have m3 : m ≤ 1000 := by omega
  obtain ⟨rest, hrest⟩ : ∃ r, r = (turnR a.val).1 := ⟨_, rfl⟩
  rw [← hrest] at HT HV
  have c17 := h.cell 17 (.string a.val) rfl
  have HS := Lib.hid h
  have HG := Lib.hid hG
  have HB := Lib.hid h.le
  have HM := Lib.hid hm
  obtain ⟨T, hTT⟩ : ∃ T, T = (turnR a.val).2 := ⟨_, rfl⟩
  rw [← hTT] at HT hF
  have HFY := Lib.hid (fun (e : ws.any spcB = true) => hF.trans (if_pos e))
  have HFN := Lib.hid (fun (e : ws.any spcB = false) => hF.trans (if_neg (by rw [e]; exact Bool.noConfusion)))
  clear hv hws hwl h hG hm hrest hTT hF
  cases hT : T with
  | true =>
    subst hT
    go_enter Tryd.func47, Tryd.ntmps47
    go_wp2_with (first
      | (go_at_call 16; ((with_reducible refine (HT.out).mono ?_); rintro e w1 ⟨rfl, b1⟩); have S1 := Lib.hid (HS.out.on b1); have B1 := Lib.hid (b1.mono HB.out); clear b1)
      | (go_at_call 14; ((with_reducible refine (HV.out _).mono ?_); rintro e w2 ⟨q1, d1, rfl, o1, b1⟩); have S2 := Lib.hid (S1.out.on b1); have B2 := Lib.hid (B1.out.trans (b1.mono S1.out.le)); have O2 := Lib.hid (owns_low16 o1 S1.out.le); clear o1 b1))
    go_loopw [4, 21] (fun v4 v21 wr => ∃ (k : Nat) (v' : Value), k ≤ m ∧ v4 = .int .u64 ((orL (ws.take k)) : Nat) ∧ v21 = .int .i64 k ∧ Hid (St B b wr p P a v' ((((ws.take k).filter spcB).map fun w => ((181 : Int), t60 w)).map (nteP a))) ∧ Hid (wr.ownsRow B 9 1 (.slice q1 m d1) m (sL ws)) ∧ Hid (Below B w wr)) (fun _ v21 _ => m - (intOf v21).toNat)
    case atStart => exact ⟨0, _, Nat.zero_le _, rfl, rfl, S2, O2, B2⟩
    case round =>
      obtain ⟨k, v', hk, rfl, rfl, SS, OO, BB⟩ := hrel
      obtain ⟨V, rfl⟩ : ∃ wo : World, wo = wr := ⟨_, rfl⟩
      by_cases hlt : k < m
      · obtain ⟨x, hx⟩ : ∃ x, ws[k]? = some x := ⟨ws[k]'(by rw [← HM.out]; exact hlt), List.getElem?_eq_getElem _⟩
        obtain ⟨g, o, hq, hc⟩ := words_at18 OO.out HM.out hx
        subst hq
        have k1 : (k : Int) < m := by omega
        have k0 : (0 : Int) ≤ k := by omega
        have HOR := Lib.hid (orL_step18 hx)
        have HBD := Lib.hid (bad_step18 hx)
        have HL2 := Lib.hid (show (((ws.take k).filter spcB).map fun w => ((181 : Int), t60 w)).length ≤ 2000 from Nat.le_trans (by rw [List.length_map]; exact List.length_filter_le _ _) (by rw [List.length_take]; omega))
        have HPA := Lib.hid (spaceN (bs x) V (HG.out V BB.out).nm)
        have OKB := Lib.hid SS.out.le
        obtain ⟨y, hy⟩ : ∃ y, y = (orL (ws.take k)) := ⟨_, rfl⟩
        have hylt : y < 18446744073709551616 := by rw [hy]; exact orL_lt _
        rw [← hy] at HOR ⊢
        have HYY := Lib.hid hy
        clear hx hy
        cases hf : findR spcT (bs x) with
        | some n =>
          have hn : spcN x = n := by unfold spcN; rw [hf]; rfl
          have hb0 : spcB x = false := by unfold spcB; rw [hf]; rfl
          have hor := HOR.out
          rw [hn] at hor
          have HO2 := Lib.hid hor
          have hbd := HBD.out
          rw [hb0, if_neg Bool.noConfusion, List.append_nil] at hbd
          have HB2 := Lib.hid hbd
          have hnlt : n < 18446744073709551616 := by rw [← hn]; exact spcN_lt x
          have hbits : bits .or .u64 (y : Int) (n : Int) = ((y ||| n : Nat) : Int) := u64_or_nat _ _ hylt hnlt
          rw [hf] at HPA
          simp only [Option.getD_some, Option.isSome_some, if_true] at HPA
          clear hf hn hb0 hor hbd HOR HBD
          go_wp2_with (go_at_call 60; ((with_reducible refine (HPA.out).mono ?_); rintro e w2 ⟨rfl, b2⟩); have S2 := Lib.hid (SS.out.on b2); have B2 := Lib.hid (BB.out.trans (b2.mono OKB.out)); have O2 := Lib.hid (owns_on16 OO.out b2); clear b2)
          go_roundw
          case rel => exact ⟨k + 1, v', by omega, by rw [HO2.out], by go_num, Lib.hid (by rw [HB2.out]; exact S2.out), O2, B2⟩
          case measure => first | (simp [intOf]; done) | (simp [intOf]; omega)
        | none =>
          have hn : spcN x = 0 := by unfold spcN; rw [hf]; rfl
          have hb0 : spcB x = true := by unfold spcB; rw [hf]; rfl
          have hor := HOR.out
          rw [hn, Nat.or_zero] at hor
          have HO2 := Lib.hid hor
          have hbd := HBD.out
          rw [hb0, if_pos rfl] at hbd
          have HB2 := Lib.hid hbd
          rw [hf] at HPA
          simp only [Option.getD_none, Option.isSome_none, Bool.false_eq_true, if_false] at HPA
          have HNO := Lib.hid (fun (X : World) (s : St B b X p P a v' ((((ws.take k).filter spcB).map fun w => ((181 : Int), t60 w)).map (nteP a))) => note_c18 B b X p P a v' ((((ws.take k).filter spcB).map fun w => ((181 : Int), t60 w)).map (nteP a)) 181 (bs x) s (by rw [List.length_map]; have := HL2.out; omega))
          clear hf hn hb0 hor hbd HOR HBD
          go_wp2_with (first
            | (go_at_call 60; ((with_reducible refine (HPA.out).mono ?_); rintro e w2 ⟨rfl, b2⟩); have S2 := Lib.hid (SS.out.on b2); have B2 := Lib.hid (BB.out.trans (b2.mono OKB.out)); have O2 := Lib.hid (owns_on16 OO.out b2); clear b2)
            | (go_at_call 44; ((with_reducible refine (HNO.out w2 S2.out).mono ?_); rintro e w3 ⟨rfl, ⟨v3, s3⟩, b3, k3⟩); have S3 := Lib.hid s3; have O3 := Lib.hid (k3.own (by decide) (by decide) O2.out); have B3 := Lib.hid (B2.out.trans b3); clear s3))
          go_roundw
          case rel => exact ⟨k + 1, v3, by omega, by rw [HO2.out], by go_num, Lib.hid (by rw [HB2.out]; exact S3.out.cast rfl (by rw [nte_t60, List.map_append, List.map_append]; rfl)), O3, B3⟩
          case measure => first | (simp [intOf]; done) | (simp [intOf]; omega)
      · obtain rfl : k = m := by omega
        have k1 : ¬ (k : Int) < (k : Nat) := by omega
        have hst := SS.out
        have htk : ws.take k = ws := List.take_of_length_le (by rw [← HM.out]; exact Nat.le_refl _)
        rw [htk] at hst
        try rw [htk]
        have HSF := Lib.hid hst
        clear hst htk
        by_cases hany : ws.any spcB = true
        · have HFF := Lib.hid (HFY.out hany)
          have hpos : 0 < ((ws.filter spcB).map fun w => ((181 : Int), t60 w)).length := by
            rw [List.length_map]
            obtain ⟨y, hy, hy2⟩ := List.any_eq_true.1 hany
            exact List.length_pos_of_mem (List.mem_filter.2 ⟨hy, hy2⟩)
          obtain ⟨qv, cv, hqv⟩ := own16 HSF.out.nts
          have c18 := HSF.out.cell 18 v' rfl
          rw [hqv] at c18
          obtain ⟨nN, hnN⟩ : ∃ n, n = (((ws.filter spcB).map fun w => ((181 : Int), t60 w)).map (nteP a)).length := ⟨_, rfl⟩
          have hpn : (0 : Int) < nN := by rw [hnN, List.length_map]; omega
          rw [← hnN] at c18
          clear hany hpos hqv hnN
          go_wp2_with fail
          (try simp only [Exit.inBlock, Exit.then])
          first | refine bodyPost_ret (results_none rfl _ _ _) rfl ?_ | refine bodyPost_end (results_none rfl _ _ _) rfl ?_
          exact ⟨rfl, ⟨p, v', HSF.out.cast (by rw [HFF.out]) (by rw [HFF.out])⟩, BB.out⟩
        · have HFF := Lib.hid (HFN.out (by simpa using hany))
          have hnil : ws.filter spcB = [] := by
            rw [List.filter_eq_nil_iff]
            intro y hy h2
            exact hany (List.any_eq_true.2 ⟨y, hy, h2⟩)
          have hsf := HSF.out
          rw [hnil] at hsf
          obtain ⟨qv, cv, hqv⟩ := own16 hsf.nts
          have hqv2 : v' = .slice qv 0 cv := hqv
          subst hqv2
          have c18 := hsf.cell 18 (.slice qv 0 cv) rfl
          have c8 := hsf.cell 8 _ rfl
          have f8 := hsf.frz 8
          have HSG := Lib.hid hsf
          clear hany hnil hsf hqv
          go_wp2_with fail
          (try simp only [Exit.inBlock, Exit.then])
          first | refine bodyPost_ret (results_none rfl _ _ _) rfl ?_ | refine bodyPost_end (results_none rfl _ _ _) rfl ?_
          exact ⟨rfl, ⟨p, _, (HSG.out.spc18 (orL ws)).cast (by rw [HFF.out]; rfl) (by rw [HFF.out]; rfl)⟩, BB.out.trans (HSG.out.low 8 _)⟩
  | false =>
    subst hT
    go_enter Tryd.func47, Tryd.ntmps47
    go_wp2_with (first
      | (go_at_call 16; ((with_reducible refine (HT.out).mono ?_); rintro e w1 ⟨rfl, b1⟩); have S1 := Lib.hid (HS.out.on b1); have B1 := Lib.hid (b1.mono HB.out); clear b1)
      | (go_at_call 14; ((with_reducible refine (HV.out _).mono ?_); rintro e w2 ⟨q1, d1, rfl, o1, b1⟩); have S2 := Lib.hid (S1.out.on b1); have B2 := Lib.hid (B1.out.trans (b1.mono S1.out.le)); have O2 := Lib.hid (owns_low16 o1 S1.out.le); clear o1 b1))
    go_loopw [4, 21] (fun v4 v21 wr => ∃ (k : Nat) (v' : Value), k ≤ m ∧ v4 = .int .u64 ((orL (ws.take k)) : Nat) ∧ v21 = .int .i64 k ∧ Hid (St B b wr p P a v' ((((ws.take k).filter spcB).map fun w => ((181 : Int), t60 w)).map (nteP a))) ∧ Hid (wr.ownsRow B 9 1 (.slice q1 m d1) m (sL ws)) ∧ Hid (Below B w wr)) (fun _ v21 _ => m - (intOf v21).toNat)
    case atStart => exact ⟨0, _, Nat.zero_le _, rfl, rfl, S2, O2, B2⟩
    case round =>
      obtain ⟨k, v', hk, rfl, rfl, SS, OO, BB⟩ := hrel
      obtain ⟨V, rfl⟩ : ∃ wo : World, wo = wr := ⟨_, rfl⟩
      by_cases hlt : k < m
      · obtain ⟨x, hx⟩ : ∃ x, ws[k]? = some x := ⟨ws[k]'(by rw [← HM.out]; exact hlt), List.getElem?_eq_getElem _⟩
        obtain ⟨g, o, hq, hc⟩ := words_at18 OO.out HM.out hx
        subst hq
        have k1 : (k : Int) < m := by omega
        have k0 : (0 : Int) ≤ k := by omega
        have HOR := Lib.hid (orL_step18 hx)
        have HBD := Lib.hid (bad_step18 hx)
        have HL2 := Lib.hid (show (((ws.take k).filter spcB).map fun w => ((181 : Int), t60 w)).length ≤ 2000 from Nat.le_trans (by rw [List.length_map]; exact List.length_filter_le _ _) (by rw [List.length_take]; omega))
        have HPA := Lib.hid (spaceN (bs x) V (HG.out V BB.out).nm)
        have OKB := Lib.hid SS.out.le
        obtain ⟨y, hy⟩ : ∃ y, y = (orL (ws.take k)) := ⟨_, rfl⟩
        have hylt : y < 18446744073709551616 := by rw [hy]; exact orL_lt _
        rw [← hy] at HOR ⊢
        have HYY := Lib.hid hy
        clear hx hy
        cases hf : findR spcT (bs x) with
        | some n =>
          have hn : spcN x = n := by unfold spcN; rw [hf]; rfl
          have hb0 : spcB x = false := by unfold spcB; rw [hf]; rfl
          have hor := HOR.out
          rw [hn] at hor
          have HO2 := Lib.hid hor
          have hbd := HBD.out
          rw [hb0, if_neg Bool.noConfusion, List.append_nil] at hbd
          have HB2 := Lib.hid hbd
          have hnlt : n < 18446744073709551616 := by rw [← hn]; exact spcN_lt x
          have hbits : bits .or .u64 (y : Int) (n : Int) = ((y ||| n : Nat) : Int) := u64_or_nat _ _ hylt hnlt
          rw [hf] at HPA
          simp only [Option.getD_some, Option.isSome_some, if_true] at HPA
          clear hf hn hb0 hor hbd HOR HBD
          go_wp2_with (go_at_call 60; ((with_reducible refine (HPA.out).mono ?_); rintro e w2 ⟨rfl, b2⟩); have S2 := Lib.hid (SS.out.on b2); have B2 := Lib.hid (BB.out.trans (b2.mono OKB.out)); have O2 := Lib.hid (owns_on16 OO.out b2); clear b2)
          go_roundw
          case rel => exact ⟨k + 1, v', by omega, by rw [HO2.out], by go_num, Lib.hid (by rw [HB2.out]; exact S2.out), O2, B2⟩
          case measure => first | (simp [intOf]; done) | (simp [intOf]; omega)
        | none =>
          have hn : spcN x = 0 := by unfold spcN; rw [hf]; rfl
          have hb0 : spcB x = true := by unfold spcB; rw [hf]; rfl
          have hor := HOR.out
          rw [hn, Nat.or_zero] at hor
          have HO2 := Lib.hid hor
          have hbd := HBD.out
          rw [hb0, if_pos rfl] at hbd
          have HB2 := Lib.hid hbd
          rw [hf] at HPA
          simp only [Option.getD_none, Option.isSome_none, Bool.false_eq_true, if_false] at HPA
          have HNO := Lib.hid (fun (X : World) (s : St B b X p P a v' ((((ws.take k).filter spcB).map fun w => ((181 : Int), t60 w)).map (nteP a))) => note_c18 B b X p P a v' ((((ws.take k).filter spcB).map fun w => ((181 : Int), t60 w)).map (nteP a)) 181 (bs x) s (by rw [List.length_map]; have := HL2.out; omega))
          clear hf hn hb0 hor hbd HOR HBD
          go_wp2_with (first
            | (go_at_call 60; ((with_reducible refine (HPA.out).mono ?_); rintro e w2 ⟨rfl, b2⟩); have S2 := Lib.hid (SS.out.on b2); have B2 := Lib.hid (BB.out.trans (b2.mono OKB.out)); have O2 := Lib.hid (owns_on16 OO.out b2); clear b2)
            | (go_at_call 44; ((with_reducible refine (HNO.out w2 S2.out).mono ?_); rintro e w3 ⟨rfl, ⟨v3, s3⟩, b3, k3⟩); have S3 := Lib.hid s3; have O3 := Lib.hid (k3.own (by decide) (by decide) O2.out); have B3 := Lib.hid (B2.out.trans b3); clear s3))
          go_roundw
          case rel => exact ⟨k + 1, v3, by omega, by rw [HO2.out], by go_num, Lib.hid (by rw [HB2.out]; exact S3.out.cast rfl (by rw [nte_t60, List.map_append, List.map_append]; rfl)), O3, B3⟩
          case measure => first | (simp [intOf]; done) | (simp [intOf]; omega)
      · obtain rfl : k = m := by omega
        have k1 : ¬ (k : Int) < (k : Nat) := by omega
        have hst := SS.out
        have htk : ws.take k = ws := List.take_of_length_le (by rw [← HM.out]; exact Nat.le_refl _)
        rw [htk] at hst
        try rw [htk]
        have HSF := Lib.hid hst
        clear hst htk
        by_cases hany : ws.any spcB = true
        · have HFF := Lib.hid (HFY.out hany)
          have hpos : 0 < ((ws.filter spcB).map fun w => ((181 : Int), t60 w)).length := by
            rw [List.length_map]
            obtain ⟨y, hy, hy2⟩ := List.any_eq_true.1 hany
            exact List.length_pos_of_mem (List.mem_filter.2 ⟨hy, hy2⟩)
          obtain ⟨qv, cv, hqv⟩ := own16 HSF.out.nts
          have c18 := HSF.out.cell 18 v' rfl
          rw [hqv] at c18
          obtain ⟨nN, hnN⟩ : ∃ n, n = (((ws.filter spcB).map fun w => ((181 : Int), t60 w)).map (nteP a)).length := ⟨_, rfl⟩
          have hpn : (0 : Int) < nN := by rw [hnN, List.length_map]; omega
          rw [← hnN] at c18
          clear hany hpos hqv hnN
          go_wp2_with fail
          (try simp only [Exit.inBlock, Exit.then])
          first | refine bodyPost_ret (results_none rfl _ _ _) rfl ?_ | refine bodyPost_end (results_none rfl _ _ _) rfl ?_
          exact ⟨rfl, ⟨p, v', HSF.out.cast (by rw [HFF.out]) (by rw [HFF.out])⟩, BB.out⟩
        · have HFF := Lib.hid (HFN.out (by simpa using hany))
          have hnil : ws.filter spcB = [] := by
            rw [List.filter_eq_nil_iff]
            intro y hy h2
            exact hany (List.any_eq_true.2 ⟨y, hy, h2⟩)
          have hsf := HSF.out
          rw [hnil] at hsf
          obtain ⟨qv, cv, hqv⟩ := own16 hsf.nts
          have hqv2 : v' = .slice qv 0 cv := hqv
          subst hqv2
          have c18 := hsf.cell 18 (.slice qv 0 cv) rfl
          have c8 := hsf.cell 8 _ rfl
          have f8 := hsf.frz 8
          have HSG := Lib.hid hsf
          clear hany hnil hsf hqv
          have HSN := Lib.hid (spacesN V (HG.out V BB.out).nm)
          have hbits : bits .andNot .u64 ((allN : Nat) : Int) ((orL ws : Nat) : Int) = ((allN - orL ws : Nat) : Int) := by
            rw [u64_andNot_nat _ _ (by decide) (orL_lt ws), sub_not18 (by decide) (orL_sub ws)]
          go_wp2_with (go_at_call 18; ((with_reducible refine (HSN.out).mono ?_); rintro e w9 ⟨rfl, b9⟩); have S9 := Lib.hid (HSG.out.on b9); have B9 := Lib.hid (BB.out.trans (b9.mono HSG.out.le)); have y8 := S9.out.cell 8 _ rfl; have g8 := S9.out.frz 8; clear b9)
          (try simp only [Exit.inBlock, Exit.then])
          first | refine bodyPost_ret (results_none rfl _ _ _) rfl ?_ | refine bodyPost_end (results_none rfl _ _ _) rfl ?_
          exact ⟨rfl, ⟨p, _, (S9.out.spc18 (allN - orL ws)).cast (by rw [HFF.out, if_neg Bool.noConfusion]) (by rw [HFF.out]; rfl)⟩, B9.out.trans (S9.out.low 8 _)⟩
set_option maxRecDepth 100000 in
set_option maxHeartbeats 16000000 in
theorem spaces_c18 (B b : Nat) (w : World) (p : Pls) (P : Pol) (a : As) (hG : ∀ X, Below B w X → G18 X) (h : St B b w p P a (.slice none 0 0) []) (hv : a.val.size ≤ 1000) :
    Calls Tryd.prog 32 #[.pointer (some ⟨b, 0, none⟩)] w fun e w' => e = .returned (.tuple #[]) ∧ (∃ p' v', St B b w' p' { P with sp := (spaF P.sp a.val).1 } a v' ((spaF P.sp a.val).2.map (nteP a))) ∧ Below B w w' := by
  have HV := Lib.hid (bool15 a.val w (hG w (Below.refl _ _)).boo)
  have HW := Lib.hid (fun (X : World) => words_c18 a.val X (by omega))
  have HLS := Lib.hid (fun (X : World) (k : Below B w X) (s : St B b X p P a (.slice none 0 0) []) => listSpaces_c18 B b X p P a (fun Y y => hG Y (k.trans y)) s hv)
  have HSN := Lib.hid (fun (X : World) (k : Below B w X) => spacesN X (hG X k).nm)
  have c17 := h.cell 17 (.string a.val) rfl
  have HS := Lib.hid h
  have HB := Lib.hid h.le
  obtain ⟨F, hF⟩ : ∃ F, F = spaF P.sp a.val := ⟨_, rfl⟩
  rw [← hF]
  cases hb : boolR a.val with
  | some x =>
    unfold boolE at HV
    rw [hb] at HV
    simp only [Option.getD_some, Option.isSome_some, if_true] at HV
    cases x with
    | true =>
      have hF2 : F = (allN, []) := by
        rw [hF]; unfold spaF
        rw [if_neg (by rintro (e | e); exact yes_words18 hb e; rw [hb] at e; injection e with e; cases e), if_pos hb]
      rw [hF2]
      clear hv h hG hF hF2 hb HLS HW
      go_enter Tryd.func32, Tryd.ntmps32
      go_wp2_with (first
        | (go_at_call 15; ((with_reducible refine (HV.out).mono ?_); rintro e w1 ⟨rfl, b1⟩); have S1 := Lib.hid (HS.out.on b1); have B1 := Lib.hid (b1.mono HB.out); have y17 := S1.out.cell 17 (.string a.val) rfl; have y8 := S1.out.cell 8 _ rfl; have g8 := S1.out.frz 8; clear b1)
        | (go_at_call 18; ((with_reducible refine (HSN.out w1 B1.out).mono ?_); rintro e w2 ⟨rfl, b2⟩); have S2 := Lib.hid (S1.out.on b2); have B2 := Lib.hid (B1.out.trans (b2.mono S1.out.le)); have z8 := S2.out.cell 8 _ rfl; have h8 := S2.out.frz 8; clear b2))
      (try simp only [Exit.inBlock, Exit.then])
      first | refine bodyPost_ret (results_none rfl _ _ _) rfl ?_ | refine bodyPost_end (results_none rfl _ _ _) rfl ?_
      exact ⟨rfl, ⟨p, _, S2.out.spc18 allN⟩, B2.out.trans (S2.out.low 8 _)⟩
    | false =>
      have hF2 : F = (0, []) := by rw [hF]; unfold spaF; rw [if_pos (Or.inr hb)]
      rw [hF2]
      clear hv h hG hF hF2 hb HLS HW HSN
      go_enter Tryd.func32, Tryd.ntmps32
      go_wp2_with (go_at_call 15; ((with_reducible refine (HV.out).mono ?_); rintro e w1 ⟨rfl, b1⟩); have S1 := Lib.hid (HS.out.on b1); have B1 := Lib.hid (b1.mono HB.out); have y17 := S1.out.cell 17 (.string a.val) rfl; have y8 := S1.out.cell 8 _ rfl; have g8 := S1.out.frz 8; clear b1)
      (try simp only [Exit.inBlock, Exit.then])
      first | refine bodyPost_ret (results_none rfl _ _ _) rfl ?_ | refine bodyPost_end (results_none rfl _ _ _) rfl ?_
      exact ⟨rfl, ⟨p, _, S1.out.spc18 0⟩, B1.out.trans (S1.out.low 8 _)⟩
  | none =>
    unfold boolE at HV
    rw [hb] at HV
    simp only [Option.getD_none, Option.isSome_none, Bool.false_eq_true, if_false] at HV
    obtain ⟨m, hm⟩ : ∃ m, m = (wdL a.val.data.toList).length := ⟨_, rfl⟩
    by_cases h0 : wdL a.val.data.toList = []
    · have hF2 : F = (0, []) := by rw [hF]; unfold spaF; rw [if_pos (Or.inl h0)]
      rw [hF2]
      rw [show (wdL a.val.data.toList).length = 0 by rw [h0]; rfl] at HW
      clear hv h hG hF hF2 hb HLS HSN hm h0
      go_enter Tryd.func32, Tryd.ntmps32
      go_wp2_with (first
        | (go_at_call 15; ((with_reducible refine (HV.out).mono ?_); rintro e w1 ⟨rfl, b1⟩); have S1 := Lib.hid (HS.out.on b1); have B1 := Lib.hid (b1.mono HB.out); have y17 := S1.out.cell 17 (.string a.val) rfl; have y8 := S1.out.cell 8 _ rfl; have g8 := S1.out.frz 8; clear b1)
        | (go_at_call 14; ((with_reducible refine (HW.out w1).mono ?_); rintro e w2 ⟨q1, d1, rfl, o1, b2⟩); have S2 := Lib.hid (S1.out.on b2); have B2 := Lib.hid (B1.out.trans (b2.mono S1.out.le)); have z8 := S2.out.cell 8 _ rfl; have h8 := S2.out.frz 8; clear o1 b2))
      (try simp only [Exit.inBlock, Exit.then])
      first | refine bodyPost_ret (results_none rfl _ _ _) rfl ?_ | refine bodyPost_end (results_none rfl _ _ _) rfl ?_
      exact ⟨rfl, ⟨p, _, S2.out.spc18 0⟩, B2.out.trans (S2.out.low 8 _)⟩
    · have hF2 : F = lsp18 P.sp a.val := by
        rw [hF]; unfold spaF lsp18
        rw [if_neg (by rintro (e | e); exact h0 e; rw [hb] at e; cases e), if_neg (by rw [hb]; intro e; cases e)]
      rw [hF2]
      have hm0 : 0 < m := by rw [hm]; exact List.length_pos_iff.2 h0
      rw [← hm] at HW
      have m1 : (0 : Int) < m := by omega
      obtain ⟨PZ, hPZ⟩ : ∃ X, X = ({ P with sp := (lsp18 P.sp a.val).1 } : Pol) := ⟨_, rfl⟩
      obtain ⟨NZ, hNZ⟩ : ∃ X, X = (lsp18 P.sp a.val).2 := ⟨_, rfl⟩
      rw [← hPZ, ← hNZ] at HLS ⊢
      clear hv h hG hF hF2 hb HSN hm h0 hm0 hPZ hNZ
      go_enter Tryd.func32, Tryd.ntmps32
      go_wp2_with (first
        | (go_at_call 15; ((with_reducible refine (HV.out).mono ?_); rintro e w1 ⟨rfl, b1⟩); have S1 := Lib.hid (HS.out.on b1); have B1 := Lib.hid (b1.mono HB.out); have y17 := S1.out.cell 17 (.string a.val) rfl; have y8 := S1.out.cell 8 _ rfl; have g8 := S1.out.frz 8; clear b1)
        | (go_at_call 14; ((with_reducible refine (HW.out w1).mono ?_); rintro e w2 ⟨q1, d1, rfl, o1, b2⟩); have S2 := Lib.hid (S1.out.on b2); have B2 := Lib.hid (B1.out.trans (b2.mono S1.out.le)); have z8 := S2.out.cell 8 _ rfl; have h8 := S2.out.frz 8; clear o1 b2)
        | (go_at_call 47; ((with_reducible refine (HLS.out w2 B2.out S2.out).mono ?_); rintro e w3 ⟨rfl, s3, b3⟩); have S3 := Lib.hid s3; have B3 := Lib.hid b3; clear s3 b3))
      (try simp only [Exit.inBlock, Exit.then])
      first | refine bodyPost_ret (results_none rfl _ _ _) rfl ?_ | refine bodyPost_end (results_none rfl _ _ _) rfl ?_
      exact ⟨rfl, S3.out, B2.out.trans B3.out⟩
end Go.Proofs.YtbjhleajhkofeaaDoor
