/- What the landed effect of namespaces leaves. Conditions: the tables lie in their variables; lists of at most 10,000, values of at most 1,000 bytes. -/
import Derived.Test.YtlenjfodjkhpmaaGreatDoorD2
import Derived.Test.YtlenjfodjkhpmaaGreatDoorP3
import Derived.Deep.RegionHeld3
import Derived.Test.YtlenjfodjkhpmaaGreatDoorF8
import Derived.Test.YtlenjfodjkhpmaaGreatDoorR9
import Derived.Laws.BitsAllLaws
namespace Go.Proofs.YtlenjfodjkhpmaaGreatDoor
set_option maxRecDepth 100000
open Go.Lib (hid)
open Go.RowKit
set_option linter.unusedVariables false
set_option linter.unusedSimpArgs false

def P0 : Pol := ⟨[], (0, []), 2147483648, (0, []), [], 0, 0, false, false, false, false⟩
set_option maxRecDepth 100000
open Go.Lib (hid)
open Go.RowKit
set_option linter.unusedVariables false
set_option linter.unusedSimpArgs false

def PZ : Pol := ⟨[], (0, []), 0, (0, []), [], 0, 0, false, false, false, false⟩
set_option maxRecDepth 100000
open Go.Lib (hid)
open Go.RowKit
set_option linter.unusedVariables false
set_option linter.unusedSimpArgs false
attribute [local go_sem ↓] Go.wp_at_zero Go.wp_at_succ

theorem step_storeL17 {ops : Array Oper} {o : Oper} {a : Act} {w : World} {K : Act → World → Prop} {Q : Exit → Act → World → Prop} {E : Prop} (hgd : o.guard = none) (ty : TypeId) (x y : Operand) (ho : o.op = .store ty x y) (b i : Nat) (cs : List Value) (hx : a.eval x = .pointer (some ⟨b, i, none⟩)) (hy : a.eval y = .agg cs.toArray)
 (ht : w.there b i cs.length) (hi : (Tryz.prog.info? ty).map (·.size) = some cs.length) (h1 : cs.toArray.all (·.oneCell') = true) (h : K (a.put o.dst undef) (w.setCells b i cs)) : if Region.wanted o (yielded ops a.tmps) = true then Oper.wp Tryz.prog o a w K Q else E :=
 step_store17 hgd ty x y ho b i cs.toArray hx hy (by simpa using ht) (by simpa using hi) h1 (by simpa using h)
theorem set_fresh17 {W : World} {b : Nat} {p : Pls} {P : Pol} {cs : List Value} (h : W.heap[b]? = some (.cells cs.toArray 32 (0, 0))) (hl : cs.length = 13) : (W.setCells b 0 (plC p P)).heap[b]? = some (.cells (plC p P).toArray 32 (0, 0)) := by
 have := set_row17 (W := W) (plC p P) 0 cs W h (by rw [plC_len, hl]; decide)
 rw [this, List.take_zero, List.nil_append, plC_len, Nat.zero_add, List.drop_eq_nil_of_le (by omega), List.append_nil]
def pz17 : Pls := ⟨none, 0, 0, none, 0, 0, none, 0, 0, none, 0, 0⟩
set_option maxRecDepth 100000
open Go.Lib (hid)
open Go.RowKit
set_option linter.unusedVariables false
set_option linter.unusedSimpArgs false

theorem sub_bits18 : ∀ (n x y : Nat), x ≤ n → y &&& x = y → (x - y) ||| y = x ∧ (x - y) &&& y = 0
 | 0, x, y, hx, h => by
   obtain rfl : x = 0 := by omega
   rw [Nat.and_zero] at h
   subst h
   exact ⟨rfl, rfl⟩
 | n + 1, x, y, hx, h => by
   by_cases h0 : x = 0
   ·subst h0
    rw [Nat.and_zero] at h
    subst h
    exact ⟨rfl, rfl⟩
   have hle : y ≤ x := by rw [← h]; exact Nat.and_le_right
   have h2 : (y / 2) &&& (x / 2) = y / 2 := by rw [← Nat.and_div_two, h]
   have hm : y % 2 = 1 → x % 2 = 1 := fun e => by rw [← h] at e; exact (Nat.and_mod_two_eq_one.1 e).2
   obtain ⟨i1, i2⟩ := sub_bits18 n (x / 2) (y / 2) (by omega) h2
   have e1 : (x - y) / 2 = x / 2 - y / 2 := by omega
   constructor
   ·have a : ((x - y) ||| y) / 2 = x / 2 := by rw [Nat.or_div_two, e1, i1]
    have b : ((x - y) ||| y) % 2 = 1 ↔ x % 2 = 1 := by rw [Nat.or_mod_two_eq_one]; omega
    omega
   ·have a : ((x - y) &&& y) / 2 = 0 := by rw [Nat.and_div_two, e1, i2]
    have b : ¬ ((x - y) &&& y) % 2 = 1 := by rw [Nat.and_mod_two_eq_one]; omega
    omega
theorem spcT_sub : ∀ e ∈ spcT, e.2 &&& allN = e.2 := fun e he => of_decide_eq_true (List.all_eq_true.1 (show (spcT.all fun e => decide (e.2 &&& allN = e.2)) = true by decide +kernel) e he)
theorem spcN_sub (w : List UInt8) : spcN w &&& allN = spcN w := by
 unfold spcN
 cases h : findR spcT (bs w) with
 | none => rfl
 | some n =>
  obtain ⟨e, he, h2⟩ := findR_mem h
  subst h2
  exact spcT_sub e he
theorem orL_sub : ∀ l, orL l &&& allN = orL l
 | [] => rfl
 | w :: r => by
   show (spcN w ||| orL r) &&& allN = _
   rw [Nat.and_or_distrib_right, spcN_sub, orL_sub r]; rfl
set_option maxRecDepth 100000
open Go.Lib (hid)
open Go.RowKit Go.Shelf
set_option linter.unusedVariables false
set_option linter.unusedSimpArgs false
attribute [local go_sem ↓] Go.wp_at_zero Go.wp_at_succ

theorem orL_app18 : ∀ (l : List (List UInt8)) (x : List UInt8), orL (l ++ [x]) = orL l ||| spcN x
 | [], x => by show spcN x ||| 0 = 0 ||| spcN x; rw [Nat.or_zero, Nat.zero_or]
 | a :: r, x => by
   show spcN a ||| orL (r ++ [x]) = (spcN a ||| orL r) ||| spcN x
   rw [orL_app18 r x, Nat.or_assoc]
theorem orL_step18 {l : List (List UInt8)} {k : Nat} {x : List UInt8} (h : l[k]? = some x) : orL (l.take (k + 1)) = orL (l.take k) ||| spcN x := by
 rw [List.take_add_one, h]
 exact orL_app18 _ _
theorem bad_step18 {l : List (List UInt8)} {k : Nat} {x : List UInt8} (h : l[k]? = some x) : (l.take (k + 1)).filter spcB = (l.take k).filter spcB ++ (if spcB x = true then [x] else []) := by
 rw [List.take_add_one, h]
 show (l.take k ++ [x]).filter spcB = _
 rw [List.filter_append]
 congr 1
 cases e : spcB x <;> simp [e]
theorem sub_not18 {x y : Nat} (hx : x < 2 ^ 64) (h : y &&& x = y) : x &&& (18446744073709551615 - y) = x - y := by
 have hy : y ≤ x := by rw [← h]; exact Nat.and_le_right
 obtain ⟨h1, h2⟩ := sub_bits18 x x y (Nat.le_refl _) h
 apply Nat.eq_of_testBit_eq
 intro i
 have e1 := congrArg (fun z => z.testBit i) h1
 have e2 := congrArg (fun z => z.testBit i) h2
 have e3 := congrArg (fun z => z.testBit i) h
 simp only [Nat.testBit_or, Nat.testBit_and, Nat.zero_testBit] at e1 e2 e3
 have e4 : (18446744073709551615 - y).testBit i = (decide (i < 64) && !y.testBit i) := by
  have := Nat.testBit_two_pow_sub_succ (x := y) (n := 64) (by omega) i
  rw [← this]
  congr 1
  omega
 rw [Nat.testBit_and, e4]
 by_cases hi : i < 64
 ·rw [decide_eq_true hi]
  generalize (x - y).testBit i = d at *
  generalize x.testBit i = u at *
  generalize y.testBit i = v at *
  cases d <;> cases u <;> cases v <;> simp_all
 ·have hx0 : x.testBit i = false := Nat.testBit_lt_two_pow (Nat.lt_of_lt_of_le hx (Nat.pow_le_pow_right (by decide) (by omega)))
  rw [hx0] at e1 ⊢
  cases hd : (x - y).testBit i
  ·rfl
  ·rw [hd] at e1; simp at e1
theorem St.spc18 {B b : Nat} {w : World} {p : Pls} {P : Pol} {a : As} {v : Value} {N : List Nte} (h : St B b w p P a v N) (x : Nat) : St B b (w.setCell ⟨b, 8, none⟩ (.int .u64 (x : Nat))) p { P with sp := x } a v N := h.set 8 (.int .u64 (x : Nat)) (by decide) rfl ⟨h.own.al, h.own.fl, h.own.ll, h.own.ml, h.own.ar, h.own.fi, h.own.lo, h.own.fa⟩ h.nts
def lsp18 (x : Nat) (v : ByteArray) : Nat × List (Int × ByteArray) :=
 if (wdL (turnR v).1.data.toList).any spcB = true then (x, ((wdL (turnR v).1.data.toList).filter spcB).map fun w => (181, t60 w))
 else (if (turnR v).2 = true then orL (wdL (turnR v).1.data.toList) else allN - orL (wdL (turnR v).1.data.toList), [])
theorem yes_words18 {v : ByteArray} (h : boolR v = some true) : wdL v.data.toList ≠ [] := by
 have hy : isIn yesT v = true := by
  unfold boolR at h
  cases e : isIn yesT v with
  | true => rfl
  | false =>
   rw [e, if_neg Bool.noConfusion] at h
   split at h
   ·cases h
   ·cases h
 obtain ⟨t, ht, h2⟩ := List.any_eq_true.1 hy
 have h3 : yesT.all (fun t => decide (wdL t.data.toList ≠ [])) = true := by decide +kernel
 rw [← of_decide_eq_true h2]
 exact of_decide_eq_true (List.all_eq_true.1 h3 t ht)
set_option maxHeartbeats 16000000 in
theorem listSpaces_c18 (B b : Nat) (w : World) (p : Pls) (P : Pol) (a : As) (hG : ∀ X, Below B w X → G18 X) (h : St B b w p P a (.slice none 0 0) []) (hv : a.val.size ≤ 1000) :
 Calls Tryz.prog 160 #[.pointer (some ⟨b, 0, none⟩)] w fun e w' => e = .returned (.tuple #[]) ∧ (∃ p' v', St B b w' p' { P with sp := (lsp18 P.sp a.val).1 } a v' ((lsp18 P.sp a.val).2.map (nteP a))) ∧ Below B w w' := by
 have HT := hid (turned15 a.val w)
 have HV := hid (fun (X : World) => words_c18 (turnR a.val).1 X (by have := turn_size a.val; omega))
 obtain ⟨F, hF⟩ : ∃ F, F = lsp18 P.sp a.val := ⟨_, rfl⟩
 rw [← hF]
 unfold lsp18 at hF
 obtain ⟨ws, hws⟩ : ∃ l, l = wdL (turnR a.val).1.data.toList := ⟨_, rfl⟩
 have hwl : ws.length ≤ 1000 := by rw [hws]; exact Nat.le_trans (wd_size _) (Nat.le_trans (turn_size _) hv)
 rw [← hws] at HV hF
 obtain ⟨m, hm⟩ : ∃ m, m = ws.length := ⟨_, rfl⟩
 rw [← hm] at HV
 have m3 : m ≤ 1000 := by omega
 obtain ⟨rest, hrest⟩ : ∃ r, r = (turnR a.val).1 := ⟨_, rfl⟩
 rw [← hrest] at HT HV
 have c17 := h.cell 17 (.string a.val) rfl
 have HS := hid h
 have HG := hid hG
 have HB := hid h.le
 have HM := hid hm
 obtain ⟨T, hTT⟩ : ∃ T, T = (turnR a.val).2 := ⟨_, rfl⟩
 rw [← hTT] at HT hF
 have HFY := hid (fun (e : ws.any spcB = true) => hF.trans (if_pos e))
 have HFN := hid (fun (e : ws.any spcB = false) => hF.trans (if_neg (by rw [e]; exact Bool.noConfusion)))
 clear hv hws hwl h hG hm hrest hTT hF
 cases hT : T with
 | true =>
  subst hT
  go_enter Tryz.func160, Tryz.ntmps160
  go_wp2_with (first
   | (go_at_call 188; ((with_reducible refine (HT.out).mono ?_); rintro e w1 ⟨rfl, b1⟩); have S1 := hid (HS.out.on b1); have B1 := hid (b1.mono HB.out); clear b1)
   | (go_at_call 154; ((with_reducible refine (HV.out _).mono ?_); rintro e w2 ⟨q1, d1, rfl, o1, b1⟩); have S2 := hid (S1.out.on b1); have B2 := hid (B1.out.trans (b1.mono S1.out.le)); have O2 := hid (owns_low16 o1 S1.out.le); clear o1 b1))
  go_loopw [4, 21] (fun v4 v21 wr => ∃ (k : Nat) (v' : Value), k ≤ m ∧ v4 = .int .u64 ((orL (ws.take k)) : Nat) ∧ v21 = .int .i64 k ∧ Hid (St B b wr p P a v' ((((ws.take k).filter spcB).map fun w => ((181 : Int), t60 w)).map (nteP a))) ∧ Hid (wr.ownsRow B 9 1 (.slice q1 m d1) m (sL ws)) ∧ Hid (Below B w wr)) (fun _ v21 _ => m - (intOf v21).toNat)
  case atStart => exact ⟨0, _, Nat.zero_le _, rfl, rfl, S2, O2, B2⟩
  case round =>
   obtain ⟨k, v', hk, rfl, rfl, SS, OO, BB⟩ := hrel
   obtain ⟨V, rfl⟩ : ∃ wo : World, wo = wr := ⟨_, rfl⟩
   by_cases hlt : k < m
   ·obtain ⟨x, hx⟩ : ∃ x, ws[k]? = some x := ⟨ws[k]'(by rw [← HM.out]; exact hlt), List.getElem?_eq_getElem _⟩
    obtain ⟨g, o, hq, hc⟩ := words_at18 OO.out HM.out hx
    subst hq
    have k1 : (k : Int) < m := by omega
    have k0 : (0 : Int) ≤ k := by omega
    have HOR := hid (orL_step18 hx)
    have HBD := hid (bad_step18 hx)
    have HL2 := hid (show (((ws.take k).filter spcB).map fun w => ((181 : Int), t60 w)).length ≤ 2000 from Nat.le_trans (by rw [List.length_map]; exact List.length_filter_le _ _) (by rw [List.length_take]; omega))
    have HPA := hid (spaceN (bs x) V (HG.out V BB.out).nm)
    have OKB := hid SS.out.le
    obtain ⟨y, hy⟩ : ∃ y, y = (orL (ws.take k)) := ⟨_, rfl⟩
    have hylt : y < 18446744073709551616 := by rw [hy]; exact orL_lt _
    rw [← hy] at HOR ⊢
    have HYY := hid hy
    clear hx hy
    cases hf : findR spcT (bs x) with
    | some n =>
     have hn : spcN x = n := by unfold spcN; rw [hf]; rfl
     have hb0 : spcB x = false := by unfold spcB; rw [hf]; rfl
     have hor := HOR.out
     rw [hn] at hor
     have HO2 := hid hor
     have hbd := HBD.out
     rw [hb0, if_neg Bool.noConfusion, List.append_nil] at hbd
     have HB2 := hid hbd
     have hnlt : n < 18446744073709551616 := by rw [← hn]; exact spcN_lt x
     have hbits : bits .or .u64 (y : Int) (n : Int) = ((y ||| n : Nat) : Int) := u64_or_nat _ _ hylt hnlt
     rw [hf] at HPA
     simp only [Option.getD_some, Option.isSome_some, if_true] at HPA
     clear hf hn hb0 hor hbd HOR HBD
     go_wp2_with (go_at_call 192; ((with_reducible refine (HPA.out).mono ?_); rintro e w2 ⟨rfl, b2⟩); have S2 := hid (SS.out.on b2); have B2 := hid (BB.out.trans (b2.mono OKB.out)); have O2 := hid (owns_on16 OO.out b2); clear b2)
     go_roundw
     case rel => exact ⟨k + 1, v', by omega, by rw [HO2.out], by go_num, hid (by rw [HB2.out]; exact S2.out), O2, B2⟩
     case measure => first | (simp [intOf]; done) | (simp [intOf]; omega)
    | none =>
     have hn : spcN x = 0 := by unfold spcN; rw [hf]; rfl
     have hb0 : spcB x = true := by unfold spcB; rw [hf]; rfl
     have hor := HOR.out
     rw [hn, Nat.or_zero] at hor
     have HO2 := hid hor
     have hbd := HBD.out
     rw [hb0, if_pos rfl] at hbd
     have HB2 := hid hbd
     rw [hf] at HPA
     simp only [Option.getD_none, Option.isSome_none, Bool.false_eq_true, if_false] at HPA
     have HNO := hid (fun (X : World) (s : St B b X p P a v' ((((ws.take k).filter spcB).map fun w => ((181 : Int), t60 w)).map (nteP a))) => note_c18 B b X p P a v' ((((ws.take k).filter spcB).map fun w => ((181 : Int), t60 w)).map (nteP a)) 181 (bs x) s (by rw [List.length_map]; have := HL2.out; omega))
     clear hf hn hb0 hor hbd HOR HBD
     go_wp2_with (first
      | (go_at_call 192; ((with_reducible refine (HPA.out).mono ?_); rintro e w2 ⟨rfl, b2⟩); have S2 := hid (SS.out.on b2); have B2 := hid (BB.out.trans (b2.mono OKB.out)); have O2 := hid (owns_on16 OO.out b2); clear b2)
      | (go_at_call 156; ((with_reducible refine (HNO.out w2 S2.out).mono ?_); rintro e w3 ⟨rfl, ⟨v3, s3⟩, b3, k3⟩); have S3 := hid s3; have O3 := hid (k3.own (by decide) (by decide) O2.out); have B3 := hid (B2.out.trans b3); clear s3))
     go_roundw
     case rel => exact ⟨k + 1, v3, by omega, by rw [HO2.out], by go_num, hid (by rw [HB2.out]; exact S3.out.cast rfl (by rw [nte_t60, List.map_append, List.map_append]; rfl)), O3, B3⟩
     case measure => first | (simp [intOf]; done) | (simp [intOf]; omega)
   ·obtain rfl : k = m := by omega
    have k1 : ¬ (k : Int) < (k : Nat) := by omega
    have hst := SS.out
    have htk : ws.take k = ws := List.take_of_length_le (by rw [← HM.out]; exact Nat.le_refl _)
    rw [htk] at hst
    try rw [htk]
    have HSF := hid hst
    clear hst htk
    by_cases hany : ws.any spcB = true
    ·have HFF := hid (HFY.out hany)
     have hpos : 0 < ((ws.filter spcB).map fun w => ((181 : Int), t60 w)).length := by
      rw [List.length_map]
      obtain ⟨y, hy, hy2⟩ := List.any_eq_true.1 hany
      exact List.length_pos_of_mem (List.mem_filter.2 ⟨hy, hy2⟩)
     obtain ⟨qv, cv, hqv⟩ := own16 HSF.out.nts
     have c18 := HSF.out.cell 18 v' rfl
     rw [hqv] at c18
     obtain ⟨nN, hnN⟩ : ∃ n, n = (((ws.filter spcB).map fun w => ((181 : Int), t60 w)).map (nteP a)).length := ⟨_, rfl⟩
     have hpn : (0 : Int) < nN := by rw [hnN, List.length_map]; omega
     rw [← hnN] at c18
     clear hany hpos hqv hnN
     go_wp2_with fail
     (try simp only [Exit.inBlock, Exit.then])
     first | refine bodyPost_ret (results_none rfl _ _ _) rfl ?_ | refine bodyPost_end (results_none rfl _ _ _) rfl ?_
     exact ⟨rfl, ⟨p, v', HSF.out.cast (by rw [HFF.out]) (by rw [HFF.out])⟩, BB.out⟩
    ·have HFF := hid (HFN.out (by simpa using hany))
     have hnil : ws.filter spcB = [] := by
      rw [List.filter_eq_nil_iff]
      intro y hy h2
      exact hany (List.any_eq_true.2 ⟨y, hy, h2⟩)
     have hsf := HSF.out
     rw [hnil] at hsf
     obtain ⟨qv, cv, hqv⟩ := own16 hsf.nts
     have hqv2 : v' = .slice qv 0 cv := hqv
     subst hqv2
     have c18 := hsf.cell 18 (.slice qv 0 cv) rfl
     have c8 := hsf.cell 8 _ rfl
     have f8 := hsf.frz 8
     have HSG := hid hsf
     clear hany hnil hsf hqv
     go_wp2_with fail
     (try simp only [Exit.inBlock, Exit.then])
     first | refine bodyPost_ret (results_none rfl _ _ _) rfl ?_ | refine bodyPost_end (results_none rfl _ _ _) rfl ?_
     exact ⟨rfl, ⟨p, _, (HSG.out.spc18 (orL ws)).cast (by rw [HFF.out]; rfl) (by rw [HFF.out]; rfl)⟩, BB.out.trans (HSG.out.low 8 _)⟩
 | false =>
  subst hT
  go_enter Tryz.func160, Tryz.ntmps160
  go_wp2_with (first
   | (go_at_call 188; ((with_reducible refine (HT.out).mono ?_); rintro e w1 ⟨rfl, b1⟩); have S1 := hid (HS.out.on b1); have B1 := hid (b1.mono HB.out); clear b1)
   | (go_at_call 154; ((with_reducible refine (HV.out _).mono ?_); rintro e w2 ⟨q1, d1, rfl, o1, b1⟩); have S2 := hid (S1.out.on b1); have B2 := hid (B1.out.trans (b1.mono S1.out.le)); have O2 := hid (owns_low16 o1 S1.out.le); clear o1 b1))
  go_loopw [4, 21] (fun v4 v21 wr => ∃ (k : Nat) (v' : Value), k ≤ m ∧ v4 = .int .u64 ((orL (ws.take k)) : Nat) ∧ v21 = .int .i64 k ∧ Hid (St B b wr p P a v' ((((ws.take k).filter spcB).map fun w => ((181 : Int), t60 w)).map (nteP a))) ∧ Hid (wr.ownsRow B 9 1 (.slice q1 m d1) m (sL ws)) ∧ Hid (Below B w wr)) (fun _ v21 _ => m - (intOf v21).toNat)
  case atStart => exact ⟨0, _, Nat.zero_le _, rfl, rfl, S2, O2, B2⟩
  case round =>
   obtain ⟨k, v', hk, rfl, rfl, SS, OO, BB⟩ := hrel
   obtain ⟨V, rfl⟩ : ∃ wo : World, wo = wr := ⟨_, rfl⟩
   by_cases hlt : k < m
   ·obtain ⟨x, hx⟩ : ∃ x, ws[k]? = some x := ⟨ws[k]'(by rw [← HM.out]; exact hlt), List.getElem?_eq_getElem _⟩
    obtain ⟨g, o, hq, hc⟩ := words_at18 OO.out HM.out hx
    subst hq
    have k1 : (k : Int) < m := by omega
    have k0 : (0 : Int) ≤ k := by omega
    have HOR := hid (orL_step18 hx)
    have HBD := hid (bad_step18 hx)
    have HL2 := hid (show (((ws.take k).filter spcB).map fun w => ((181 : Int), t60 w)).length ≤ 2000 from Nat.le_trans (by rw [List.length_map]; exact List.length_filter_le _ _) (by rw [List.length_take]; omega))
    have HPA := hid (spaceN (bs x) V (HG.out V BB.out).nm)
    have OKB := hid SS.out.le
    obtain ⟨y, hy⟩ : ∃ y, y = (orL (ws.take k)) := ⟨_, rfl⟩
    have hylt : y < 18446744073709551616 := by rw [hy]; exact orL_lt _
    rw [← hy] at HOR ⊢
    have HYY := hid hy
    clear hx hy
    cases hf : findR spcT (bs x) with
    | some n =>
     have hn : spcN x = n := by unfold spcN; rw [hf]; rfl
     have hb0 : spcB x = false := by unfold spcB; rw [hf]; rfl
     have hor := HOR.out
     rw [hn] at hor
     have HO2 := hid hor
     have hbd := HBD.out
     rw [hb0, if_neg Bool.noConfusion, List.append_nil] at hbd
     have HB2 := hid hbd
     have hnlt : n < 18446744073709551616 := by rw [← hn]; exact spcN_lt x
     have hbits : bits .or .u64 (y : Int) (n : Int) = ((y ||| n : Nat) : Int) := u64_or_nat _ _ hylt hnlt
     rw [hf] at HPA
     simp only [Option.getD_some, Option.isSome_some, if_true] at HPA
     clear hf hn hb0 hor hbd HOR HBD
     go_wp2_with (go_at_call 192; ((with_reducible refine (HPA.out).mono ?_); rintro e w2 ⟨rfl, b2⟩); have S2 := hid (SS.out.on b2); have B2 := hid (BB.out.trans (b2.mono OKB.out)); have O2 := hid (owns_on16 OO.out b2); clear b2)
     go_roundw
     case rel => exact ⟨k + 1, v', by omega, by rw [HO2.out], by go_num, hid (by rw [HB2.out]; exact S2.out), O2, B2⟩
     case measure => first | (simp [intOf]; done) | (simp [intOf]; omega)
    | none =>
     have hn : spcN x = 0 := by unfold spcN; rw [hf]; rfl
     have hb0 : spcB x = true := by unfold spcB; rw [hf]; rfl
     have hor := HOR.out
     rw [hn, Nat.or_zero] at hor
     have HO2 := hid hor
     have hbd := HBD.out
     rw [hb0, if_pos rfl] at hbd
     have HB2 := hid hbd
     rw [hf] at HPA
     simp only [Option.getD_none, Option.isSome_none, Bool.false_eq_true, if_false] at HPA
     have HNO := hid (fun (X : World) (s : St B b X p P a v' ((((ws.take k).filter spcB).map fun w => ((181 : Int), t60 w)).map (nteP a))) => note_c18 B b X p P a v' ((((ws.take k).filter spcB).map fun w => ((181 : Int), t60 w)).map (nteP a)) 181 (bs x) s (by rw [List.length_map]; have := HL2.out; omega))
     clear hf hn hb0 hor hbd HOR HBD
     go_wp2_with (first
      | (go_at_call 192; ((with_reducible refine (HPA.out).mono ?_); rintro e w2 ⟨rfl, b2⟩); have S2 := hid (SS.out.on b2); have B2 := hid (BB.out.trans (b2.mono OKB.out)); have O2 := hid (owns_on16 OO.out b2); clear b2)
      | (go_at_call 156; ((with_reducible refine (HNO.out w2 S2.out).mono ?_); rintro e w3 ⟨rfl, ⟨v3, s3⟩, b3, k3⟩); have S3 := hid s3; have O3 := hid (k3.own (by decide) (by decide) O2.out); have B3 := hid (B2.out.trans b3); clear s3))
     go_roundw
     case rel => exact ⟨k + 1, v3, by omega, by rw [HO2.out], by go_num, hid (by rw [HB2.out]; exact S3.out.cast rfl (by rw [nte_t60, List.map_append, List.map_append]; rfl)), O3, B3⟩
     case measure => first | (simp [intOf]; done) | (simp [intOf]; omega)
   ·obtain rfl : k = m := by omega
    have k1 : ¬ (k : Int) < (k : Nat) := by omega
    have hst := SS.out
    have htk : ws.take k = ws := List.take_of_length_le (by rw [← HM.out]; exact Nat.le_refl _)
    rw [htk] at hst
    try rw [htk]
    have HSF := hid hst
    clear hst htk
    by_cases hany : ws.any spcB = true
    ·have HFF := hid (HFY.out hany)
     have hpos : 0 < ((ws.filter spcB).map fun w => ((181 : Int), t60 w)).length := by
      rw [List.length_map]
      obtain ⟨y, hy, hy2⟩ := List.any_eq_true.1 hany
      exact List.length_pos_of_mem (List.mem_filter.2 ⟨hy, hy2⟩)
     obtain ⟨qv, cv, hqv⟩ := own16 HSF.out.nts
     have c18 := HSF.out.cell 18 v' rfl
     rw [hqv] at c18
     obtain ⟨nN, hnN⟩ : ∃ n, n = (((ws.filter spcB).map fun w => ((181 : Int), t60 w)).map (nteP a)).length := ⟨_, rfl⟩
     have hpn : (0 : Int) < nN := by rw [hnN, List.length_map]; omega
     rw [← hnN] at c18
     clear hany hpos hqv hnN
     go_wp2_with fail
     (try simp only [Exit.inBlock, Exit.then])
     first | refine bodyPost_ret (results_none rfl _ _ _) rfl ?_ | refine bodyPost_end (results_none rfl _ _ _) rfl ?_
     exact ⟨rfl, ⟨p, v', HSF.out.cast (by rw [HFF.out]) (by rw [HFF.out])⟩, BB.out⟩
    ·have HFF := hid (HFN.out (by simpa using hany))
     have hnil : ws.filter spcB = [] := by
      rw [List.filter_eq_nil_iff]
      intro y hy h2
      exact hany (List.any_eq_true.2 ⟨y, hy, h2⟩)
     have hsf := HSF.out
     rw [hnil] at hsf
     obtain ⟨qv, cv, hqv⟩ := own16 hsf.nts
     have hqv2 : v' = .slice qv 0 cv := hqv
     subst hqv2
     have c18 := hsf.cell 18 (.slice qv 0 cv) rfl
     have c8 := hsf.cell 8 _ rfl
     have f8 := hsf.frz 8
     have HSG := hid hsf
     clear hany hnil hsf hqv
     have HSN := hid (spacesN V (HG.out V BB.out).nm)
     have hbits : bits .andNot .u64 ((allN : Nat) : Int) ((orL ws : Nat) : Int) = ((allN - orL ws : Nat) : Int) := by
      rw [u64_andNot_nat _ _ (by decide) (orL_lt ws), sub_not18 (by decide) (orL_sub ws)]
     go_wp2_with (go_at_call 61; ((with_reducible refine (HSN.out).mono ?_); rintro e w9 ⟨rfl, b9⟩); have S9 := hid (HSG.out.on b9); have B9 := hid (BB.out.trans (b9.mono HSG.out.le)); have y8 := S9.out.cell 8 _ rfl; have g8 := S9.out.frz 8; clear b9)
     (try simp only [Exit.inBlock, Exit.then])
     first | refine bodyPost_ret (results_none rfl _ _ _) rfl ?_ | refine bodyPost_end (results_none rfl _ _ _) rfl ?_
     exact ⟨rfl, ⟨p, _, (S9.out.spc18 (allN - orL ws)).cast (by rw [HFF.out, if_neg Bool.noConfusion]) (by rw [HFF.out]; rfl)⟩, B9.out.trans (S9.out.low 8 _)⟩
set_option maxHeartbeats 16000000 in
theorem spaces_c18 (B b : Nat) (w : World) (p : Pls) (P : Pol) (a : As) (hG : ∀ X, Below B w X → G18 X) (h : St B b w p P a (.slice none 0 0) []) (hv : a.val.size ≤ 1000) :
 Calls Tryz.prog 130 #[.pointer (some ⟨b, 0, none⟩)] w fun e w' => e = .returned (.tuple #[]) ∧ (∃ p' v', St B b w' p' { P with sp := (spaF P.sp a.val).1 } a v' ((spaF P.sp a.val).2.map (nteP a))) ∧ Below B w w' := by
 have HV := hid (bool15 a.val w (hG w (Below.refl _ _)).boo)
 have HW := hid (fun (X : World) => words_c18 a.val X (by omega))
 have HLS := hid (fun (X : World) (k : Below B w X) (s : St B b X p P a (.slice none 0 0) []) => listSpaces_c18 B b X p P a (fun Y y => hG Y (k.trans y)) s hv)
 have HSN := hid (fun (X : World) (k : Below B w X) => spacesN X (hG X k).nm)
 have c17 := h.cell 17 (.string a.val) rfl
 have HS := hid h
 have HB := hid h.le
 obtain ⟨F, hF⟩ : ∃ F, F = spaF P.sp a.val := ⟨_, rfl⟩
 rw [← hF]
 cases hb : boolR a.val with
 | some x =>
  unfold boolE at HV
  rw [hb] at HV
  simp only [Option.getD_some, Option.isSome_some, if_true] at HV
  cases x with
  | true =>
   have hF2 : F = (allN, []) := by
    rw [hF]; unfold spaF
    rw [if_neg (by rintro (e | e); exact yes_words18 hb e; rw [hb] at e; injection e with e; cases e), if_pos hb]
   rw [hF2]
   clear hv h hG hF hF2 hb HLS HW
   go_enter Tryz.func130, Tryz.ntmps130
   go_wp2_with (first
    | (go_at_call 159; ((with_reducible refine (HV.out).mono ?_); rintro e w1 ⟨rfl, b1⟩); have S1 := hid (HS.out.on b1); have B1 := hid (b1.mono HB.out); have y17 := S1.out.cell 17 (.string a.val) rfl; have y8 := S1.out.cell 8 _ rfl; have g8 := S1.out.frz 8; clear b1)
    | (go_at_call 61; ((with_reducible refine (HSN.out w1 B1.out).mono ?_); rintro e w2 ⟨rfl, b2⟩); have S2 := hid (S1.out.on b2); have B2 := hid (B1.out.trans (b2.mono S1.out.le)); have z8 := S2.out.cell 8 _ rfl; have h8 := S2.out.frz 8; clear b2))
   (try simp only [Exit.inBlock, Exit.then])
   first | refine bodyPost_ret (results_none rfl _ _ _) rfl ?_ | refine bodyPost_end (results_none rfl _ _ _) rfl ?_
   exact ⟨rfl, ⟨p, _, S2.out.spc18 allN⟩, B2.out.trans (S2.out.low 8 _)⟩
  | false =>
   have hF2 : F = (0, []) := by rw [hF]; unfold spaF; rw [if_pos (Or.inr hb)]
   rw [hF2]
   clear hv h hG hF hF2 hb HLS HW HSN
   go_enter Tryz.func130, Tryz.ntmps130
   go_wp2_with (go_at_call 159; ((with_reducible refine (HV.out).mono ?_); rintro e w1 ⟨rfl, b1⟩); have S1 := hid (HS.out.on b1); have B1 := hid (b1.mono HB.out); have y17 := S1.out.cell 17 (.string a.val) rfl; have y8 := S1.out.cell 8 _ rfl; have g8 := S1.out.frz 8; clear b1)
   (try simp only [Exit.inBlock, Exit.then])
   first | refine bodyPost_ret (results_none rfl _ _ _) rfl ?_ | refine bodyPost_end (results_none rfl _ _ _) rfl ?_
   exact ⟨rfl, ⟨p, _, S1.out.spc18 0⟩, B1.out.trans (S1.out.low 8 _)⟩
 | none =>
  unfold boolE at HV
  rw [hb] at HV
  simp only [Option.getD_none, Option.isSome_none, Bool.false_eq_true, if_false] at HV
  obtain ⟨m, hm⟩ : ∃ m, m = (wdL a.val.data.toList).length := ⟨_, rfl⟩
  by_cases h0 : wdL a.val.data.toList = []
  ·have hF2 : F = (0, []) := by rw [hF]; unfold spaF; rw [if_pos (Or.inl h0)]
   rw [hF2]
   rw [show (wdL a.val.data.toList).length = 0 by rw [h0]; rfl] at HW
   clear hv h hG hF hF2 hb HLS HSN hm h0
   go_enter Tryz.func130, Tryz.ntmps130
   go_wp2_with (first
    | (go_at_call 159; ((with_reducible refine (HV.out).mono ?_); rintro e w1 ⟨rfl, b1⟩); have S1 := hid (HS.out.on b1); have B1 := hid (b1.mono HB.out); have y17 := S1.out.cell 17 (.string a.val) rfl; have y8 := S1.out.cell 8 _ rfl; have g8 := S1.out.frz 8; clear b1)
    | (go_at_call 154; ((with_reducible refine (HW.out w1).mono ?_); rintro e w2 ⟨q1, d1, rfl, o1, b2⟩); have S2 := hid (S1.out.on b2); have B2 := hid (B1.out.trans (b2.mono S1.out.le)); have z8 := S2.out.cell 8 _ rfl; have h8 := S2.out.frz 8; clear o1 b2))
   (try simp only [Exit.inBlock, Exit.then])
   first | refine bodyPost_ret (results_none rfl _ _ _) rfl ?_ | refine bodyPost_end (results_none rfl _ _ _) rfl ?_
   exact ⟨rfl, ⟨p, _, S2.out.spc18 0⟩, B2.out.trans (S2.out.low 8 _)⟩
  ·have hF2 : F = lsp18 P.sp a.val := by
    rw [hF]; unfold spaF lsp18
    rw [if_neg (by rintro (e | e); exact h0 e; rw [hb] at e; cases e), if_neg (by rw [hb]; intro e; cases e)]
   rw [hF2]
   have hm0 : 0 < m := by rw [hm]; exact List.length_pos_iff.2 h0
   rw [← hm] at HW
   have m1 : (0 : Int) < m := by omega
   obtain ⟨PZ, hPZ⟩ : ∃ X, X = ({ P with sp := (lsp18 P.sp a.val).1 } : Pol) := ⟨_, rfl⟩
   obtain ⟨NZ, hNZ⟩ : ∃ X, X = (lsp18 P.sp a.val).2 := ⟨_, rfl⟩
   rw [← hPZ, ← hNZ] at HLS ⊢
   clear hv h hG hF hF2 hb HSN hm h0 hm0 hPZ hNZ
   go_enter Tryz.func130, Tryz.ntmps130
   go_wp2_with (first
    | (go_at_call 159; ((with_reducible refine (HV.out).mono ?_); rintro e w1 ⟨rfl, b1⟩); have S1 := hid (HS.out.on b1); have B1 := hid (b1.mono HB.out); have y17 := S1.out.cell 17 (.string a.val) rfl; have y8 := S1.out.cell 8 _ rfl; have g8 := S1.out.frz 8; clear b1)
    | (go_at_call 154; ((with_reducible refine (HW.out w1).mono ?_); rintro e w2 ⟨q1, d1, rfl, o1, b2⟩); have S2 := hid (S1.out.on b2); have B2 := hid (B1.out.trans (b2.mono S1.out.le)); have z8 := S2.out.cell 8 _ rfl; have h8 := S2.out.frz 8; clear o1 b2)
    | (go_at_call 160; ((with_reducible refine (HLS.out w2 B2.out S2.out).mono ?_); rintro e w3 ⟨rfl, s3, b3⟩); have S3 := hid s3; have B3 := hid b3; clear s3 b3))
   (try simp only [Exit.inBlock, Exit.then])
   first | refine bodyPost_ret (results_none rfl _ _ _) rfl ?_ | refine bodyPost_end (results_none rfl _ _ _) rfl ?_
   exact ⟨rfl, S3.out, B2.out.trans B3.out⟩
end Go.Proofs.YtlenjfodjkhpmaaGreatDoor
