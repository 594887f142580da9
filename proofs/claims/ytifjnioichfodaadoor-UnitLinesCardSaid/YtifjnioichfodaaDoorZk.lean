/- The landed logical's closure that ends a logical line: what it leaves. Conditions: the library's two tables lie in their variables; a text of at most 2^40 bytes, at most 1000 lines laid down. -/
import Derived.Test.YtifjnioichfodaaDoorZj
namespace Go.Proofs.YtifjnioichfodaaDoor
open Go.RowKit Go.Shelf
set_option linter.unusedVariables false
set_option linter.unusedSimpArgs false
attribute [local go_sem ↓] Go.wp_at_zero Go.wp_at_succ

set_option maxRecDepth 100000 in
set_option maxHeartbeats 8000000 in
theorem end_none (B : Nat) (t : Lst) (w V : World) (hG : G12 w) (hV : Below w.heap.size w V) (h : LgAt B w.heap.size t V) (hT : t.T.length ≤ 1099511627776) (hO : t.O.length ≤ 1000) (hB : w.heap.size ≤ B) (hBV : B ≤ V.heap.size) (hz : w.heap.size + 3 ≤ V.heap.size) (h0 : trimL t.T = []) :
    Calls Tryd.prog 51 #[.pointer (some ⟨w.heap.size + 1, 0, none⟩), .pointer (some ⟨w.heap.size, 0, none⟩), .pointer (some ⟨w.heap.size + 2, 0, none⟩)] V fun e V' => e = .returned (.tuple #[]) ∧ LgAt B w.heap.size ⟨emitL t.O t.T t.f, [], 0⟩ V' ∧ KS (SL w.heap.size) V V' ∧ Below w.heap.size V V' := by
  have HST := Lib.hid (show Calls Tryd.prog 52 #[.pointer (some ⟨w.heap.size + 1, 0, none⟩)] V fun e V' => e = .returned (.string (bs t.T)) ∧ (Bld (w.heap.size + 1) (w.heap.size + 1) t.T V' ∧ Below (w.heap.size + 1) V V' ∧ OthK (w.heap.size + 1) V V') from Tryd.Builder_String_any_k (w.heap.size + 1) (w.heap.size + 1) t.T V h.bld (by omega))
  have HTR := Lib.hid (fun W (b : Below w.heap.size w W) => trim_in t.T (by unfold maxLen; omega) W (G12_on hG b))
  have HV := Lib.hid hV
  have HLG := Lib.hid h
  have HZ := Lib.hid hz
  have HBV := Lib.hid hBV
  rw [h0] at HTR
  rw [show emitL t.O t.T t.f = t.O by unfold emitL; rw [if_pos h0]]
  have e1 : bs [] = ⟨#[]⟩ := rfl
  rw [e1] at HTR
  clear hG hV h hT hO hB hBV hz h0 e1
  go_enter Tryd.func51, Tryd.ntmps51
  go_wp2_with (first
    | (go_at_call 52
       (with_reducible refine (HST.out).mono ?_)
       rintro e V1 ⟨rfl, hb1, b1, k1⟩
       have K1 := Lib.hid (ks_oth (L0 := w.heap.size) (b1.size) k1)
       have B1 := Lib.hid (b1.mono (Nat.le_succ w.heap.size))
       have L1 := Lib.hid (HLG.out.byB K1.out hb1)
       clear hb1 b1 k1)
    | (go_at_call 32
       (with_reducible refine (HTR.out _ (HV.out.trans B1.out)).mono ?_)
       rintro e V2 ⟨rfl, b2⟩
       have K2 := Lib.hid ((K1.out.wide (T := SL w.heap.size) (fun k o hx => SB_SL hx)).trans (KS.below b2))
       have B2 := Lib.hid (B1.out.trans (b2.mono (Nat.le_trans (by have := HZ.out; omega) K1.out.1)))
       have hL2 := L1.out.on b2
       have L2 := Lib.hid hL2
       have c2 := hL2.num.cell
       have f2 := hL2.num.frozen
       have HL3 := Lib.hid (show LgAt B w.heap.size ⟨t.O, t.T, 0⟩ (V2.setCell ⟨w.heap.size + 2, 0, none⟩ (.int .i64 0)) from hL2.num_set 0)
       clear b2 hL2)
    | (go_at_call 53
       (with_reducible refine (reset_call _ t.T _ HL3.out.bld).mono ?_)
       rintro e V4 ⟨rfl, hb4, k4, b4⟩
       have HB4 := Lib.hid hb4
       have K4 := Lib.hid k4
       have C4 := Lib.hid b4
       clear hb4 k4 b4))
  go_end0
  have K3 := KS.set (S := SL w.heap.size) V2 (w.heap.size + 2) 0 (.int .i64 0) (fun _ => .inr (.inr (.inl rfl)))
  refine ⟨rfl, ?_, (K2.out.trans K3).trans (K4.out.wide (fun k o hx => .inr (.inl hx))), (B2.out.trans ((Below.refl _ _).setCell (p := ⟨w.heap.size + 2, 0, none⟩) (show w.heap.size ≤ w.heap.size + 2 by omega) _)).trans (C4.out.mono (Nat.le_succ _))⟩
  exact HL3.out.byB (K4.out.wide (fun k o hx => .inl hx)) HB4.out
set_option maxRecDepth 100000 in
set_option maxHeartbeats 8000000 in
theorem end_some (B : Nat) (t : Lst) (w V : World) (hG : G12 w) (hV : Below w.heap.size w V) (h : LgAt B w.heap.size t V) (hT : t.T.length ≤ 1099511627776) (hO : t.O.length ≤ 1000) (hB : w.heap.size ≤ B) (hBV : B ≤ V.heap.size) (hz : w.heap.size + 3 ≤ V.heap.size) (h0 : trimL t.T ≠ []) :
    Calls Tryd.prog 51 #[.pointer (some ⟨w.heap.size + 1, 0, none⟩), .pointer (some ⟨w.heap.size, 0, none⟩), .pointer (some ⟨w.heap.size + 2, 0, none⟩)] V fun e V' => e = .returned (.tuple #[]) ∧ LgAt B w.heap.size ⟨emitL t.O t.T t.f, [], 0⟩ V' ∧ KS (SL w.heap.size) V V' ∧ Below w.heap.size V V' := by
  obtain ⟨i1, hi1, kz0, kz1, kz2⟩ := info_parts line_info
  have KI := Lib.hid hi1
  have KZ0 := Lib.hid kz0
  have KZ1 := Lib.hid kz1
  have KZ2 := Lib.hid kz2
  have HST := Lib.hid (show Calls Tryd.prog 52 #[.pointer (some ⟨w.heap.size + 1, 0, none⟩)] V fun e V' => e = .returned (.string (bs t.T)) ∧ (Bld (w.heap.size + 1) (w.heap.size + 1) t.T V' ∧ Below (w.heap.size + 1) V V' ∧ OthK (w.heap.size + 1) V V') from Tryd.Builder_String_any_k (w.heap.size + 1) (w.heap.size + 1) t.T V h.bld (by omega))
  have HTR := Lib.hid (fun W (b : Below w.heap.size w W) => trim_in t.T (by unfold maxLen; omega) W (G12_on hG b))
  have HV := Lib.hid hV
  have HLG := Lib.hid h
  have HZ := Lib.hid hz
  have HBV := Lib.hid hBV
  have HO := Lib.hid hO
  have HBB := Lib.hid hB
  obtain ⟨x, hx⟩ : ∃ x, x = trimL t.T := ⟨_, rfl⟩
  have HE := Lib.hid (show emitL t.O t.T t.f = t.O ++ [(t.f, x)] by unfold emitL; rw [if_neg h0, hx])
  rw [HE.out]
  rw [← hx] at HTR h0
  obtain ⟨S, hS⟩ : ∃ S, S = bs x := ⟨_, rfl⟩
  have e0 : S.toList.isEmpty = false := by rw [hS, bs_toList]; cases x with | nil => exact absurd rfl h0 | cons a b => rfl
  have e1 : (S.toList == []) = false := by rw [hS, bs_toList]; cases x with | nil => exact absurd rfl h0 | cons a b => rfl
  have e2 : S.toList ≠ [] := by rw [hS, bs_toList]; exact h0
  have HN := Lib.hid (show ([.int .i64 ((t.f : Nat) : Int), .string S] : List Value) = lnC [(t.f, x)] by rw [hS]; rfl)
  rw [← hS] at HTR
  clear hi1 kz0 kz1 kz2 hG hV h hT hO hB hBV hz h0 hx hS
  go_enter Tryd.func51, Tryd.ntmps51
  go_wp2_with (first
    | (go_at_call 52
       (with_reducible refine (HST.out).mono ?_)
       rintro e V1 ⟨rfl, hb1, b1, k1⟩
       have K1 := Lib.hid (ks_oth (L0 := w.heap.size) (b1.size) k1)
       have B1 := Lib.hid (b1.mono (Nat.le_succ w.heap.size))
       have L1 := Lib.hid (HLG.out.byB K1.out hb1)
       clear hb1 b1 k1)
    | (go_at_call 32
       (with_reducible refine (HTR.out _ (HV.out.trans B1.out)).mono ?_)
       rintro e V2 ⟨rfl, b2⟩
       have K2 := Lib.hid ((K1.out.wide (T := SL w.heap.size) (fun k o hx => SB_SL hx)).trans (KS.below b2))
       have B2 := Lib.hid (B1.out.trans (b2.mono (Nat.le_trans (by have := HZ.out; omega) K1.out.1)))
       have hL2 := L1.out.on b2
       have L2 := Lib.hid hL2
       have c2 := hL2.num.cell
       have f2 := hL2.num.frozen
       obtain ⟨vL, hbx, hrw⟩ := hL2.box
       have cL := hbx.cell
       have fL := hbx.frozen
       have HBX := Lib.hid hbx
       have HRW := Lib.hid hrw
       clear hbx hrw
       clear b2 hL2)
    | (at_builtin
       refine wpList_append_own _ rfl _ _ 42 rfl B 49 i1 _ 2 24 Tryd.underlying42 KI.out KZ0.out KZ1.out KZ2.out rfl (by omega) vL _ _ rfl (HRW.out.alloc _) ⟨V2.heap.size, 0, none⟩ 1 1 (lnC [(t.f, x)]) rfl rfl (news_lit _ _ _ _ HN.out) (lnC_one _) (by have := HO.out; unfold maxLen; omega) (by have := HO.out; omega) (by have := K2.out.1; have := HBV.out; simp; omega) ?_
       intro vA wA oA hA _
       obtain ⟨qA, cpA, rfl⟩ := own_form12 oA
       rw [← lnC_app] at oA
       obtain ⟨q1, q2, q3, q4⟩ := LgAt.put_line (O' := t.O ++ [(t.f, x)]) (L2.out.on (ball V2 _)) (HBX.out.alloc _) (HRW.out.alloc _) hA HBB.out (by have := K2.out.1; have := HZ.out; simp; omega) (by rw [List.length_append]; exact oA)
       have cA := q1.cell
       have fA := q1.frozen
       have Q2 := Lib.hid q2
       have Q3 := Lib.hid q3
       have Q4 := Lib.hid q4
       have c3 := q2.num.cell
       have f3 := q2.num.frozen
       have HL3 := Lib.hid (show LgAt B w.heap.size ⟨t.O ++ [(t.f, x)], t.T, 0⟩ ((wA.setCell ⟨w.heap.size, 0, none⟩ (.slice qA (t.O.length + 1) cpA)).setCell ⟨w.heap.size + 2, 0, none⟩ (.int .i64 0)) from q2.num_set 0)
       clear oA hA q1 q2 q3 q4)
    | (go_at_call 53
       (with_reducible refine (reset_call _ t.T _ HL3.out.bld).mono ?_)
       rintro e V4 ⟨rfl, hb4, k4, b4⟩
       have HB4 := Lib.hid hb4
       have K4 := Lib.hid k4
       have C4 := Lib.hid b4
       clear hb4 k4 b4))
  go_end0
  have A2 := ball V2 (.cells #[.int .i64 ((t.f : Nat) : Int), .string S] 49)
  have K5 := KS.set (S := SL w.heap.size) (wA.setCell ⟨w.heap.size, 0, none⟩ (.slice qA (t.O.length + 1) cpA)) (w.heap.size + 2) 0 (.int .i64 0) (fun _ => .inr (.inr (.inl rfl)))
  have z2 : w.heap.size ≤ V2.heap.size := by have := K2.out.1; have := HZ.out; omega
  refine ⟨rfl, ?_, (((K2.out.trans (KS.below A2)).trans Q3.out).trans K5).trans (K4.out.wide (fun k o hx => .inr (.inl hx))), (((B2.out.trans (A2.mono z2)).trans Q4.out).trans ((Below.refl _ _).setCell (p := ⟨w.heap.size + 2, 0, none⟩) (show w.heap.size ≤ w.heap.size + 2 by omega) _)).trans (C4.out.mono (Nat.le_succ _))⟩
  exact HL3.out.byB (K4.out.wide (fun k o hx => .inl hx)) HB4.out
/-- What the closure leaves. -/
theorem end_call (B : Nat) (t : Lst) (w V : World) (hG : G12 w) (hV : Below w.heap.size w V) (h : LgAt B w.heap.size t V) (hT : t.T.length ≤ 1099511627776) (hO : t.O.length ≤ 1000) (hB : w.heap.size ≤ B) (hBV : B ≤ V.heap.size) (hz : w.heap.size + 3 ≤ V.heap.size) :
    Calls Tryd.prog 51 #[.pointer (some ⟨w.heap.size + 1, 0, none⟩), .pointer (some ⟨w.heap.size, 0, none⟩), .pointer (some ⟨w.heap.size + 2, 0, none⟩)] V fun e V' => e = .returned (.tuple #[]) ∧ LgAt B w.heap.size ⟨emitL t.O t.T t.f, [], 0⟩ V' ∧ KS (SL w.heap.size) V V' ∧ Below w.heap.size V V' := by
  by_cases h0 : trimL t.T = []
  · exact end_none B t w V hG hV h hT hO hB hBV hz h0
  · exact end_some B t w V hG hV h hT hO hB hBV hz h0
end Go.Proofs.YtifjnioichfodaaDoor
