/- Where a name lies in a row of calls, by halves; a row with a call, without a call. Conditions: ascending calls, at most 100,000. -/
import Derived.Test.YtlenjfodjkhpmaaGreatDoorF2
import Derived.WalkSmall
namespace Go.Proofs.YtlenjfodjkhpmaaGreatDoor
set_option maxRecDepth 100000
open Go.Lib (hid)
open Go.RowKit
set_option linter.unusedVariables false
set_option linter.unusedSimpArgs false
attribute [local go_sem ↓] Go.wp_at_zero Go.wp_at_succ

theorem gtr16 (t : TypeId) (a b : ByteArray) : binOp .gtr t (.string a) (.string b) = pure (.bool !(Go.Op.bytesLess a.toList b.toList || a.toList == b.toList)) := by simp [binOp, Op.stringOp]
attribute [local go_sem] gtr16
def cmpF (x y : ByteArray) : Int := if lt16 x y = true then -1 else if x = y then 0 else 1
theorem nan_c (x : ByteArray) (w : World) : Calls Tryz.prog 263 #[.string x] w fun e w' => e = .returned (.bool false) ∧ w = w' := by
 have t1 : (x.toList == x.toList) = true := by simp
 have t2 : (x.toList != x.toList) = false := by simp
 go_enter Tryz.func263, Tryz.ntmps263
 go_wp2
 go_ret
 exact ⟨rfl, rfl⟩
theorem cmp_c (x y : ByteArray) (w : World) : Calls Tryz.prog 248 #[.string x, .string y] w fun e w' => e = .returned (.int .i64 (cmpF x y)) ∧ w = w' := by
 have HN := hid (fun (x : ByteArray) (W : World) => nan_c x W)
 unfold cmpF
 by_cases h : lt16 x y = true
 ·rw [if_pos h]
  have h1 : Go.Op.bytesLess x.toList y.toList = true := h
  clear h
  go_enter Tryz.func248, Tryz.ntmps248
  go_wp2_with (go_at_call 263; ((with_reducible refine (HN.out _ _).mono ?_); rintro e w1 ⟨rfl, rfl⟩))
  go_ret
  exact ⟨rfl, rfl⟩
 ·rw [if_neg h]
  have h1 : Go.Op.bytesLess x.toList y.toList = false := by
   cases e : Go.Op.bytesLess x.toList y.toList with
   | false => rfl
   | true => exact absurd e h
  by_cases he : x = y
  ·rw [if_pos he]
   have h2 : (x.toList == y.toList) = true := by rw [he]; simp
   clear h he
   go_enter Tryz.func248, Tryz.ntmps248
   go_wp2_with (go_at_call 263; ((with_reducible refine (HN.out _ _).mono ?_); rintro e w1 ⟨rfl, rfl⟩))
   go_ret
   exact ⟨rfl, rfl⟩
  ·rw [if_neg he]
   have h2 : (x.toList == y.toList) = false := beq_eq_false_iff_ne.2 (fun e => he (list_of_bytes10 e))
   clear h he
   go_enter Tryz.func248, Tryz.ntmps248
   go_wp2_with (go_at_call 263; ((with_reducible refine (HN.out _ _).mono ?_); rintro e w1 ⟨rfl, rfl⟩))
   go_ret
   exact ⟨rfl, rfl⟩
theorem place1_c (x : ByteArray) (a : Int) (s : ByteArray) (w : World) : Calls Tryz.prog 247 #[.agg #[.string x, .int .u32 a], .string s] w fun e w' => e = .returned (.int .i64 (cmpF x s)) ∧ Below w.heap.size w w' := by
 have HC := hid (fun (W : World) => cmp_c x s W)
 have HB := hid (below16 w (.cells #[.string x, .int .u32 a] 67))
 go_enter Tryz.func247, Tryz.ntmps247
 go_wp2_with (go_at_call 248; ((with_reducible refine (HC.out _).mono ?_); rintro e w1 ⟨rfl, rfl⟩))
 go_ret
 exact ⟨rfl, HB.out⟩
theorem lt_pos {L : List Cl} {s : ByteArray} (h : Asc16 L) {t : Nat} {c : Cl} (hc : L[t]? = some c) : lt16 c.1 s = true ↔ t < posC L s := by
 constructor
 ·intro e
  rcases Nat.lt_or_ge t (posC L s) with h1 | h1
  ·exact h1
  ·rw [pos_after h h1 hc] at e; cases e
 ·exact fun e => pos_before h e hc
theorem cmp_neg {x y : ByteArray} : cmpF x y < 0 ↔ lt16 x y = true := by
 unfold cmpF
 by_cases h : lt16 x y = true
 ·rw [if_pos h]; simp [h]
 ·rw [if_neg h]
  constructor
  ·intro e; split at e <;> omega
  ·exact fun e => absurd e h
set_option maxHeartbeats 4000000 in
theorem bsearch_c (W : World) (q : Option Addr) (n c : Nat) (L : List Cl) (s : ByteArray) (hl : n = L.length) (hA : Asc16 L) (hn : n ≤ 100000) (h : LsAt W q L) : Calls Tryz.prog 246 #[.slice q n c, .string s, .func (.func 247) #[] #[]] W fun e w' => e = .returned (.tuple #[.int .i64 (posC L s : Nat), .bool (atC L s)]) ∧ Below W.heap.size W w' := by
 have HC := hid (fun (x : ByteArray) (a : Int) (W : World) => place1_c x a s W)
 have HR := hid (fun (W' : World) (b : Below W.heap.size W W') => h.on b)
 have HA := hid hA
 have HL := hid hl
 have HP := hid (pos_le L s)
 obtain ⟨P, hP⟩ : ∃ P, P = posC L s := ⟨_, rfl⟩
 obtain ⟨T, hT⟩ : ∃ T, T = atC L s := ⟨_, rfl⟩
 have HPP := hid hP
 have HTT := hid hT
 rw [← hP, ← hT]
 rw [← hP, ← hl] at HP
 clear h hA hl hP hT
 go_enter Tryz.func246, Tryz.ntmps246
 go_wp2
 go_loopw [9, 10] (fun v9 v10 wr => ∃ lo hi : Nat, v9 = .int .i64 lo ∧ v10 = .int .i64 hi ∧ lo ≤ P ∧ P ≤ hi ∧ hi ≤ n ∧ Hid (Below W.heap.size W wr)) (fun v9 v10 _ => (intOf v10 - intOf v9).toNat)
 case atStart => exact ⟨0, n, rfl, rfl, Nat.zero_le _, HP.out, Nat.le_refl _, hid (Below.refl _ _)⟩
 case round =>
  obtain ⟨lo, hi, rfl, rfl, h1, h2, h3, HB⟩ := hrel
  obtain ⟨V0, rfl⟩ : ∃ wo : World, wo = wr := ⟨_, rfl⟩
  by_cases hlt : lo < hi
  ·obtain ⟨m, hm⟩ : ∃ m, m = (lo + hi) / 2 := ⟨_, rfl⟩
   have hmn : m < L.length := by have := HL.out; omega
   have hx : L[m]? = some (L[m]'hmn) := List.getElem?_eq_getElem _
   obtain ⟨⟨x, a⟩, he⟩ : ∃ e, e = L[m]'hmn := ⟨_, rfl⟩
   rw [← he] at hx
   obtain ⟨g, o, rfl, c0, c1⟩ := (HR.out _ HB.out) m _ hx
   simp only at c0 c1
   obtain ⟨ai, hai⟩ : ∃ v, v = ((a : Nat) : Int) := ⟨_, rfl⟩
   rw [← hai] at c1
   have hlp := hid (lt_pos (s := s) HA.out hx)
   have k1 : (lo : Int) < hi := by omega
   have k2 : ((lo : Int) + (hi : Int)) / 2 = (m : Nat) := by omega
   have k3 : (m : Int) < n := by omega
   have k4 : (0 : Int) ≤ m := by omega
   have k5 : m < n := by omega
   have HM := hid hm
   clear hx he hai hmn hm
   by_cases hc : cmpF x s < 0
   ·have hmp := hid (hlp.out.1 (cmp_neg.1 hc))
    rw [← HPP.out] at hmp
    go_wp2_with (go_at_call 247; ((with_reducible refine (HC.out _ _ _).mono ?_); rintro e w1 ⟨rfl, b1⟩))
    go_roundw
    case rel => exact ⟨m + 1, hi, by go_num, rfl, hmp.out, h2, h3, hid (thn16 HB.out b1)⟩
    case measure => have := HM.out; first | (simp [intOf]; done) | (simp [intOf]; omega)
   ·have hmp := hid (show posC L s ≤ m by
     rcases Nat.lt_or_ge m (posC L s) with e | e
     ·exact absurd (cmp_neg.2 (hlp.out.2 e)) hc
     ·exact e)
    rw [← HPP.out] at hmp
    go_wp2_with (go_at_call 247; ((with_reducible refine (HC.out _ _ _).mono ?_); rintro e w1 ⟨rfl, b1⟩))
    go_roundw
    case rel => exact ⟨lo, m, rfl, rfl, h1, hmp.out, by omega, hid (thn16 HB.out b1)⟩
    case measure => have := HM.out; first | (simp [intOf]; done) | (simp [intOf]; omega)
  ·have q1 : lo = P := by omega
   have q2 : hi = P := by omega
   subst q1
   subst q2
   clear hlt
   by_cases hn : hi < n
   ·have hmn : hi < L.length := by have := HL.out; omega
    have hx : L[hi]? = some (L[hi]'hmn) := List.getElem?_eq_getElem _
    obtain ⟨⟨x, a⟩, he⟩ : ∃ e, e = L[hi]'hmn := ⟨_, rfl⟩
    rw [← he] at hx
    obtain ⟨g, o, rfl, c0, c1⟩ := (HR.out _ HB.out) hi _ hx
    simp only at c0 c1
    obtain ⟨ai, hai⟩ : ∃ v, v = ((a : Nat) : Int) := ⟨_, rfl⟩
    rw [← hai] at c1
    have hnl : lt16 x s = false := pos_after HA.out (by rw [← HPP.out]; exact Nat.le_refl _) hx
    have hT2 : T = decide (x = s) := by rw [HTT.out]; unfold atC; rw [← HPP.out, hx]
    have HV := hid (show (cmpF x s == 0) = T by
     rw [hT2]
     unfold cmpF
     rw [hnl, if_neg Bool.noConfusion]
     by_cases e : x = s
     ·rw [if_pos e, decide_eq_true e]; rfl
     ·rw [if_neg e, decide_eq_false e]; rfl)
    have k0 : ¬ (hi : Int) < hi := by omega
    have k3 : (hi : Int) < n := by omega
    have k4 : (0 : Int) ≤ hi := by omega
    clear hx he hai hmn hnl hT2
    go_wp2_with (go_at_call 247; ((with_reducible refine (HC.out _ _ _).mono ?_); rintro e w1 ⟨rfl, b1⟩))
    go_ret2
    exact ⟨by rw [← HV.out]; first | rfl | simp, thn16 HB.out b1⟩
   ·have q3 : hi = n := by omega
    subst q3
    have hT2 := hid (show T = false by
     rw [HTT.out]
     unfold atC
     rw [← HPP.out, List.getElem?_eq_none (by have := HL.out; omega)])
    have k0 : ¬ (hi : Int) < hi := by omega
    go_wp2
    go_ret2
    exact ⟨by rw [hT2.out]; rfl, HB.out⟩
theorem place_c (W : World) (q : Option Addr) (n c : Nat) (L : List Cl) (s : ByteArray) (hl : n = L.length) (hA : Asc16 L) (hn : n ≤ 100000) (h : LsAt W q L) : Calls Tryz.prog 228 #[.slice q n c, .string s] W fun e w' => e = .returned (.tuple #[.int .i64 (posC L s : Nat), .bool (atC L s)]) ∧ Below W.heap.size W w' := by
 have HC := hid (bsearch_c W q n c L s hl hA hn h)
 clear hl hA hn h
 generalize posC L s = P at HC ⊢
 generalize atC L s = T at HC ⊢
 go_enter Tryz.func228, Tryz.ntmps228
 go_wp2_with (go_at_call 246; ((with_reducible refine (HC.out).mono ?_); rintro e w1 ⟨rfl, b1⟩))
 go_ret2
 exact ⟨rfl, b1⟩
theorem blk_on16 {w w' : World} {k : Nat} {o : Obj} (h : w.heap[k]? = some o) (b : Below w.heap.size w w') : w'.heap[k]? = some o := (b.block k (Array.getElem?_eq_some_iff.1 h).1).trans h
theorem grown_trans {a b c : World} {r : Option Nat} (h : a.grownBy b r) (k : b.grownBy c r) : a.grownBy c r :=
 ⟨k.os.trans h.os, k.tape.trans h.tape, k.output.trans h.output, Nat.le_trans h.size k.size, fun j hj hne => (k.block j (Nat.lt_of_lt_of_le hj h.size) hne).trans (h.block j hj hne)⟩
theorem grown_below {a b : World} {r : Option Nat} (h : Below a.heap.size a b) : a.grownBy b r := ⟨h.os, h.tape, h.output, h.size, fun j hj _ => h.block j hj⟩
theorem set_row {xs : List Value} {L : List Cl} {p : Nat} {s : ByteArray} {a : Nat} (hx : xs = rowC encC L) (hp : p < L.length) : (xs.set (p * 2) (.string s)).set (p * 2 + 1) (.int .u32 (a : Nat)) = rowC encC (L.take p ++ (s, a) :: L.drop (p + 1)) := by
 subst hx
 have e : L = L.take p ++ L[p] :: L.drop (p + 1) := by rw [List.getElem_cons_drop, List.take_append_drop]
 conv => lhs; rw [e]
 rw [rowC_app, rowC_app, show rowC encC (L[p] :: L.drop (p + 1)) = .string L[p].1 :: .int .u32 (L[p].2 : Nat) :: rowC encC (L.drop (p + 1)) from rfl]
 have hl : (rowC encC (L.take p)).length = p * 2 := by rw [rowC_length encC_len, List.length_take, Nat.min_eq_left (by omega)]
 rw [List.set_append_right _ _ (by omega), hl, Nat.sub_self, List.set_append_right _ _ (by omega), hl, show p * 2 + 1 - p * 2 = 1 by omega]
 rfl
set_option maxHeartbeats 4000000 in
theorem with_c (W : World) (B : Nat) (v : Value) (n : Nat) (L : List Cl) (s : ByteArray) (a : Nat) (hO : W.ownsRow B 67 2 v n (rowC encC L)) (hn : n = L.length) (hA : Asc16 L) (hb : n ≤ 100000) (hBW : B ≤ W.heap.size) : Calls Tryz.prog 205 #[v, .agg #[.string s, .int .u32 a]] W fun e w' => ∃ v' n', e = .returned v' ∧ n' = (putC L s a).length ∧ w'.ownsRow B 67 2 v' n' (rowC encC (putC L s a)) ∧ W.grownBy w' v.ownBlock ∧ ∀ k, v'.ownBlock = some k → v.ownBlock = some k ∨ W.heap.size ≤ k := by
 obtain ⟨q, c, rfl⟩ := own16 hO
 obtain ⟨W0, hW0⟩ : ∃ W0, W0 = W.alloc (.cells #[.string s, .int .u32 (a : Nat)] 67) := ⟨_, rfl⟩
 have B0 : Below W.heap.size W W0 := hW0 ▸ below16 W _
 have S0 : W0.heap.size = W.heap.size + 1 := by rw [hW0, World.size_alloc]
 have X0 := hid (show W0.heap[W.heap.size]? = some (.cells #[.string s, .int .u32 (a : Nat)] 67 (0, 0)) by rw [hW0]; exact heap_alloc_new W _)
 have O0 := owns_on16 hO B0
 have HP := hid (place_c W0 q n c L s hn hA hb (LsAt.of_own O0 hn))
 have BK := hid (hO.lt)
 obtain ⟨P, hP⟩ : ∃ P, P = posC L s := ⟨_, rfl⟩
 by_cases hT : atC L s = true
 ·have hv := put_there hA hT a
  have hlt := at_lt hT
  rw [hT] at HP
  rw [← hP] at HP hv hlt
  obtain ⟨g, cap, hq, _, _⟩ := O0.form (show 0 < n by omega)
  injection hq with hq1 _ hq2
  subst hq1 hq2
  have O0 := hid O0
  have HL := hid hn
  have HV := hid hv
  have HLT := hid hlt
  have B0 := hid B0
  obtain ⟨ai, hai⟩ : ∃ v, v = ((a : Nat) : Int) := ⟨_, rfl⟩
  have HAI := hid hai
  rw [← hai] at X0 hW0 ⊢
  have k1 : (P : Int) < n := by omega
  have k2 : (0 : Int) ≤ P := by omega
  have HW := hid hW0
  have S0 := hid S0
  clear hO hA hb hBW hP hT hv hlt hn hai hW0
  go_enter Tryz.func205, Tryz.ntmps205
  go_wp2_with (go_at_call 228
               rw [← HW.out]
               ((with_reducible refine (HP.out).mono ?_); rintro e w1 ⟨rfl, b1⟩)
               have x0 := (cell_of_row w1 W.heap.size 0 _ _ (0, 0) (blk_on16 X0.out b1)).trans (show _ = some (Value.string s) from rfl)
               have x1 := (cell_of_row w1 W.heap.size 1 _ _ (0, 0) (blk_on16 X0.out b1)).trans (show _ = some (Value.int .u32 ai) from rfl)
               have O1 := owns_on16 O0.out b1
               have B1 := hid (thn16 B0.out b1)
               have hyl := O1.1
               have c0 := (O1.cellAt (P * 2) (by omega))
               have c1 := (O1.cellAt (P * 2 + 1) (by omega))
               rw [List.getElem?_eq_getElem (by rw [hyl]; omega)] at c0 c1
               have f0 := O1.frozenAt (P * 2)
               have f1 := O1.frozenAt (P * 2 + 1)
               obtain ⟨y0, hy0⟩ : ∃ y, y = (rowC encC L)[P * 2]'(by rw [hyl]; omega) := ⟨_, rfl⟩
               obtain ⟨y1, hy1⟩ : ∃ y, y = (rowC encC L)[P * 2 + 1]'(by rw [hyl]; omega) := ⟨_, rfl⟩
               rw [← hy0] at c0
               rw [← hy1] at c1
               have st := O1.stored (P * 2) (.string s)
               have st2 := st.1.stored (P * 2 + 1) (.int .u32 ai)
               have HS := hid st2.1
               have HG := hid (grown_trans (grown_below B1.out) (grown_trans st.2 st2.2))
               clear b1 O1 hyl hy0 hy1 st st2)
  go_ret
  exact ⟨_, n, rfl, by rw [HV.out, List.length_append, List.length_cons, List.length_take, List.length_drop, Nat.min_eq_left (by have := HLT.out; omega)]; have := HLT.out; have := HL.out; omega, by rw [HV.out, ← set_row rfl HLT.out, ← HAI.out]; exact HS.out, HG.out, fun k e => Or.inl e⟩
 ·have hT : atC L s = false := by cases e : atC L s with | false => rfl | true => exact absurd e hT
  have hv := put_new hA hT a
  have hle := pos_le L s
  rw [hT] at HP
  rw [← hP] at HP hv hle
  have HI := hid (fun (W1 : World) (b1 : Below W0.heap.size W0 W1) (V : Nat) (hV : W1.heap.size = V) => insert_l (W1.alloc (.cells #[.string s, .int .u32 (a : Nat)] 67)) B (.slice q n c) n V P L s a ((owns_on16 O0 b1).alloc _) hn (by omega) hb (by rw [World.size_alloc]; have := b1.size; omega) (by rw [← hV]; exact heap_alloc_new W1 _) (fun e => by have := (BK.out _ e).2; have := b1.size; omega))
  have B0 := hid B0
  have HL := hid hn
  have HV := hid hv
  have HLE := hid hle
  obtain ⟨ai, hai⟩ : ∃ v, v = ((a : Nat) : Int) := ⟨_, rfl⟩
  rw [← hai] at X0 hW0 HI ⊢
  have HW := hid hW0
  clear hO hA hb hBW hP hT hv hle hn O0 hai S0 hW0
  go_enter Tryz.func205, Tryz.ntmps205
  go_wp2_with (first
   | (go_at_call 228
      rw [← HW.out]
      ((with_reducible refine (HP.out).mono ?_); rintro e w1 ⟨rfl, b1⟩)
      have x0 := (cell_of_row w1 W.heap.size 0 _ _ (0, 0) (blk_on16 X0.out b1)).trans (show _ = some (Value.string s) from rfl)
      have x1 := (cell_of_row w1 W.heap.size 1 _ _ (0, 0) (blk_on16 X0.out b1)).trans (show _ = some (Value.int .u32 ai) from rfl)
      have BB1 := hid b1
      clear b1)
   | (go_at_call 229
      ((with_reducible refine (HI.out w1 BB1.out _ rfl).mono ?_); rintro e w2 ⟨v2, rfl, o2, g2, l2⟩)
      have O2 := hid o2
      have G2 := hid (grown_trans (grown_below (thn16 B0.out BB1.out)) (grown_trans (grown_below (below16 w1 _)) g2))
      have L2 := hid (show ∀ k, v2.ownBlock = some k → (Value.slice q n c).ownBlock = some k ∨ W.heap.size ≤ k from fun k e => (l2 k e).imp id (fun h => by rw [World.size_alloc] at h; have := (thn16 B0.out BB1.out).size; omega))
      clear o2 g2 l2))
  go_ret
  exact ⟨v2, n + 1, rfl, by rw [HV.out, List.length_append, List.length_cons, List.length_take, List.length_drop, Nat.min_eq_left (by have := HLE.out; omega)]; have := HLE.out; have := HL.out; omega, by rw [HV.out]; exact O2.out, G2.out, L2.out⟩
set_option maxHeartbeats 4000000 in
theorem without_c (W : World) (B : Nat) (v : Value) (n : Nat) (L : List Cl) (s : ByteArray) (hO : W.ownsRow B 67 2 v n (rowC encC L)) (hn : n = L.length) (hA : Asc16 L) (hb : n ≤ 100000) (hBW : B ≤ W.heap.size) : Calls Tryz.prog 206 #[v, .string s] W fun e w' => ∃ v' n', e = .returned v' ∧ n' = (takeC L s).length ∧ w'.ownsRow B 67 2 v' n' (rowC encC (takeC L s)) ∧ W.grownBy w' v.ownBlock ∧ ∀ k, v'.ownBlock = some k → v.ownBlock = some k ∨ W.heap.size ≤ k := by
 obtain ⟨q, c, rfl⟩ := own16 hO
 have HP := hid (place_c W q n c L s hn hA hb (LsAt.of_own hO hn))
 obtain ⟨P, hP⟩ : ∃ P, P = posC L s := ⟨_, rfl⟩
 by_cases hT : atC L s = true
 ·have hv := take_there hA hT
  have hlt := at_lt hT
  rw [hT] at HP
  rw [← hP] at HP hv hlt
  obtain ⟨g, cap, hq, _, _⟩ := hO.form (show 0 < n by omega)
  injection hq with hq1 _ hq2
  subst hq1 hq2
  have HD := hid (fun (W1 : World) (b1 : Below W.heap.size W W1) => delete_l W1 B g n c P (P + 1) L (owns_on16 hO b1) hn (by omega) (by omega) hb)
  have HL := hid hn
  have HV := hid hv
  have HLT := hid hlt
  have k3 : IntKind.i64.wrap ((P : Int) + 1) = (P : Int) + 1 := by rw [IntKind.wrap_i64]; omega
  clear hO hA hb hBW hP hT hv hlt hn
  go_enter Tryz.func206, Tryz.ntmps206
  go_wp2_with (first
   | (go_at_call 228
      ((with_reducible refine (HP.out).mono ?_); rintro e w1 ⟨rfl, b1⟩)
      have BB1 := hid b1
      clear b1)
   | (go_at_call 230
      go_loud (refine (HD.out w1 BB1.out).mono ?_)
      rintro e w2 ⟨rfl, o2, g2⟩
      have O2 := hid o2
      have G2 := hid (grown_trans (grown_below BB1.out) g2)
      clear o2 g2))
  go_ret
  exact ⟨_, _, rfl, by rw [HV.out, List.length_append, List.length_take, List.length_drop, ← HL.out, Nat.min_eq_left (by have := HLT.out; have := HL.out; omega)], by rw [HV.out]; exact O2.out, G2.out, fun k e => Or.inl e⟩
 ·have hT : atC L s = false := by cases e : atC L s with | false => rfl | true => exact absurd e hT
  have HV := hid (take_none hA hT)
  rw [hT] at HP
  rw [← hP] at HP
  have HO := hid hO
  have HL := hid hn
  clear hO hA hb hBW hP hT hn
  go_enter Tryz.func206, Tryz.ntmps206
  go_wp2_with (go_at_call 228
               ((with_reducible refine (HP.out).mono ?_); rintro e w1 ⟨rfl, b1⟩)
               have O1 := hid (owns_on16 HO.out b1)
               have G1 := hid (grown_below (r := (Value.slice q n c).ownBlock) b1)
               clear b1)
  go_ret
  exact ⟨_, n, rfl, by rw [HV.out]; exact HL.out, by rw [HV.out]; exact O1.out, G1.out, fun k e => Or.inl e⟩
end Go.Proofs.YtlenjfodjkhpmaaGreatDoor
