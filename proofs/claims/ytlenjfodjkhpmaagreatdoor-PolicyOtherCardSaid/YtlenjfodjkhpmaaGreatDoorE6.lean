/- What assignments come to, as the chapter says, as a function; what the policy of assignments keeps to. No condition. -/
import Derived.Test.YtlenjfodjkhpmaaGreatDoorRc
import Derived.Test.YtlenjfodjkhpmaaGreatDoorD2
namespace Go.Proofs.YtlenjfodjkhpmaaGreatDoor
set_option maxRecDepth 100000
open Go.RowKit
set_option linter.unusedVariables false

theorem restrictC : RestrictC G18 where
 on := fun h b => h.on b
 key := fun s w _ hs => key_c18 s (by unfold maxLen; omega) w
 set := fun p P a w hG _ hP hr h1 h2 h3 h4 h5 h6 => (set_c18 p P a w hG hP hr h1 h2 h3 h4 h5 h6).mono fun e w' ⟨p', v, he, ho, hn, hb⟩ => ⟨putC18 P.fm (turnR a.val).2, p', v, fun h => putC_is18 h, he, ho, hn, hb⟩
 words := fun s w _ hs => (words15 s w (by omega)).mono fun e w' ⟨q, c, he, _, hb⟩ => ⟨q, c, he, hb⟩
 bool := fun s w hG _ => bool15 s w hG.boo
 turned := fun s w _ _ => turned15 s w
 fname := fun n w hG _ => familyNameN n w hG.nm
 spaces := fun w hG => spacesN w hG.nm
set_option maxRecDepth 100000
open Go.RowKit
set_option linter.unusedVariables false
set_option linter.unusedSimpArgs false

abbrev kSvc : ByteArray := bs [83, 101, 114, 118, 105, 99, 101]
def stpR (P : Pol) (a : As) : Pol × List Nte :=
 if a.sec = kSvc then
  (if keyF a.key = true then ((setF P a.key a.val).1, (setF P a.key a.val).2.map (nteP a))
   else if keyR18 a.key = true then ((setR (putB18 P.fm a.val) P a.key a.val).1, (setR (putB18 P.fm a.val) P a.key a.val).2.map (nteP a))
   else (P, [nteP a (100, t60 a.key.data.toList)]))
 else (P, [nteP a (100, t60 a.sec.data.toList)])
def resS (r : Pol × List Nte) (a : As) : Pol × List Nte := ((stpR r.1 a).1, r.2 ++ (stpR r.1 a).2)
def newP : Pol := ⟨[], (0, []), 2147483648, (0, []), [], 0, 0, false, false, false, false⟩
def resR (l : List As) : Pol × List Nte := l.foldl resS (newP, [])
theorem res_fold19 : ∀ (l : List As) (P : Pol) (N : List Nte), l.foldl resS (P, N) = ((l.foldl resS (P, [])).1, N ++ (l.foldl resS (P, [])).2)
 | [], P, N => by simp
 | a :: r, P, N => by
   rw [List.foldl_cons, List.foldl_cons]
   show r.foldl resS ((stpR P a).1, N ++ (stpR P a).2) = _
   rw [res_fold19 r (stpR P a).1 (N ++ (stpR P a).2)]
   show _ = ((r.foldl resS ((stpR P a).1, [] ++ (stpR P a).2)).1, N ++ (r.foldl resS ((stpR P a).1, [] ++ (stpR P a).2)).2)
   rw [res_fold19 r (stpR P a).1 ([] ++ (stpR P a).2), List.nil_append, List.append_assoc]
theorem res_app19 (l m : List As) : resR (l ++ m) = ((m.foldl resS ((resR l).1, [])).1, (resR l).2 ++ (m.foldl resS ((resR l).1, [])).2) := by
 unfold resR
 rw [List.foldl_append]
 exact res_fold19 m _ _
theorem stp_oth19 {P : Pol} {a : As} (h : a.sec ≠ kSvc ∨ (keyF a.key = false ∧ keyR18 a.key = false)) : stpR P a = (P, [nteP a (100, t60 (if a.sec = kSvc then a.key else a.sec).data.toList)]) := by
 unfold stpR
 by_cases hs : a.sec = kSvc
 ·obtain ⟨h1, h2⟩ := h.resolve_left (fun e => e hs)
  rw [if_pos hs, if_pos hs, h1, h2, if_neg Bool.noConfusion, if_neg Bool.noConfusion]
 ·rw [if_neg hs, if_neg hs]
theorem res_oth19 {l m : List As} {a : As} (h : a.sec ≠ kSvc ∨ (keyF a.key = false ∧ keyR18 a.key = false)) : (resR (l ++ a :: m)).1 = (resR (l ++ m)).1 ∧ ∃ N, (resR (l ++ m)).2 = (resR l).2 ++ N ∧ (resR (l ++ a :: m)).2 = (resR l).2 ++ [nteP a (100, t60 (if a.sec = kSvc then a.key else a.sec).data.toList)] ++ N := by
 rw [res_app19, res_app19, List.foldl_cons]
 have hr : resS ((resR l).1, []) a = ((resR l).1, [nteP a (100, t60 (if a.sec = kSvc then a.key else a.sec).data.toList)]) := by
  unfold resS
  rw [stp_oth19 h]
  rfl
 rw [hr, res_fold19 m (resR l).1 [_]]
 exact ⟨rfl, (m.foldl resS ((resR l).1, [])).2, rfl, by rw [List.append_assoc]⟩
structure InvP (P : Pol) (n : Nat) : Prop where
 fl : Okl knownR P.fl.1 P.fl.2
 lg : Okl knownR P.lg.1 P.lg.2
 rs : Rises18 P
 fm : P.fm ≤ 2
 dn : P.dn < 4294967296
 sp : P.sp < 18446744073709551616
 ar : ∀ x ∈ P.ar, (Lit.int .i64 x).wf = true
 fa : ∀ x ∈ P.fa, x < 4294967296
 la : P.ar.length ≤ n
 lm : P.fa.length ≤ n
theorem InvP.ok {P : Pol} {n : Nat} (h : InvP P n) : P.Ok := ⟨by have := h.fl.mode; omega, by have := h.lg.mode; omega, by have := h.fm; omega, h.dn, h.sp, okl_act h.fl, okl_act h.lg, h.ar, h.fa⟩
theorem InvP.up {P : Pol} {n m : Nat} (h : InvP P n) (k : n ≤ m) : InvP P m := { h with la := Nat.le_trans h.la k, lm := Nat.le_trans h.lm k }
theorem inv_new19 : InvP newP 0 := ⟨⟨by decide, fun _ => rfl, List.Pairwise.nil, fun c hc => by cases hc⟩, ⟨by decide, fun _ => rfl, List.Pairwise.nil, fun c hc => by cases hc⟩, ⟨List.Pairwise.nil, List.Pairwise.nil⟩, by decide, by decide, by decide, fun x hx => (by cases hx), fun x hx => (by cases hx), Nat.le_refl _, Nat.le_refl _⟩
theorem inv_setR19 {P : Pol} {n : Nat} {pb : Bool} {k v : ByteArray} (h : InvP P n) : InvP (setR pb P k v).1 (n + v.size) := by
 obtain ⟨k1, k2, k3, _⟩ := setR_keeps (pb := pb) (P := P) (k := k) (v := v)
 obtain ⟨l1, l2, _⟩ := setR_len (pb := pb) (P := P) (k := k) (v := v)
 have ho := setR_ok (pb := pb) (k := k) (v := v) h.ok
 exact ⟨by rw [k1]; exact h.fl, by rw [k2]; exact h.lg, setR_rises h.rs, setR_fm h.fm, ho.d32, ho.s64, ho.a64, ho.m32, by have := h.la; omega, by have := h.lm; omega⟩
theorem inv_setF19 {P : Pol} {n : Nat} {k v : ByteArray} (h : InvP P n) : InvP (setF P k v).1 n := by
 unfold setF
 split
 ·have := stepA_ok (sfx := true) (v := v) (s := P.fl) h.fl
  exact { h with fl := by show Okl knownR (stepA true v P.fl).1.1 (stepA true v P.fl).1.2; rw [this]; exact step_ok grpX_known true v h.fl, rs := ⟨h.rs.ar, h.rs.fa⟩ }
 ·split
  ·have := stepA_ok (sfx := false) (v := v) (s := P.lg) h.lg
   exact { h with lg := by show Okl knownR (stepA false v P.lg).1.1 (stepA false v P.lg).1.2; rw [this]; exact step_ok grpX_known false v h.lg, rs := ⟨h.rs.ar, h.rs.fa⟩ }
  ·split
   ·split
    ·exact { h with dn := errnoF_ok v, rs := ⟨h.rs.ar, h.rs.fa⟩ }
    ·exact h
   ·exact h
def sizeV (l : List As) : Nat := (l.map fun a => a.val.size).sum
theorem inv_stp19 {P : Pol} {n : Nat} {a : As} (h : InvP P n) : InvP (stpR P a).1 (n + a.val.size) := by
 unfold stpR
 split
 ·split
  ·exact (inv_setF19 h).up (Nat.le_add_right _ _)
  ·split
   ·exact inv_setR19 h
   ·exact h.up (Nat.le_add_right _ _)
 ·exact h.up (Nat.le_add_right _ _)
theorem inv_fold19 : ∀ (l : List As) (r : Pol × List Nte) (n : Nat), InvP r.1 n → InvP (l.foldl resS r).1 (n + sizeV l)
 | [], r, n, h => h
 | a :: l, r, n, h => by
   have := inv_fold19 l (resS r a) (n + a.val.size) (inv_stp19 h)
   rw [List.foldl_cons, show n + sizeV (a :: l) = n + a.val.size + sizeV l by unfold sizeV; simp; omega]
   exact this
theorem res_inv19 (l : List As) : InvP (resR l).1 (sizeV l) := by
 have := inv_fold19 l (newP, []) 0 inv_new19
 rw [Nat.zero_add] at this
 exact this
end Go.Proofs.YtlenjfodjkhpmaaGreatDoor
