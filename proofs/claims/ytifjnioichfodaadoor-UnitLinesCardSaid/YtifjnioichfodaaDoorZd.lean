/- The lines as an iterator over a string's lines hands them over; the logical lines, a line at a time: what is laid down, what is begun, and by which number. Plain lists, no program. -/
import Derived.Test.YtifjnioichfodaaDoorZb
namespace Go.Proofs.YtifjnioichfodaaDoor
set_option linter.unusedVariables false

theorem ends_cut (a : List UInt8) (c : UInt8) : Lib.hasSuffix (a ++ [c]) [c] = true ∧ Lib.trimSuffix (a ++ [c]) [c] = a := by
  have h : Lib.hasSuffix (a ++ [c]) [c] = true := by
    unfold Lib.hasSuffix
    rw [List.isSuffixOf_iff_suffix]
    exact List.suffix_append a [c]
  refine ⟨h, ?_⟩
  unfold Lib.trimSuffix
  rw [if_pos h, List.length_append]
  simp
theorem ends_not {a : List UInt8} {c : UInt8} (h : c ∉ a) : Lib.trimSuffix a [c] = a := by
  unfold Lib.trimSuffix
  rw [if_neg]
  unfold Lib.hasSuffix
  rw [List.isSuffixOf_iff_suffix]
  exact fun h2 => h (h2.subset (List.mem_singleton.2 rfl))
theorem suf_con (s : List UInt8) (c : UInt8) : Lib.hasSuffix s [c] = (s.getLast? == some c) := by
  rcases List.eq_nil_or_concat s with rfl | ⟨Y, d, rfl⟩
  · rfl
  · rw [List.concat_eq_append, List.getLast?_concat, Bool.eq_iff_iff, beq_iff_eq]
    unfold Lib.hasSuffix
    rw [List.isSuffixOf_iff_suffix]
    constructor
    · rintro ⟨t, ht⟩
      have := congrArg List.getLast? ht
      rw [List.getLast?_concat, List.getLast?_concat] at this
      exact this.symm
    · rintro h
      injection h with h
      subst h
      exact List.suffix_append Y [d]
theorem nl_head {a b : List UInt8} (h : ∀ c ∈ a, c ≠ 10) : headN (a ++ 10 :: b) = a ++ [10] ∧ tailN (a ++ 10 :: b) = b := by
  induction a with
  | nil => exact ⟨by simp [headN], by simp [tailN]⟩
  | cons c r ih =>
    obtain ⟨i1, i2⟩ := ih (fun x hx => h x (List.mem_cons_of_mem _ hx))
    show headN (c :: (r ++ 10 :: b)) = _ ∧ tailN (c :: (r ++ 10 :: b)) = _
    unfold headN tailN
    rw [if_neg (h c (List.mem_cons_self ..)), if_neg (h c (List.mem_cons_self ..)), i1, i2]
    exact ⟨rfl, rfl⟩
theorem nl_self {a : List UInt8} (h : ∀ c ∈ a, c ≠ 10) : headN a = a ∧ tailN a = [] := by
  induction a with
  | nil => exact ⟨rfl, rfl⟩
  | cons c r ih =>
    obtain ⟨i1, i2⟩ := ih (fun x hx => h x (List.mem_cons_of_mem _ hx))
    unfold headN tailN
    rw [if_neg (h c (List.mem_cons_self ..)), if_neg (h c (List.mem_cons_self ..)), i1, i2]
    exact ⟨rfl, rfl⟩
theorem linA_cuts : ∀ (l cur : List UInt8), (∀ c ∈ cur, c ≠ 10) → linA cur l = (cutsL (cur ++ l)).map (fun t => Lib.trimSuffix t [10])
  | [], cur, h => by
    rw [List.append_nil]
    unfold linA
    by_cases h0 : cur = []
    · rw [if_pos h0, h0]; rfl
    · obtain ⟨h1, h2⟩ := nl_self h
      rw [if_neg h0, cuts_head h0, h1, h2]
      show [cur] = [Lib.trimSuffix cur [10]]
      rw [ends_not (fun hm => h _ hm rfl)]
  | c :: r, cur, h => by
    unfold linA
    by_cases hc : c = 10
    · subst hc
      obtain ⟨h1, h2⟩ := nl_head (b := r) h
      rw [if_pos rfl, cuts_head (by simp), h1, h2, List.map_cons, (ends_cut cur 10).2, linA_cuts r [] (fun c hc => by cases hc)]; rfl
    · rw [if_neg hc, linA_cuts r (cur ++ [c]) (fun d hd => by
        rcases List.mem_append.1 hd with hd | hd
        · exact h d hd
        · rw [List.mem_singleton.1 hd]; exact hc), List.append_assoc]; rfl
theorem linL_cuts (l : List UInt8) : linL l = (cutsL l).map (fun t => Lib.trimSuffix t [10]) := by
  unfold linL
  rw [linA_cuts l [] (fun c hc => by cases hc)]; rfl
/-- What is laid down, what is begun, by which number. -/
structure Lst where
  O : List (Nat × List UInt8)
  T : List UInt8
  f : Nat
def emitL (O : List (Nat × List UInt8)) (T : List UInt8) (f : Nat) : List (Nat × List UInt8) := if trimL T = [] then O else O ++ [(f, trimL T)]
def numG (k f : Nat) : Nat := if f = 0 then k + 1 else f
def stepG (k : Nat) (s : List UInt8) (t : Lst) : Lst := if comL s then t else if conL s then ⟨t.O, t.T ++ (s.dropLast ++ [32]), numG k t.f⟩ else ⟨emitL t.O (t.T ++ s) (numG k t.f), [], 0⟩
def stA (R : List (List UInt8)) : Nat → Lst
  | 0 => ⟨[], [], 0⟩
  | k + 1 => match R[k]? with | some s => stepG k s (stA R k) | none => stA R k
theorem stA_at {R : List (List UInt8)} {k : Nat} {s : List UInt8} (h : R[k]? = some s) : stA R (k + 1) = stepG k s (stA R k) := by
  show (match R[k]? with | some s => stepG k s (stA R k) | none => stA R k) = _
  rw [h]
def ansG (N : Nat) (R : List (List UInt8)) (t : Lst) : List (Nat × List UInt8) := if t.f = 0 then t.O ++ logR N R else emitL t.O (t.T ++ (joinL R).1) t.f ++ logR N (joinL R).2
theorem log_join {N k : Nat} {s : List UInt8} {r : List (List UInt8)} (h : comL s = false) (hN : N = k + (r.length + 1)) (O : List (Nat × List UInt8)) : O ++ logR N (s :: r) = emitL O (joinL (s :: r)).1 (k + 1) ++ logR N (joinL (s :: r)).2 := by
  unfold emitL
  by_cases ht : trimL (joinL (s :: r)).1 = []
  · rw [if_pos ht, logR_none h ht]
  · rw [if_neg ht, logR_some h ht, show N - r.length = k + 1 by omega, List.append_assoc]; rfl
theorem numG_pos (k f : Nat) : numG k f ≠ 0 := by unfold numG; split <;> omega
theorem ans_step {N k : Nat} {s : List UInt8} {r : List (List UInt8)} {t : Lst} (h0 : t.f = 0 → t.T = []) (hN : N = k + (r.length + 1)) :
    ansG N (s :: r) t = ansG N r (stepG k s t) ∧ ((stepG k s t).f = 0 → (stepG k s t).T = []) := by
  unfold stepG
  cases hc : comL s with
  | true =>
    rw [if_pos rfl]
    refine ⟨?_, h0⟩
    unfold ansG
    have e : joinL (s :: r) = joinL r := by conv => lhs; unfold joinL
                                            rw [hc]; rfl
    rw [logR_com hc, e]
  | false =>
    rw [if_neg Bool.false_ne_true]
    have e1 : ansG N (s :: r) t = emitL t.O (t.T ++ (joinL (s :: r)).1) (numG k t.f) ++ logR N (joinL (s :: r)).2 := by
      unfold ansG numG
      by_cases hf : t.f = 0
      · rw [if_pos hf, if_pos hf, h0 hf, List.nil_append]
        exact log_join hc hN t.O
      · rw [if_neg hf, if_neg hf]
    rw [e1]
    cases hn : conL s with
    | true =>
      rw [if_pos rfl]
      have e : joinL (s :: r) = (s.dropLast ++ [32] ++ (joinL r).1, (joinL r).2) := by
        conv => lhs; unfold joinL
        rw [hc, if_neg Bool.false_ne_true, if_pos hn]
      refine ⟨?_, fun h => absurd h (numG_pos _ _)⟩
      rw [e]
      unfold ansG
      rw [if_neg (numG_pos _ _)]
      simp only [List.append_assoc]
    | false =>
      rw [if_neg Bool.false_ne_true]
      have e : joinL (s :: r) = (s, r) := by
        conv => lhs; unfold joinL
        rw [hc, if_neg Bool.false_ne_true, hn, if_neg Bool.false_ne_true]
      refine ⟨?_, fun _ => rfl⟩
      rw [e]; rfl
theorem st_ans (R : List (List UInt8)) : ∀ (k : Nat), k ≤ R.length → ansG R.length (R.drop k) (stA R k) = logR R.length R ∧ ((stA R k).f = 0 → (stA R k).T = [])
  | 0, _ => ⟨rfl, fun _ => rfl⟩
  | k + 1, h => by
    obtain ⟨h1, h2⟩ := st_ans R k (by omega)
    have hk : R[k]? = some (R[k]'(by omega)) := List.getElem?_eq_getElem _
    have hd : R.drop k = R[k]'(by omega) :: R.drop (k + 1) := List.drop_eq_getElem_cons _
    rw [stA_at hk]
    have := ans_step (N := R.length) (k := k) (s := R[k]'(by omega)) (r := R.drop (k + 1)) h2 (by rw [List.length_drop]; omega)
    rw [← hd, h1] at this
    exact ⟨this.1.symm, this.2⟩
theorem emit_nil (O : List (Nat × List UInt8)) (f : Nat) : emitL O [] f = O := by unfold emitL; exact if_pos rfl
theorem st_end (R : List (List UInt8)) : emitL (stA R R.length).O (stA R R.length).T (stA R R.length).f = logR R.length R := by
  obtain ⟨h1, h2⟩ := st_ans R R.length (Nat.le_refl _)
  rw [← h1, List.drop_length]
  unfold ansG
  by_cases hf : (stA R R.length).f = 0
  · rw [if_pos hf, h2 hf, emit_nil, logR_nil, List.append_nil]
  · rw [if_neg hf]
    show _ = emitL _ (_ ++ []) _ ++ []
    rw [List.append_nil, List.append_nil]
theorem emit_len (O : List (Nat × List UInt8)) (T : List UInt8) (f : Nat) : (emitL O T f).length ≤ O.length + 1 := by
  unfold emitL
  split
  · omega
  · simp
theorem st_len (R : List (List UInt8)) (m : Nat) (hm : ∀ s ∈ R, s.length ≤ m) : ∀ (k : Nat), (stA R k).O.length ≤ k ∧ (stA R k).T.length ≤ (m + 1) * k ∧ (stA R k).f ≤ k
  | 0 => ⟨Nat.le_refl _, Nat.zero_le _, Nat.le_refl _⟩
  | k + 1 => by
    obtain ⟨h1, h2, h3⟩ := st_len R m hm k
    cases hk : R[k]? with
    | none =>
      have : stA R (k + 1) = stA R k := by
        show (match R[k]? with | some s => stepG k s (stA R k) | none => stA R k) = _
        rw [hk]
      rw [this, Nat.mul_succ]
      exact ⟨by omega, by omega, by omega⟩
    | some s =>
      have hs := hm s (List.mem_of_getElem? hk)
      have he := emit_len (stA R k).O ((stA R k).T ++ s) (numG k (stA R k).f)
      have hf : numG k (stA R k).f ≤ k + 1 := by unfold numG; split <;> omega
      rw [stA_at hk, Nat.mul_succ]
      unfold stepG
      split
      · exact ⟨by omega, by omega, by omega⟩
      · split
        · refine ⟨by show (stA R k).O.length ≤ _; omega, ?_, hf⟩
          show ((stA R k).T ++ (s.dropLast ++ [32])).length ≤ _
          rw [List.length_append, List.length_append, List.length_dropLast, List.length_singleton]
          omega
        · exact ⟨by show (emitL _ _ _).length ≤ _; omega, Nat.zero_le _, Nat.zero_le _⟩
end Go.Proofs.YtifjnioichfodaaDoor
