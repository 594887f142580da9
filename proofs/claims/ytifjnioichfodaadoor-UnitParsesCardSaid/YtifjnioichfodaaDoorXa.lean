/- What a line of a unit file is, told by the library's ways of cutting: prefixes, suffixes, sets of bytes. Plain lists and numbers, no program. -/
import Derived.Test.YtifjnioichfodaaDoorYb
import Derived.Test.YtifjnioichfodaaDoorZd
import Derived.Test.YtifjnioichfodaaDoorZa
import Derived.Lib.IndexAny
import Derived.Lib.SlTrimSet
namespace Go.Proofs.YtifjnioichfodaaDoor
set_option linter.unusedVariables false
set_option linter.unusedSimpArgs false

/-- Is any byte of a list among these? -/
theorem any_is : ∀ (l C : List UInt8), Lib.containsAny l C = l.any C.contains
  | [], C => rfl
  | b :: l, C => by
    have ih := any_is l C
    unfold Lib.containsAny at ih ⊢
    have hg := Lib.indexAny_ge C l
    rw [Lib.indexAny, List.any_cons]
    cases hb : C.contains b with
    | true => rfl
    | false =>
      rw [if_neg Bool.false_ne_true, Bool.false_or, ← ih]
      by_cases h : Lib.indexAny l C = -1
      · rw [if_pos (beq_iff_eq.2 h), h]
      · rw [if_neg (fun e => h (beq_iff_eq.1 e))]
        rw [Bool.eq_iff_iff, decide_eq_true_iff, decide_eq_true_iff]
        constructor <;> intro h2 <;> omega
theorem any_no {l C : List UInt8} (h : Lib.containsAny l C = false) : ∀ c ∈ l, C.contains c = false := fun c hc => by
  rw [any_is, List.any_eq_false] at h
  have := h c hc
  cases e : C.contains c with
  | true => exact absurd e this
  | false => rfl
theorem any_yes {l C : List UInt8} (h : Lib.containsAny l C = true) : ∃ c ∈ l, C.contains c = true := by
  rw [any_is, List.any_eq_true] at h
  exact h
theorem pre_one (l : List UInt8) (c : UInt8) : Lib.hasPrefix l [c] = (l[0]? == some c) := by
  cases l with
  | nil => rfl
  | cons d t =>
    show (c == d && true) = (some d == some c)
    rw [Bool.and_true, Bool.eq_iff_iff, beq_iff_eq, beq_iff_eq, Option.some.injEq]
    exact eq_comm
theorem brk_not {c : UInt8} (h : ([91, 93] : List UInt8).contains c = false) : c ≠ 91 ∧ c ≠ 93 := by
  constructor <;> (rintro rfl; cases h)
theorem brk_is {c : UInt8} (h : ([91, 93] : List UInt8).contains c = true) : c = 91 ∨ c = 93 := by
  rcases List.mem_cons.1 (List.contains_iff_mem.1 h) with h | h
  · exact .inl h
  · exact .inr (List.mem_singleton.1 h)
theorem wht_is (c : UInt8) : ([32, 9, 13] : List UInt8).contains c = blkB c := by
  show ((c == 32) || ((c == 9) || ((c == 13) || false))) = ((c == 32) || (c == 9) || (c == 13))
  rw [Bool.or_false, Bool.or_assoc]
/-- A line that stands in brackets. -/
theorem sec_form (Y : List UInt8) : secL (91 :: (Y ++ [93])) = if Y ≠ [] ∧ Lib.containsAny Y [91, 93] = false then some Y else none := by
  have hlen : (91 :: (Y ++ [93]) : List UInt8).length = Y.length + 2 := by simp
  have hmid : ((91 :: (Y ++ [93]) : List UInt8).take ((91 :: (Y ++ [93]) : List UInt8).length - 1)).drop 1 = Y := by
    rw [hlen, show Y.length + 2 - 1 = Y.length + 1 by omega, List.take_succ_cons, List.drop_one, List.tail_cons, List.take_left]
  have hlast : (91 :: (Y ++ [93]) : List UInt8)[(91 :: (Y ++ [93]) : List UInt8).length - 1]? = some 93 := by
    rw [hlen, show Y.length + 2 - 1 = Y.length + 1 by omega, List.getElem?_cons_succ, List.getElem?_append_right (Nat.le_refl _), Nat.sub_self]; rfl
  by_cases h0 : Y = []
  · rw [if_neg (fun h => h.1 h0), h0]
    exact sec_short (by decide)
  · have hY : 0 < Y.length := List.length_pos_iff.2 h0
    cases hc : Lib.containsAny Y [91, 93] with
    | false =>
      rw [if_pos ⟨h0, rfl⟩]
      unfold secL
      rw [if_pos ⟨by rw [hlen]; omega, rfl, hlast, by rw [hmid]; exact fun c hc' => brk_not (any_no hc c hc')⟩, hmid]
    | true =>
      rw [if_neg (fun h => Bool.noConfusion h.2)]
      obtain ⟨c, hc1, hc2⟩ := any_yes hc
      unfold secL
      rw [if_neg]
      rintro ⟨_, _, _, h4⟩
      rw [hmid] at h4
      have := h4 c hc1
      rcases brk_is hc2 with h | h
      · exact this.1 h
      · exact this.2 h
theorem sec_nopre {l : List UInt8} (h : Lib.hasPrefix l [91] = false) : secL l = none := by
  rw [pre_one] at h
  cases l with
  | nil => exact sec_short (by decide)
  | cons c t =>
    refine sec_head (by simp) (fun e => ?_)
    rw [List.getElem_cons_zero] at e
    rw [e] at h
    cases h
theorem sec_nosuf {l : List UInt8} (h1 : Lib.hasPrefix l [91] = true) (h : Lib.hasSuffix (Lib.trimPrefix l [91]) [93] = false) : secL l = none := by
  unfold Lib.trimPrefix at h
  rw [if_pos h1] at h
  rw [pre_one] at h1
  cases l with
  | nil => cases h1
  | cons c t =>
    rw [show ([91] : List UInt8).length = 1 from rfl, List.drop_one, List.tail_cons, suf_con] at h
    rcases List.eq_nil_or_concat t with rfl | ⟨Y, d, rfl⟩
    · exact sec_short (by simp)
    · rw [List.concat_eq_append, List.getLast?_concat] at h
      refine sec_last (by simp) (fun e => ?_)
      have hd : (c :: Y.concat d)[(c :: Y.concat d).length - 1]? = some d := by
        rw [List.concat_eq_append, List.length_cons, Nat.add_sub_cancel, List.length_append, List.length_singleton, List.getElem?_cons_succ, List.getElem?_append_right (Nat.le_refl _), Nat.sub_self]; rfl
      rw [List.getElem?_eq_getElem (by simp), e] at hd
      rw [← Option.some.inj hd] at h
      exact absurd h (by decide)
theorem sec_both {l : List UInt8} (h1 : Lib.hasPrefix l [91] = true) (h2 : Lib.hasSuffix (Lib.trimPrefix l [91]) [93] = true) : secL l = if Lib.trimSuffix (Lib.trimPrefix l [91]) [93] ≠ [] ∧ Lib.containsAny (Lib.trimSuffix (Lib.trimPrefix l [91]) [93]) [91, 93] = false then some (Lib.trimSuffix (Lib.trimPrefix l [91]) [93]) else none := by
  have e1 : Lib.trimPrefix l [91] = l.drop 1 := by unfold Lib.trimPrefix; rw [if_pos h1]; rfl
  have e2 : Lib.trimSuffix (Lib.trimPrefix l [91]) [93] = (Lib.trimPrefix l [91]).take ((Lib.trimPrefix l [91]).length - 1) := by unfold Lib.trimSuffix; rw [if_pos h2]; rfl
  rw [e2, e1]
  rw [e1] at h2
  rw [pre_one] at h1
  cases l with
  | nil => cases h1
  | cons c t =>
    have hc : c = 91 := by
      have := beq_iff_eq.1 h1
      exact Option.some.inj this
    rw [List.drop_one, List.tail_cons, suf_con] at h2
    rcases List.eq_nil_or_concat t with rfl | ⟨Y, d, rfl⟩
    · cases h2
    · rw [List.concat_eq_append, List.getLast?_concat] at h2
      have hd : d = 93 := Option.some.inj (beq_iff_eq.1 h2)
      rw [hc, hd, List.concat_eq_append, List.drop_one, List.tail_cons, List.length_append, List.length_singleton, Nat.add_sub_cancel, List.take_left]
      exact sec_form Y
/-- An assignment's line, cut at its first sign of equality. -/
def befE (l : List UInt8) : List UInt8 := l.takeWhile fun c => c != 61
def aftE (l : List UInt8) : List UInt8 := if 61 ∈ l then l.drop ((befE l).length + 1) else []
theorem eq_index : ∀ (l : List UInt8), (Lib.indexByte l 61 = -1 ∧ befE l = l ∧ aftE l = [] ∧ ¬ 61 ∈ l) ∨ ∃ i : Nat, Lib.indexByte l 61 = i ∧ i < l.length ∧ befE l = l.take i ∧ aftE l = l.drop (i + 1) ∧ 61 ∈ l
  | [] => Or.inl ⟨rfl, rfl, rfl, by simp⟩
  | c :: r => by
    by_cases h : c = 61
    · subst h
      refine Or.inr ⟨0, rfl, by simp, by simp [befE], ?_, by simp⟩
      unfold aftE befE
      rw [if_pos (by simp)]
      simp
    · have hb : befE (c :: r) = c :: befE r := by
        unfold befE
        rw [List.takeWhile_cons, if_pos (by rw [bne_iff_ne]; exact h)]
      have hm : (61 ∈ c :: r) ↔ 61 ∈ r := by
        rw [List.mem_cons]
        exact ⟨fun e => e.resolve_left (fun e => h e.symm), Or.inr⟩
      unfold Lib.indexByte
      rw [beq_eq_false_iff_ne.2 h, if_neg Bool.false_ne_true]
      rcases eq_index r with ⟨h1, h2, h3, h4⟩ | ⟨i, h1, h2, h3, h4, h5⟩
      · rw [h1]
        refine Or.inl ⟨rfl, by rw [hb, h2], ?_, fun e => h4 (hm.1 e)⟩
        unfold aftE
        rw [if_neg (fun e => h4 (hm.1 e))]
      · rw [h1]
        refine Or.inr ⟨i + 1, ?_, by simp; omega, by rw [hb, h3, List.take_succ_cons], ?_, hm.2 h5⟩
        · rw [if_neg (by rw [beq_iff_eq]; omega)]
          omega
        · unfold aftE
          rw [if_pos (hm.2 h5), hb, h3, List.length_cons, List.length_take, Nat.min_eq_left (by omega), List.drop_succ_cons]
theorem rtrim_set (l : List UInt8) : Lib.trimRightS l [32, 9, 13] = rtrimL l := by
  unfold Lib.trimRightS rtrimL
  congr 2
  funext c
  exact wht_is c
theorem key_is (l : List UInt8) : Lib.trimRightS (befE l) [32, 9, 13] = keyL l := rtrim_set _
theorem asg_nof {l : List UInt8} (h : ¬ 61 ∈ l) : asgL l = none := by unfold asgL; rw [if_neg (fun h1 => h h1.1)]
theorem asg_nohead {l : List UInt8} (h : Lib.hasPrefix l [91] = true) : asgL l = none := by
  unfold asgL
  rw [if_neg]
  rintro ⟨_, h1, _⟩
  rw [pre_one] at h
  exact h1 (beq_iff_eq.1 h)
theorem asg_nokey {l : List UInt8} (h : keyL l = []) : asgL l = none := by unfold asgL; rw [if_neg (fun h1 => h1.2.2.1 h)]
theorem asg_white {l : List UInt8} (h : Lib.containsAny (keyL l) [32, 9, 13] = true) : asgL l = none := by
  unfold asgL
  rw [if_neg]
  rintro ⟨_, _, _, h1⟩
  obtain ⟨c, hc, hw⟩ := any_yes h
  rw [wht_is, h1 c hc] at hw
  cases hw
theorem asg_right {l : List UInt8} (h1 : 61 ∈ l) (h2 : Lib.hasPrefix l [91] = false) (h3 : keyL l ≠ []) (h4 : Lib.containsAny (keyL l) [32, 9, 13] = false) : asgL l = some (keyL l, trimL (aftE l)) := by
  unfold asgL aftE
  rw [if_pos h1, if_pos]
  · rfl
  · refine ⟨h1, fun e => ?_, h3, fun c hc => by rw [← wht_is]; exact any_no h4 c hc⟩
    rw [pre_one, e] at h2
    cases h2
theorem bef_len (l : List UInt8) : (befE l).length ≤ l.length := (List.takeWhile_sublist _).length_le
theorem key_len (l : List UInt8) : (keyL l).length ≤ l.length := by
  unfold keyL rtrimL
  rw [List.length_reverse]
  have h1 := (List.dropWhile_sublist (l := ((l.takeWhile fun c => c != 61).reverse)) blkB).length_le
  rw [List.length_reverse] at h1
  have := bef_len l
  unfold befE at this
  omega
theorem aft_len (l : List UInt8) : (aftE l).length ≤ l.length := by
  unfold aftE
  split
  · rw [List.length_drop]; omega
  · simp
set_option maxRecDepth 100000 in
/-- A rune whose first byte is none of the lower half: none of its bytes is. -/
theorem dec_bytes (n b0 b1 b2 b3 : Nat) (h : 128 ≤ b0) : 1 ≤ (Lib.decodeN n b0 b1 b2 b3).2 ∧ (Lib.decodeN n b0 b1 b2 b3).2 ≤ 4 ∧ (2 ≤ (Lib.decodeN n b0 b1 b2 b3).2 → 1 < n ∧ 128 ≤ b1) ∧ (3 ≤ (Lib.decodeN n b0 b1 b2 b3).2 → 2 < n ∧ 128 ≤ b2) ∧ (4 ≤ (Lib.decodeN n b0 b1 b2 b3).2 → 3 < n ∧ 128 ≤ b3) := by
  unfold Lib.decodeN
  repeat' split
  all_goals first | (exfalso; omega) | (simp only; omega)
/-- No byte of the upper half is in this set. -/
def LowSet (C : List UInt8) : Prop := ∀ c : UInt8, 128 ≤ c.toNat → C.contains c = false
theorem low_brk : LowSet [91, 93] := fun c h => by
  cases e : ([91, 93] : List UInt8).contains c with
  | false => rfl
  | true => rcases brk_is e with rfl | rfl <;> exact absurd h (by decide)
theorem low_wht : LowSet [32, 9, 13] := fun c h => by
  rw [wht_is]
  cases e : blkB c with
  | false => rfl
  | true => have := blk_low e; omega
theorem dec_low {l : List UInt8} {k : Nat} {x : UInt8} (hx : l[k]? = some x) (h : x.toNat < 128) : Utf8.decode (bs l) k = (x.toNat, 1) := by
  obtain ⟨hk, e⟩ := List.getElem?_eq_some_iff.1 hx
  have e2 : l.drop k = x :: l.drop (k + 1) := by rw [← e]; exact List.drop_eq_getElem_cons hk
  rw [dec_drop, Lib.decodeL_N, e2]
  exact Lib.decodeN_ascii _ _ _ _ _ h
theorem dec_high {l : List UInt8} {k : Nat} {x : UInt8} (hx : l[k]? = some x) (h : 128 ≤ x.toNat) : 128 ≤ (Utf8.decode (bs l) k).1 ∧ 1 ≤ (Utf8.decode (bs l) k).2 ∧ k + (Utf8.decode (bs l) k).2 ≤ l.length ∧ ∀ (j : Nat) b, k ≤ j → j < k + (Utf8.decode (bs l) k).2 → l[j]? = some b → 128 ≤ b.toNat := by
  obtain ⟨hk, e⟩ := List.getElem?_eq_some_iff.1 hx
  have hg0 : (l.drop k).getD 0 0 = x := by rw [getD_at (by rw [List.length_drop]; omega), List.getElem_drop]; simpa using e
  rw [dec_drop, Lib.decodeL_N, hg0]
  obtain ⟨h1, h2, h3, h4, h5⟩ := dec_bytes (l.drop k).length x.toNat ((l.drop k).getD 1 0).toNat ((l.drop k).getD 2 0).toNat ((l.drop k).getD 3 0).toNat h
  refine ⟨dec_big _ _ _ _ _ h, h1, ?_, ?_⟩
  · rw [List.length_drop] at h2 h3 h4 h5 ⊢
    generalize (Lib.decodeN (l.length - k) x.toNat ((l.drop k).getD 1 0).toNat ((l.drop k).getD 2 0).toNat ((l.drop k).getD 3 0).toNat).2 = K at *
    by_cases c4 : 4 ≤ K
    · have := h5 c4; omega
    · by_cases c3 : 3 ≤ K
      · have := h4 c3; omega
      · by_cases c2 : 2 ≤ K
        · have := h3 c2; omega
        · omega
  · intro j b hj1 hj2 hb
    have hgj : ∀ i, j = k + i → (l.drop k).getD i 0 = b := fun i e => by
      obtain ⟨hj, e2⟩ := List.getElem?_eq_some_iff.1 hb
      rw [getD_at (by rw [List.length_drop]; omega), List.getElem_drop, ← e2]
      congr 1
      exact e.symm
    by_cases j0 : j = k
    · rw [← hgj 0 (by omega), hg0]; exact h
    · by_cases j1 : j = k + 1
      · rw [← hgj 1 j1]; exact (h3 (by omega)).2
      · by_cases j2 : j = k + 2
        · rw [← hgj 2 j2]; exact (h4 (by omega)).2
        · rw [← hgj 3 (by omega)]; exact (h5 (by omega)).2
end Go.Proofs.YtifjnioichfodaaDoor
