/- What a line of a unit file is, told by the library's ways of cutting: prefixes, suffixes, sets of bytes. Plain lists and numbers, no program. A rune above 127 is neither of two brackets; whether a text holds a byte of a set, as the landed package asks the library. Condition: a text of less than 2^32 - 15 bytes. -/
import Derived.Test.YtgigdhincpcdbaaGreatDoorYa
import Derived.Test.YtgigdhincpcdbaaGreatDoorZa
import Derived.Lib.IndexAny
import Derived.Lib.SlTrimSet
import Derived.Test.YtgigdhincpcdbaaGreatDoorZf
import Derived.Test.YtgigdhincpcdbaaGreatDoorHc
namespace Go.Proofs.YtgigdhincpcdbaaGreatDoor
set_option linter.unusedVariables false
set_option linter.unusedSimpArgs false

/-- Is any byte of a list among these? -/
theorem any_is : ∀ (l C : List UInt8), Lib.containsAny l C = l.any C.contains
  | [], C => rfl
  | b :: l, C => by
    have ih := any_is l C
    unfold Lib.containsAny at ih ⊢
    have hg := Lib.indexAny_ge C l
    rw [Lib.indexAny, List.any_cons]
    cases hb : C.contains b with
    | true => rfl
    | false =>
      rw [if_neg Bool.false_ne_true, Bool.false_or, ← ih]
      by_cases h : Lib.indexAny l C = -1
      · rw [if_pos (beq_iff_eq.2 h), h]
      · rw [if_neg (fun e => h (beq_iff_eq.1 e))]
        rw [Bool.eq_iff_iff, decide_eq_true_iff, decide_eq_true_iff]
        constructor <;> intro h2 <;> omega
theorem any_no {l C : List UInt8} (h : Lib.containsAny l C = false) : ∀ c ∈ l, C.contains c = false := fun c hc => by
  rw [any_is, List.any_eq_false] at h
  have := h c hc
  cases e : C.contains c with
  | true => exact absurd e this
  | false => rfl
theorem any_yes {l C : List UInt8} (h : Lib.containsAny l C = true) : ∃ c ∈ l, C.contains c = true := by
  rw [any_is, List.any_eq_true] at h
  exact h
theorem pre_one (l : List UInt8) (c : UInt8) : Lib.hasPrefix l [c] = (l[0]? == some c) := by
  cases l with
  | nil => rfl
  | cons d t =>
    show (c == d && true) = (some d == some c)
    rw [Bool.and_true, Bool.eq_iff_iff, beq_iff_eq, beq_iff_eq, Option.some.injEq]
    exact eq_comm
theorem brk_not {c : UInt8} (h : ([91, 93] : List UInt8).contains c = false) : c ≠ 91 ∧ c ≠ 93 := by
  constructor <;> (rintro rfl; cases h)
theorem brk_is {c : UInt8} (h : ([91, 93] : List UInt8).contains c = true) : c = 91 ∨ c = 93 := by
  rcases List.mem_cons.1 (List.contains_iff_mem.1 h) with h | h
  · exact .inl h
  · exact .inr (List.mem_singleton.1 h)
theorem wht_is (c : UInt8) : ([32, 9, 13] : List UInt8).contains c = blkB c := by
  show ((c == 32) || ((c == 9) || ((c == 13) || false))) = ((c == 32) || (c == 9) || (c == 13))
  rw [Bool.or_false, Bool.or_assoc]
/-- A line that stands in brackets. -/
theorem sec_form (Y : List UInt8) : secL (91 :: (Y ++ [93])) = if Y ≠ [] ∧ Lib.containsAny Y [91, 93] = false then some Y else none := by
  have hlen : (91 :: (Y ++ [93]) : List UInt8).length = Y.length + 2 := by simp
  have hmid : ((91 :: (Y ++ [93]) : List UInt8).take ((91 :: (Y ++ [93]) : List UInt8).length - 1)).drop 1 = Y := by
    rw [hlen, show Y.length + 2 - 1 = Y.length + 1 by omega, List.take_succ_cons, List.drop_one, List.tail_cons, List.take_left]
  have hlast : (91 :: (Y ++ [93]) : List UInt8)[(91 :: (Y ++ [93]) : List UInt8).length - 1]? = some 93 := by
    rw [hlen, show Y.length + 2 - 1 = Y.length + 1 by omega, List.getElem?_cons_succ, List.getElem?_append_right (Nat.le_refl _), Nat.sub_self]; rfl
  by_cases h0 : Y = []
  · rw [if_neg (fun h => h.1 h0), h0]
    exact sec_short (by decide)
  · have hY : 0 < Y.length := List.length_pos_iff.2 h0
    cases hc : Lib.containsAny Y [91, 93] with
    | false =>
      rw [if_pos ⟨h0, rfl⟩]
      unfold secL
      rw [if_pos ⟨by rw [hlen]; omega, rfl, hlast, by rw [hmid]; exact fun c hc' => brk_not (any_no hc c hc')⟩, hmid]
    | true =>
      rw [if_neg (fun h => Bool.noConfusion h.2)]
      obtain ⟨c, hc1, hc2⟩ := any_yes hc
      unfold secL
      rw [if_neg]
      rintro ⟨_, _, _, h4⟩
      rw [hmid] at h4
      have := h4 c hc1
      rcases brk_is hc2 with h | h
      · exact this.1 h
      · exact this.2 h
theorem sec_nopre {l : List UInt8} (h : Lib.hasPrefix l [91] = false) : secL l = none := by
  rw [pre_one] at h
  cases l with
  | nil => exact sec_short (by decide)
  | cons c t =>
    refine sec_head (by simp) (fun e => ?_)
    rw [List.getElem_cons_zero] at e
    rw [e] at h
    cases h
theorem sec_nosuf {l : List UInt8} (h1 : Lib.hasPrefix l [91] = true) (h : Lib.hasSuffix (Lib.trimPrefix l [91]) [93] = false) : secL l = none := by
  unfold Lib.trimPrefix at h
  rw [if_pos h1] at h
  rw [pre_one] at h1
  cases l with
  | nil => cases h1
  | cons c t =>
    rw [show ([91] : List UInt8).length = 1 from rfl, List.drop_one, List.tail_cons, suf_con] at h
    rcases List.eq_nil_or_concat t with rfl | ⟨Y, d, rfl⟩
    · exact sec_short (by simp)
    · rw [List.concat_eq_append, List.getLast?_concat] at h
      refine sec_last (by simp) (fun e => ?_)
      have hd : (c :: Y.concat d)[(c :: Y.concat d).length - 1]? = some d := by
        rw [List.concat_eq_append, List.length_cons, Nat.add_sub_cancel, List.length_append, List.length_singleton, List.getElem?_cons_succ, List.getElem?_append_right (Nat.le_refl _), Nat.sub_self]; rfl
      rw [List.getElem?_eq_getElem (by simp), e] at hd
      rw [← Option.some.inj hd] at h
      exact absurd h (by decide)
theorem sec_both {l : List UInt8} (h1 : Lib.hasPrefix l [91] = true) (h2 : Lib.hasSuffix (Lib.trimPrefix l [91]) [93] = true) : secL l = if Lib.trimSuffix (Lib.trimPrefix l [91]) [93] ≠ [] ∧ Lib.containsAny (Lib.trimSuffix (Lib.trimPrefix l [91]) [93]) [91, 93] = false then some (Lib.trimSuffix (Lib.trimPrefix l [91]) [93]) else none := by
  have e1 : Lib.trimPrefix l [91] = l.drop 1 := by unfold Lib.trimPrefix; rw [if_pos h1]; rfl
  have e2 : Lib.trimSuffix (Lib.trimPrefix l [91]) [93] = (Lib.trimPrefix l [91]).take ((Lib.trimPrefix l [91]).length - 1) := by unfold Lib.trimSuffix; rw [if_pos h2]; rfl
  rw [e2, e1]
  rw [e1] at h2
  rw [pre_one] at h1
  cases l with
  | nil => cases h1
  | cons c t =>
    have hc : c = 91 := by
      have := beq_iff_eq.1 h1
      exact Option.some.inj this
    rw [List.drop_one, List.tail_cons, suf_con] at h2
    rcases List.eq_nil_or_concat t with rfl | ⟨Y, d, rfl⟩
    · cases h2
    · rw [List.concat_eq_append, List.getLast?_concat] at h2
      have hd : d = 93 := Option.some.inj (beq_iff_eq.1 h2)
      rw [hc, hd, List.concat_eq_append, List.drop_one, List.tail_cons, List.length_append, List.length_singleton, Nat.add_sub_cancel, List.take_left]
      exact sec_form Y
/-- An assignment's line, cut at its first sign of equality. -/
def befE (l : List UInt8) : List UInt8 := l.takeWhile fun c => c != 61
def aftE (l : List UInt8) : List UInt8 := if 61 ∈ l then l.drop ((befE l).length + 1) else []
theorem eq_index : ∀ (l : List UInt8), (Lib.indexByte l 61 = -1 ∧ befE l = l ∧ aftE l = [] ∧ ¬ 61 ∈ l) ∨ ∃ i : Nat, Lib.indexByte l 61 = i ∧ i < l.length ∧ befE l = l.take i ∧ aftE l = l.drop (i + 1) ∧ 61 ∈ l
  | [] => Or.inl ⟨rfl, rfl, rfl, by simp⟩
  | c :: r => by
    by_cases h : c = 61
    · subst h
      refine Or.inr ⟨0, rfl, by simp, by simp [befE], ?_, by simp⟩
      unfold aftE befE
      rw [if_pos (by simp)]
      simp
    · have hb : befE (c :: r) = c :: befE r := by
        unfold befE
        rw [List.takeWhile_cons, if_pos (by rw [bne_iff_ne]; exact h)]
      have hm : (61 ∈ c :: r) ↔ 61 ∈ r := by
        rw [List.mem_cons]
        exact ⟨fun e => e.resolve_left (fun e => h e.symm), Or.inr⟩
      unfold Lib.indexByte
      rw [beq_eq_false_iff_ne.2 h, if_neg Bool.false_ne_true]
      rcases eq_index r with ⟨h1, h2, h3, h4⟩ | ⟨i, h1, h2, h3, h4, h5⟩
      · rw [h1]
        refine Or.inl ⟨rfl, by rw [hb, h2], ?_, fun e => h4 (hm.1 e)⟩
        unfold aftE
        rw [if_neg (fun e => h4 (hm.1 e))]
      · rw [h1]
        refine Or.inr ⟨i + 1, ?_, by simp; omega, by rw [hb, h3, List.take_succ_cons], ?_, hm.2 h5⟩
        · rw [if_neg (by rw [beq_iff_eq]; omega)]
          omega
        · unfold aftE
          rw [if_pos (hm.2 h5), hb, h3, List.length_cons, List.length_take, Nat.min_eq_left (by omega), List.drop_succ_cons]
theorem rtrim_set (l : List UInt8) : Lib.trimRightS l [32, 9, 13] = rtrimL l := by
  unfold Lib.trimRightS rtrimL
  congr 2
  funext c
  exact wht_is c
theorem key_is (l : List UInt8) : Lib.trimRightS (befE l) [32, 9, 13] = keyL l := rtrim_set _
theorem asg_nof {l : List UInt8} (h : ¬ 61 ∈ l) : asgL l = none := by unfold asgL; rw [if_neg (fun h1 => h h1.1)]
theorem asg_nohead {l : List UInt8} (h : Lib.hasPrefix l [91] = true) : asgL l = none := by
  unfold asgL
  rw [if_neg]
  rintro ⟨_, h1, _⟩
  rw [pre_one] at h
  exact h1 (beq_iff_eq.1 h)
theorem asg_nokey {l : List UInt8} (h : keyL l = []) : asgL l = none := by unfold asgL; rw [if_neg (fun h1 => h1.2.2.1 h)]
theorem asg_white {l : List UInt8} (h : Lib.containsAny (keyL l) [32, 9, 13] = true) : asgL l = none := by
  unfold asgL
  rw [if_neg]
  rintro ⟨_, _, _, h1⟩
  obtain ⟨c, hc, hw⟩ := any_yes h
  rw [wht_is, h1 c hc] at hw
  cases hw
theorem asg_right {l : List UInt8} (h1 : 61 ∈ l) (h2 : Lib.hasPrefix l [91] = false) (h3 : keyL l ≠ []) (h4 : Lib.containsAny (keyL l) [32, 9, 13] = false) : asgL l = some (keyL l, trimL (aftE l)) := by
  unfold asgL aftE
  rw [if_pos h1, if_pos]
  · rfl
  · refine ⟨h1, fun e => ?_, h3, fun c hc => by rw [← wht_is]; exact any_no h4 c hc⟩
    rw [pre_one, e] at h2
    cases h2
theorem bef_len (l : List UInt8) : (befE l).length ≤ l.length := (List.takeWhile_sublist _).length_le
theorem key_len (l : List UInt8) : (keyL l).length ≤ l.length := by
  unfold keyL rtrimL
  rw [List.length_reverse]
  have h1 := (List.dropWhile_sublist (l := ((l.takeWhile fun c => c != 61).reverse)) blkB).length_le
  rw [List.length_reverse] at h1
  have := bef_len l
  unfold befE at this
  omega
theorem aft_len (l : List UInt8) : (aftE l).length ≤ l.length := by
  unfold aftE
  split
  · rw [List.length_drop]; omega
  · simp
set_option maxRecDepth 100000 in
/-- A rune whose first byte is none of the lower half: none of its bytes is. -/
theorem dec_bytes (n b0 b1 b2 b3 : Nat) (h : 128 ≤ b0) : 1 ≤ (Lib.decodeN n b0 b1 b2 b3).2 ∧ (Lib.decodeN n b0 b1 b2 b3).2 ≤ 4 ∧ (2 ≤ (Lib.decodeN n b0 b1 b2 b3).2 → 1 < n ∧ 128 ≤ b1) ∧ (3 ≤ (Lib.decodeN n b0 b1 b2 b3).2 → 2 < n ∧ 128 ≤ b2) ∧ (4 ≤ (Lib.decodeN n b0 b1 b2 b3).2 → 3 < n ∧ 128 ≤ b3) := by
  unfold Lib.decodeN
  repeat' split
  all_goals first | (exfalso; omega) | (simp only; omega)
/-- No byte of the upper half is in this set. -/
def LowSet (C : List UInt8) : Prop := ∀ c : UInt8, 128 ≤ c.toNat → C.contains c = false
theorem low_brk : LowSet [91, 93] := fun c h => by
  cases e : ([91, 93] : List UInt8).contains c with
  | false => rfl
  | true => rcases brk_is e with rfl | rfl <;> exact absurd h (by decide)
theorem low_wht : LowSet [32, 9, 13] := fun c h => by
  rw [wht_is]
  cases e : blkB c with
  | false => rfl
  | true => have := blk_low e; omega
theorem dec_low {l : List UInt8} {k : Nat} {x : UInt8} (hx : l[k]? = some x) (h : x.toNat < 128) : Utf8.decode (bs l) k = (x.toNat, 1) := by
  obtain ⟨hk, e⟩ := List.getElem?_eq_some_iff.1 hx
  have e2 : l.drop k = x :: l.drop (k + 1) := by rw [← e]; exact List.drop_eq_getElem_cons hk
  rw [dec_drop, Lib.decodeL_N, e2]
  exact Lib.decodeN_ascii _ _ _ _ _ h
theorem dec_high {l : List UInt8} {k : Nat} {x : UInt8} (hx : l[k]? = some x) (h : 128 ≤ x.toNat) : 128 ≤ (Utf8.decode (bs l) k).1 ∧ 1 ≤ (Utf8.decode (bs l) k).2 ∧ k + (Utf8.decode (bs l) k).2 ≤ l.length ∧ ∀ (j : Nat) b, k ≤ j → j < k + (Utf8.decode (bs l) k).2 → l[j]? = some b → 128 ≤ b.toNat := by
  obtain ⟨hk, e⟩ := List.getElem?_eq_some_iff.1 hx
  have hg0 : (l.drop k).getD 0 0 = x := by rw [getD_at (by rw [List.length_drop]; omega), List.getElem_drop]; simpa using e
  rw [dec_drop, Lib.decodeL_N, hg0]
  obtain ⟨h1, h2, h3, h4, h5⟩ := dec_bytes (l.drop k).length x.toNat ((l.drop k).getD 1 0).toNat ((l.drop k).getD 2 0).toNat ((l.drop k).getD 3 0).toNat h
  refine ⟨dec_big _ _ _ _ _ h, h1, ?_, ?_⟩
  · rw [List.length_drop] at h2 h3 h4 h5 ⊢
    generalize (Lib.decodeN (l.length - k) x.toNat ((l.drop k).getD 1 0).toNat ((l.drop k).getD 2 0).toNat ((l.drop k).getD 3 0).toNat).2 = K at *
    by_cases c4 : 4 ≤ K
    · have := h5 c4; omega
    · by_cases c3 : 3 ≤ K
      · have := h4 c3; omega
      · by_cases c2 : 2 ≤ K
        · have := h3 c2; omega
        · omega
  · intro j b hj1 hj2 hb
    have hgj : ∀ i, j = k + i → (l.drop k).getD i 0 = b := fun i e => by
      obtain ⟨hj, e2⟩ := List.getElem?_eq_some_iff.1 hb
      rw [getD_at (by rw [List.length_drop]; omega), List.getElem_drop, ← e2]
      congr 1
      exact e.symm
    by_cases j0 : j = k
    · rw [← hgj 0 (by omega), hg0]; exact h
    · by_cases j1 : j = k + 1
      · rw [← hgj 1 j1]; exact (h3 (by omega)).2
      · by_cases j2 : j = k + 2
        · rw [← hgj 2 j2]; exact (h4 (by omega)).2
        · rw [← hgj 3 (by omega)]; exact (h5 (by omega)).2
end Go.Proofs.YtgigdhincpcdbaaGreatDoor
namespace Go.Proofs.YtgigdhincpcdbaaGreatDoor
open Go.RowKit Go.Shelf
set_option linter.unusedVariables false
set_option linter.unusedSimpArgs false
attribute [local go_sem ↓] Go.wp_at_zero Go.wp_at_succ

theorem brk_dec : ∀ pos, pos < 2 → (Utf8.decode (⟨#[91, 93]⟩ : ByteArray) pos).2 = 1 ∧ (Utf8.decode (⟨#[91, 93]⟩ : ByteArray) pos).1 < 128 := by decide
set_option maxRecDepth 100000 in
set_option maxHeartbeats 4000000 in
theorem brk_err (w : World) : Calls Tryz.prog 109 #[.string (⟨#[91, 93]⟩ : ByteArray), .int .i32 65533] w fun e w' => e = .returned (.int .i64 (-1)) ∧ Below w.heap.size w w' := by
  obtain ⟨S, hS⟩ : ∃ S, S = (⟨#[91, 93]⟩ : ByteArray) := ⟨_, rfl⟩
  have hd := brk_dec
  have h3 : S.size = 2 := by rw [hS]; rfl
  rw [← hS] at hd ⊢
  clear hS
  go_enter Tryz.func109, Tryz.ntmps109
  go_wp2
  go_loopg [] S.size (fun gf wx => ∃ pos : Nat, wx.heap[w.heap.size]? = some (.stringIter S pos) ∧ Below w.heap.size w wx ∧ S.size ≤ pos + gf)
  case atStart => exact ⟨0, World.iter_heap w S 0, (Below.refl _ w).alloc (Nat.le_refl _) _, by omega⟩
  case round =>
    obtain ⟨pos, hit, hbw, hfu⟩ := hrel
    by_cases hps : pos < S.size
    · obtain ⟨g', rfl⟩ : ∃ g', gk = g' + 1 := ⟨gk - 1, by omega⟩
      have hnx : ∀ ty, (Instr.next (.pointer (some ⟨w.heap.size, 0, none⟩)) true ty).run Tryz.prog wr = _ := fun ty => Lib.run_next_any_at wr w.heap.size S pos ty hit hps
      obtain ⟨hd1, hd2⟩ := hd pos (by omega)
      obtain ⟨R, hR⟩ : ∃ R, (Utf8.decode S pos).1 = R := ⟨_, rfl⟩
      rw [hR, hd1] at hnx
      rw [hR] at hd2
      have hit2 := Lib.iterAt_heap wr w.heap.size S pos (pos + 1) hit
      have hbw2 := Lib.below_iterAt hbw (k := w.heap.size) (Nat.le_refl _) S (pos + 1)
      obtain ⟨W, hWd⟩ : ∃ W, wr.iterAt w.heap.size S (pos + 1) = W := ⟨_, rfl⟩
      rw [hWd] at hnx hit2 hbw2
      have hne : ((R : Int) == 65533) = false := beq_eq_false_iff_ne.2 (by omega)
      clear hd hd1 hR hd2 hWd
      go_wp2
      go_roundg g'
      case measure => omega
      case rel => exact ⟨pos + 1, hit2, hbw2, by omega⟩
    · have hnx : ∀ ty, (Instr.next (.pointer (some ⟨w.heap.size, 0, none⟩)) true ty).run Tryz.prog wr = _ := fun ty => Lib.run_next_end_at wr w.heap.size S pos ty hit hps
      go_wp2
      go_ret
      exact ⟨rfl, hbw⟩
set_option maxRecDepth 100000 in
set_option maxHeartbeats 4000000 in
theorem brk_bad (x : Nat) (h0 : 128 ≤ x) (hv : Lib.validRune x = false) (hx : x ≠ 65533) (w : World) : Calls Tryz.prog 109 #[.string (⟨#[91, 93]⟩ : ByteArray), .int .i32 x] w fun e w' => e = .returned (.int .i64 (-1)) ∧ Below w.heap.size w w' := by
  have HV := Lib.hid (fun W => Tryz.utf8_ValidRune (x : Int) W)
  rw [hv] at HV
  have q0 : ((x : Int) == 65533) = false := beq_eq_false_iff_ne.2 (by omega)
  have q1 : ¬ (x : Int) < 128 := by omega
  have q2 : (0 : Int) ≤ x := by omega
  clear hv hx h0
  go_enter Tryz.func109, Tryz.ntmps109
  go_wp2_with (go_at_call 117; ((with_reducible refine (HV.out _).mono ?_); rintro e w1 ⟨rfl, rfl⟩))
  go_ret
  exact ⟨rfl, Below.refl _ _⟩
theorem brk_high (c : UInt8) (h : 128 ≤ c.toNat) : Lib.indexByte [] c = -1 ∧ (93 : Int) ≠ c.toNat := ⟨rfl, by omega⟩
set_option maxRecDepth 100000 in
set_option maxHeartbeats 4000000 in
theorem brk_high1 (x : Nat) (h0 : 128 ≤ x) (hv : Lib.validRune x = true) (hx : x ≠ 65533) (rs : ByteArray) (c : UInt8) (hrs : Utf8.encode x = rs) (hsz : rs.size = 1 + 1) (hc : rs.data[1]? = some c) (hc1 : 128 ≤ c.toNat) (w : World) : Calls Tryz.prog 109 #[.string (⟨#[91, 93]⟩ : ByteArray), .int .i32 x] w fun e w' => e = .returned (.int .i64 (-1)) ∧ Below w.heap.size w w' := by
  have HV := Lib.hid (fun W => Tryz.utf8_ValidRune (x : Int) W)
  rw [hv] at HV
  obtain ⟨n2, n3⟩ := brk_high c hc1
  have HIB := Lib.hid (fun W => indexB_call [] c W)
  rw [n2, show bs [] = ByteArray.empty from rfl] at HIB
  have HRS := run_rune (x : Int)
  rw [hrs] at HRS
  have hms : 1 < rs.size := by omega
  obtain ⟨y, hy⟩ : ∃ y : Int, y = (c.toNat : Int) := ⟨_, rfl⟩
  have hidx : ((rs[1]'hms).toNat : Int) = y := by
    rw [hy]
    have h2 : rs.data[1]? = some (rs[1]'hms) := Array.getElem?_eq_getElem (xs := rs.data) hms
    rw [show rs[1]'hms = c from (Option.some.inj (hc.symm.trans h2)).symm]
  rw [← hy] at HIB n3
  have q0 : ((x : Int) == 65533) = false := beq_eq_false_iff_ne.2 (by omega)
  have q1 : ¬ (x : Int) < 128 := by omega
  have q2 : (0 : Int) ≤ x := by omega
  obtain ⟨S, hS⟩ : ∃ S, S = (⟨#[91, 93]⟩ : ByteArray) := ⟨_, rfl⟩
  have h3 : S.size = 2 := by rw [hS]; rfl
  have g1 : ((S[1]'(by omega)).toNat : Int) = 93 := by subst hS; rfl
  have g2 : ((93 : Int) != y) = true := bne_iff_ne.2 n3
  have g3 : ((93 : Int) == y) = false := beq_eq_false_iff_ne.2 n3
  rw [← hS]
  clear hv hx hrs hc hc1 hy n2 h0 hS
  go_enter Tryz.func109, Tryz.ntmps109
  go_wp2_with (go_at_call 117; ((with_reducible refine (HV.out _).mono ?_); rintro e w1 ⟨rfl, rfl⟩))
  refine wp_scope_straight ?_
  go_wp2
  refine wp_loop_rounds 2 ?_
  rw [rounds_succ]
  go_wp2_with fail
  refine wp_scope_straight ?_
  go_wp2_with fail
  go_quiet (fail)
  go_wp2_with fail
  go_quiet ((go_at_call 89; go_loud (exact (HIB.out _).mono fun e w'' h => ⟨h.1, _, h.2⟩)))
  go_wp2_with fail
  simp only [Exit.noGoto, Exit.then, Exit.inBlock]
  go_ret
  exact ⟨rfl, by first | exact Below.refl _ _ | exact Go.Proofs.below_drewN' (Below.refl _ _) _ | exact Go.Proofs.below_drewN' (Go.Proofs.below_drewN' (Below.refl _ _) _) _⟩
set_option maxRecDepth 100000 in
set_option maxHeartbeats 4000000 in
theorem brk_high2 (x : Nat) (h0 : 128 ≤ x) (hv : Lib.validRune x = true) (hx : x ≠ 65533) (rs : ByteArray) (c : UInt8) (hrs : Utf8.encode x = rs) (hsz : rs.size = 2 + 1) (hc : rs.data[2]? = some c) (hc1 : 128 ≤ c.toNat) (w : World) : Calls Tryz.prog 109 #[.string (⟨#[91, 93]⟩ : ByteArray), .int .i32 x] w fun e w' => e = .returned (.int .i64 (-1)) ∧ Below w.heap.size w w' := by
  have HV := Lib.hid (fun W => Tryz.utf8_ValidRune (x : Int) W)
  rw [hv] at HV
  obtain ⟨n2, n3⟩ := brk_high c hc1
  have HIB := Lib.hid (fun W => indexB_call [] c W)
  rw [n2, show bs [] = ByteArray.empty from rfl] at HIB
  have HRS := run_rune (x : Int)
  rw [hrs] at HRS
  have hms : 2 < rs.size := by omega
  obtain ⟨y, hy⟩ : ∃ y : Int, y = (c.toNat : Int) := ⟨_, rfl⟩
  have hidx : ((rs[2]'hms).toNat : Int) = y := by
    rw [hy]
    have h2 : rs.data[2]? = some (rs[2]'hms) := Array.getElem?_eq_getElem (xs := rs.data) hms
    rw [show rs[2]'hms = c from (Option.some.inj (hc.symm.trans h2)).symm]
  rw [← hy] at HIB n3
  have q0 : ((x : Int) == 65533) = false := beq_eq_false_iff_ne.2 (by omega)
  have q1 : ¬ (x : Int) < 128 := by omega
  have q2 : (0 : Int) ≤ x := by omega
  obtain ⟨S, hS⟩ : ∃ S, S = (⟨#[91, 93]⟩ : ByteArray) := ⟨_, rfl⟩
  have h3 : S.size = 2 := by rw [hS]; rfl
  rw [← hS]
  clear hv hx hrs hc hc1 hy n2 h0 hS
  go_enter Tryz.func109, Tryz.ntmps109
  go_wp2_with (go_at_call 117; ((with_reducible refine (HV.out _).mono ?_); rintro e w1 ⟨rfl, rfl⟩))
  refine wp_scope_straight ?_
  go_wp2
  refine wp_loop_rounds 2 ?_
  rw [rounds_succ]
  go_wp2
  simp only [Exit.noGoto, Exit.then, Exit.inBlock]
  go_ret
  exact ⟨rfl, Below.refl _ _⟩
set_option maxRecDepth 100000 in
set_option maxHeartbeats 4000000 in
theorem brk_high3 (x : Nat) (h0 : 128 ≤ x) (hv : Lib.validRune x = true) (hx : x ≠ 65533) (rs : ByteArray) (c : UInt8) (hrs : Utf8.encode x = rs) (hsz : rs.size = 3 + 1) (hc : rs.data[3]? = some c) (hc1 : 128 ≤ c.toNat) (w : World) : Calls Tryz.prog 109 #[.string (⟨#[91, 93]⟩ : ByteArray), .int .i32 x] w fun e w' => e = .returned (.int .i64 (-1)) ∧ Below w.heap.size w w' := by
  have HV := Lib.hid (fun W => Tryz.utf8_ValidRune (x : Int) W)
  rw [hv] at HV
  obtain ⟨n2, n3⟩ := brk_high c hc1
  have HIB := Lib.hid (fun W => indexB_call [] c W)
  rw [n2, show bs [] = ByteArray.empty from rfl] at HIB
  have HRS := run_rune (x : Int)
  rw [hrs] at HRS
  have hms : 3 < rs.size := by omega
  obtain ⟨y, hy⟩ : ∃ y : Int, y = (c.toNat : Int) := ⟨_, rfl⟩
  have hidx : ((rs[3]'hms).toNat : Int) = y := by
    rw [hy]
    have h2 : rs.data[3]? = some (rs[3]'hms) := Array.getElem?_eq_getElem (xs := rs.data) hms
    rw [show rs[3]'hms = c from (Option.some.inj (hc.symm.trans h2)).symm]
  rw [← hy] at HIB n3
  have q0 : ((x : Int) == 65533) = false := beq_eq_false_iff_ne.2 (by omega)
  have q1 : ¬ (x : Int) < 128 := by omega
  have q2 : (0 : Int) ≤ x := by omega
  obtain ⟨S, hS⟩ : ∃ S, S = (⟨#[91, 93]⟩ : ByteArray) := ⟨_, rfl⟩
  have h3 : S.size = 2 := by rw [hS]; rfl
  rw [← hS]
  clear hv hx hrs hc hc1 hy n2 h0 hS
  go_enter Tryz.func109, Tryz.ntmps109
  go_wp2_with (go_at_call 117; ((with_reducible refine (HV.out _).mono ?_); rintro e w1 ⟨rfl, rfl⟩))
  refine wp_scope_straight ?_
  go_wp2
  refine wp_loop_rounds 2 ?_
  rw [rounds_succ]
  go_wp2
  simp only [Exit.noGoto, Exit.then, Exit.inBlock]
  go_ret
  exact ⟨rfl, Below.refl _ _⟩
theorem brk_none (x : Nat) (h0 : 128 ≤ x) (w : World) : Calls Tryz.prog 109 #[.string (⟨#[91, 93]⟩ : ByteArray), .int .i32 x] w fun e w' => e = .returned (.int .i64 (-1)) ∧ Below w.heap.size w w' := by
  by_cases hx : x = 65533
  · subst hx; exact brk_err w
  · cases hv : Lib.validRune x with
    | false => exact brk_bad x h0 hv hx w
    | true =>
      obtain ⟨rs, m, c, h1, h2, h3, h4, h5, h6⟩ := enc_last h0
      have : m = 1 ∨ m = 2 ∨ m = 3 := by omega
      rcases this with rfl | rfl | rfl
      · exact brk_high1 x h0 hv hx rs c h1 h2 h5 h6 w
      · exact brk_high2 x h0 hv hx rs c h1 h2 h5 h6 w
      · exact brk_high3 x h0 hv hx rs c h1 h2 h5 h6 w
/-- A set of bytes of the lower half, of which a rune above 127 is none. -/
structure SetC (C : List UInt8) : Prop where
  two : 2 ≤ C.length
  few : C.length < 100
  low : LowSet C
  none_ : ∀ (x : Nat) (h0 : 128 ≤ x) (w : World), Calls Tryz.prog 109 #[.string (bs C), .int .i32 x] w fun e w' => e = .returned (.int .i64 (-1)) ∧ Below w.heap.size w w'
theorem SetC.ascii {C : List UInt8} (h : SetC C) : ∀ (j : Nat) b, (bs C).data.toList[j]? = some b → b.toNat < 128 := fun j b hb => by
  rw [bs_list] at hb
  rcases Nat.lt_or_ge b.toNat 128 with h1 | h1
  · exact h1
  · have := h.low b h1
    rw [List.contains_iff_mem.2 (List.mem_of_getElem? hb)] at this
    cases this
theorem set_brk : SetC [91, 93] := ⟨by decide, by decide, low_brk, brk_none⟩
theorem set_wht : SetC [32, 9, 13] := ⟨by decide, by decide, low_wht, idx_none⟩
theorem two_split : ∀ {C : List UInt8}, 2 ≤ C.length → ∃ c0 c1 C', C = c0 :: c1 :: C'
  | [], h => by simp at h
  | [_], h => by simp at h
  | c0 :: c1 :: C', _ => ⟨c0, c1, C', rfl⟩
set_option maxHeartbeats 8000000 in
set_option maxRecDepth 1000000 in
theorem any_short {C : List UInt8} (hC : SetC C) (l : List UInt8) (h8 : l.length ≤ 8) (w : World) : Calls Tryz.prog 93 #[.string (bs l), .string (bs C)] w fun e w' => e = .returned (.int .i64 (Lib.indexAny l C)) ∧ Below w.heap.size w w' := by
  have HIR := Lib.hid hC.none_
  have HIA := Lib.hid (fun (x : Nat) (h : x < 128) (W : World) => (Tryz.strings_IndexRune_ascii (bs C) (x : Int) W (by omega) (by omega)).mono fun e w' (h : _ ∧ w' = W) => And.intro h.1 h.2.symm)
  have HLOW := Lib.hid hC.low
  have hc2 := hC.two
  obtain ⟨c0, c1, C', hCC⟩ := two_split hc2
  have hcs : (bs C).size = C'.length + 2 := by rw [bs_size, hCC]; rfl
  have hemp : (bs C).toList.isEmpty = false := by rw [bs_toList, hCC]; rfl
  have hemp2 : ((bs C).toList == []) = false := by rw [bs_toList, hCC]; rfl
  have hn1 : (((bs C).size : Int) == 1) = false := beq_eq_false_iff_ne.2 (by omega)
  have hl : (bs l).size = l.length := bs_size l
  have h8z : decide ((8 : Int) < ((bs l).size : Int)) = false := decide_eq_false (by omega)
  have HSU := Lib.hid (fun W => (Tryz.strings_shouldUseASCIISet ((bs l).size : Int) W).mono fun e w' (h : _ ∧ w' = W) => And.intro h.1 h.2.symm)
  rw [h8z] at HSU
  have HBS := Lib.hid (show (bs C).data.toList = C from bs_list C)
  rw [HBS.out] at HIA
  have HGET := Lib.hid (show ∀ i (h : i < (bs l).size), l[i]? = some ((bs l)[i]'h) from fun i h => by rw [List.getElem?_eq_getElem (by omega)]; rfl)
  have HLO := Lib.hid (fun k x h h2 => dec_low (l := l) (k := k) (x := x) h h2)
  have HHI := Lib.hid (fun k x h h2 => dec_high (l := l) (k := k) (x := x) h h2)
  have HHIT := Lib.hid (fun i x h1 h2 h3 => Lib.indexAny_hit (s := l) (chars := C) (i := i) (x := x) h1 h2 h3)
  have HNONE := Lib.hid (fun h => Lib.indexAny_none (s := l) (chars := C) h)
  obtain ⟨D, hD⟩ : ∃ D, D = bs C := ⟨_, rfl⟩
  rw [← hD] at HIR HIA hcs hemp hemp2 hn1 ⊢
  obtain ⟨S, hS⟩ : ∃ S, S = bs l := ⟨_, rfl⟩
  have HL := Lib.hid hl
  rw [← hS] at HLO HHI HSU hl HGET HL ⊢
  clear hC hc2 hCC h8z hD hS h8 hl
  go_enter Tryz.func93, Tryz.ntmps93
  go_wp2_with (go_at_call 110; ((with_reducible refine (HSU.out _).mono ?_); rintro e w1 ⟨rfl, rfl⟩))
  go_loopg [9, 10] S.size (fun gf _ _ wx => ∃ pos : Nat, wx.heap[w.heap.size]? = some (.stringIter S pos) ∧ Below w.heap.size w wx ∧ pos ≤ S.size ∧ S.size ≤ pos + gf ∧ Lib.NoAny l C pos)
  case atStart => exact ⟨0, World.iter_heap w S 0, (Below.refl _ w).alloc (Nat.le_refl _) _, Nat.zero_le _, by omega, Lib.NoAny.zero _ _⟩
  case round =>
    obtain ⟨pos, hit, hbw, hle, hfu, hno⟩ := hrel
    have HN := Lib.hid hno
    clear hno
    by_cases hps : pos < S.size
    · obtain ⟨g', rfl⟩ : ∃ g', gk = g' + 1 := ⟨gk - 1, by omega⟩
      have hnx : ∀ ty, (Instr.next (.pointer (some ⟨w.heap.size, 0, none⟩)) true ty).run Tryz.prog wr = _ := fun ty => Lib.run_next_any_at wr w.heap.size S pos ty hit hps
      obtain ⟨x, hx⟩ : ∃ x, x = S[pos]'hps := ⟨_, rfl⟩
      have hxl := HGET.out pos hps
      rw [← hx] at hxl
      by_cases hlow : x.toNat < 128
      · rw [HLO.out pos x hxl hlow] at hnx
        simp only at hnx
        have hit2 := Lib.iterAt_heap wr w.heap.size S pos (pos + 1) hit
        have hbw2 := Lib.below_iterAt hbw (k := w.heap.size) (Nat.le_refl _) S (pos + 1)
        obtain ⟨W, hWd⟩ : ∃ W, wr.iterAt w.heap.size S (pos + 1) = W := ⟨_, rfl⟩
        rw [hWd] at hnx hit2 hbw2
        have HI2 := Lib.hid (HIA.out x.toNat hlow)
        have hcon := Lib.contains_iff_indexByte C x
        have hback : ((x.toNat : Int)).toNat.toUInt8 = x := by simp
        rw [hback] at HI2
        obtain ⟨I, hI⟩ : ∃ I, I = Lib.indexByte C x := ⟨_, rfl⟩
        rw [← hI] at HI2 hcon
        have HX := Lib.hid hxl
        obtain ⟨R, hR⟩ : ∃ R : Nat, R = x.toNat := ⟨_, rfl⟩
        rw [← hR] at HI2 hnx
        clear hI hxl hx hlow hWd hback hR
        cases hin : C.contains x with
        | false =>
          rw [hin] at hcon
          have hlt : ¬ ((0 : Int) ≤ I) := of_decide_eq_false hcon.symm
          have HIN := Lib.hid hin
          clear hcon hin
          go_wp2_with (go_at_call 109; ((with_reducible refine (HI2.out _).mono ?_); rintro e w2 ⟨rfl, rfl⟩))
          go_roundg g'
          case measure => omega
          case rel => exact ⟨pos + 1, hit2, hbw2, by omega, by omega, HN.out.succ HX.out HIN.out⟩
        | true =>
          rw [hin] at hcon
          have hge : (0 : Int) ≤ I := of_decide_eq_true hcon.symm
          have HE := Lib.hid (HHIT.out pos x HN.out HX.out hin)
          clear hcon hin
          go_wp2_with (go_at_call 109; ((with_reducible refine (HI2.out _).mono ?_); rintro e w2 ⟨rfl, rfl⟩))
          go_ret
          exact ⟨by rw [HE.out]; rfl, hbw2⟩
      · obtain ⟨d1, d2, d3, d4⟩ := HHI.out pos x hxl (by omega)
        obtain ⟨R, hR⟩ : ∃ R, R = (Utf8.decode S pos).1 := ⟨_, rfl⟩
        obtain ⟨K, hK⟩ : ∃ K, K = (Utf8.decode S pos).2 := ⟨_, rfl⟩
        rw [← hR, ← hK] at hnx
        rw [← hR] at d1
        rw [← hK] at d2 d3 d4
        have hit2 := Lib.iterAt_heap wr w.heap.size S pos (pos + K) hit
        have hbw2 := Lib.below_iterAt hbw (k := w.heap.size) (Nat.le_refl _) S (pos + K)
        obtain ⟨W, hWd⟩ : ∃ W, wr.iterAt w.heap.size S (pos + K) = W := ⟨_, rfl⟩
        rw [hWd] at hnx hit2 hbw2
        have hltW : w.heap.size < W.heap.size := (Array.getElem?_eq_some_iff.1 hit2).1
        have HI2 := Lib.hid (fun W => HIR.out R d1 W)
        have HNX := Lib.hid (show Lib.NoAny l C (pos + K) from fun j b hj hb => by
          rcases Nat.lt_or_ge j pos with h1 | h1
          · exact HN.out j b h1 hb
          · exact HLOW.out b (d4 j b h1 hj hb))
        have HD := Lib.hid (And.intro d2 d3)
        clear hxl hx hlow hWd hR hK d1 d2 d3 d4
        go_wp2_with (go_at_call 109; ((with_reducible refine (HI2.out _).mono ?_); rintro e w2 ⟨rfl, b2⟩))
        go_roundg g'
        case measure => omega
        case rel => exact ⟨pos + K, (b2.block _ hltW).trans hit2, hbw2.trans (b2.mono hbw2.size), by have := HD.out.2; have := HL.out; omega, by have := HD.out.1; omega, HNX.out⟩
    · have hnx : ∀ ty, (Instr.next (.pointer (some ⟨w.heap.size, 0, none⟩)) true ty).run Tryz.prog wr = _ := fun ty => Lib.run_next_end_at wr w.heap.size S pos ty hit hps
      have HE := Lib.hid (HNONE.out (by rw [show l.length = pos by have := HL.out; omega]; exact HN.out))
      go_wp2
      go_ret
      exact ⟨by rw [HE.out]; rfl, hbw⟩
theorem bool256_info : (Tryz.prog.info? 134).map (fun i => (i.zero, i.size)) = some (some (.agg (Array.replicate 256 (.bool false))), 256) := by kernel_rfl
set_option maxRecDepth 1000000 in
theorem any_idx {C : List UInt8} (hC : SetC C) (l : List UInt8) (hl : l.length < 4294967281) (w : World) : Calls Tryz.prog 93 #[.string (bs l), .string (bs C)] w fun e w' => e = .returned (.int .i64 (Lib.indexAny l C)) ∧ Below w.heap.size w w' := by
  by_cases h8 : l.length ≤ 8
  · exact any_short hC l h8 w
  · have h := Tryz.strings_IndexAny_long (zero_of_info bool256_info).1 (bs l) (bs C) w (by rw [bs_size]; exact hC.two) (by rw [bs_size]; omega) (by rw [bs_size]; exact hl) (by rw [bs_size]; have := hC.few; omega) hC.ascii
    refine h.mono ?_
    rintro e w' ⟨rfl, rfl⟩
    rw [bs_list, bs_list]
    exact ⟨rfl, ((Below.refl _ _).alloc (Nat.le_refl _) _).alloc (by simp) _⟩
theorem any_call {C : List UInt8} (hC : SetC C) (l : List UInt8) (hl : l.length < 4294967281) (w : World) : Calls Tryz.prog 73 #[.string (bs l), .string (bs C)] w fun e w' => e = .returned (.bool (Lib.containsAny l C)) ∧ Below w.heap.size w w' := by
  have HI := Lib.hid (fun W => any_idx hC l hl W)
  unfold Lib.containsAny
  obtain ⟨I, hI⟩ : ∃ I, I = Lib.indexAny l C := ⟨_, rfl⟩
  rw [← hI] at HI ⊢
  clear hI hC hl
  go_enter Tryz.func73, Tryz.ntmps73
  go_wp2_with (go_at_call 93; ((with_reducible refine (HI.out _).mono ?_); rintro e w1 ⟨rfl, b1⟩))
  go_ret
  exact ⟨rfl, b1⟩
end Go.Proofs.YtgigdhincpcdbaaGreatDoor
