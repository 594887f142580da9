/- Trimming by runes, as the library's texts go, at white space: what is left is the bytes without white space at either end, whatever bytes they are. Plain lists and numbers, no program. -/
import Derived.Test.YtifjnioichfodaaDoorLa
import Derived.Lib.TrimUEq
import Derived.Shelf.GgClosure.StringsTrimFunc
namespace Go.Proofs.YtifjnioichfodaaDoor
set_option linter.unusedVariables false
set_option linter.unusedSimpArgs false

/-- White space, as a rune. -/
def whR (r : Nat) : Bool := r == 32 || r == 9 || r == 13
theorem whR_blk (b : UInt8) : whR b.toNat = blkB b := by
  unfold whR blkB
  have e : ∀ k : UInt8, (b.toNat == k.toNat) = (b == k) := fun k => by
    rw [Bool.eq_iff_iff, beq_iff_eq, beq_iff_eq]
    exact UInt8.toNat_inj
  rw [show (b.toNat == 32) = (b == 32) from e 32, show (b.toNat == 9) = (b == 9) from e 9, show (b.toNat == 13) = (b == 13) from e 13]
theorem whR_big {r : Nat} (h : 128 ≤ r) : whR r = false := by
  unfold whR
  rw [beq_eq_false_iff_ne.2 (show r ≠ 32 by omega), beq_eq_false_iff_ne.2 (show r ≠ 9 by omega), beq_eq_false_iff_ne.2 (show r ≠ 13 by omega)]; rfl
set_option maxRecDepth 100000 in
theorem dec_big (n b0 b1 b2 b3 : Nat) (h : 128 ≤ b0) : 128 ≤ (Lib.decodeN n b0 b1 b2 b3).1 := by
  unfold Lib.decodeN
  repeat' split
  all_goals first | (exfalso; omega) | (simp only; omega)
theorem getD_at {l : List UInt8} {k : Nat} (h : k < l.length) : l.getD k 0 = l[k] := by simp [List.getD, h]
theorem blk_low {b : UInt8} (h : blkB b = true) : b.toNat < 128 := by
  rcases Nat.lt_or_ge b.toNat 128 with h1 | h1
  · exact h1
  · rw [← whR_blk, whR_big h1] at h; cases h
theorem decL_blank {l : List UInt8} {c : UInt8} {r : List UInt8} (e : l = c :: r) (h : blkB c = true) : Lib.decodeL l = (c.toNat, 1) := by
  rw [Lib.decodeL_N, e]
  exact Lib.decodeN_ascii _ _ _ _ _ (blk_low h)
theorem decL_other {l : List UInt8} {c : UInt8} {r : List UInt8} (e : l = c :: r) (h : blkB c = false) : whR (Lib.decodeL l).1 = false := by
  rw [Lib.decodeL_N, e]
  rcases Nat.lt_or_ge c.toNat 128 with h1 | h1
  · show whR (Lib.decodeN _ c.toNat _ _ _).1 = false
    rw [Lib.decodeN_ascii _ _ _ _ _ h1]
    show whR c.toNat = false
    rw [whR_blk, h]
  · exact whR_big (dec_big _ c.toNat _ _ _ h1)
theorem dec_drop (l : List UInt8) (k : Nat) : Utf8.decode (bs l) k = Lib.decodeL (l.drop k) := (Lib.decodeL_drop (bs l) k).symm
theorem idx_left (l : List UInt8) : ∀ (f k : Nat), l.length ≤ k + f → k ≤ l.length →
    Lib.idxFuncFrom whR false (bs l) f k = if (l.drop k).dropWhile blkB = [] then -1 else ((l.length - ((l.drop k).dropWhile blkB).length : Nat) : Int)
  | 0, k, h, h2 => by
    obtain rfl : k = l.length := by omega
    rw [List.drop_length]; rfl
  | f + 1, k, h, h2 => by
    unfold Lib.idxFuncFrom
    rw [bs_size, dec_drop]
    by_cases hk : k < l.length
    · have e : l.drop k = l[k] :: l.drop (k + 1) := List.drop_eq_getElem_cons hk
      rw [if_pos hk]
      cases hb : blkB l[k] with
      | true =>
        rw [decL_blank e hb]
        show (if whR l[k].toNat = false then _ else Lib.idxFuncFrom whR false (bs l) f (k + 1)) = _
        rw [whR_blk, hb, if_neg (by decide), idx_left l f (k + 1) (by omega) hk, e, List.dropWhile_cons_of_pos hb]
      | false =>
        rw [decL_other e hb, if_pos rfl, e, List.dropWhile_cons_of_neg (by rw [hb]; decide), ← e, if_neg (by rw [e]; exact List.cons_ne_nil _ _), List.length_drop]
        have : l.length - (l.length - k) = k := by omega
        rw [this]
    · obtain rfl : k = l.length := by omega
      rw [if_neg hk, List.drop_length]; rfl
theorem suf_drop {a l : List UInt8} (h : a <:+ l) : l.drop (l.length - a.length) = a := (List.suffix_iff_eq_drop.1 h).symm
theorem left_is (l : List UInt8) : Lib.trimLeftF whR (bs l) = bs (l.dropWhile blkB) := by
  have h := idx_left l l.length 0 (by omega) (by omega)
  rw [List.drop_zero] at h
  unfold Lib.trimLeftF Lib.idxFunc
  rw [bs_size, h]
  by_cases h0 : l.dropWhile blkB = []
  · rw [if_pos h0, if_pos rfl, h0]; rfl
  · rw [if_neg h0, if_neg (by omega), Int.toNat_natCast, Lib.extract_eq, bs_list, suf_drop (List.dropWhile_suffix _)]
    rw [List.take_of_length_le (by have := (List.dropWhile_suffix (l := l) blkB).length_le; omega)]
    rfl
/-- A last rune whose last byte is none of the lower half is no white space. -/
theorem last_other {l : List UInt8} {i : Nat} (hi : 0 < i) (hil : i ≤ l.length) (hb : 128 ≤ (l.getD (i - 1) 0).toNat) : whR (Lib.decodeLastL (l.take i)).1 = false := by
  rcases Lib.last_cases l i hi hil with ⟨ha, hd⟩ | ⟨ha, hd⟩ | ⟨ha, st, hst, hd, hsum⟩
  · omega
  · rw [hd]; exact whR_big (by decide)
  · rw [hd]
    refine whR_big ?_
    rw [Lib.decodeL_N, Lib.getD_dropU, Nat.add_zero, Lib.getD_takeU l i st hst] at hsum ⊢
    rcases Nat.lt_or_ge (l.getD st 0).toNat 128 with h1 | h1
    · rw [Lib.decodeN_ascii _ _ _ _ _ h1] at hsum
      obtain rfl : st = i - 1 := by simp only at hsum; omega
      omega
    · exact dec_big _ _ _ _ _ h1
theorem take_snoc' {l : List UInt8} {i : Nat} (h : i < l.length) : l.take (i + 1) = l.take i ++ [l[i]] := List.take_succ_eq_append_getElem h
theorem idx_right (l : List UInt8) : ∀ (f i : Nat), i ≤ f → i ≤ l.length → (∀ j (h : j < l.length), i ≤ j → blkB l[j] = true) →
    (if 0 ≤ Lib.lastIdxFuncFrom whR false (bs l) f i then (Lib.lastIdxFuncFrom whR false (bs l) f i).toNat + (Lib.decodeL (l.drop (Lib.lastIdxFuncFrom whR false (bs l) f i).toNat)).2 else 0) = ((l.take i).reverse.dropWhile blkB).length
  | 0, i, h, h2, _ => by
    obtain rfl : i = 0 := by omega
    rfl
  | f + 1, 0, h, h2, _ => by
    rw [Lib.lastIdxFuncFrom_zero]; rfl
  | f + 1, i + 1, h, h2, hB => by
    have hg : l.getD (i + 1 - 1) 0 = l[i] := getD_at (by omega)
    have hrev : (l.take (i + 1)).reverse = l[i] :: (l.take i).reverse := by rw [take_snoc' (by omega), List.reverse_append]; rfl
    have ho : Lib.OpenAt l (i + 1) := by
      rcases Nat.lt_or_ge (i + 1) l.length with h3 | h3
      · refine .inr ?_
        rw [getD_at h3]
        have := blk_low (hB (i + 1) h3 (Nat.le_refl _))
        omega
      · exact .inl (by omega)
    unfold Lib.lastIdxFuncFrom
    rw [bs_list, if_pos (Nat.succ_pos i)]
    cases hb : blkB l[i] with
    | true =>
      have hd : Lib.decodeLastL (l.take (i + 1)) = (l[i].toNat, 1) := by
        rcases Lib.last_cases l (i + 1) (Nat.succ_pos i) h2 with ⟨ha, hd⟩ | ⟨ha, hd⟩ | ⟨ha, st, hst, hd, hsum⟩
        · rw [hd, hg]
        · rw [hg] at ha; have := blk_low hb; omega
        · rw [hg] at ha; have := blk_low hb; omega
      rw [hd, hrev, List.dropWhile_cons_of_pos hb]
      show (if 0 ≤ (if whR l[i].toNat = false then _ else _) then (if whR l[i].toNat = false then _ else _ : Int).toNat + (Lib.decodeL (l.drop (if whR l[i].toNat = false then _ else _ : Int).toNat)).2 else 0) = _
      rw [whR_blk, hb]
      simp only [Bool.true_eq_false, if_false]
      exact idx_right l f i (by omega) (by omega) fun j hj hij => by
        rcases Nat.lt_or_ge i j with h3 | h3
        · exact hB j hj h3
        · obtain rfl : j = i := by omega
          exact hb
    | false =>
      have hw : whR (Lib.decodeLastL (l.take (i + 1))).1 = false := by
        rcases Nat.lt_or_ge l[i].toNat 128 with h3 | h3
        · rcases Lib.last_cases l (i + 1) (Nat.succ_pos i) h2 with ⟨ha, hd⟩ | ⟨ha, hd⟩ | ⟨ha, st, hst, hd, hsum⟩
          · rw [hd, hg]; show whR l[i].toNat = false; rw [whR_blk, hb]
          · rw [hg] at ha; omega
          · rw [hg] at ha; omega
        · exact last_other (Nat.succ_pos i) h2 (by rw [hg]; exact h3)
      have hK := Lib.decodeLastL_width (l.take (i + 1)) (by rw [List.length_take]; omega)
      rw [List.length_take, Nat.min_eq_left h2] at hK
      have hfw := Lib.fw_width l (i + 1) (Nat.succ_pos i) h2 ho
      rw [hw, if_pos rfl, if_pos (by omega), Int.toNat_natCast, hfw, hrev, List.dropWhile_cons_of_neg (by rw [hb]; decide), List.length_cons, List.length_reverse, List.length_take]
      omega
theorem pre_take {a l : List UInt8} (h : a <+: l) : l.take a.length = a := (List.prefix_iff_eq_take.1 h).symm
theorem right_is (l : List UInt8) : Lib.trimRightF whR (bs l) = bs (l.reverse.dropWhile blkB).reverse := by
  have h := idx_right l l.length l.length (Nat.le_refl _) (Nat.le_refl _) (fun j hj h => by omega)
  rw [List.take_length] at h
  have hp : (l.reverse.dropWhile blkB).reverse <+: l := by
    have := List.reverse_prefix.2 (List.dropWhile_suffix (l := l.reverse) blkB)
    rwa [List.reverse_reverse] at this
  have he : Lib.rightEndF whR (bs l) = (l.reverse.dropWhile blkB).length := by
    rw [← h]
    unfold Lib.rightEndF Lib.lastIdxFunc
    rw [bs_size]
    split
    · rename_i h0
      congr 1
      have hr := Lib.lastIdxFuncFrom_range whR false (bs l) l.length l.length
      obtain ⟨I, hI⟩ : ∃ I, Lib.lastIdxFuncFrom whR false (bs l) l.length l.length = I := ⟨_, rfl⟩
      rw [hI] at hr h0 ⊢
      have hlt : I.toNat < l.length := by
        rcases hr with hr | ⟨_, hr⟩
        · omega
        · rcases Nat.lt_or_ge I.toNat l.length with h3 | h3
          · exact h3
          · exfalso
            have : I = l.length := by omega
            subst this
            have hx := Lib.decodeLastL_width l
            cases hn : l.length with
            | zero => rw [hn] at hI; simp [Lib.lastIdxFuncFrom] at hI
            | succ n =>
              have hx := Lib.decodeLastL_width l (by omega)
              have h2 := Lib.lastIdxFuncFrom_range whR false (bs l) n (l.length - (Lib.decodeLastL l).2)
              rw [hn] at hI
              unfold Lib.lastIdxFuncFrom at hI
              rw [bs_list, if_pos (Nat.succ_pos n), ← hn, List.take_length] at hI
              split at hI
              · omega
              · rcases h2 with h2 | ⟨_, h2⟩ <;> omega
      have hx : (bs l).extract I.toNat l.length = bs (l.drop I.toNat) := by
        rw [Lib.extract_eq, bs_list, List.take_of_length_le (by rw [List.length_drop]; omega)]; rfl
      rw [hx]
      unfold Lib.decodeGoB
      rw [if_neg (by rw [bs_size, List.length_drop]; omega)]
      rfl
    · rfl
  unfold Lib.trimRightF
  rw [he, Lib.extract_eq, bs_list, List.drop_zero, Nat.sub_zero, ← List.length_reverse, pre_take hp]; rfl
theorem trim_is (l : List UInt8) : Lib.trimF whR (bs l) = bs (trimL l) := by
  unfold Lib.trimF
  rw [left_is, right_is]; rfl
/-- What is not white space begins a comment, or doesn't. -/
theorem com_rest (l : List UInt8) : comL l = match l.dropWhile blkB with | [] => false | c :: _ => decide (0 ≤ Lib.indexByte [35, 59] c) := by
  unfold comL
  cases l.dropWhile blkB with
  | nil => rfl
  | cons c r =>
    show (c == 35 || c == 59) = decide (0 ≤ Lib.indexByte [35, 59] c)
    by_cases h1 : c = 35
    · subst h1; decide
    · by_cases h2 : c = 59
      · subst h2; decide
      · rw [beq_eq_false_iff_ne.2 h1, beq_eq_false_iff_ne.2 h2]
        have : Lib.indexByte [35, 59] c = -1 := by
          simp [Lib.indexByte, List.findIdx?, List.findIdx?.go, h1, h2, Ne.symm h1, Ne.symm h2]
        rw [this]; decide
end Go.Proofs.YtifjnioichfodaaDoor
