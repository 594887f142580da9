/- Trimming by runes, as the library's texts go, at white space: what is left is the bytes without white space at either end, whatever bytes they are. Plain lists and numbers, no program. Loops over iterators that read between two rounds; the lines of a string; a builder; small calls of the library. No condition but that a string has at most 2^47 bytes. The lines as an iterator over a string's lines hands them over; the logical lines, a line at a time: what is laid down, what is begun, and by which number. Plain lists, no program. -/
import Derived.Test.YtgigdhincpcdbaaGreatDoorLa
import Derived.Lib.TrimUEq
import Derived.Shelf.GgClosure.StringsTrimFunc
import Derived.Test.YtgigdhincpcdbaaGreatDoorWd
import Derived.Test.YtgigdhincpcdbaaGreatDoorHc
import Derived.Deep.DrawnRows
import Derived.RegionTactic
import Derived.BigRegion
import Derived.Deep.AppendLies
import Derived.Lib.AppendIntMem
import Derived.Lib.AtoiErrMem
import Derived.Lib.IndexLaws
import Derived.OwnWalk
import Derived.Deep.QuietTactic
import Derived.WalkSmall
import Derived.Lib.FrozenHead2
import Derived.Lib.OthersKept
import Derived.Laws.Externs
import Derived.Laws.Concat
import Derived.Shelf.Strings.BuilderK
import Derived.RangeFuncBox
import Derived.RangeFuncLeaves
import Derived.RangeFuncCalls
import Derived.WalkKit
import Derived.OwnWalkIn
import Derived.TacticsInMore
import Derived.LoopNIn
import Derived.LoopIn
import Derived.Maps.AppendAt
import Derived.RegionIn
namespace Go.Proofs.YtgigdhincpcdbaaGreatDoor
set_option linter.unusedVariables false
set_option linter.unusedSimpArgs false

/-- White space, as a rune. -/
def whR (r : Nat) : Bool := r == 32 || r == 9 || r == 13
theorem whR_blk (b : UInt8) : whR b.toNat = blkB b := by
  unfold whR blkB
  have e : ∀ k : UInt8, (b.toNat == k.toNat) = (b == k) := fun k => by
    rw [Bool.eq_iff_iff, beq_iff_eq, beq_iff_eq]
    exact UInt8.toNat_inj
  rw [show (b.toNat == 32) = (b == 32) from e 32, show (b.toNat == 9) = (b == 9) from e 9, show (b.toNat == 13) = (b == 13) from e 13]
theorem whR_big {r : Nat} (h : 128 ≤ r) : whR r = false := by
  unfold whR
  rw [beq_eq_false_iff_ne.2 (show r ≠ 32 by omega), beq_eq_false_iff_ne.2 (show r ≠ 9 by omega), beq_eq_false_iff_ne.2 (show r ≠ 13 by omega)]; rfl
set_option maxRecDepth 100000 in
theorem dec_big (n b0 b1 b2 b3 : Nat) (h : 128 ≤ b0) : 128 ≤ (Lib.decodeN n b0 b1 b2 b3).1 := by
  unfold Lib.decodeN
  repeat' split
  all_goals first | (exfalso; omega) | (simp only; omega)
theorem getD_at {l : List UInt8} {k : Nat} (h : k < l.length) : l.getD k 0 = l[k] := by simp [List.getD, h]
theorem blk_low {b : UInt8} (h : blkB b = true) : b.toNat < 128 := by
  rcases Nat.lt_or_ge b.toNat 128 with h1 | h1
  · exact h1
  · rw [← whR_blk, whR_big h1] at h; cases h
theorem decL_blank {l : List UInt8} {c : UInt8} {r : List UInt8} (e : l = c :: r) (h : blkB c = true) : Lib.decodeL l = (c.toNat, 1) := by
  rw [Lib.decodeL_N, e]
  exact Lib.decodeN_ascii _ _ _ _ _ (blk_low h)
theorem decL_other {l : List UInt8} {c : UInt8} {r : List UInt8} (e : l = c :: r) (h : blkB c = false) : whR (Lib.decodeL l).1 = false := by
  rw [Lib.decodeL_N, e]
  rcases Nat.lt_or_ge c.toNat 128 with h1 | h1
  · show whR (Lib.decodeN _ c.toNat _ _ _).1 = false
    rw [Lib.decodeN_ascii _ _ _ _ _ h1]
    show whR c.toNat = false
    rw [whR_blk, h]
  · exact whR_big (dec_big _ c.toNat _ _ _ h1)
theorem dec_drop (l : List UInt8) (k : Nat) : Utf8.decode (bs l) k = Lib.decodeL (l.drop k) := (Lib.decodeL_drop (bs l) k).symm
theorem idx_left (l : List UInt8) : ∀ (f k : Nat), l.length ≤ k + f → k ≤ l.length →
    Lib.idxFuncFrom whR false (bs l) f k = if (l.drop k).dropWhile blkB = [] then -1 else ((l.length - ((l.drop k).dropWhile blkB).length : Nat) : Int)
  | 0, k, h, h2 => by
    obtain rfl : k = l.length := by omega
    rw [List.drop_length]; rfl
  | f + 1, k, h, h2 => by
    unfold Lib.idxFuncFrom
    rw [bs_size, dec_drop]
    by_cases hk : k < l.length
    · have e : l.drop k = l[k] :: l.drop (k + 1) := List.drop_eq_getElem_cons hk
      rw [if_pos hk]
      cases hb : blkB l[k] with
      | true =>
        rw [decL_blank e hb]
        show (if whR l[k].toNat = false then _ else Lib.idxFuncFrom whR false (bs l) f (k + 1)) = _
        rw [whR_blk, hb, if_neg (by decide), idx_left l f (k + 1) (by omega) hk, e, List.dropWhile_cons_of_pos hb]
      | false =>
        rw [decL_other e hb, if_pos rfl, e, List.dropWhile_cons_of_neg (by rw [hb]; decide), ← e, if_neg (by rw [e]; exact List.cons_ne_nil _ _), List.length_drop]
        have : l.length - (l.length - k) = k := by omega
        rw [this]
    · obtain rfl : k = l.length := by omega
      rw [if_neg hk, List.drop_length]; rfl
theorem suf_drop {a l : List UInt8} (h : a <:+ l) : l.drop (l.length - a.length) = a := (List.suffix_iff_eq_drop.1 h).symm
theorem left_is (l : List UInt8) : Lib.trimLeftF whR (bs l) = bs (l.dropWhile blkB) := by
  have h := idx_left l l.length 0 (by omega) (by omega)
  rw [List.drop_zero] at h
  unfold Lib.trimLeftF Lib.idxFunc
  rw [bs_size, h]
  by_cases h0 : l.dropWhile blkB = []
  · rw [if_pos h0, if_pos rfl, h0]; rfl
  · rw [if_neg h0, if_neg (by omega), Int.toNat_natCast, Lib.extract_eq, bs_list, suf_drop (List.dropWhile_suffix _)]
    rw [List.take_of_length_le (by have := (List.dropWhile_suffix (l := l) blkB).length_le; omega)]
    rfl
/-- A last rune whose last byte is none of the lower half is no white space. -/
theorem last_other {l : List UInt8} {i : Nat} (hi : 0 < i) (hil : i ≤ l.length) (hb : 128 ≤ (l.getD (i - 1) 0).toNat) : whR (Lib.decodeLastL (l.take i)).1 = false := by
  rcases Lib.last_cases l i hi hil with ⟨ha, hd⟩ | ⟨ha, hd⟩ | ⟨ha, st, hst, hd, hsum⟩
  · omega
  · rw [hd]; exact whR_big (by decide)
  · rw [hd]
    refine whR_big ?_
    rw [Lib.decodeL_N, Lib.getD_dropU, Nat.add_zero, Lib.getD_takeU l i st hst] at hsum ⊢
    rcases Nat.lt_or_ge (l.getD st 0).toNat 128 with h1 | h1
    · rw [Lib.decodeN_ascii _ _ _ _ _ h1] at hsum
      obtain rfl : st = i - 1 := by simp only at hsum; omega
      omega
    · exact dec_big _ _ _ _ _ h1
theorem take_snoc' {l : List UInt8} {i : Nat} (h : i < l.length) : l.take (i + 1) = l.take i ++ [l[i]] := List.take_succ_eq_append_getElem h
theorem idx_right (l : List UInt8) : ∀ (f i : Nat), i ≤ f → i ≤ l.length → (∀ j (h : j < l.length), i ≤ j → blkB l[j] = true) →
    (if 0 ≤ Lib.lastIdxFuncFrom whR false (bs l) f i then (Lib.lastIdxFuncFrom whR false (bs l) f i).toNat + (Lib.decodeL (l.drop (Lib.lastIdxFuncFrom whR false (bs l) f i).toNat)).2 else 0) = ((l.take i).reverse.dropWhile blkB).length
  | 0, i, h, h2, _ => by
    obtain rfl : i = 0 := by omega
    rfl
  | f + 1, 0, h, h2, _ => by
    rw [Lib.lastIdxFuncFrom_zero]; rfl
  | f + 1, i + 1, h, h2, hB => by
    have hg : l.getD (i + 1 - 1) 0 = l[i] := getD_at (by omega)
    have hrev : (l.take (i + 1)).reverse = l[i] :: (l.take i).reverse := by rw [take_snoc' (by omega), List.reverse_append]; rfl
    have ho : Lib.OpenAt l (i + 1) := by
      rcases Nat.lt_or_ge (i + 1) l.length with h3 | h3
      · refine .inr ?_
        rw [getD_at h3]
        have := blk_low (hB (i + 1) h3 (Nat.le_refl _))
        omega
      · exact .inl (by omega)
    unfold Lib.lastIdxFuncFrom
    rw [bs_list, if_pos (Nat.succ_pos i)]
    cases hb : blkB l[i] with
    | true =>
      have hd : Lib.decodeLastL (l.take (i + 1)) = (l[i].toNat, 1) := by
        rcases Lib.last_cases l (i + 1) (Nat.succ_pos i) h2 with ⟨ha, hd⟩ | ⟨ha, hd⟩ | ⟨ha, st, hst, hd, hsum⟩
        · rw [hd, hg]
        · rw [hg] at ha; have := blk_low hb; omega
        · rw [hg] at ha; have := blk_low hb; omega
      rw [hd, hrev, List.dropWhile_cons_of_pos hb]
      show (if 0 ≤ (if whR l[i].toNat = false then _ else _) then (if whR l[i].toNat = false then _ else _ : Int).toNat + (Lib.decodeL (l.drop (if whR l[i].toNat = false then _ else _ : Int).toNat)).2 else 0) = _
      rw [whR_blk, hb]
      simp only [Bool.true_eq_false, if_false]
      exact idx_right l f i (by omega) (by omega) fun j hj hij => by
        rcases Nat.lt_or_ge i j with h3 | h3
        · exact hB j hj h3
        · obtain rfl : j = i := by omega
          exact hb
    | false =>
      have hw : whR (Lib.decodeLastL (l.take (i + 1))).1 = false := by
        rcases Nat.lt_or_ge l[i].toNat 128 with h3 | h3
        · rcases Lib.last_cases l (i + 1) (Nat.succ_pos i) h2 with ⟨ha, hd⟩ | ⟨ha, hd⟩ | ⟨ha, st, hst, hd, hsum⟩
          · rw [hd, hg]; show whR l[i].toNat = false; rw [whR_blk, hb]
          · rw [hg] at ha; omega
          · rw [hg] at ha; omega
        · exact last_other (Nat.succ_pos i) h2 (by rw [hg]; exact h3)
      have hK := Lib.decodeLastL_width (l.take (i + 1)) (by rw [List.length_take]; omega)
      rw [List.length_take, Nat.min_eq_left h2] at hK
      have hfw := Lib.fw_width l (i + 1) (Nat.succ_pos i) h2 ho
      rw [hw, if_pos rfl, if_pos (by omega), Int.toNat_natCast, hfw, hrev, List.dropWhile_cons_of_neg (by rw [hb]; decide), List.length_cons, List.length_reverse, List.length_take]
      omega
theorem pre_take {a l : List UInt8} (h : a <+: l) : l.take a.length = a := (List.prefix_iff_eq_take.1 h).symm
theorem right_is (l : List UInt8) : Lib.trimRightF whR (bs l) = bs (l.reverse.dropWhile blkB).reverse := by
  have h := idx_right l l.length l.length (Nat.le_refl _) (Nat.le_refl _) (fun j hj h => by omega)
  rw [List.take_length] at h
  have hp : (l.reverse.dropWhile blkB).reverse <+: l := by
    have := List.reverse_prefix.2 (List.dropWhile_suffix (l := l.reverse) blkB)
    rwa [List.reverse_reverse] at this
  have he : Lib.rightEndF whR (bs l) = (l.reverse.dropWhile blkB).length := by
    rw [← h]
    unfold Lib.rightEndF Lib.lastIdxFunc
    rw [bs_size]
    split
    · rename_i h0
      congr 1
      have hr := Lib.lastIdxFuncFrom_range whR false (bs l) l.length l.length
      obtain ⟨I, hI⟩ : ∃ I, Lib.lastIdxFuncFrom whR false (bs l) l.length l.length = I := ⟨_, rfl⟩
      rw [hI] at hr h0 ⊢
      have hlt : I.toNat < l.length := by
        rcases hr with hr | ⟨_, hr⟩
        · omega
        · rcases Nat.lt_or_ge I.toNat l.length with h3 | h3
          · exact h3
          · exfalso
            have : I = l.length := by omega
            subst this
            have hx := Lib.decodeLastL_width l
            cases hn : l.length with
            | zero => rw [hn] at hI; simp [Lib.lastIdxFuncFrom] at hI
            | succ n =>
              have hx := Lib.decodeLastL_width l (by omega)
              have h2 := Lib.lastIdxFuncFrom_range whR false (bs l) n (l.length - (Lib.decodeLastL l).2)
              rw [hn] at hI
              unfold Lib.lastIdxFuncFrom at hI
              rw [bs_list, if_pos (Nat.succ_pos n), ← hn, List.take_length] at hI
              split at hI
              · omega
              · rcases h2 with h2 | ⟨_, h2⟩ <;> omega
      have hx : (bs l).extract I.toNat l.length = bs (l.drop I.toNat) := by
        rw [Lib.extract_eq, bs_list, List.take_of_length_le (by rw [List.length_drop]; omega)]; rfl
      rw [hx]
      unfold Lib.decodeGoB
      rw [if_neg (by rw [bs_size, List.length_drop]; omega)]
      rfl
    · rfl
  unfold Lib.trimRightF
  rw [he, Lib.extract_eq, bs_list, List.drop_zero, Nat.sub_zero, ← List.length_reverse, pre_take hp]; rfl
theorem trim_is (l : List UInt8) : Lib.trimF whR (bs l) = bs (trimL l) := by
  unfold Lib.trimF
  rw [left_is, right_is]; rfl
/-- What is not white space begins a comment, or doesn't. -/
theorem com_rest (l : List UInt8) : comL l = match l.dropWhile blkB with | [] => false | c :: _ => decide (0 ≤ Lib.indexByte [35, 59] c) := by
  unfold comL
  cases l.dropWhile blkB with
  | nil => rfl
  | cons c r =>
    show (c == 35 || c == 59) = decide (0 ≤ Lib.indexByte [35, 59] c)
    by_cases h1 : c = 35
    · subst h1; decide
    · by_cases h2 : c = 59
      · subst h2; decide
      · rw [beq_eq_false_iff_ne.2 h1, beq_eq_false_iff_ne.2 h2]
        have : Lib.indexByte [35, 59] c = -1 := by
          simp [Lib.indexByte, List.findIdx?, List.findIdx?.go, h1, h2, Ne.symm h1, Ne.symm h2]
        rw [this]; decide
end Go.Proofs.YtgigdhincpcdbaaGreatDoor
namespace Go.Proofs.YtgigdhincpcdbaaGreatDoor
open Go.RowKit Go.Shelf
set_option linter.unusedVariables false
set_option linter.unusedSimpArgs false
section
open Go.RowKit
theorem news_lit (w : World) (cs : Array Value) (e : TypeId) (l : List Value) (h : cs.toList = l) : ∀ j u, l[j]? = some u → (w.alloc (.cells cs e)).cell? ((⟨w.heap.size, 0, none⟩ : Addr).add j) = some u := by
  intro j u hu
  subst h
  rw [Addr.add_lit, Nat.zero_add, cell_of_row (w.alloc (.cells cs e)) w.heap.size j cs e (0, 0) (heap_alloc_new w _)]
  simpa using hu
end
section
/-- A text, cut behind each byte 10. -/
def cutsL : List UInt8 → List (List UInt8)
  | [] => []
  | c :: r => if c = 10 then [10] :: cutsL r else match cutsL r with | [] => [[c]] | h :: t => (c :: h) :: t
/-- The first line, and what is behind it. -/
def headN : List UInt8 → List UInt8
  | [] => []
  | c :: r => if c = 10 then [10] else c :: headN r
def tailN : List UInt8 → List UInt8
  | [] => []
  | c :: r => if c = 10 then r else tailN r
theorem cuts_head : ∀ {l : List UInt8}, l ≠ [] → cutsL l = headN l :: cutsL (tailN l)
  | [], h => absurd rfl h
  | c :: r, _ => by
    have e0 : cutsL (c :: r) = if c = 10 then [10] :: cutsL r else match cutsL r with | [] => [[c]] | h :: t => (c :: h) :: t := by rw [cutsL]
    have e1 : headN (c :: r) = if c = 10 then [10] else c :: headN r := by rw [headN]
    have e2 : tailN (c :: r) = if c = 10 then r else tailN r := by rw [tailN]
    rw [e0, e1, e2]
    by_cases h : c = 10
    · rw [if_pos h, if_pos h, if_pos h]
    · rw [if_neg h, if_neg h, if_neg h]
      cases r with
      | nil => rfl
      | cons d t => rw [cuts_head (l := d :: t) (by simp)]
theorem head_le : ∀ (l : List UInt8), (headN l).length ≤ l.length ∧ (tailN l).length ≤ l.length
  | [] => ⟨Nat.le_refl _, Nat.le_refl _⟩
  | c :: r => by
    have := head_le r
    unfold headN tailN
    split
    · simp
    · simp; omega
theorem tail_lt : ∀ {l : List UInt8}, l ≠ [] → (tailN l).length < l.length
  | [], h => absurd rfl h
  | c :: r, _ => by
    have := head_le r
    unfold tailN
    split
    · simp
    · simp; omega
theorem cuts_le {l x : List UInt8} (h : x ∈ cutsL l) : x.length ≤ l.length := by
  induction hn : l.length using Nat.strongRecOn generalizing l with
  | _ n ih =>
    by_cases hl : l = []
    · subst hl; exact absurd h (by simp [cutsL])
    · rw [cuts_head hl] at h
      rcases List.mem_cons.1 h with e | h
      · rw [e, ← hn]; exact (head_le l).1
      · have := tail_lt hl
        have := ih (tailN l).length (by omega) h rfl
        omega
/-- What is left behind so many lines. -/
def restN (l : List UInt8) : Nat → List UInt8
  | 0 => l
  | j + 1 => tailN (restN l j)
theorem rest_cuts (l : List UInt8) : ∀ (j : Nat), cutsL (restN l j) = (cutsL l).drop j
  | 0 => rfl
  | j + 1 => by
    show cutsL (tailN (restN l j)) = _
    rw [← List.drop_drop, ← rest_cuts l j]
    by_cases h : restN l j = []
    · rw [h]; rfl
    · rw [cuts_head h]; rfl
theorem rest_le (l : List UInt8) : ∀ (j : Nat), (restN l j).length ≤ l.length
  | 0 => Nat.le_refl _
  | j + 1 => Nat.le_trans (head_le _).2 (rest_le l j)
end
section
open Go.RowKit Go.Shelf Go.Sort
attribute [local go_sem ↓] Go.wp_at_zero Go.wp_at_succ
theorem trimS_call (l : List UInt8) (hl : l.length ≤ 140737488355328) (w : World) : Calls Tryz.prog 85 #[.string (bs l), .string ⟨#[10]⟩] w fun e w' => e = .returned (.string (bs (Lib.trimSuffix l [10]))) ∧ w = w' :=
  (Tryz.strings_TrimSuffix (bs l) ⟨#[10]⟩ w (by rw [bs_size]; omega)).mono fun e w' ⟨h1, h2⟩ => ⟨h1, h2.symm⟩
theorem index8_call (l : List UInt8) (c : UInt8) (w : World) : Calls Tryz.prog 107 #[.string (bs l), .int .u8 (c.toNat : Int)] w fun e w' => e = .returned (.int .i64 (Lib.indexByte l c)) ∧ w = w' :=
  (Tryz.stringslite_IndexByte (bs l) c.toNat w).mono fun e w' ⟨h1, h2⟩ => ⟨by rw [h1, bs_list, Int.toNat_natCast]; simp, h2.symm⟩
theorem head_index : ∀ (l : List UInt8), (Lib.indexByte l 10 = -1 ∧ headN l = l ∧ tailN l = []) ∨ ∃ i : Nat, Lib.indexByte l 10 = i ∧ i < l.length ∧ headN l = l.take (i + 1) ∧ tailN l = l.drop (i + 1)
  | [] => Or.inl ⟨rfl, rfl, rfl⟩
  | c :: r => by
    unfold Lib.indexByte headN tailN
    by_cases h : c = 10
    · subst h
      exact Or.inr ⟨0, rfl, by simp, rfl, rfl⟩
    · rw [if_neg h, if_neg h, beq_eq_false_iff_ne.2 h, if_neg Bool.false_ne_true]
      rcases head_index r with ⟨h1, h2, h3⟩ | ⟨i, h1, h2, h3, h4⟩
      · rw [h1, h2, h3]; exact Or.inl ⟨rfl, rfl, rfl⟩
      · rw [h1, h3, h4]
        refine Or.inr ⟨i + 1, ?_, by simp; omega, rfl, rfl⟩
        rw [if_neg (by rw [beq_iff_eq]; omega)]
        omega
theorem bs_sub (l : List UInt8) (a b : Nat) : (bs l).extract a b = bs ((l.drop a).take (b - a)) := by
  rw [Lib.extract_eq, bs_list]; rfl
theorem index10_call (l : List UInt8) (w : World) : Calls Tryz.prog 89 #[.string (bs l), .int .u8 10] w fun e w' => e = .returned (.int .i64 (Lib.indexByte l 10)) ∧ w = w' := by
  have HC := Lib.hid (show ∀ W, Calls Tryz.prog 107 #[.string (bs l), .int .u8 10] W fun e w' => e = .returned (.int .i64 (Lib.indexByte l 10)) ∧ W = w' from fun W => index8_call l 10 W)
  go_enter Tryz.func89, Tryz.ntmps89
  go_wp2_with (go_at_call 107; ((with_reducible refine (HC.out _).mono ?_); rintro e w1 ⟨rfl, rfl⟩))
  go_ret
  exact ⟨rfl, rfl⟩
end
section
open Go.RowKit Go.Shelf
attribute [local go_sem ↓] Go.wp_at_zero Go.wp_at_succ
/-- A builder of one's own that holds these bytes. -/
abbrev Bld (B b : Nat) (l : List UInt8) (w : World) : Prop := Lib.IsBuilderF 107 5 B b (Lib.byteCells l) w
abbrev OthK (b : Nat) (w w' : World) : Prop := Lib.OthersKept 5 (some b) w w'
theorem bld_info : (Tryz.prog.info? 107).map (·.size) = some 2 := by kernel_rfl
theorem byte_info : (Tryz.prog.info? 5).map (fun i => (i.zero, i.size, i.bytes)) = some (some (.int .u8 0), 1, 1) := by kernel_rfl
set_option maxHeartbeats 1000000 in
set_option maxRecDepth 100000 in
theorem check_used (b : Nat) (w : World) (h0 : w.cell? ⟨b, 0, none⟩ = some (.pointer (some ⟨b, 0, none⟩))) :
    Calls Tryz.prog 91 #[.pointer (some ⟨b, 0, none⟩)] w fun e w' => e = .returned (.tuple #[]) ∧ w' = w := by
  obtain ⟨j, hj, _⟩ := Option.map_eq_some_iff.1 bld_info
  go_enter Tryz.func91, Tryz.ntmps91
  go_wp2
  rw [Lib.run_neq_ptr_same w _ Tryz.underlying105 hj]
  go_wp2
  go_end0
  exact ⟨rfl, rfl⟩
set_option maxHeartbeats 1000000 in
set_option maxRecDepth 100000 in
theorem check_fresh (b : Nat) (w : World) (h0 : w.cell? ⟨b, 0, none⟩ = some (.pointer none)) (hsh : w.shape? b = some (107, 2)) (hfz : w.frozen? ⟨b, 0, none⟩ = false) :
    Calls Tryz.prog 91 #[.pointer (some ⟨b, 0, none⟩)] w fun e w' => e = .returned (.tuple #[]) ∧ w' = w.setCell ⟨b, 0, none⟩ (.pointer (some ⟨b, 0, none⟩)) := by
  obtain ⟨j, hj, hjs⟩ := Option.map_eq_some_iff.1 bld_info
  go_enter Tryz.func91, Tryz.ntmps91
  go_wp2
  rw [Lib.run_to_unsafe w ⟨b, 0, none⟩ Tryz.underlying105 Tryz.underlying144 hj (by rw [hjs]; decide) hsh (Nat.zero_lt_succ 1)]
  simp only [Result.andThen]
  rw [Oper.upon_value]
  go_wp2
  rw [run_callFunc_extern Tryz.func108 (by kernel_rfl) (by kernel_rfl) (by kernel_rfl) (e := Extern.AbiNoEscape.same) (by kernel_rfl)]
  rw [Lib.run_noEscape]
  simp only [Result.andThen]
  rw [Oper.upon_value]
  go_wp2
  rw [Lib.run_from_unsafe w ⟨b, 0, none⟩ Tryz.underlying144 Tryz.underlying105 hj hsh (by kernel_rfl)]
  simp only [Result.andThen]
  rw [Oper.upon_value]
  go_wp2
  go_end0
  exact ⟨rfl, rfl⟩
theorem check_call (B b : Nat) (l : List Value) (w : World) (h : Lib.IsBuilderF 107 5 B b l w) :
    Calls Tryz.prog 91 #[.pointer (some ⟨b, 0, none⟩)] w fun e w' => e = .returned (.tuple #[]) ∧ (Lib.BuilderAtF 107 5 B b (.pointer (some ⟨b, 0, none⟩)) l w' ∧ Below B w w' ∧ OthK b w w') := by
  rcases h with h | h
  · refine (check_fresh b w h.cell0 h.shape h.frozen0).mono ?_
    rintro e w' ⟨rfl, rfl⟩
    exact ⟨rfl, h.used _, (Below.refl B w).setCell (p := ⟨b, 0, none⟩) h.1 _, (Lib.OthersKept.refl _ _ w).setCell ⟨b, 0, none⟩ rfl _⟩
  · refine (check_used b w h.cell0).mono ?_
    rintro e w' ⟨rfl, rfl⟩
    exact ⟨rfl, h, Below.refl B _, Lib.OthersKept.refl _ _ _⟩
set_option maxHeartbeats 2000000 in
set_option maxRecDepth 100000 in
theorem write_in (B b : Nat) (l : List Value) (s : ByteArray) (w : World) (h : Lib.IsBuilderF 107 5 B b l w) (hlen : l.length + s.size ≤ 140737488355328) (hBw : B ≤ w.heap.size) :
    Calls Tryz.prog 71 #[.pointer (some ⟨b, 0, none⟩), .string s] w fun e w' => e = .returned (.tuple #[.int .i64 s.size, .nilIface]) ∧ (Lib.BuilderAtF 107 5 B b (.pointer (some ⟨b, 0, none⟩)) (l ++ Lib.strCells s) w' ∧ Below B w w' ∧ OthK b w w') := by
  obtain ⟨i0, hi, hz0, hz1, hz2⟩ := info_parts byte_info
  go_enter Tryz.func71, Tryz.ntmps71
  go_wp2_with (go_at_call 91; refine (check_call B b l _ h).mono ?_)
  rintro e w1 ⟨rfl, h1, hb1, hk1⟩
  obtain ⟨hB, v, hbk, hown, hne⟩ := h1
  have c0 : w1.cell? ⟨b, 0, none⟩ = some (.pointer (some ⟨b, 0, none⟩)) := by rw [Lib.cell_of_heap hbk]; rfl
  have c1 : w1.cell? ⟨b, 1, none⟩ = some v := by rw [Lib.cell_of_heap hbk]; rfl
  go_wp2_with (at_builtin; refine Lib.wpList_append_own_stringF _ rfl _ _ 22 9 rfl B 5 i0 Tryz.underlying22 Tryz.underlying9 hi hz0 hz1 hz2 _ _ _ rfl hown s rfl ?c3 ?c4 ?c5 ?_)
  case c3 => unfold maxLen; omega
  case c4 => omega
  case c5 => have := hb1.size; omega
  intro v' w2 hown' hgrow _
  have hlt : b < w1.heap.size := by
    rcases Nat.lt_or_ge b w1.heap.size with h' | h'
    · exact h'
    · simp [Array.getElem?_eq_none h'] at hbk
  have hb2 : w2.heap[b]? = some (.cells #[.pointer (some ⟨b, 0, none⟩), v] 107 (0, 0)) := by
    rw [hgrow.block b hlt (fun e => hne e.symm)]
    exact hbk
  have d0 : w2.cell? ⟨b, 0, none⟩ = some (.pointer (some ⟨b, 0, none⟩)) := by rw [Lib.cell_of_heap hb2]; rfl
  have d1 : w2.cell? ⟨b, 1, none⟩ = some v := by rw [Lib.cell_of_heap hb2]; rfl
  have f1 : w2.frozen? ⟨b, 1, none⟩ = false := Lib.frozen_of_heap hb2 1
  obtain ⟨ao, n', cap, rfl⟩ : ∃ ao n' cap, v' = .slice ao n' cap := by
    rcases hown'.2 with ⟨hv, _⟩ | ⟨g, cap, cur, fz, hv, _⟩
    · exact ⟨_, _, _, hv⟩
    · exact ⟨_, _, _, hv⟩
  go_wp2
  go_ret2
  refine ⟨rfl, ?_, ?_, (hk1.grown hgrow (Lib.ownsRowF_kind hown)).setCell ⟨b, 1, none⟩ rfl _⟩
  · exact Lib.BuilderAtF.put (T := 107) (e := 5) hB hb2 (bs' := l ++ Lib.strCells s) (by simpa [Lib.strCells_length] using hown') (by decide)
  · exact (hb1.grown hgrow (by have := hb1.size; omega) (fun k hk => (hown.lt k hk).1)).setCell (p := ⟨b, 1, none⟩) hB _
theorem strCells_bs (l : List UInt8) : Lib.strCells (bs l) = Lib.byteCells l := rfl
theorem byteCells_app (a b : List UInt8) : Lib.byteCells (a ++ b) = Lib.byteCells a ++ Lib.byteCells b := by
  unfold Lib.byteCells; rw [List.map_append]
theorem write_call (B b : Nat) (l t : List UInt8) (w : World) (h : Bld B b l w) (hlen : l.length + t.length ≤ 140737488355328) (hBw : B ≤ w.heap.size) :
    Calls Tryz.prog 71 #[.pointer (some ⟨b, 0, none⟩), .string (bs t)] w fun e w' => (∃ v, e = .returned v) ∧ Bld B b (l ++ t) w' ∧ Below B w w' ∧ OthK b w w' :=
  (write_in B b (Lib.byteCells l) (bs t) w h (by rw [Lib.byteCells_length, bs_size]; exact hlen) hBw).mono fun e w' ⟨h1, h2, h3, h4⟩ => ⟨⟨_, h1⟩, Or.inr (by rw [byteCells_app, ← strCells_bs t]; exact h2), h3, h4⟩
theorem string_call (B b : Nat) (l : List UInt8) (w : World) (h : Bld B b l w) (hBw : B ≤ w.heap.size) :
    Calls Tryz.prog 67 #[.pointer (some ⟨b, 0, none⟩)] w fun e w' => e = .returned (.string (bs l)) ∧ Below B w w' :=
  (Tryz.Builder_String_any_k B b l w h hBw).mono fun e w' ⟨h1, _, h2, _⟩ => ⟨h1, h2⟩
theorem bld_fresh (w : World) : Bld w.heap.size w.heap.size [] (w.alloc (.cells #[.pointer none, .slice none 0 0] 107)) := Lib.IsBuilderF.of (Lib.fresh_isBuilder _ _ w)
theorem bld_alloc {B b : Nat} {l : List UInt8} {w : World} (h : Bld B b l w) (o : Obj) : Bld B b l (w.alloc o) := h.elim (fun h => Or.inl (h.alloc o)) (fun h => Or.inr (h.alloc o))
theorem th2 {A B C : World} (h : Below A.heap.size A B) (k : Below B.heap.size B C) : Below A.heap.size A C := h.trans (k.mono h.size)
theorem ball (w : World) (o : Obj) : Below w.heap.size w (w.alloc o) := (Below.refl _ _).alloc (Nat.le_refl _) o
end
section
open Go.RowKit Go.Shelf
attribute [local go_sem ↓] Go.wp_at_zero Go.wp_at_succ
/-- Strings that lie in memory, in a row of one's own. -/
def strV (l : List (List UInt8)) : List Value := l.map (fun t => .string (bs t))
theorem strV_len (l : List (List UInt8)) : (strV l).length = l.length := by simp [strV]
end
section
open Go.RowKit
/-- What a loop's own marks may turn: blocks that are no cells, from B on. -/
structure RelK (B : Nat) (Kp : World → World → Prop) : Prop where
  refl : ∀ V, Kp V V
  trans : ∀ {A B C}, Kp A B → Kp B C → Kp A C
  put : ∀ (V : World) (l : Nat) (o o' : Obj), B ≤ l → V.heap[l]? = some o → o.isCells = false → Kp V (V.putObj l o')
theorem keepsUp {B C : Nat} {V V' : World} (h : KeepsFrom B V V') (hn : B ≤ C) : KeepsFrom C V V' := ⟨h.size, fun k o hB hk ho => h.same k o (by omega) hk ho⟩
/-- The iterator's promise: the values xs, one behind the other, or as many of them as are wanted. It writes no cells but those of the blocks of Z. -/
def GivesK (P : Program) (gf : Nat) (lb : Array Value) (Kp : World → World → Prop) (Z : Nat → Prop) (xs : List Value) (w0 : World) : Prop :=
  ∀ (l : Nat) (J Jx : Nat → World → Prop) (W : World), Below w0.heap.size w0 W → OwnFrom W.heap.size J → OwnFrom W.heap.size Jx →
    (∀ (k z : Nat) (V : World) (v : Value), Z z → J k V → J k (V.setCell ⟨z, 0, none⟩ v)) →
    (∀ (k : Nat) (x : Value) (V : World), xs[k]? = some x → J k V → W.heap.size ≤ V.heap.size → YieldAt Fence.wide 3 P l #[x] V fun e V' =>
      KeepsFrom W.heap.size V V' ∧ ((e = .returned (.bool true) ∧ J (k + 1) V' ∧ Kp V V') ∨ (e = .returned (.bool false) ∧ Jx (k + 1) V'))) →
    J 0 W → Calls P gf (#[.func (.yield l) #[] #[]] ++ lb) W fun e W' => (∃ v, e = .returned v) ∧ (J xs.length W' ∨ ∃ k, Jx k W')
/-- The ways in which a round's body may be left. -/
def goesK (B : Nat) (Kp : World → World → Prop) (I Ix : Nat → World → Prop) (k : Nat) (V : World) : Exit → Act → World → Prop
  | .normal, _, V' => KeepsFrom B V V' ∧ Kp V V' ∧ I k V'
  | .ret, _, V' => KeepsFrom B V V' ∧ Ix k V'
  | _, _, _ => False
theorem wp_givesK {P : Program} {g : Operand} {p : Tmp} {assign body : Code} {Q : Exit → Act → World → Prop} {a : Act} {w w0 : World} {gf : Nat} {Kp : World → World → Prop} {Z : Nat → Prop} {lb : Array Value} {xs : List Value}
    (hg : a.eval g = .func (.func gf) #[] lb) (eg : ∀ args W, (callFunc gf args).run P W = .ok (.enter gf args) W) (hseq : GivesK P gf lb Kp Z xs w0) (hb0 : Below w0.heap.size w0 w) (hK : RelK w.heap.size Kp)
    (I Ix : Nat → World → Prop) (hI : OwnFrom w.heap.size I) (hIx : OwnFrom w.heap.size Ix) (hZ : ∀ z, Z z → z < w.heap.size) (hIZ : ∀ (k z : Nat) (V : World) (v : Value), Z z → I k V → I k (V.setCell ⟨z, 0, none⟩ v)) (h0 : I 0 w) (after : Value → Act)
    (hassign : ∀ (l : Nat) (x : Value) (V : World) (K : Act → World → Prop), K (after x) V → assign.wpIn (Fence.wide.inRound l) 3 P (Exit.then K (fun _ _ _ => False)) { tmps := a.tmps.setIfInBounds p x, defers := [] } V)
    (hbody : ∀ (l k : Nat) (x : Value) (V : World), xs[k]? = some x → I k V → w.heap.size + 2 ≤ V.heap.size → body.wpIn (Fence.wide.inRound l) 3 P (goesK w.heap.size Kp I Ix (k + 1) V) (after x) V)
    (hdone : ∀ (V : World), I xs.length V → V.heap[w.heap.size]? = some (.deferred (some [])) → Q .normal { a with defers := { target := .collected w.heap.size, args := #[] } :: a.defers } V)
    (hstop : ∀ (k : Nat) (V : World), Ix k V → V.heap[w.heap.size]? = some (.deferred (some [])) → Code.ret.wpIn Fence.wide 4 P Q { a with defers := { target := .collected w.heap.size, args := #[] } :: a.defers } V) :
    (Code.rangeFunc g #[p] assign body).wpIn Fence.wide 4 P Q a w := by
  refine wpIn_rangeFunc fun fn _ => ?_
  obtain ⟨rec, hrec⟩ : ∃ rec : LoopState → Option Code → Loop, rec = fun s j => { state := s, pending := j, fn, tmps := a.tmps, params := #[p], assign, body, defers := w.heap.size } := ⟨_, rfl⟩
  obtain ⟨v0, hv0⟩ : ∃ v0, v0 = w.alloc (.deferred (some [])) := ⟨_, rfl⟩
  obtain ⟨v1, hv1⟩ : ∃ v1, v1 = v0.alloc (.loop (rec .ready none)) := ⟨_, rfl⟩
  have hz0 : v0.heap.size = w.heap.size + 1 := by rw [hv0, World.size_alloc]
  have hz1 : v1.heap.size = w.heap.size + 2 := by rw [hv1, World.size_alloc, hz0]
  have q1 : v1.heap[w.heap.size + 1]? = some (.loop (rec .ready none)) := by rw [← hz0, hv1]; exact World.alloc_heap_new v0 _
  have q0 : v1.heap[w.heap.size]? = some (.deferred (some [])) := by rw [hv1, Below.heap_alloc v0 _ _ (by omega), hv0]; exact World.alloc_heap_new w _
  have hb1 : Below w0.heap.size w0 v1 := by
    rw [hv1, hv0]; exact (hb0.alloc hb0.size _).alloc (by have := hb0.size; simp; omega) _
  have i1 : I 0 v1 := by rw [hv1, hv0]; exact hI.alloc _ (hI.alloc _ h0)
  have henter : (Instr.enterLoop fn a.tmps #[p] assign body Fence.wide.round).run P w = .ok (w.heap.size + 1, [{ target := .collected w.heap.size, args := #[] }]) v1 := by
    rw [hv1, hv0, hrec]; exact run_enterLoop_outer fn a.tmps #[p] assign body
  clear hv0 hv1
  refine ⟨w.heap.size + 1, [{ target := .collected w.heap.size, args := #[] }], v1, { target := .fn (.func gf) lb, args := #[.func (.yield (w.heap.size + 1)) #[] #[]] }, v1, gf, #[.func (.yield (w.heap.size + 1)) #[] #[]] ++ lb, v1, ?_, ?_, ?_, ?_, fun _ => by omega, ?_⟩
  · exact henter
  · simp only [resolve, hg]
    simp [go_sem]
  · intro f' _; trivial
  · simp [invoke, go_sem, eg]
  have kept : ∀ {A B : World} {row : Option Nat} {k : Nat} {o : Obj}, A.grownBy B row → (∀ r, row = some r → v1.heap.size ≤ r ∧ ∃ o : Obj, A.heap[r]? = some o ∧ o.isCells = false) → A.heap[k]? = some o → k < v1.heap.size → B.heap[k]? = some o :=
    fun hgr hr hk hlt => (hgr.block _ (Array.getElem?_eq_some_iff.1 hk).1 (fun e => by have := (hr _ e.symm).1; omega)).trans hk
  have up : ∀ {A : World} {row : Option Nat}, (∀ r, row = some r → v1.heap.size ≤ r ∧ ∃ o : Obj, A.heap[r]? = some o ∧ o.isCells = false) → (∀ r, row = some r → w.heap.size ≤ r ∧ ∃ o : Obj, A.heap[r]? = some o ∧ o.isCells = false) :=
    fun hr r e => ⟨by have := (hr r e).1; omega, (hr r e).2⟩
  have ownJ : OwnFrom v1.heap.size (fun (k : Nat) V => I k V ∧ V.heap[w.heap.size + 1]? = some (.loop (rec .ready none)) ∧ V.heap[w.heap.size]? = some (.deferred (some []))) :=
    fun k A B row h hgr hr => ⟨hI k A B row h.1 hgr (up hr), kept hgr hr h.2.1 (by omega), kept hgr hr h.2.2 (by omega)⟩
  have ownX : OwnFrom v1.heap.size (fun (k : Nat) V => Ix k V ∧ V.heap[w.heap.size + 1]? = some (.loop (rec .done (some .ret))) ∧ V.heap[w.heap.size]? = some (.deferred (some []))) :=
    fun k A B row h hgr hr => ⟨hIx k A B row h.1 hgr (up hr), kept hgr hr h.2.1 (by omega), kept hgr hr h.2.2 (by omega)⟩
  refine (callsIn_wide.2 (hseq (w.heap.size + 1) _ _ v1 hb1 ownJ ownX ?_ ?_ ⟨i1, q1, q0⟩)).mono ?_
  · -- what the iterator writes
    rintro k z V v hz ⟨hi, hl, hd⟩
    have := hZ z hz
    exact ⟨hIZ k z V v hz hi, (heap_setCell_other V _ _ _ (show w.heap.size + 1 ≠ z by omega)).trans hl, (heap_setCell_other V _ _ _ (show w.heap.size ≠ z by omega)).trans hd⟩
  · -- one round
    rintro k x V hk ⟨hi, hl, hd⟩ hz
    have hlt : w.heap.size + 1 < V.heap.size := (Array.getElem?_eq_some_iff.1 hl).1
    have hy : (Instr.yield (w.heap.size + 1) #[x]).run P V = .ok (.round (w.heap.size + 1) fn (a.tmps.setIfInBounds p x) assign body) V := by
      rw [run_yield (P := P) (args := #[x]) hl (by rw [hrec]; rfl), hrec]; simp
    have hbr : (Instr.beginRound (w.heap.size + 1)).run P V = .ok () (V.putObj (w.heap.size + 1) (.loop (rec .busy none))) := by
      rw [run_beginRound (P := P) hl (by rw [hrec]), hrec]
    refine ⟨fn, _, assign, body, hy, roundIn_of_wpIn trivial ?_⟩
    refine hassign _ x V _ ?_
    refine ⟨_, hbr, ?_⟩
    obtain ⟨U, hU⟩ : ∃ U, U = V.putObj (w.heap.size + 1) (.loop (rec .busy none)) := ⟨_, rfl⟩
    have e1 : U.heap[w.heap.size + 1]? = some (.loop (rec .busy none)) := by rw [hU, World.putObj_heap_same hlt]
    have e0 : U.heap[w.heap.size]? = some (.deferred (some [])) := by rw [hU, World.putObj_heap_other (by omega)]; exact hd
    have iU : I k U := by rw [hU]; exact hI.putObj _ hi (by omega) hl rfl
    have zU : w.heap.size + 2 ≤ U.heap.size := by rw [hU]; simp; omega
    have bU : Kp V U := by rw [hU]; exact hK.put V _ _ _ (by omega) hl rfl
    have kU : KeepsFrom v1.heap.size V U := by rw [hU]; exact KeepsFrom.of_grownBy (grownBy_putObj' _ _ _) (fun j e => by cases e; omega)
    rw [← hU]
    refine wpIn_mono (hbody _ k x U hk iU zU) ?_
    rintro e b U' h
    cases e with
    | normal =>
      obtain ⟨hkf, hbl, hi'⟩ := h
      have r1 := hkf.same _ _ (by omega) e1 rfl
      have r0 := hkf.same _ _ (Nat.le_refl _) e0 rfl
      have hend := run_endRound (P := P) none r1
      refine ⟨_, _, hend, (kU.trans (keepsUp hkf (by omega))).trans (KeepsFrom.of_grownBy (grownBy_putObj' _ _ _) (fun j e => by cases e; omega)), .inl ⟨rfl, ⟨hI.putObj _ hi' (by omega) r1 rfl, ?_, ?_⟩, hK.trans (hK.trans bU hbl) (hK.put U' _ _ _ (by omega) r1 rfl)⟩⟩
      · rw [World.putObj_heap_same (Array.getElem?_eq_some_iff.1 r1).1, hrec]; rfl
      · rw [World.putObj_heap_other (by omega)]; exact r0
    | ret =>
      obtain ⟨hkf, hi'⟩ := h
      have r1 := hkf.same _ _ (by omega) e1 rfl
      have r0 := hkf.same _ _ (Nat.le_refl _) e0 rfl
      have hend := run_endRound (P := P) (some .ret) r1
      refine ⟨_, _, hend, (kU.trans (keepsUp hkf (by omega))).trans (KeepsFrom.of_grownBy (grownBy_putObj' _ _ _) (fun j e => by cases e; omega)), .inr ⟨rfl, hIx.putObj _ hi' (by omega) r1 rfl, ?_, ?_⟩⟩
      · rw [World.putObj_heap_same (Array.getElem?_eq_some_iff.1 r1).1, hrec]; rfl
      · rw [World.putObj_heap_other (by omega)]; exact r0
    | exit id => exact h.elim
    | goto t => exact h.elim
    | panic c => exact h.elim
    | outgrown => exact h.elim
  · -- behind the iterator
    rintro e V ⟨⟨v, rfl⟩, (⟨hi, hl, hd⟩ | ⟨k, hi, hl, hd⟩)⟩
    · have hend := run_endLoop (P := P) hl (by rw [hrec]; simp)
      refine ⟨none, _, by rw [hend, hrec], hdone _ (hI.putObj _ hi (by omega) hl rfl) ?_⟩
      rw [World.putObj_heap_other (by omega)]; exact hd
    · have hend := run_endLoop (P := P) hl (by rw [hrec]; simp)
      refine ⟨some .ret, _, by rw [hend, hrec], hstop k _ (hIx.putObj _ hi (by omega) hl rfl) ?_⟩
      rw [World.putObj_heap_other (by omega)]; exact hd
theorem grownNone {w w' : World} (b : Below w.heap.size w w') : w.grownBy w' none := ⟨b.os, b.tape, b.output, b.size, fun k hk _ => b.block k hk⟩
theorem ownOn {β : Type} {B : Nat} {J : β → World → Prop} (h : OwnFrom B J) {s : β} {w w' : World} (hs : J s w) (b : Below w.heap.size w w') : J s w' := h s w w' none hs (grownNone b) (fun r e => by cases e)
/-- What a round that writes into a builder keeps: all below C, and each block of cells that is neither the builder's nor a row of bytes. -/
def KeepT (e : TypeId) (C b : Nat) (V V' : World) : Prop := Below C V V' ∧ ∀ k o, V.heap[k]? = some o → o.isCells = true → k ≠ b → (∀ c fz, o ≠ .cells c e fz) → V'.heap[k]? = some o
theorem keepT_rel (e : TypeId) (C b B : Nat) (hC : C ≤ B) : RelK B (KeepT e C b) where
  refl := fun V => ⟨Below.refl _ _, fun _ _ h _ _ _ => h⟩
  trans := fun h k => ⟨h.1.trans k.1, fun i o hi hc hb ho => k.2 i o (h.2 i o hi hc hb ho) hc hb ho⟩
  put := fun V l o o' hB hl ho => ⟨(Below.refl _ V).grown (grownBy_putObj' V l o') (by have := (Array.getElem?_eq_some_iff.1 hl).1; omega) (fun k e => by cases e; omega), fun k x hk hc hb hx => by
    rw [World.putObj_heap_other (fun e => by subst e; rw [hl] at hk; cases hk; rw [ho] at hc; cases hc)]; exact hk⟩
/-- What a round keeps that leaves one block alone. -/
def KeepZ (z : Nat) (V V' : World) : Prop := V.heap.size ≤ V'.heap.size ∧ ∀ o, V.heap[z]? = some o → V'.heap[z]? = some o
theorem keepZ_rel (z B : Nat) (hz : z < B) : RelK B (KeepZ z) where
  refl := fun V => ⟨Nat.le_refl _, fun _ h => h⟩
  trans := fun h k => ⟨Nat.le_trans h.1 k.1, fun o ho => k.2 o (h.2 o ho)⟩
  put := fun V l o o' hB hl ho => ⟨by simp, fun x hx => by rw [World.putObj_heap_other (by omega)]; exact hx⟩
end
section
open Go.RowKit Go.Shelf
attribute [local go_sem] Oper.semAt_some
theorem bldAt_grown {T e : TypeId} {B b : Nat} {p : Value} {l : List Value} {w w' : World} {row : Option Nat} (h : Lib.BuilderAtF T e B b p l w) (hg : w.grownBy w' row) (hr : ∀ r, row = some r → ∃ o : Obj, w.heap[r]? = some o ∧ o.isCells = false) : Lib.BuilderAtF T e B b p l w' := by
  have keep : ∀ {k : Nat} {c : Array Value} {t : TypeId} {fz : Nat × Nat}, w.heap[k]? = some (.cells c t fz) → w'.heap[k]? = some (.cells c t fz) := fun {k c t fz} hk =>
    (hg.block k (Array.getElem?_eq_some_iff.1 hk).1 (fun e => by
      obtain ⟨o, ho, hc⟩ := hr k e.symm
      rw [hk] at ho; cases ho; cases hc)).trans hk
  obtain ⟨hB, v, hb, hown, hne⟩ := h
  refine ⟨hB, v, keep hb, ⟨hown.1, ?_⟩, hne⟩
  rcases hown.2 with hn | ⟨g, cap, cur, fz, hv, hbg, hg2, rest⟩
  · exact .inl hn
  · exact .inr ⟨g, cap, cur, fz, hv, hbg, keep hg2, rest⟩
theorem bld_grown {B b : Nat} {l : List UInt8} {w w' : World} {row : Option Nat} (h : Bld B b l w) (hg : w.grownBy w' row) (hr : ∀ r, row = some r → ∃ o : Obj, w.heap[r]? = some o ∧ o.isCells = false) : Bld B b l w' :=
  h.elim (fun h => Or.inl (bldAt_grown h hg hr)) (fun h => Or.inr (bldAt_grown h hg hr))
theorem bld_below {B b : Nat} {l : List UInt8} {w w' : World} (h : Bld B b l w) (hb : Below w.heap.size w w') : Bld B b l w' := bld_grown h (grownNone hb) (fun r e => by cases e)
theorem strV_at {l : List (List UInt8)} {j : Nat} {v : Value} (h : (strV l)[j]? = some v) : ∃ t, l[j]? = some t ∧ v = .string (bs t) := by
  unfold strV at h
  rw [List.getElem?_map] at h
  cases hx : l[j]? with
  | none => rw [hx] at h; cases h
  | some x => rw [hx] at h; injection h with h; exact ⟨x, rfl, h.symm⟩
end
section
open Go.RowKit Go.Shelf
section
attribute [local go_sem ↓] Go.wp_at_zero Go.wp_at_succ
end
/-- The box's string's length. -/
def boxLen (z : Nat) (V : World) : Nat := match V.cell? ⟨z, 0, none⟩ with | some (.string b) => b.size | _ => 0
theorem boxLen_of {z : Nat} {V : World} {t : TypeId} {m : List UInt8} (h : Boxed V z t (.string (bs m))) : boxLen z V = m.length := by
  unfold boxLen
  rw [h.cell]
  exact bs_size m
theorem cuts_at {s : List UInt8} {k : Nat} (h : restN s k ≠ []) : (cutsL s)[k]? = some (headN (restN s k)) := by
  have e := rest_cuts s k
  rw [cuts_head h] at e
  have : ((cutsL s).drop k)[0]? = some (headN (restN s k)) := by rw [← e]; rfl
  rwa [List.getElem?_drop, Nat.add_zero] at this
theorem cuts_end {s : List UInt8} {k : Nat} (hk : k ≤ (cutsL s).length) (h : restN s k = []) : (cutsL s).length = k := by
  have e := rest_cuts s k
  rw [h] at e
  have : ((cutsL s).drop k).length = 0 := by rw [← e]; rfl
  rw [List.length_drop] at this
  omega
section
attribute [local go_sem] Oper.semAt_some
set_option maxRecDepth 100000 in
set_option maxHeartbeats 8000000 in
theorem linesS_gives (z : Nat) (s : List UInt8) (hs : s.length ≤ 140737488355328) (w0 : World) (hz : Boxed w0 z 9 (.string (bs s))) :
    GivesK Tryz.prog 101 #[.pointer (some ⟨z, 0, none⟩)] (KeepZ z) (· = z) (strV (cutsL s)) w0 := by
  intro l J Jx W hW hJ hJx hZ hY hj0
  have hzw := (Array.getElem?_eq_some_iff.1 hz).1
  have HB0 := Lib.hid (show Boxed W z 9 (.string (bs s)) from (hW.block z hzw).trans hz)
  have hzW : z < W.heap.size := Nat.lt_of_lt_of_le hzw hW.size
  have HJ := Lib.hid hJ
  have HJX := Lib.hid hJx
  have HY := Lib.hid hY
  have HZ := Lib.hid hZ
  have HS := Lib.hid hs
  have HJ0 := Lib.hid hj0
  have HIX := Lib.hid (fun (m : List UInt8) V => index10_call m V)
  obtain ⟨xs, hxs⟩ : ∃ xs, xs = strV (cutsL s) := ⟨_, rfl⟩
  have HXL := Lib.hid (show xs.length = (cutsL s).length by rw [hxs, strV_len])
  have HGT := Lib.hid (fun j t (h : (cutsL s)[j]? = some t) => show xs[j]? = some (Value.string (bs t)) from by
    rw [hxs]; unfold strV; rw [List.getElem?_map, h]; rfl)
  rw [← hxs] at HY ⊢
  clear hW hJ hJx hZ hY hj0 hz hzw hs hxs
  refine (callsIn_wide (n := 4)).1 ?_
  refine callsIn_of_wp Tryz.func101 rfl trivial ?_ rfl
  simp only [Tryz.ntmps101, List.size_toArray, List.length_cons, List.length_nil, Nat.reduceAdd, Nat.reduceSub, Array.replicate_succ, Array.replicate_zero, List.push_toArray, List.append_toArray, List.nil_append, List.cons_append]
  gi_wp2
  gi_loopw [] (fun wr => ∃ k : Nat, k ≤ (cutsL s).length ∧ Hid (J k wr) ∧ Hid (Boxed wr z 9 (.string (bs (restN s k)))) ∧ W.heap.size ≤ wr.heap.size) (fun wr => boxLen z wr)
  case atStart => exact ⟨0, Nat.zero_le _, HJ0, HB0, Nat.le_refl _⟩
  case round =>
    clear HB0 HJ0
    obtain ⟨k, hk, HJ1, HB1, hz1⟩ := hrel
    obtain ⟨V, rfl⟩ : ∃ wo : World, wo = wr := ⟨_, rfl⟩
    obtain ⟨m, hm⟩ : ∃ m, m = restN s k := ⟨_, rfl⟩
    have HM := Lib.hid hm
    have hml : m.length ≤ 140737488355328 := by rw [hm]; exact Nat.le_trans (rest_le s k) HS.out
    have HNX := Lib.hid (show restN s (k + 1) = tailN m by rw [hm]; rfl)
    rw [← hm] at HB1
    have c1 := HB1.out.cell
    obtain ⟨n, hn⟩ : ∃ n, n = m.length := ⟨_, rfl⟩
    have hsz : (bs m).size = n := by rw [hn]; exact bs_size m
    have HBL := Lib.hid (show boxLen z V = n by rw [hn]; exact boxLen_of HB1.out)
    have HAT := Lib.hid (fun (h : m ≠ []) => show (cutsL s)[k]? = some (headN m) from by rw [HM.out] at h ⊢; exact cuts_at h)
    have HEN := Lib.hid (fun (h : m = []) => show (cutsL s).length = k from cuts_end hk (by rw [← HM.out]; exact h))
    clear hm
    by_cases h0 : m = []
    · have hn0 : n = 0 := by rw [hn, h0]; rfl
      subst hn0
      have HJE := Lib.hid (show J xs.length V by rw [HXL.out, HEN.out h0]; exact HJ1.out)
      clear h0 hn
      gi_wp2
      go_end0
      exact ⟨⟨_, rfl⟩, .inl HJE.out⟩
    · have hn1 : 0 < n := by rw [hn]; exact List.length_pos_iff.2 h0
      have i1 : (0 : Int) < n := by omega
      have hat := HAT.out h0
      have HX := Lib.hid (HGT.out _ _ hat)
      have hkl : k < (cutsL s).length := (List.getElem?_eq_some_iff.1 hat).1
      have HTL := Lib.hid (tail_lt h0)
      rw [← hn] at HTL hml
      have hfz := HB1.out.frozen
      have n47 : (n : Int) ≤ 140737488355328 := by omega
      rcases head_index m with ⟨h1, h2, h3⟩ | ⟨i, h1, hi, h2, h3⟩
      · have HI := Lib.hid (fun V => HIX.out m V)
        rw [h1] at HI
        rw [h2] at HX
        rw [h3] at HNX HTL
        have HBn := Lib.hid (show Boxed (V.setCell ⟨z, 0, none⟩ (.string ⟨#[]⟩)) z 9 (.string (bs [])) from HB1.out.set (.string ⟨#[]⟩))
        have hzz : W.heap.size ≤ (V.setCell ⟨z, 0, none⟩ (.string ⟨#[]⟩)).heap.size := by simp; exact hz1
        obtain ⟨fn, tmps, assign, body, hy, hR⟩ := HY.out k (.string (bs m)) (V.setCell ⟨z, 0, none⟩ (.string ⟨#[]⟩)) HX.out (HZ.out k z V _ rfl HJ1.out) hzz
        have HR := Lib.hid hR
        have HZZ := Lib.hid hzz
        clear hR hzz h0 hn hat h1 h2 h3 hml
        gi_wp2_with (refine ⟨trivial, ?_⟩
                     gi_at_call 89
                     refine (callsIn_wide.2 (HI.out _)).mono ?_
                     rintro e w2 ⟨rfl, rfl⟩)
        refine HR.out.mono ?_
        rintro e V' ⟨hkf, ⟨rfl, hJ3, hk3⟩ | ⟨rfl, hJx3⟩⟩
        · have hb3 : Boxed V' z 9 (.string (bs [])) := hk3.2 _ HBn.out
          have HB3 := Lib.hid hb3
          have HZ3 := Lib.hid (Nat.le_trans HZZ.out hk3.1)
          clear hkf hk3 hb3 hy
          gi_wp2
          go_roundw
          case rel => exact ⟨k + 1, hkl, Lib.hid hJ3, Lib.hid (by rw [HNX.out]; exact HB3.out), HZ3.out⟩
          case measure => rw [HBL.out, boxLen_of HB3.out]; exact hn1
        · gi_wp2
          refine bodyPost_ret (results_none rfl _ _ _) rfl ?_
          exact ⟨⟨_, rfl⟩, .inr ⟨_, hJx3⟩⟩
      · have HI := Lib.hid (fun V => HIX.out m V)
        rw [h1] at HI
        have H2 := Lib.hid (show (bs m).extract 0 (i + 1) = bs (headN m) by rw [bs_sub, h2]; rfl)
        have H3 := Lib.hid (show (bs m).extract (i + 1) n = bs (tailN m) by rw [bs_sub, h3, hn, List.take_of_length_le (by simp)])
        rw [← hn] at hi
        have i0 : (0 : Int) ≤ i := by omega
        have i2 : (i : Int) < n := by omega
        have w1 : IntKind.i64.wrap ((i : Int) + 1) = i + 1 := IntWalk.i64_in _ (by omega)
        have j0 : (0 : Int) ≤ (i : Int) + 1 := by omega
        have j1 : ((i : Int) + 1).toNat = i + 1 := by omega
        have j2 : (i : Int) + 1 ≤ n := by omega
        clear h0 hn hat h1 h2 h3 hml
        gi_wp2_with (refine ⟨trivial, ?_⟩
                     gi_at_call 89
                     refine (callsIn_wide.2 (HI.out _)).mono ?_
                     rintro e w2 ⟨rfl, rfl⟩)
        gi_region
        have HBn := Lib.hid (show Boxed (V.setCell ⟨z, 0, none⟩ (.string ((bs m).extract (i + 1) n))).drew z 9 (.string (bs (tailN m))) from by
          have h := HB1.out.set (.string ((bs m).extract (i + 1) n))
          rw [H3.out] at h ⊢
          exact h)
        have hzz : W.heap.size ≤ (V.setCell ⟨z, 0, none⟩ (.string ((bs m).extract (i + 1) n))).drew.heap.size := by simp [World.drew]; exact hz1
        obtain ⟨fn, tmps, assign, body, hy, hR⟩ := HY.out k (.string ((bs m).extract 0 (i + 1))) (V.setCell ⟨z, 0, none⟩ (.string ((bs m).extract (i + 1) n))).drew (by rw [H2.out]; exact HX.out) (ownOn HJ.out (HZ.out k z V _ rfl HJ1.out) (Below.refl _ _).drew) hzz
        have HR := Lib.hid hR
        have HZZ := Lib.hid hzz
        clear hR hzz
        gi_wp2
        refine HR.out.mono ?_
        rintro e V' ⟨hkf, ⟨rfl, hJ3, hk3⟩ | ⟨rfl, hJx3⟩⟩
        · have hb3 : Boxed V' z 9 (.string (bs (tailN m))) := hk3.2 _ HBn.out
          have HB3 := Lib.hid hb3
          have HZ3 := Lib.hid (Nat.le_trans HZZ.out hk3.1)
          clear hkf hk3 hb3 hy
          gi_wp2
          go_roundw
          case rel => exact ⟨k + 1, hkl, Lib.hid hJ3, Lib.hid (by rw [HNX.out]; exact HB3.out), HZ3.out⟩
          case measure => rw [HBL.out, boxLen_of HB3.out]; exact HTL.out
        · gi_wp2
          refine bodyPost_ret (results_none rfl _ _ _) rfl ?_
          exact ⟨⟨_, rfl⟩, .inr ⟨_, hJx3⟩⟩
end
/-- What the library's Lines returns. -/
theorem linesS_call (s : ByteArray) (w : World) : Calls Tryz.prog 84 #[.string s] w fun e w' => e = .returned (.func (.func 101) #[] #[.pointer (some ⟨w.heap.size, 0, none⟩)]) ∧ w' = w.alloc (.cells #[.string s] 9) := by
  go_enter Tryz.func84, Tryz.ntmps84
  go_wp2
  go_ret
  exact ⟨rfl, rfl⟩
end
section
open Go.RowKit Go.Shelf
attribute [local go_sem] Oper.semAt_some
theorem suffix_le (l : List UInt8) : (Lib.trimSuffix l [10]).length ≤ l.length := by
  unfold Lib.trimSuffix
  split
  · rw [List.length_take]; omega
  · exact Nat.le_refl _
theorem boxed_grown {W W' : World} {B : Nat} {t : TypeId} {v : Value} {row : Option Nat} (h : Boxed W B t v) (hg : W.grownBy W' row) (hr : ∀ r, row = some r → ∃ o : Obj, W.heap[r]? = some o ∧ o.isCells = false) : Boxed W' B t v := h.kept hg fun e => by
  obtain ⟨o, ho2, hc⟩ := hr _ e.symm
  rw [show W.heap[B]? = _ from h] at ho2; cases ho2; cases hc
theorem boxed_below {W W' : World} {B : Nat} {t : TypeId} {v : Value} (h : Boxed W B t v) (b : Below W.heap.size W W') : Boxed W' B t v := (b.block _ (Array.getElem?_eq_some_iff.1 h).1).trans h
theorem owned_grown {W W' : World} {B n s : Nat} {e : TypeId} {v : Value} {xs : List Value} {row : Option Nat} (h : W.ownsRow B e s v n xs) (hg : W.grownBy W' row) (hr : ∀ r, row = some r → ∃ o : Obj, W.heap[r]? = some o ∧ o.isCells = false) : W'.ownsRow B e s v n xs := by
  refine h.kept hg ?_
  rcases h.2 with ⟨rfl, _⟩ | ⟨g, cap, cur, rfl, _, hgb, _⟩
  · exact .inl rfl
  · refine .inr fun e => ?_
    obtain ⟨o, ho2, hc⟩ := hr g e.symm
    rw [hgb] at ho2; cases ho2; cases hc
theorem news_lit' (w : World) (cs : Array Value) (e : TypeId) (l : List Value) {s : Nat} (hs : s = w.heap.size) (h : cs.toList = l) : ∀ j u, l[j]? = some u → (w.alloc (.cells cs e)).cell? ((⟨s, 0, none⟩ : Addr).add j) = some u := by
  subst hs; exact news_lit w cs e l h
theorem drop_at {ls : List (List UInt8)} {k : Nat} {t : List UInt8} (h : ls[k]? = some t) : ls.drop k = t :: ls.drop (k + 1) := by
  obtain ⟨hk, e⟩ := List.getElem?_eq_some_iff.1 h
  rw [List.drop_eq_getElem_cons hk, e]
end
end Go.Proofs.YtgigdhincpcdbaaGreatDoor
namespace Go.Proofs.YtgigdhincpcdbaaGreatDoor
set_option linter.unusedVariables false

theorem ends_cut (a : List UInt8) (c : UInt8) : Lib.hasSuffix (a ++ [c]) [c] = true ∧ Lib.trimSuffix (a ++ [c]) [c] = a := by
  have h : Lib.hasSuffix (a ++ [c]) [c] = true := by
    unfold Lib.hasSuffix
    rw [List.isSuffixOf_iff_suffix]
    exact List.suffix_append a [c]
  refine ⟨h, ?_⟩
  unfold Lib.trimSuffix
  rw [if_pos h, List.length_append]
  simp
theorem ends_not {a : List UInt8} {c : UInt8} (h : c ∉ a) : Lib.trimSuffix a [c] = a := by
  unfold Lib.trimSuffix
  rw [if_neg]
  unfold Lib.hasSuffix
  rw [List.isSuffixOf_iff_suffix]
  exact fun h2 => h (h2.subset (List.mem_singleton.2 rfl))
theorem suf_con (s : List UInt8) (c : UInt8) : Lib.hasSuffix s [c] = (s.getLast? == some c) := by
  rcases List.eq_nil_or_concat s with rfl | ⟨Y, d, rfl⟩
  · rfl
  · rw [List.concat_eq_append, List.getLast?_concat, Bool.eq_iff_iff, beq_iff_eq]
    unfold Lib.hasSuffix
    rw [List.isSuffixOf_iff_suffix]
    constructor
    · rintro ⟨t, ht⟩
      have := congrArg List.getLast? ht
      rw [List.getLast?_concat, List.getLast?_concat] at this
      exact this.symm
    · rintro h
      injection h with h
      subst h
      exact List.suffix_append Y [d]
theorem nl_head {a b : List UInt8} (h : ∀ c ∈ a, c ≠ 10) : headN (a ++ 10 :: b) = a ++ [10] ∧ tailN (a ++ 10 :: b) = b := by
  induction a with
  | nil => exact ⟨by simp [headN], by simp [tailN]⟩
  | cons c r ih =>
    obtain ⟨i1, i2⟩ := ih (fun x hx => h x (List.mem_cons_of_mem _ hx))
    show headN (c :: (r ++ 10 :: b)) = _ ∧ tailN (c :: (r ++ 10 :: b)) = _
    unfold headN tailN
    rw [if_neg (h c (List.mem_cons_self ..)), if_neg (h c (List.mem_cons_self ..)), i1, i2]
    exact ⟨rfl, rfl⟩
theorem nl_self {a : List UInt8} (h : ∀ c ∈ a, c ≠ 10) : headN a = a ∧ tailN a = [] := by
  induction a with
  | nil => exact ⟨rfl, rfl⟩
  | cons c r ih =>
    obtain ⟨i1, i2⟩ := ih (fun x hx => h x (List.mem_cons_of_mem _ hx))
    unfold headN tailN
    rw [if_neg (h c (List.mem_cons_self ..)), if_neg (h c (List.mem_cons_self ..)), i1, i2]
    exact ⟨rfl, rfl⟩
theorem linA_cuts : ∀ (l cur : List UInt8), (∀ c ∈ cur, c ≠ 10) → linA cur l = (cutsL (cur ++ l)).map (fun t => Lib.trimSuffix t [10])
  | [], cur, h => by
    rw [List.append_nil]
    unfold linA
    by_cases h0 : cur = []
    · rw [if_pos h0, h0]; rfl
    · obtain ⟨h1, h2⟩ := nl_self h
      rw [if_neg h0, cuts_head h0, h1, h2]
      show [cur] = [Lib.trimSuffix cur [10]]
      rw [ends_not (fun hm => h _ hm rfl)]
  | c :: r, cur, h => by
    unfold linA
    by_cases hc : c = 10
    · subst hc
      obtain ⟨h1, h2⟩ := nl_head (b := r) h
      rw [if_pos rfl, cuts_head (by simp), h1, h2, List.map_cons, (ends_cut cur 10).2, linA_cuts r [] (fun c hc => by cases hc)]; rfl
    · rw [if_neg hc, linA_cuts r (cur ++ [c]) (fun d hd => by
        rcases List.mem_append.1 hd with hd | hd
        · exact h d hd
        · rw [List.mem_singleton.1 hd]; exact hc), List.append_assoc]; rfl
theorem linL_cuts (l : List UInt8) : linL l = (cutsL l).map (fun t => Lib.trimSuffix t [10]) := by
  unfold linL
  rw [linA_cuts l [] (fun c hc => by cases hc)]; rfl
/-- What is laid down, what is begun, by which number. -/
structure Lst where
  O : List (Nat × List UInt8)
  T : List UInt8
  f : Nat
def emitL (O : List (Nat × List UInt8)) (T : List UInt8) (f : Nat) : List (Nat × List UInt8) := if trimL T = [] then O else O ++ [(f, trimL T)]
def numG (k f : Nat) : Nat := if f = 0 then k + 1 else f
def stepG (k : Nat) (s : List UInt8) (t : Lst) : Lst := if comL s then t else if conL s then ⟨t.O, t.T ++ (s.dropLast ++ [32]), numG k t.f⟩ else ⟨emitL t.O (t.T ++ s) (numG k t.f), [], 0⟩
def stA (R : List (List UInt8)) : Nat → Lst
  | 0 => ⟨[], [], 0⟩
  | k + 1 => match R[k]? with | some s => stepG k s (stA R k) | none => stA R k
theorem stA_at {R : List (List UInt8)} {k : Nat} {s : List UInt8} (h : R[k]? = some s) : stA R (k + 1) = stepG k s (stA R k) := by
  show (match R[k]? with | some s => stepG k s (stA R k) | none => stA R k) = _
  rw [h]
def ansG (N : Nat) (R : List (List UInt8)) (t : Lst) : List (Nat × List UInt8) := if t.f = 0 then t.O ++ logR N R else emitL t.O (t.T ++ (joinL R).1) t.f ++ logR N (joinL R).2
theorem log_join {N k : Nat} {s : List UInt8} {r : List (List UInt8)} (h : comL s = false) (hN : N = k + (r.length + 1)) (O : List (Nat × List UInt8)) : O ++ logR N (s :: r) = emitL O (joinL (s :: r)).1 (k + 1) ++ logR N (joinL (s :: r)).2 := by
  unfold emitL
  by_cases ht : trimL (joinL (s :: r)).1 = []
  · rw [if_pos ht, logR_none h ht]
  · rw [if_neg ht, logR_some h ht, show N - r.length = k + 1 by omega, List.append_assoc]; rfl
theorem numG_pos (k f : Nat) : numG k f ≠ 0 := by unfold numG; split <;> omega
theorem ans_step {N k : Nat} {s : List UInt8} {r : List (List UInt8)} {t : Lst} (h0 : t.f = 0 → t.T = []) (hN : N = k + (r.length + 1)) :
    ansG N (s :: r) t = ansG N r (stepG k s t) ∧ ((stepG k s t).f = 0 → (stepG k s t).T = []) := by
  unfold stepG
  cases hc : comL s with
  | true =>
    rw [if_pos rfl]
    refine ⟨?_, h0⟩
    unfold ansG
    have e : joinL (s :: r) = joinL r := by conv => lhs; unfold joinL
                                            rw [hc]; rfl
    rw [logR_com hc, e]
  | false =>
    rw [if_neg Bool.false_ne_true]
    have e1 : ansG N (s :: r) t = emitL t.O (t.T ++ (joinL (s :: r)).1) (numG k t.f) ++ logR N (joinL (s :: r)).2 := by
      unfold ansG numG
      by_cases hf : t.f = 0
      · rw [if_pos hf, if_pos hf, h0 hf, List.nil_append]
        exact log_join hc hN t.O
      · rw [if_neg hf, if_neg hf]
    rw [e1]
    cases hn : conL s with
    | true =>
      rw [if_pos rfl]
      have e : joinL (s :: r) = (s.dropLast ++ [32] ++ (joinL r).1, (joinL r).2) := by
        conv => lhs; unfold joinL
        rw [hc, if_neg Bool.false_ne_true, if_pos hn]
      refine ⟨?_, fun h => absurd h (numG_pos _ _)⟩
      rw [e]
      unfold ansG
      rw [if_neg (numG_pos _ _)]
      simp only [List.append_assoc]
    | false =>
      rw [if_neg Bool.false_ne_true]
      have e : joinL (s :: r) = (s, r) := by
        conv => lhs; unfold joinL
        rw [hc, if_neg Bool.false_ne_true, hn, if_neg Bool.false_ne_true]
      refine ⟨?_, fun _ => rfl⟩
      rw [e]; rfl
theorem st_ans (R : List (List UInt8)) : ∀ (k : Nat), k ≤ R.length → ansG R.length (R.drop k) (stA R k) = logR R.length R ∧ ((stA R k).f = 0 → (stA R k).T = [])
  | 0, _ => ⟨rfl, fun _ => rfl⟩
  | k + 1, h => by
    obtain ⟨h1, h2⟩ := st_ans R k (by omega)
    have hk : R[k]? = some (R[k]'(by omega)) := List.getElem?_eq_getElem _
    have hd : R.drop k = R[k]'(by omega) :: R.drop (k + 1) := List.drop_eq_getElem_cons _
    rw [stA_at hk]
    have := ans_step (N := R.length) (k := k) (s := R[k]'(by omega)) (r := R.drop (k + 1)) h2 (by rw [List.length_drop]; omega)
    rw [← hd, h1] at this
    exact ⟨this.1.symm, this.2⟩
theorem emit_nil (O : List (Nat × List UInt8)) (f : Nat) : emitL O [] f = O := by unfold emitL; exact if_pos rfl
theorem st_end (R : List (List UInt8)) : emitL (stA R R.length).O (stA R R.length).T (stA R R.length).f = logR R.length R := by
  obtain ⟨h1, h2⟩ := st_ans R R.length (Nat.le_refl _)
  rw [← h1, List.drop_length]
  unfold ansG
  by_cases hf : (stA R R.length).f = 0
  · rw [if_pos hf, h2 hf, emit_nil, logR_nil, List.append_nil]
  · rw [if_neg hf]
    show _ = emitL _ (_ ++ []) _ ++ []
    rw [List.append_nil, List.append_nil]
theorem emit_len (O : List (Nat × List UInt8)) (T : List UInt8) (f : Nat) : (emitL O T f).length ≤ O.length + 1 := by
  unfold emitL
  split
  · omega
  · simp
theorem st_len (R : List (List UInt8)) (m : Nat) (hm : ∀ s ∈ R, s.length ≤ m) : ∀ (k : Nat), (stA R k).O.length ≤ k ∧ (stA R k).T.length ≤ (m + 1) * k ∧ (stA R k).f ≤ k
  | 0 => ⟨Nat.le_refl _, Nat.zero_le _, Nat.le_refl _⟩
  | k + 1 => by
    obtain ⟨h1, h2, h3⟩ := st_len R m hm k
    cases hk : R[k]? with
    | none =>
      have : stA R (k + 1) = stA R k := by
        show (match R[k]? with | some s => stepG k s (stA R k) | none => stA R k) = _
        rw [hk]
      rw [this, Nat.mul_succ]
      exact ⟨by omega, by omega, by omega⟩
    | some s =>
      have hs := hm s (List.mem_of_getElem? hk)
      have he := emit_len (stA R k).O ((stA R k).T ++ s) (numG k (stA R k).f)
      have hf : numG k (stA R k).f ≤ k + 1 := by unfold numG; split <;> omega
      rw [stA_at hk, Nat.mul_succ]
      unfold stepG
      split
      · exact ⟨by omega, by omega, by omega⟩
      · split
        · refine ⟨by show (stA R k).O.length ≤ _; omega, ?_, hf⟩
          show ((stA R k).T ++ (s.dropLast ++ [32])).length ≤ _
          rw [List.length_append, List.length_append, List.length_dropLast, List.length_singleton]
          omega
        · exact ⟨by show (emitL _ _ _).length ≤ _; omega, Nat.zero_le _, Nat.zero_le _⟩
end Go.Proofs.YtgigdhincpcdbaaGreatDoor
