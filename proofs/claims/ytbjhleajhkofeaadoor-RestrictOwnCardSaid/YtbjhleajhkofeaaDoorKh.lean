/- What the calls of the package values have to return, as the chapter says it; the chapter's rows. How an argument of a statement is opened: an entry that came in. No condition. The fields by runes, as the library's text goes, at white space are the words by bytes, whatever bytes they are. Plain lists and numbers, no program. -/
import Derived.Test.YtbjhleajhkofeaaDoorTg
import Derived.Test.YtbjhleajhkofeaaDoorWd
import Derived.Deep.Slices
import Derived.Deep.Fields
import Derived.Lib.SmallJoins
import Derived.Lib.TrimUEq
import Derived.Lib.SpaceUEq
import Derived.Lib.MapLaws
import Derived.Lib.FieldsP
namespace Go.Proofs.YtbjhleajhkofeaaDoor
open Go.RowKit
set_option linter.unusedVariables false
set_option linter.unusedSimpArgs false
attribute [local go_sem ↓] Go.wp_at_zero Go.wp_at_succ

end Go.Proofs.YtbjhleajhkofeaaDoor
namespace Go.Proofs.YtbjhleajhkofeaaDoor
open Go.RowKit Go.WideShapes Go.DataRel
set_option linter.unusedVariables false

end Go.Proofs.YtbjhleajhkofeaaDoor
namespace Go.Proofs.YtbjhleajhkofeaaDoor
set_option linter.unusedVariables false
set_option linter.unusedSimpArgs false

/-- White space, as a rune. -/
def whR15 (r : Nat) : Bool := r == 32 || r == 9 || r == 13
theorem whR15_blk (b : UInt8) : whR15 b.toNat = blkB b := by
  unfold whR15 blkB
  have e : ∀ k : UInt8, (b.toNat == k.toNat) = (b == k) := fun k => by
    rw [Bool.eq_iff_iff, beq_iff_eq, beq_iff_eq]
    exact UInt8.toNat_inj
  rw [show (b.toNat == 32) = (b == 32) from e 32, show (b.toNat == 9) = (b == 9) from e 9, show (b.toNat == 13) = (b == 13) from e 13]
theorem whR15_big {r : Nat} (h : 128 ≤ r) : whR15 r = false := by
  unfold whR15
  rw [beq_eq_false_iff_ne.2 (show r ≠ 32 by omega), beq_eq_false_iff_ne.2 (show r ≠ 9 by omega), beq_eq_false_iff_ne.2 (show r ≠ 13 by omega)]; rfl
set_option maxRecDepth 100000 in
theorem dec15_big (n b0 b1 b2 b3 : Nat) (h : 128 ≤ b0) : 128 ≤ (Lib.decodeN n b0 b1 b2 b3).1 := by
  unfold Lib.decodeN
  repeat' split
  all_goals first | (exfalso; omega) | (simp only; omega)
theorem blk_low15 {b : UInt8} (h : blkB b = true) : b.toNat < 128 := by
  rcases Nat.lt_or_ge b.toNat 128 with h1 | h1
  · exact h1
  · rw [← whR15_blk, whR15_big h1] at h; cases h
theorem blk_high15 {b : UInt8} (h : 128 ≤ b.toNat) : blkB b = false := by rw [← whR15_blk]; exact whR15_big h
/-- A rune whose first byte is white space. -/
theorem dec15_blank {l : List UInt8} {c : UInt8} {r : List UInt8} (e : l = c :: r) (h : blkB c = true) : Lib.decodeL l = (c.toNat, 1) := by
  rw [Lib.decodeL_N, e]
  exact Lib.decodeN_ascii _ _ _ _ _ (blk_low15 h)
/-- A rune whose first byte is not: none of its bytes is. -/
theorem dec15_other {l : List UInt8} {c : UInt8} {r : List UInt8} (e : l = c :: r) (h : blkB c = false) : whR15 (Lib.decodeL l).1 = false ∧ 1 ≤ (Lib.decodeL l).2 ∧ (Lib.decodeL l).2 ≤ l.length ∧ ∀ x ∈ l.take (Lib.decodeL l).2, blkB x = false := by
  have hne : l ≠ [] := by rw [e]; exact List.cons_ne_nil _ _
  refine ⟨?_, Lib.decodeL_width l, Lib.decodeL_le l hne, ?_⟩
  · rw [Lib.decodeL_N, e]
    rcases Nat.lt_or_ge c.toNat 128 with h1 | h1
    · show whR15 (Lib.decodeN _ c.toNat _ _ _).1 = false
      rw [Lib.decodeN_ascii _ _ _ _ _ h1]
      show whR15 c.toNat = false
      rw [whR15_blk, h]
    · exact whR15_big (dec15_big _ c.toNat _ _ _ h1)
  · intro x hx
    obtain ⟨i, hi, rfl⟩ := List.mem_iff_getElem.1 hx
    have hc := Lib.decodeN_conts l.length (l.getD 0 0).toNat (l.getD 1 0).toNat (l.getD 2 0).toNat (l.getD 3 0).toNat
    rw [← Lib.decodeL_N] at hc
    obtain ⟨h1, h2, h3, h4⟩ := hc
    rw [List.length_take] at hi
    rw [List.getElem_take]
    have hil : i < l.length := by omega
    have hg : l.getD i 0 = l[i] := by simp [List.getD, hil]
    have hm : i < (Lib.decodeL l).2 := by omega
    match i, hil, hg, hm with
    | 0, hil, hg, hm =>
      subst e; exact h
    | 1, hil, hg, hm =>
      refine blk_high15 ?_
      have := (h1 (by omega)).1
      rw [hg] at this; omega
    | 2, hil, hg, hm =>
      refine blk_high15 ?_
      have := (h2 (by omega)).1
      rw [hg] at this; omega
    | 3, hil, hg, hm =>
      refine blk_high15 ?_
      have := (h3 (by omega)).1
      rw [hg] at this; omega
    | i + 4, hil, hg, hm => omega
theorem dec15_at (l : List UInt8) (k : Nat) : Utf8.decode (bs l) k = Lib.decodeL (l.drop k) := (Lib.decodeL_drop (bs l) k).symm
theorem ext15 (l : List UInt8) (a b : Nat) : (bs l).extract a b = bs ((l.take b).drop a) := by
  show (ByteArray.mk l.toArray).extract a b = _
  rw [ByteArray.extract_mk l a b, ← List.drop_take]
  rfl
/-- The word begun. -/
def begun (l : List UInt8) (pos : Nat) : Option Nat → List UInt8
  | none => []
  | some a => (l.take pos).drop a
def okSt (pos : Nat) : Option Nat → Prop
  | none => True
  | some a => a < pos
theorem fields_from (l : List UInt8) : ∀ (f pos : Nat) (st : Option Nat) (acc : List (Nat × Nat)), l.length ≤ pos + f → pos ≤ l.length → okSt pos st →
    (Lib.closeSpans (bs l) (Lib.spansFromP whR15 (bs l) f pos st acc)).map (fun x => (bs l).extract x.1 x.2) = acc.map (fun x => (bs l).extract x.1 x.2) ++ (wdA (begun l pos st) (l.drop pos)).map bs
  | f, pos, st, acc, h, h2, hst => by
    by_cases hp : pos < l.length
    · match f, h with
      | 0, h => omega
      | f + 1, h =>
        have e : l.drop pos = l[pos] :: l.drop (pos + 1) := List.drop_eq_getElem_cons hp
        unfold Lib.spansFromP
        rw [bs_size, if_pos hp, dec15_at]
        cases hb : blkB l[pos] with
        | true =>
          rw [dec15_blank e hb]
          show _ = _
          rw [show whR15 (l[pos].toNat, 1).1 = true from by rw [whR15_blk]; exact hb, if_pos rfl, e, wdA_blk hb]
          match st, hst with
          | none, _ =>
            show (Lib.closeSpans (bs l) (Lib.spansFromP whR15 (bs l) f (pos + 1) none acc)).map _ = _
            rw [fields_from l f (pos + 1) none acc (by omega) hp trivial]
            rfl
          | some a, hst =>
            show (Lib.closeSpans (bs l) (Lib.spansFromP whR15 (bs l) f (pos + 1) none (acc ++ [(a, pos)]))).map _ = _
            rw [fields_from l f (pos + 1) none (acc ++ [(a, pos)]) (by omega) hp trivial]
            have hne : begun l pos (some a) ≠ [] := fun e2 => by
              have := congrArg List.length e2
              unfold begun at this
              rw [List.length_drop, List.length_take, List.length_nil] at this
              have : a < pos := hst
              omega
            rw [if_neg hne, List.map_append, List.map_cons, List.map_nil, ext15, List.map_cons, List.append_assoc]
            rfl
        | false =>
          obtain ⟨hw, hm1, hm2, hm3⟩ := dec15_other e hb
          obtain ⟨m, hm⟩ : ∃ m, m = (Lib.decodeL (l.drop pos)).2 := ⟨_, rfl⟩
          rw [← hm] at hm1 hm2 hm3
          rw [hw, if_neg Bool.noConfusion, ← hm]
          rw [List.length_drop] at hm2
          have key : ∀ w : List UInt8, wdA w (l.drop pos) = wdA (w ++ (l.drop pos).take m) (l.drop (pos + m)) := fun w => by
            conv => lhs; rw [← List.take_append_drop m (l.drop pos), wdA_word _ _ _ hm3, List.drop_drop]
          have seg : ∀ a, a ≤ pos → (l.take (pos + m)).drop a = (l.take pos).drop a ++ (l.drop pos).take m := fun a ha => by
            rw [List.take_add, List.drop_append_of_le_length (by rw [List.length_take]; omega)]
          match st, hst with
          | none, _ =>
            show (Lib.closeSpans (bs l) (Lib.spansFromP whR15 (bs l) f (pos + m) (some pos) acc)).map _ = _
            rw [fields_from l f (pos + m) (some pos) acc (by omega) (by omega) (show pos < pos + m by omega), key]
            show _ ++ (wdA ((l.take (pos + m)).drop pos) _).map bs = _
            rw [seg pos (Nat.le_refl _), List.drop_of_length_le (by rw [List.length_take]; omega)]
            rfl
          | some a, hst =>
            have ha : a < pos := hst
            show (Lib.closeSpans (bs l) (Lib.spansFromP whR15 (bs l) f (pos + m) (some a) acc)).map _ = _
            rw [fields_from l f (pos + m) (some a) acc (by omega) (by omega) (show a < pos + m by omega), key]
            show _ ++ (wdA ((l.take (pos + m)).drop a) _).map bs = _
            rw [seg a (by omega)]
            rfl
    · obtain rfl : pos = l.length := by omega
      rw [Lib.spansFromP_end _ _ _ _ _ _ (by rw [bs_size]; exact hp), List.drop_length, wdA_nil]
      match st, hst with
      | none, _ =>
        show acc.map _ = _
        rw [show begun l l.length none = [] from rfl, if_pos rfl, List.map_nil, List.append_nil]
      | some a, hst =>
        have ha : a < l.length := hst
        show (acc ++ [(a, (bs l).size)]).map _ = _
        have hne : begun l l.length (some a) ≠ [] := fun e2 => by
          have := congrArg List.length e2
          unfold begun at this
          rw [List.length_drop, List.length_take, List.length_nil] at this
          omega
        rw [if_neg hne, List.map_append, List.map_cons, List.map_nil, ext15, bs_size]
        rfl
/-- What the library returns is the words. -/
theorem fields_words (s : ByteArray) : Lib.goFieldsP whR15 s = (wdL s.data.toList).map bs := by
  have h := fields_from s.data.toList s.data.toList.length 0 none [] (by omega) (by omega) trivial
  rw [bs_self] at h
  rw [List.drop_zero, List.map_nil, List.nil_append] at h
  unfold Lib.goFieldsP Lib.spansOfP
  rw [show s.size = s.data.toList.length by simp]
  exact h
end Go.Proofs.YtbjhleajhkofeaaDoor
