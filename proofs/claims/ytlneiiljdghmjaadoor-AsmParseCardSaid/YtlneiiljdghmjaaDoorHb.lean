/- What the landed asm makes of a text's lines: a text that is a program's is read as that program. Plain lists, no program. -/
import Derived.Test.YtlneiiljdghmjaaDoorHa
namespace Go.Proofs.YtlneiiljdghmjaaDoor
set_option linter.unusedVariables false
set_option linter.unusedSimpArgs false

/-- A text, cut behind each byte 10. -/
def cutsL : List UInt8 → List (List UInt8)
  | [] => []
  | c :: r => if c = 10 then [10] :: cutsL r else match cutsL r with | [] => [[c]] | h :: t => (c :: h) :: t
/-- The first line, and what is behind it. -/
def headN : List UInt8 → List UInt8
  | [] => []
  | c :: r => if c = 10 then [10] else c :: headN r
def tailN : List UInt8 → List UInt8
  | [] => []
  | c :: r => if c = 10 then r else tailN r
theorem cuts_head : ∀ {l : List UInt8}, l ≠ [] → cutsL l = headN l :: cutsL (tailN l)
  | [], h => absurd rfl h
  | c :: r, _ => by
    have e0 : cutsL (c :: r) = if c = 10 then [10] :: cutsL r else match cutsL r with | [] => [[c]] | h :: t => (c :: h) :: t := by rw [cutsL]
    have e1 : headN (c :: r) = if c = 10 then [10] else c :: headN r := by rw [headN]
    have e2 : tailN (c :: r) = if c = 10 then r else tailN r := by rw [tailN]
    rw [e0, e1, e2]
    by_cases h : c = 10
    · rw [if_pos h, if_pos h, if_pos h]
    · rw [if_neg h, if_neg h, if_neg h]
      cases r with
      | nil => rfl
      | cons d t => rw [cuts_head (l := d :: t) (by simp)]
theorem head_app {b : List UInt8} : ∀ {a : List UInt8}, (∀ c ∈ a, c ≠ 10) → headN (a ++ 10 :: b) = a ++ [10] ∧ tailN (a ++ 10 :: b) = b
  | [], _ => ⟨by simp [headN], by simp [tailN]⟩
  | c :: r, h => by
    obtain ⟨i1, i2⟩ := head_app (b := b) (a := r) (fun x hx => h x (List.mem_cons_of_mem _ hx))
    show headN (c :: (r ++ 10 :: b)) = _ ∧ tailN (c :: (r ++ 10 :: b)) = _
    unfold headN tailN
    rw [if_neg (h c (List.mem_cons_self ..)), if_neg (h c (List.mem_cons_self ..)), i1, i2]
    exact ⟨rfl, rfl⟩
theorem head_self : ∀ {a : List UInt8}, (∀ c ∈ a, c ≠ 10) → headN a = a ∧ tailN a = []
  | [], _ => ⟨rfl, rfl⟩
  | c :: r, h => by
    obtain ⟨i1, i2⟩ := head_self (a := r) (fun x hx => h x (List.mem_cons_of_mem _ hx))
    unfold headN tailN
    rw [if_neg (h c (List.mem_cons_self ..)), if_neg (h c (List.mem_cons_self ..)), i1, i2]
    exact ⟨rfl, rfl⟩
theorem head_le : ∀ (l : List UInt8), (headN l).length ≤ l.length ∧ (tailN l).length ≤ l.length
  | [] => ⟨Nat.le_refl _, Nat.le_refl _⟩
  | c :: r => by
    have := head_le r
    unfold headN tailN
    split
    · simp
    · simp; omega
theorem tail_lt : ∀ {l : List UInt8}, l ≠ [] → (tailN l).length < l.length
  | [], h => absurd rfl h
  | c :: r, _ => by
    have := head_le r
    unfold tailN
    split
    · simp
    · simp; omega
theorem cuts_flat : ∀ {ls : List (List UInt8)}, (∀ l ∈ ls, ∀ c ∈ l, c ≠ 10) → cutsL (flatL ls) = ls.map (· ++ [10])
  | [], _ => rfl
  | l :: r, h => by
    show cutsL (l ++ 10 :: flatL r) = _
    obtain ⟨h1, h2⟩ := head_app (b := flatL r) (h l (List.mem_cons_self ..))
    rw [cuts_head (by simp), h1, h2, cuts_flat (fun x hx => h x (List.mem_cons_of_mem _ hx))]
    rfl
theorem cuts_le {l x : List UInt8} (h : x ∈ cutsL l) : x.length ≤ l.length := by
  induction hn : l.length using Nat.strongRecOn generalizing l with
  | _ n ih =>
    by_cases hl : l = []
    · subst hl; exact absurd h (by simp [cutsL])
    · rw [cuts_head hl] at h
      rcases List.mem_cons.1 h with e | h
      · rw [e, ← hn]; exact (head_le l).1
      · have := tail_lt hl
        have := ih (tailN l).length (by omega) h rfl
        omega
/-- What is left behind so many lines. -/
def restN (l : List UInt8) : Nat → List UInt8
  | 0 => l
  | j + 1 => tailN (restN l j)
theorem rest_cuts (l : List UInt8) : ∀ (j : Nat), cutsL (restN l j) = (cutsL l).drop j
  | 0 => rfl
  | j + 1 => by
    show cutsL (tailN (restN l j)) = _
    rw [← List.drop_drop, ← rest_cuts l j]
    by_cases h : restN l j = []
    · rw [h]; rfl
    · rw [cuts_head h]; rfl
theorem rest_le (l : List UInt8) : ∀ (j : Nat), (restN l j).length ≤ l.length
  | 0 => Nat.le_refl _
  | j + 1 => Nat.le_trans (head_le _).2 (rest_le l j)
/-- What is read of lines, one behind the other. -/
def readAllL : List (List UInt8) → List Ins → Option (List Ins)
  | [], p => some p
  | l :: r, p => if Lib.hasSuffix (Lib.trimSuffix l [10]) [58] = true then readAllL r p
    else match readL (Lib.trimSuffix l [10]) p.length with
    | none => none
    | some i => if p.length = 4096 then none else readAllL r (p ++ [i])
theorem suffix_snoc (l : List UInt8) (c d : UInt8) : Lib.hasSuffix (l ++ [c]) [d] = (c == d) := by
  unfold Lib.hasSuffix List.isSuffixOf
  rw [List.reverse_append]
  show List.isPrefixOf [d] (c :: l.reverse) = _
  unfold List.isPrefixOf
  rw [Bool.eq_iff_iff]
  simp
  constructor <;> exact fun h => h.symm
theorem suffix_nil (d : UInt8) : Lib.hasSuffix [] [d] = false := rfl
theorem trim_line (l : List UInt8) : Lib.trimSuffix (l ++ [10]) [10] = l := by
  unfold Lib.trimSuffix
  rw [suffix_snoc, if_pos (by rfl)]
  simp
theorem suffix_lab (l : List UInt8) : Lib.hasSuffix l [58] = isLab l := by
  unfold isLab
  rcases List.eq_nil_or_concat l with rfl | ⟨m, c, rfl⟩
  · rfl
  · rw [List.concat_eq_append, suffix_snoc, List.getLast?_concat]
    rfl
theorem readAll_cons (l : List UInt8) (r : List (List UInt8)) (p : List Ins) : readAllL (l :: r) p = if Lib.hasSuffix (Lib.trimSuffix l [10]) [58] = true then readAllL r p
    else match readL (Lib.trimSuffix l [10]) p.length with
    | none => none
    | some i => if p.length = 4096 then none else readAllL r (p ++ [i]) := by rw [readAllL]
theorem readAll_skip : ∀ (ls : List (List UInt8)) (p : List Ins), readAllL (ls.map (· ++ [10])) p = readAllL ((ls.filter (fun l => !isLab l)).map (· ++ [10])) p
  | [], p => rfl
  | l :: r, p => by
    show readAllL ((l ++ [10]) :: r.map (· ++ [10])) p = _
    rw [readAll_cons, trim_line, suffix_lab, List.filter_cons]
    cases h : isLab l with
    | true =>
      rw [if_pos rfl]
      exact readAll_skip r p
    | false =>
      rw [if_neg Bool.false_ne_true]
      show _ = readAllL ((l ++ [10]) :: (r.filter _).map (· ++ [10])) p
      rw [readAll_cons, trim_line, suffix_lab, h, if_neg Bool.false_ne_true]
      cases readL l p.length with
      | none => rfl
      | some i =>
        show (if _ then _ else _) = if _ then _ else _
        rw [readAll_skip r (p ++ [i])]
theorem can_targ {p : List Ins} {k : Nat} {x : Ins} (h : canL p = true) (ho : OkL p) (hk : k < p.length) (hx : p[k]? = some x) : plainI x = true ∧ ∀ t ∈ targL x k, (k : Int) < t ∧ t < p.length := by
  obtain ⟨_, hc⟩ := can_of h
  obtain ⟨h1, h2⟩ := can_plain hc hk hx
  refine ⟨h1, fun t ht => ?_⟩
  have hkn := plain_known h1
  have hf := forks_shape hkn
  have hj := ja_shape hkn
  have hok : x.Ok := by
    have := ho.get hk
    rw [List.getElem?_eq_getElem hk] at hx
    injection hx with hx
    rw [← hx]; exact this
  obtain ⟨c0, c1, t0, t1, f0, f1, k0, k1⟩ := hok
  unfold badI at h2
  rw [Bool.or_eq_false_iff, Bool.or_eq_false_iff] at h2
  obtain ⟨⟨_, h3⟩, h4⟩ := h2
  unfold targL at ht
  by_cases h5 : x.c = 5
  · rw [if_pos h5] at ht
    rw [List.mem_singleton.1 ht]
    rw [← hj, beq_iff_eq.2 h5, Bool.true_and, decide_eq_false_iff_not] at h3
    omega
  · rw [if_neg h5, hf] at ht
    by_cases hs : 2 < shapeI x.c
    · rw [decide_eq_true hs, if_pos rfl] at ht
      rw [decide_eq_true hs, Bool.true_and, Bool.or_eq_false_iff, decide_eq_false_iff_not, decide_eq_false_iff_not] at h4
      rcases List.mem_cons.1 ht with e | ht
      · omega
      · rw [List.mem_singleton.1 ht]; omega
    · rw [decide_eq_false hs, if_neg Bool.false_ne_true] at ht
      cases ht
theorem readAll_inst {q : List Ins} (h : canL q = true) (ho : OkL q) : ∀ (d k : Nat), q.length - k = d → k ≤ q.length → readAllL ((instL (q.drop k) k).map (· ++ [10])) (q.take k) = some q
  | 0, k, hd, hk => by
    obtain rfl : k = q.length := by omega
    rw [List.drop_length, List.take_length]; rfl
  | d + 1, k, hd, hk => by
    have hlt : k < q.length := by omega
    have hx : q[k]? = some q[k] := List.getElem?_eq_getElem hlt
    obtain ⟨hp, ht⟩ := can_targ h ho hlt hx
    have hlen := (can_of h).1
    rw [List.drop_eq_getElem_cons hlt]
    show readAllL ((lineI q[k] k ++ [10]) :: (instL (q.drop (k + 1)) ((k : Int) + 1)).map (· ++ [10])) (q.take k) = _
    rw [readAll_cons, trim_line, suffix_lab, lab_line hp (by omega), if_neg Bool.false_ne_true, List.length_take, Nat.min_eq_left (by omega), read_line (ho.get hlt) hp (fun t h => by have := ht t h; omega)]
    show (if k = 4096 then none else readAllL _ _) = _
    rw [if_neg (by omega), ← List.take_succ_eq_append_getElem hlt]
    exact readAll_inst h ho d (k + 1) (by omega) (by omega)
/-- A program's text is read as the program. -/
theorem readAll_text {q : List Ins} (h : canL q = true) (ho : OkL q) : readAllL (cutsL (textL q)) [] = some q := by
  obtain ⟨_, hc⟩ := can_of h
  unfold textL
  rw [text_flat, cuts_flat (lines_not hc), readAll_skip, inst_lines hc (Nat.le_refl _), List.take_length]
  have := readAll_inst h ho q.length 0 (by omega) (by omega)
  simpa using this
theorem readAll_ok : ∀ (ls : List (List UInt8)) (p q : List Ins), OkL p → readAllL ls p = some q → OkL q
  | [], p, q, hp, h => by injection h with h; rw [← h]; exact hp
  | l :: r, p, q, hp, h => by
    rw [readAll_cons] at h
    split at h
    · exact readAll_ok r p q hp h
    · split at h
      · cases h
      · rename_i i hi
        split at h
        · cases h
        · exact readAll_ok r _ q (fun x hx => by
            rcases List.mem_append.1 hx with hx | hx
            · exact hp x hx
            · rw [List.mem_singleton.1 hx]; exact read_ok hi) h
theorem readAll_len : ∀ (ls : List (List UInt8)) (p q : List Ins), p.length ≤ 4096 → readAllL ls p = some q → q.length ≤ 4096
  | [], p, q, hp, h => by injection h with h; rw [← h]; exact hp
  | l :: r, p, q, hp, h => by
    rw [readAll_cons] at h
    split at h
    · exact readAll_len r p q hp h
    · split at h
      · cases h
      · split at h
        · cases h
        · exact readAll_len r _ q (by rw [List.length_append]; simp; omega) h
end Go.Proofs.YtlneiiljdghmjaaDoor
