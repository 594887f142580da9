/- Lines of texts that are put one behind the other: plain texts with comments between; a text in parts. Plain lists, no program. -/
import Derived.Test.YtifjnioichfodaaDoorLn
namespace Go.Proofs.YtifjnioichfodaaDoor
set_option linter.unusedVariables false

/-- Lines, each with its end. -/
def flatL (Ls : List (List UInt8)) : List UInt8 := Ls.flatMap fun s => s ++ [10]
theorem flatL_app (a b : List (List UInt8)) : flatL (a ++ b) = flatL a ++ flatL b := List.flatMap_append
theorem flatL_one (s : List UInt8) : flatL [s] = s ++ [10] := by unfold flatL; simp
theorem flatL_len (m : Nat) : ∀ {Ls : List (List UInt8)}, (∀ s ∈ Ls, s.length ≤ m) → (flatL Ls).length ≤ (m + 1) * Ls.length
  | [], _ => by simp [flatL]
  | s :: r, h => by
    have h1 := flatL_len m (fun t ht => h t (List.mem_cons_of_mem s ht))
    have h2 := h s (List.mem_cons_self ..)
    have e : flatL (s :: r) = (s ++ [10]) ++ flatL r := rfl
    have e2 : (m + 1) * (s :: r).length = (m + 1) * r.length + (m + 1) := by rw [List.length_cons, Nat.mul_add, Nat.mul_one]
    rw [e, e2, List.length_append, List.length_append, List.length_singleton]
    omega
theorem linA_line : ∀ (s cur r : List UInt8), (∀ c ∈ s, c ≠ 10) → linA cur (s ++ 10 :: r) = (cur ++ s) :: linA [] r
  | [], cur, r, _ => by
    rw [List.nil_append, List.append_nil]
    conv => lhs; unfold linA
    rw [if_pos rfl]
  | c :: s, cur, r, h => by
    rw [List.cons_append]
    conv => lhs; unfold linA
    rw [if_neg (h c (List.mem_cons_self ..)), linA_line s (cur ++ [c]) r (fun d hd => h d (List.mem_cons_of_mem _ hd)), List.append_assoc]
    rfl
theorem linA_last : ∀ (s cur : List UInt8), (∀ c ∈ s, c ≠ 10) → linA cur s = if cur ++ s = [] then [] else [cur ++ s]
  | [], cur, _ => by rw [List.append_nil]; rfl
  | c :: s, cur, h => by
    conv => lhs; unfold linA
    rw [if_neg (h c (List.mem_cons_self ..)), linA_last s (cur ++ [c]) (fun d hd => h d (List.mem_cons_of_mem _ hd)), List.append_assoc]
    rfl
/-- A text's lines are those that were put into it. -/
theorem lin_flat : ∀ (Ls : List (List UInt8)) (t : List UInt8), (∀ s ∈ Ls, ∀ c ∈ s, c ≠ 10) → (∀ c ∈ t, c ≠ 10) → linL (flatL Ls ++ t) = Ls ++ (if t = [] then [] else [t])
  | [], t, _, ht => by
    unfold linL flatL
    rw [List.flatMap_nil, List.nil_append, linA_last t [] ht]; rfl
  | s :: r, t, h, ht => by
    have e : flatL (s :: r) ++ t = s ++ 10 :: (flatL r ++ t) := by
      show ((s ++ [10]) ++ flatL r) ++ t = _
      rw [List.append_assoc, List.append_assoc]; rfl
    have ih := lin_flat r t (fun u hu => h u (List.mem_cons_of_mem _ hu)) ht
    unfold linL at ih ⊢
    rw [e, linA_line s [] _ (h s (List.mem_cons_self ..)), ih]; rfl
/-- The logical lines of lines of which none is continued: one each, but for comments and such that have white space alone. -/
def plnW : Nat → List (List UInt8) → List (Nat × List UInt8)
  | _, [] => []
  | i, s :: r => if comL s then plnW (i + 1) r else if trimL s = [] then plnW (i + 1) r else (i + 1, trimL s) :: plnW (i + 1) r
theorem plnW_cons (i : Nat) (s : List UInt8) (r : List (List UInt8)) : plnW i (s :: r) = if comL s then plnW (i + 1) r else if trimL s = [] then plnW (i + 1) r else (i + 1, trimL s) :: plnW (i + 1) r := rfl
theorem plnW_app : ∀ (a b : List (List UInt8)) (i : Nat), plnW i (a ++ b) = plnW i a ++ plnW (i + a.length) b
  | [], b, i => rfl
  | s :: r, b, i => by
    have ih := plnW_app r b (i + 1)
    have e : i + 1 + r.length = i + (s :: r).length := by rw [List.length_cons]; omega
    rw [e] at ih
    rw [List.cons_append, plnW_cons, plnW_cons i s r]
    split
    · exact ih
    · split
      · exact ih
      · rw [ih]; rfl
theorem plnW_len : ∀ (a : List (List UInt8)) (i : Nat), (plnW i a).length ≤ a.length
  | [], i => Nat.le_refl _
  | s :: r, i => by
    have := plnW_len r (i + 1)
    unfold plnW
    split
    · simp; omega
    · split <;> simp <;> omega
theorem log_plain (N : Nat) : ∀ (f : Nat) (R : List (List UInt8)), R.length ≤ f → R.length ≤ N → (∀ s ∈ R, comL s = true ∨ conL s = false) → logL N f R = plnW (N - R.length) R
  | 0, R, h, _, _ => by
    obtain rfl : R = [] := List.eq_nil_of_length_eq_zero (by omega)
    rfl
  | f + 1, [], _, _, _ => rfl
  | f + 1, s :: r, h1, h2, h3 => by
    rw [List.length_cons] at h1 h2 ⊢
    have ih := log_plain N f r (by omega) (by omega) (fun t ht => h3 t (List.mem_cons_of_mem _ ht))
    have e : N - (r.length + 1) + 1 = N - r.length := by omega
    unfold logL plnW
    rw [e]
    cases hc : comL s with
    | true => simp only [if_true]; exact ih
    | false =>
      have hn := (h3 s (List.mem_cons_self ..)).resolve_left (by rw [hc]; decide)
      have hj : joinL (s :: r) = (s, r) := by
        unfold joinL
        rw [hc, if_neg (by decide), hn, if_neg (by decide)]
      rw [hj]
      simp only [Bool.false_eq_true, if_false]
      split
      · exact ih
      · rw [ih]
theorem spl_plain {Ls : List (List UInt8)} (h10 : ∀ s ∈ Ls, ∀ c ∈ s, c ≠ 10) (hp : ∀ s ∈ Ls, comL s = true ∨ conL s = false) (hN : Ls.length ≤ 1000) (hl : (flatL Ls).length ≤ 65536) : linL (flatL Ls) = Ls ∧ splE (flatL Ls) = 0 ∧ splL (flatL Ls) = plnW 0 Ls := by
  have e : linL (flatL Ls) = Ls := by
    have := lin_flat Ls [] h10 (fun c hc => by cases hc)
    rwa [List.append_nil, if_pos rfl, List.append_nil] at this
  refine ⟨e, by unfold splE; rw [if_neg (by omega), e, if_neg (by omega)], ?_⟩
  unfold splL
  rw [if_neg (by omega), e, if_neg (by omega)]
  unfold logR
  rw [log_plain Ls.length Ls.length Ls (Nat.le_refl _) (Nat.le_refl _) hp, Nat.sub_self]
/-- What is asked of a text. -/
structure PlainT (t : List UInt8) : Prop where
  len : t.length ≤ 60
  com : comL t = false
  con : conL t = false
  ten : ∀ c ∈ t, c ≠ 10
theorem pln_com {Ls : List (List UInt8)} {s : List UInt8} (h : comL s = true) : plnW 0 (Ls ++ [s]) = plnW 0 Ls := by
  rw [plnW_app, plnW_cons, if_pos h]
  exact List.append_nil _
theorem pln_none {Ls : List (List UInt8)} {s : List UInt8} (h : comL s = false) (ht : trimL s = []) : plnW 0 (Ls ++ [s]) = plnW 0 Ls := by
  rw [plnW_app]
  have : plnW (0 + Ls.length) [s] = [] := by
    unfold plnW
    rw [h, if_neg (by decide), if_pos ht]; rfl
  rw [this, List.append_nil]
theorem pln_some {Ls : List (List UInt8)} {s : List UInt8} (h : comL s = false) (ht : trimL s ≠ []) : plnW 0 (Ls ++ [s]) = plnW 0 Ls ++ [(Ls.length + 1, trimL s)] := by
  rw [plnW_app]
  have : plnW (0 + Ls.length) [s] = [(Ls.length + 1, trimL s)] := by
    unfold plnW
    rw [h, if_neg (by decide), if_neg ht, Nat.zero_add]; rfl
  rw [this]
/-- The lines that were put into a text so far. -/
structure PlnOk (k : Nat) (Ls : List (List UInt8)) : Prop where
  ten : ∀ s ∈ Ls, ∀ c ∈ s, c ≠ 10
  pln : ∀ s ∈ Ls, comL s = true ∨ conL s = false
  len : ∀ s ∈ Ls, s.length ≤ 60
  many : Ls.length ≤ 2 * k
theorem PlnOk.zero : PlnOk 0 [] := ⟨(fun s hs => by cases hs), (fun s hs => by cases hs), (fun s hs => by cases hs), Nat.le_refl _⟩
theorem PlnOk.more {k : Nat} {Ls : List (List UInt8)} (h : PlnOk k Ls) {t : List UInt8} (ht : PlainT t) : PlnOk (k + 1) (Ls ++ [t]) := by
  refine ⟨fun s hs => ?_, fun s hs => ?_, fun s hs => ?_, by rw [List.length_append]; have := h.many; simp; omega⟩ <;> rcases List.mem_append.1 hs with hs | hs
  · exact h.ten s hs
  · rw [List.mem_singleton.1 hs]; exact ht.ten
  · exact h.pln s hs
  · rw [List.mem_singleton.1 hs]; exact .inr ht.con
  · exact h.len s hs
  · rw [List.mem_singleton.1 hs]; exact ht.len
/-- The comment that is laid ahead. -/
def cmtL : List UInt8 := [32, 35, 32, 97, 32, 99, 111, 109, 109, 101, 110, 116, 92]
theorem cmt_com : comL cmtL = true := by kernel_rfl
theorem PlnOk.cmt {k : Nat} {Ls : List (List UInt8)} (h : PlnOk k Ls) {t : List UInt8} (ht : PlainT t) : PlnOk (k + 1) (Ls ++ [cmtL] ++ [t]) := by
  refine ⟨fun s hs => ?_, fun s hs => ?_, fun s hs => ?_, by rw [List.length_append, List.length_append]; have := h.many; simp; omega⟩ <;> rcases List.mem_append.1 hs with hs | hs
  · rcases List.mem_append.1 hs with hs | hs
    · exact h.ten s hs
    · rw [List.mem_singleton.1 hs]; decide
  · rw [List.mem_singleton.1 hs]; exact ht.ten
  · rcases List.mem_append.1 hs with hs | hs
    · exact h.pln s hs
    · rw [List.mem_singleton.1 hs]; exact .inl cmt_com
  · rw [List.mem_singleton.1 hs]; exact .inr ht.con
  · rcases List.mem_append.1 hs with hs | hs
    · exact h.len s hs
    · rw [List.mem_singleton.1 hs]; decide
  · rw [List.mem_singleton.1 hs]; exact ht.len
theorem PlnOk.flat {k : Nat} {Ls : List (List UInt8)} (h : PlnOk k Ls) : (flatL Ls).length ≤ 122 * k := by
  have h1 := flatL_len 60 h.len
  have h2 : 61 * Ls.length ≤ 61 * (2 * k) := Nat.mul_le_mul_left _ h.many
  omega
end Go.Proofs.YtifjnioichfodaaDoor
