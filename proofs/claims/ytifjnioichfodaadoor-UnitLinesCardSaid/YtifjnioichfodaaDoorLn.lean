/- What holds of logical lines: numbers rise, are lines' numbers; texts are not empty, are trimmed, hold no byte 10. Plain lists, no program. -/
import Derived.Test.YtifjnioichfodaaDoorLa
namespace Go.Proofs.YtifjnioichfodaaDoor
set_option linter.unusedVariables false

theorem join_mem : ∀ {R : List (List UInt8)} {c : UInt8}, c ∈ (joinL R).1 → c = 32 ∨ ∃ s ∈ R, c ∈ s
  | [], c, h => by cases h
  | s :: r, c, h => by
    unfold joinL at h
    split at h
    · rcases join_mem h with h | ⟨t, ht, hc⟩
      · exact .inl h
      · exact .inr ⟨t, List.mem_cons_of_mem _ ht, hc⟩
    · split at h
      · rcases List.mem_append.1 h with h | h
        · rcases List.mem_append.1 h with h | h
          · exact .inr ⟨s, List.mem_cons_self .., List.dropLast_subset _ h⟩
          · exact .inl (List.mem_singleton.1 h)
        · rcases join_mem h with h | ⟨t, ht, hc⟩
          · exact .inl h
          · exact .inr ⟨t, List.mem_cons_of_mem _ ht, hc⟩
      · exact .inr ⟨s, List.mem_cons_self .., h⟩
theorem join_sub : ∀ {R : List (List UInt8)} {s : List UInt8}, s ∈ (joinL R).2 → s ∈ R
  | [], s, h => by cases h
  | t :: r, s, h => by
    unfold joinL at h
    split at h
    · exact List.mem_cons_of_mem _ (join_sub h)
    · split at h
      · exact List.mem_cons_of_mem _ (join_sub h)
      · exact List.mem_cons_of_mem _ h
theorem join_len (m : Nat) : ∀ (R : List (List UInt8)), (∀ s ∈ R, s.length ≤ m) → (joinL R).1.length ≤ (m + 1) * R.length
  | [], _ => by simp [joinL]
  | s :: r, h => by
    have h1 := join_len m r (fun t ht => h t (List.mem_cons_of_mem _ ht))
    have h2 := h s (List.mem_cons_self ..)
    rw [List.length_cons, Nat.mul_add, Nat.mul_one]
    unfold joinL
    split
    · exact Nat.le_trans h1 (by omega)
    · split
      · simp only [List.length_append, List.length_dropLast, List.length_singleton]; omega
      · show s.length ≤ _; omega
theorem trim_len (l : List UInt8) : (trimL l).length ≤ l.length := by
  obtain ⟨A, B, e, _⟩ := trim_parts l
  have := congrArg List.length e
  rw [List.length_append, List.length_append] at this
  omega
/-- What holds of each logical line. -/
structure LogOk (N m lo : Nat) (p : Nat × List UInt8) : Prop where
  lo : lo < p.1
  hi : p.1 ≤ N
  some : p.2 ≠ []
  trim : trimL p.2 = p.2
  ten : ∀ c ∈ p.2, c ≠ 10
  len : p.2.length ≤ m
theorem log_ok (N m : Nat) : ∀ (f : Nat) (R : List (List UInt8)), R.length ≤ N → (∀ s ∈ R, s.length ≤ m ∧ ∀ c ∈ s, c ≠ 10) → (∀ p ∈ logL N f R, LogOk N ((m + 1) * N) (N - R.length) p) ∧ (logL N f R).Pairwise (fun p q => p.1 < q.1)
  | 0, R, _, _ => ⟨(fun p hp => by cases hp), List.Pairwise.nil⟩
  | f + 1, [], _, _ => ⟨(fun p hp => by cases hp), List.Pairwise.nil⟩
  | f + 1, s :: r, hN, hR => by
    rw [List.length_cons] at hN
    unfold logL
    cases hc : comL s with
    | true =>
      simp only [if_true]
      obtain ⟨h1, h2⟩ := log_ok N m f r (by omega) (fun t ht => hR t (List.mem_cons_of_mem _ ht))
      exact ⟨fun p hp => by have := h1 p hp; exact ⟨by have := this.lo; rw [List.length_cons]; omega, this.hi, this.some, this.trim, this.ten, this.len⟩, h2⟩
    | false =>
      have hj := join_lt (r := r) hc
      obtain ⟨h1, h2⟩ := log_ok N m f (joinL (s :: r)).2 (by omega) (fun t ht => hR t (join_sub ht))
      simp only [Bool.false_eq_true, if_false]
      split
      · exact ⟨fun p hp => by have := h1 p hp; exact ⟨by have := this.lo; rw [List.length_cons]; omega, this.hi, this.some, this.trim, this.ten, this.len⟩, h2⟩
      · rename_i hne
        refine ⟨fun p hp => ?_, List.pairwise_cons.2 ⟨fun p hp => ?_, h2⟩⟩
        · rcases List.mem_cons.1 hp with rfl | hp
          · refine ⟨by rw [List.length_cons]; show N - (r.length + 1) < N - r.length; omega, Nat.sub_le _ _, hne, trim_twice _, fun c hcm => ?_, ?_⟩
            · rcases join_mem (trim_mem hcm) with h | ⟨t, ht, hct⟩
              · rw [h]; decide
              · exact (hR t ht).2 c hct
            · have a1 := trim_len (joinL (s :: r)).1
              have a2 := join_len m (s :: r) (fun t ht => (hR t ht).1)
              have a3 : (m + 1) * (s :: r).length ≤ (m + 1) * N := Nat.mul_le_mul_left _ hN
              exact Nat.le_trans a1 (Nat.le_trans a2 a3)
          · have := h1 p hp; exact ⟨by have := this.lo; rw [List.length_cons]; omega, this.hi, this.some, this.trim, this.ten, this.len⟩
        · have := (h1 p hp).lo
          show N - r.length < p.1
          omega
theorem spl_ok {l : List UInt8} {p : Nat × List UInt8} (h : p ∈ splL l) : LogOk (linL l).length 65537000 0 p := by
  unfold splL at h
  split at h
  · cases h
  · split at h
    · cases h
    · rename_i h1 h2
      have h3 := (log_ok (linL l).length 65536 (linL l).length (linL l) (Nat.le_refl _) (fun s hs => ⟨by have := (linL_mem hs).2; omega, (linL_mem hs).1⟩)).1 p h
      exact ⟨by have := h3.lo; omega, h3.hi, h3.some, h3.trim, h3.ten, by have := h3.len; have : 65537 * (linL l).length ≤ 65537 * 1000 := Nat.mul_le_mul_left _ (by omega); omega⟩
theorem spl_rise (l : List UInt8) : (splL l).Pairwise (fun p q => p.1 < q.1) := by
  unfold splL
  split
  · exact List.Pairwise.nil
  · split
    · exact List.Pairwise.nil
    · exact (log_ok (linL l).length l.length (linL l).length (linL l) (Nat.le_refl _) (fun s hs => ⟨(linL_mem hs).2, (linL_mem hs).1⟩)).2
/-- The number of the logical line ahead; 0 if there is none. -/
def lastN (O : List (Nat × List UInt8)) : Nat → Nat
  | 0 => 0
  | k + 1 => (O.getD k (0, [])).1
theorem last_lt {l : List UInt8} {k : Nat} {p : Nat × List UInt8} (h : (splL l)[k]? = some p) : lastN (splL l) k < p.1 := by
  cases k with
  | zero => exact (spl_ok (List.mem_of_getElem? h)).lo
  | succ k =>
    obtain ⟨hk, e⟩ := List.getElem?_eq_some_iff.1 h
    have hp := List.pairwise_iff_getElem.1 (spl_rise l) k (k + 1) (by omega) hk (by omega)
    show ((splL l).getD k (0, [])).1 < p.1
    rw [List.getD_eq_getElem?_getD, List.getElem?_eq_getElem (by omega), ← e]
    exact hp
theorem last_succ {O : List (Nat × List UInt8)} {k : Nat} {p : Nat × List UInt8} (h : O[k]? = some p) : lastN O (k + 1) = p.1 := by
  show (O.getD k (0, [])).1 = p.1
  rw [List.getD_eq_getElem?_getD, h]; rfl
end Go.Proofs.YtifjnioichfodaaDoor
