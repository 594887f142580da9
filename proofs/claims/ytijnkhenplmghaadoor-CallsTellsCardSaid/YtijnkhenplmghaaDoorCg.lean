/- Which names are among all of an architecture: those that have a number there. -/
import Derived.Test.YtijnkhenplmghaaDoorCe
namespace Go.Proofs.YtijnkhenplmghaaDoor
open Go.RowKit
set_option linter.unusedVariables false

theorem first_some {p : Nat → Bool} : ∀ {n j : Nat}, firstT p n = some j → j < n ∧ p j = true
  | n + 1, j, h => by
    unfold firstT at h
    cases hf : firstT p n with
    | some i =>
      rw [hf] at h
      obtain rfl : i = j := Option.some.inj h
      have := first_some hf
      exact ⟨by omega, this.2⟩
    | none =>
      rw [hf] at h
      by_cases hp : p n = true
      · simp only [hp, if_true] at h
        obtain rfl : n = j := Option.some.inj h
        exact ⟨by omega, hp⟩
      · simp only [hp] at h
        cases h
theorem first_none {p : Nat → Bool} : ∀ {n : Nat}, firstT p n = none → ∀ j, j < n → p j = false
  | n + 1, h, j, hj => by
    unfold firstT at h
    cases hf : firstT p n with
    | some i => rw [hf] at h; cases h
    | none =>
      rw [hf] at h
      by_cases hp : p n = true
      · simp only [hp, if_true] at h; cases h
      · rcases Nat.lt_or_ge j n with h1 | h1
        · exact first_none hf j h1
        · obtain rfl : j = n := by omega
          simpa using hp
theorem known_iff {s : ByteArray} : knownR s = true ↔ ∃ j, j < 40 ∧ nmT j = s := by
  unfold knownR
  constructor
  · intro h
    obtain ⟨j, hj⟩ := Option.isSome_iff_exists.1 h
    have := first_some hj
    exact ⟨j, this.1, of_decide_eq_true this.2⟩
  · rintro ⟨j, hj, e⟩
    cases hf : firstT (fun j => decide (nmT j = s)) 40 with
    | some i => rfl
    | none => exact absurd e (of_decide_eq_false (first_none hf j hj))
theorem numR_iff {a : Int} {s : ByteArray} : (numR a s).2 = 0 ↔ ∃ j, j < 40 ∧ nmT j = s ∧ okT a j = true := by
  unfold numR
  constructor
  · intro h
    cases hf : firstT (fun j => decide (nmT j = s) && okT a j) 40 with
    | some i =>
      have := first_some hf
      simp only [Bool.and_eq_true, decide_eq_true_eq] at this
      exact ⟨i, this.1, this.2.1, this.2.2⟩
    | none => rw [hf] at h; exact absurd (show (90 : Int) = 0 from h) (by decide)
  · rintro ⟨j, hj, e, ho⟩
    cases hf : firstT (fun j => decide (nmT j = s) && okT a j) 40 with
    | some i => rfl
    | none =>
      have := first_none hf j hj
      simp only [decide_eq_true e, ho] at this
      exact absurd this (by decide)
theorem set_two2 : ∀ (l : List En) (k : Nat) (h : k + 1 < l.length), List.Perm ((l.set (k + 1) l[k]).set k l[k + 1]) l
  | [], k, h => absurd h (by simp)
  | [x], k, h => absurd h (by simp)
  | x :: y :: t, 0, h => List.Perm.swap _ _ _
  | x :: r, k + 1, h => List.Perm.cons x (set_two2 r k (by simpa using h))
theorem set_two {l : List En} {k : Nat} (h : k + 1 < l.length) : List.Perm (swp l k) l := by
  unfold swp
  have h1 : k < l.length := by omega
  rw [List.getD_eq_getElem?_getD, List.getD_eq_getElem?_getD, List.getElem?_eq_getElem h, List.getElem?_eq_getElem h1]
  exact set_two2 l k h
theorem bub_perm : ∀ (k : Nat) (l : List En), k < l.length → List.Perm (bubT k l) l
  | 0, l, _ => List.Perm.refl _
  | k + 1, l, h => by
    unfold bubT
    split
    · exact (bub_perm k _ (by rw [swp_length]; omega)).trans (set_two h)
    · exact List.Perm.refl _
theorem mem_all {a : Int} {e : En} : ∀ {k : Nat}, e ∈ allT a k ↔ ∃ j, j < k ∧ (numR a (nmT j)).2 = 0 ∧ e = (nmT j, (numR a (nmT j)).1)
  | 0 => ⟨fun h => absurd h List.not_mem_nil, fun ⟨j, h, _⟩ => absurd h (by omega)⟩
  | k + 1 => by
    have ih := mem_all (a := a) (e := e) (k := k)
    show e ∈ (if (numR a (nmT k)).2 = 0 then _ else _) ↔ _
    by_cases hz : (numR a (nmT k)).2 = 0
    · rw [if_pos hz, (bub_perm _ _ (by rw [List.length_append, List.length_singleton]; omega)).mem_iff, List.mem_append, ih, List.mem_singleton]
      constructor
      · rintro (⟨j, h1, h2⟩ | h)
        · exact ⟨j, by omega, h2⟩
        · exact ⟨k, by omega, hz, h⟩
      · rintro ⟨j, h1, h2, h3⟩
        by_cases e : j = k
        · subst e; exact Or.inr h3
        · exact Or.inl ⟨j, by omega, h2, h3⟩
    · rw [if_neg hz, ih]
      constructor
      · rintro ⟨j, h1, h2⟩; exact ⟨j, by omega, h2⟩
      · rintro ⟨j, h1, h2, h3⟩
        by_cases e : j = k
        · subst e; exact absurd h2 hz
        · exact ⟨j, by omega, h2, h3⟩
/-- Is a name among the first so many? -/
def inN (s : ByteArray) (k : Nat) : Bool := (List.range k).any fun j => decide (nmT j = s)
def inA (l : List En) (s : ByteArray) (k : Nat) : Bool := (List.range k).any fun j => decide ((l.getD j d0).1 = s)
theorem inN_succ (s : ByteArray) (k : Nat) : inN s (k + 1) = (inN s k || decide (nmT k = s)) := by
  unfold inN; rw [List.range_succ, List.any_append]; simp
theorem inA_succ (l : List En) (s : ByteArray) (k : Nat) : inA l s (k + 1) = (inA l s k || decide ((l.getD k d0).1 = s)) := by
  unfold inA; rw [List.range_succ, List.any_append]; simp
theorem inN_all (s : ByteArray) : inN s 40 = knownR s := by
  rw [Bool.eq_iff_iff, known_iff]
  unfold inN
  simp
theorem inA_all (a : Int) (s : ByteArray) : inA (allT a 40) s (allT a 40).length = decide ((numR a s).2 = 0) := by
  rw [Bool.eq_iff_iff, decide_eq_true_eq, numR_iff]
  unfold inA
  rw [List.any_eq_true]
  constructor
  · rintro ⟨i, hi, he⟩
    have hi := List.mem_range.1 hi
    have he := of_decide_eq_true he
    rw [List.getD_eq_getElem?_getD, List.getElem?_eq_getElem hi, Option.getD_some] at he
    obtain ⟨j, h1, h2, h3⟩ := mem_all.1 (List.getElem_mem hi)
    obtain ⟨j', h4, h5, h6⟩ := numR_iff.1 h2
    exact ⟨j', h4, by rw [h5, ← he, h3], h6⟩
  · rintro ⟨j, h1, h2, h3⟩
    have hm : (nmT j, (numR a (nmT j)).1) ∈ allT a 40 := mem_all.2 ⟨j, h1, numR_iff.2 ⟨j, h1, rfl, h3⟩, rfl⟩
    obtain ⟨i, hi, he⟩ := List.getElem_of_mem hm
    refine ⟨i, List.mem_range.2 hi, decide_eq_true ?_⟩
    rw [List.getD_eq_getElem?_getD, List.getElem?_eq_getElem hi, Option.getD_some, he]
    exact h2
theorem in_known (a : Int) (s : ByteArray) (h : (numR a s).2 = 0) : knownR s = true := by
  obtain ⟨j, h1, h2, _⟩ := numR_iff.1 h
  exact known_iff.2 ⟨j, h1, h2⟩
end Go.Proofs.YtijnkhenplmghaaDoor
