/- Data flow, as the chapter says it, on lists: to where an instruction leads, what is reached, which cells are certain. Plain lists and integers, no program. -/
import Derived.Test.YthhfpehngdohhaaDoorVa
import Derived.Test.YthhfpehngdohhaaDoorIh
namespace Go.Proofs.YthhfpehngdohhaaDoor
set_option linter.unusedVariables false

def clsI (c : Int) : Int := (ofL allL c).cls
/-- The two places to which an instruction leads. -/
def leads (i : Ins) (at_ : Nat) : Nat × Nat :=
  if clsI i.c = 4 then (if i.c = 5 then (at_ + 1 + i.k.toNat, at_ + 1 + i.k.toNat) else (at_ + 1 + i.jt.toNat, at_ + 1 + i.jf.toNat)) else (at_ + 1, at_ + 1)
/-- Two places below n, in order, each once. -/
def two (n a b : Nat) : List Nat := (if min a b < n then [min a b] else []) ++ (if max a b < n ∧ a ≠ b then [max a b] else [])
def nextI (n : Nat) (i : Ins) (at_ : Nat) : List Nat := if clsI i.c = 0 ∨ clsI i.c = 5 then [] else two n (leads i at_).1 (leads i at_).2
def nextL (p : List Ins) (at_ : Nat) : List Nat := match p[at_]? with | none => [] | some i => nextI p.length i at_
/-- At any number. -/
def nextA (p : List Ins) (a : Int) : List Nat := if 0 ≤ a then nextL p a.toNat else []
theorem two_mem {n a b j : Nat} : j ∈ two n a b ↔ (j = a ∨ j = b) ∧ j < n := by
  have key : ∀ a b : Nat, a ≤ b → (j ∈ (if a < n then [a] else []) ++ (if b < n ∧ a ≠ b then [b] else []) ↔ (j = a ∨ j = b) ∧ j < n) := by
    intro a b h
    rw [List.mem_append]
    have e1 : j ∈ (if a < n then [a] else []) ↔ j = a ∧ a < n := by
      by_cases h1 : a < n
      · rw [if_pos h1, List.mem_singleton]; omega
      · rw [if_neg h1]; constructor
        · intro h2; cases h2
        · omega
    have e2 : j ∈ (if b < n ∧ a ≠ b then [b] else []) ↔ j = b ∧ b < n ∧ a ≠ b := by
      by_cases h1 : b < n ∧ a ≠ b
      · rw [if_pos h1, List.mem_singleton]; omega
      · rw [if_neg h1]; constructor
        · intro h2; cases h2
        · intro h2; exact absurd h2.2 h1
    rw [e1, e2]; omega
  unfold two
  rcases Nat.le_total a b with h | h
  · rw [Nat.min_eq_left h, Nat.max_eq_right h]; exact key a b h
  · rw [Nat.min_eq_right h, Nat.max_eq_left h]
    have := key b a h
    rw [show (if a < n ∧ a ≠ b then [a] else []) = (if a < n ∧ b ≠ a then [a] else []) from by by_cases e : a = b <;> simp [e, eq_comm]]
    exact this.trans (by constructor <;> (rintro ⟨h1 | h1, h2⟩ <;> exact ⟨by omega, h2⟩))
theorem two_length (n a b : Nat) : (two n a b).length ≤ 2 := by
  unfold two
  by_cases h1 : min a b < n <;> by_cases h2 : max a b < n ∧ a ≠ b <;> simp [h1, h2]
theorem leads_lt (i : Ins) (at_ : Nat) : at_ < (leads i at_).1 ∧ at_ < (leads i at_).2 := by
  unfold leads
  split
  · split
    · exact ⟨by show at_ < at_ + 1 + i.k.toNat; omega, by show at_ < at_ + 1 + i.k.toNat; omega⟩
    · exact ⟨by show at_ < at_ + 1 + i.jt.toNat; omega, by show at_ < at_ + 1 + i.jf.toNat; omega⟩
  · exact ⟨Nat.lt_succ_self _, Nat.lt_succ_self _⟩
theorem nextL_lt {p : List Ins} {i j : Nat} (h : j ∈ nextL p i) : i < j ∧ j < p.length := by
  unfold nextL at h
  split at h
  · cases h
  · rename_i x hx
    unfold nextI at h
    split at h
    · cases h
    · have := two_mem.1 h
      have := leads_lt x i
      omega
theorem nextL_length (p : List Ins) (i : Nat) : (nextL p i).length ≤ 2 := by
  unfold nextL
  split
  · exact Nat.zero_le _
  · unfold nextI
    split
    · exact Nat.zero_le _
    · exact two_length _ _ _
/-- The marks after the first n places: whoever is marked, and goes on, marks those to which he leads. -/
def mark (f : Nat → List Nat) (go : Nat → Bool) : Nat → Nat → Bool
  | 0, j => j == 0
  | n + 1, j => mark f go n j || (mark f go n n && go n && (f n).contains j)
theorem mark_more {f : Nat → List Nat} {go : Nat → Bool} (hf : ∀ i j, j ∈ f i → i < j) {j : Nat} : ∀ {n : Nat}, j ≤ n → mark f go n j = mark f go j j
  | 0, h => by obtain rfl : j = 0 := by omega
               rfl
  | n + 1, h => by
    by_cases e : j = n + 1
    · rw [e]
    · have ih := mark_more (go := go) hf (n := n) (j := j) (by omega)
      show (mark f go n j || (mark f go n n && go n && (f n).contains j)) = _
      rw [ih]
      have hn : (f n).contains j = false := by
        rw [Bool.eq_false_iff]
        intro hc
        have := hf n j (List.contains_iff_mem.1 hc)
        omega
      rw [hn, Bool.and_false, Bool.or_false]
theorem mark_mono {f : Nat → List Nat} {go : Nat → Bool} {j : Nat} : ∀ {n m : Nat}, n ≤ m → mark f go n j = true → mark f go m j = true
  | n, 0, h, hm => by obtain rfl : n = 0 := by omega
                      exact hm
  | n, m + 1, h, hm => by
    by_cases e : n = m + 1
    · rw [← e]; exact hm
    · show (mark f go m j || _) = true
      rw [mark_mono (n := n) (m := m) (by omega) hm, Bool.true_or]
/-- A place is reached. -/
def reachB (p : List Ins) (j : Nat) : Bool := mark (nextL p) (fun _ => true) p.length j
/-- An instruction writes the cell. -/
def writesB (p : List Ins) (c i : Nat) : Bool := match p[i]? with | none => false | some x => (x.c == 2 || x.c == 3) && x.k == (c : Int)
/-- A path leads to the place on which the cell isn't written. -/
def unB (p : List Ins) (c j : Nat) : Bool := mark (nextL p) (fun i => !writesB p c i) p.length j
theorem next_up {p : List Ins} (i j : Nat) (h : j ∈ nextL p i) : i < j := (nextL_lt h).1
theorem reachB_zero (p : List Ins) : reachB p 0 = true := mark_mono (Nat.zero_le _) rfl
theorem unB_zero (p : List Ins) (c : Nat) : unB p c 0 = true := mark_mono (Nat.zero_le _) rfl
theorem mark_step {p : List Ins} {go : Nat → Bool} {i j : Nat} (hi : mark (nextL p) go p.length i = true) (hl : i < p.length) (hg : go i = true) (hj : j ∈ nextL p i) : mark (nextL p) go p.length j = true := by
  rw [mark_more next_up (by omega : i ≤ p.length)] at hi
  refine mark_mono (n := i + 1) (by omega) ?_
  show (_ || (mark (nextL p) go i i && go i && (nextL p i).contains j)) = true
  rw [hi, hg, List.contains_iff_mem.2 hj]; simp
/-- A chain of places, each of which leads to the next one. -/
def Way (p : List Ins) (l : List Nat) : Prop := (∀ x, l[0]? = some x → x = 0) ∧ (∀ i x y, l[i]? = some x → l[i + 1]? = some y → y ∈ nextL p x) ∧ ∀ x ∈ l, x < p.length
theorem Way.mark {p : List Ins} {l : List Nat} (h : Way p l) (go : Nat → Bool) : ∀ (i x : Nat), l[i]? = some x → (∀ j y, j < i → l[j]? = some y → go y = true) → Go.Proofs.YthhfpehngdohhaaDoor.mark (nextL p) go p.length x = true
  | 0, x, hx, _ => by rw [h.1 x hx]; exact mark_mono (Nat.zero_le _) rfl
  | i + 1, x, hx, hg => by
    have hi : i < l.length := by have := (List.getElem?_eq_some_iff.1 hx).1; omega
    have hy : l[i]? = some l[i] := List.getElem?_eq_getElem hi
    exact mark_step (h.mark go i l[i] hy (fun j y hj => hg j y (by omega))) (h.2.2 _ (List.getElem_mem hi)) (hg i _ (Nat.lt_succ_self _) hy) (h.2.1 i _ _ hy hx)
/-- What comes to a place is reached. -/
theorem Way.reach {p : List Ins} {l : List Nat} (h : Way p l) {x : Nat} (hx : x ∈ l) : reachB p x = true := by
  obtain ⟨i, hi⟩ := List.getElem?_of_mem hx
  exact h.mark (fun _ => true) i x hi (fun _ _ _ _ => rfl)
/-- A cell that is certain was written. -/
theorem Way.un {p : List Ins} {l : List Nat} (h : Way p l) (c i x : Nat) (hx : l[i]? = some x) (hw : ∀ j y, j < i → l[j]? = some y → writesB p c y = false) : unB p c x = true :=
  h.mark (fun i => !writesB p c i) i x hx (fun j y hj hy => by show (!writesB p c y) = true; rw [hw j y hj hy]; rfl)
/-- The set of the first m cells that are certain at a place, as a number. -/
def sureTo (p : List Ins) (j : Nat) : Nat → Nat
  | 0 => 0
  | m + 1 => if unB p m j then sureTo p j m else sureTo p j m ||| 2 ^ m
def sureN (p : List Ins) (j : Nat) : Nat := sureTo p j 16
theorem sureTo_bit (p : List Ins) (j c : Nat) : ∀ m, (sureTo p j m).testBit c = (decide (c < m) && !unB p c j)
  | 0 => by simp [sureTo]
  | m + 1 => by
    unfold sureTo
    by_cases hc : c = m
    · subst hc
      have ih := sureTo_bit p j c c
      simp only [Nat.lt_irrefl, decide_false, Bool.false_and] at ih
      cases hu : unB p c j with
      | true => simp [ih]
      | false => simp [ih, Nat.testBit_or]
    · have ih := sureTo_bit p j c m
      have h1 : decide (c < m + 1) = decide (c < m) := decide_eq_decide.2 (by omega)
      rw [h1, ← ih]
      split
      · rfl
      · rw [Nat.testBit_or, Nat.testBit_two_pow, decide_eq_false (fun e => hc e.symm), Bool.or_false]
theorem sureTo_lt (p : List Ins) (j : Nat) : ∀ m, sureTo p j m < 2 ^ m
  | 0 => by show 0 < 1; decide
  | m + 1 => by
    have ih := sureTo_lt p j m
    have hp : (2 : Nat) ^ m < 2 ^ (m + 1) := by rw [Nat.pow_succ]; have := Nat.pow_pos (n := m) (by decide : 0 < 2); omega
    unfold sureTo
    split
    · omega
    · exact Nat.or_lt_two_pow (by omega) hp
end Go.Proofs.YthhfpehngdohhaaDoor
