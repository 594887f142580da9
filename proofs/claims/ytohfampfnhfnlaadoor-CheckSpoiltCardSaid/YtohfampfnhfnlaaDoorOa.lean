/- Data flow, as the chapter says it, on lists: to where an instruction leads, what is reached, which cells are certain. Plain lists and integers, no program. What a run comes to is a path: each place leads to the next one. One instruction more ahead of all others. A program of as many instructions as one likes that write nothing. Plain lists and integers, no program. -/
import Derived.Test.YtohfampfnhfnlaaDoorVa
import Derived.Test.YtohfampfnhfnlaaDoorIf
namespace Go.Proofs.YtohfampfnhfnlaaDoor
set_option linter.unusedVariables false

def clsI (c : Int) : Int := (ofL allL c).cls
/-- The two places to which an instruction leads. -/
def leads (i : Ins) (at_ : Nat) : Nat × Nat :=
  if clsI i.c = 4 then (if i.c = 5 then (at_ + 1 + i.k.toNat, at_ + 1 + i.k.toNat) else (at_ + 1 + i.jt.toNat, at_ + 1 + i.jf.toNat)) else (at_ + 1, at_ + 1)
/-- Two places below n, in order, each once. -/
def two (n a b : Nat) : List Nat := (if min a b < n then [min a b] else []) ++ (if max a b < n ∧ a ≠ b then [max a b] else [])
def nextI (n : Nat) (i : Ins) (at_ : Nat) : List Nat := if clsI i.c = 0 ∨ clsI i.c = 5 then [] else two n (leads i at_).1 (leads i at_).2
def nextL (p : List Ins) (at_ : Nat) : List Nat := match p[at_]? with | none => [] | some i => nextI p.length i at_
/-- At any number. -/
def nextA (p : List Ins) (a : Int) : List Nat := if 0 ≤ a then nextL p a.toNat else []
theorem two_mem {n a b j : Nat} : j ∈ two n a b ↔ (j = a ∨ j = b) ∧ j < n := by
  have key : ∀ a b : Nat, a ≤ b → (j ∈ (if a < n then [a] else []) ++ (if b < n ∧ a ≠ b then [b] else []) ↔ (j = a ∨ j = b) ∧ j < n) := by
    intro a b h
    rw [List.mem_append]
    have e1 : j ∈ (if a < n then [a] else []) ↔ j = a ∧ a < n := by
      by_cases h1 : a < n
      · rw [if_pos h1, List.mem_singleton]; omega
      · rw [if_neg h1]; constructor
        · intro h2; cases h2
        · omega
    have e2 : j ∈ (if b < n ∧ a ≠ b then [b] else []) ↔ j = b ∧ b < n ∧ a ≠ b := by
      by_cases h1 : b < n ∧ a ≠ b
      · rw [if_pos h1, List.mem_singleton]; omega
      · rw [if_neg h1]; constructor
        · intro h2; cases h2
        · intro h2; exact absurd h2.2 h1
    rw [e1, e2]; omega
  unfold two
  rcases Nat.le_total a b with h | h
  · rw [Nat.min_eq_left h, Nat.max_eq_right h]; exact key a b h
  · rw [Nat.min_eq_right h, Nat.max_eq_left h]
    have := key b a h
    rw [show (if a < n ∧ a ≠ b then [a] else []) = (if a < n ∧ b ≠ a then [a] else []) from by by_cases e : a = b <;> simp [e, eq_comm]]
    exact this.trans (by constructor <;> (rintro ⟨h1 | h1, h2⟩ <;> exact ⟨by omega, h2⟩))
theorem two_length (n a b : Nat) : (two n a b).length ≤ 2 := by
  unfold two
  by_cases h1 : min a b < n <;> by_cases h2 : max a b < n ∧ a ≠ b <;> simp [h1, h2]
theorem leads_lt (i : Ins) (at_ : Nat) : at_ < (leads i at_).1 ∧ at_ < (leads i at_).2 := by
  unfold leads
  split
  · split
    · exact ⟨by show at_ < at_ + 1 + i.k.toNat; omega, by show at_ < at_ + 1 + i.k.toNat; omega⟩
    · exact ⟨by show at_ < at_ + 1 + i.jt.toNat; omega, by show at_ < at_ + 1 + i.jf.toNat; omega⟩
  · exact ⟨Nat.lt_succ_self _, Nat.lt_succ_self _⟩
theorem nextL_lt {p : List Ins} {i j : Nat} (h : j ∈ nextL p i) : i < j ∧ j < p.length := by
  unfold nextL at h
  split at h
  · cases h
  · rename_i x hx
    unfold nextI at h
    split at h
    · cases h
    · have := two_mem.1 h
      have := leads_lt x i
      omega
theorem nextL_length (p : List Ins) (i : Nat) : (nextL p i).length ≤ 2 := by
  unfold nextL
  split
  · exact Nat.zero_le _
  · unfold nextI
    split
    · exact Nat.zero_le _
    · exact two_length _ _ _
/-- The marks after the first n places: whoever is marked, and goes on, marks those to which he leads. -/
def mark (f : Nat → List Nat) (go : Nat → Bool) : Nat → Nat → Bool
  | 0, j => j == 0
  | n + 1, j => mark f go n j || (mark f go n n && go n && (f n).contains j)
theorem mark_more {f : Nat → List Nat} {go : Nat → Bool} (hf : ∀ i j, j ∈ f i → i < j) {j : Nat} : ∀ {n : Nat}, j ≤ n → mark f go n j = mark f go j j
  | 0, h => by obtain rfl : j = 0 := by omega
               rfl
  | n + 1, h => by
    by_cases e : j = n + 1
    · rw [e]
    · have ih := mark_more (go := go) hf (n := n) (j := j) (by omega)
      show (mark f go n j || (mark f go n n && go n && (f n).contains j)) = _
      rw [ih]
      have hn : (f n).contains j = false := by
        rw [Bool.eq_false_iff]
        intro hc
        have := hf n j (List.contains_iff_mem.1 hc)
        omega
      rw [hn, Bool.and_false, Bool.or_false]
theorem mark_mono {f : Nat → List Nat} {go : Nat → Bool} {j : Nat} : ∀ {n m : Nat}, n ≤ m → mark f go n j = true → mark f go m j = true
  | n, 0, h, hm => by obtain rfl : n = 0 := by omega
                      exact hm
  | n, m + 1, h, hm => by
    by_cases e : n = m + 1
    · rw [← e]; exact hm
    · show (mark f go m j || _) = true
      rw [mark_mono (n := n) (m := m) (by omega) hm, Bool.true_or]
/-- A place is reached. -/
def reachB (p : List Ins) (j : Nat) : Bool := mark (nextL p) (fun _ => true) p.length j
/-- An instruction writes the cell. -/
def writesB (p : List Ins) (c i : Nat) : Bool := match p[i]? with | none => false | some x => (x.c == 2 || x.c == 3) && x.k == (c : Int)
/-- A path leads to the place on which the cell isn't written. -/
def unB (p : List Ins) (c j : Nat) : Bool := mark (nextL p) (fun i => !writesB p c i) p.length j
theorem next_up {p : List Ins} (i j : Nat) (h : j ∈ nextL p i) : i < j := (nextL_lt h).1
theorem reachB_zero (p : List Ins) : reachB p 0 = true := mark_mono (Nat.zero_le _) rfl
theorem unB_zero (p : List Ins) (c : Nat) : unB p c 0 = true := mark_mono (Nat.zero_le _) rfl
theorem mark_step {p : List Ins} {go : Nat → Bool} {i j : Nat} (hi : mark (nextL p) go p.length i = true) (hl : i < p.length) (hg : go i = true) (hj : j ∈ nextL p i) : mark (nextL p) go p.length j = true := by
  rw [mark_more next_up (by omega : i ≤ p.length)] at hi
  refine mark_mono (n := i + 1) (by omega) ?_
  show (_ || (mark (nextL p) go i i && go i && (nextL p i).contains j)) = true
  rw [hi, hg, List.contains_iff_mem.2 hj]; simp
/-- A chain of places, each of which leads to the next one. -/
def Way (p : List Ins) (l : List Nat) : Prop := (∀ x, l[0]? = some x → x = 0) ∧ (∀ i x y, l[i]? = some x → l[i + 1]? = some y → y ∈ nextL p x) ∧ ∀ x ∈ l, x < p.length
theorem Way.mark {p : List Ins} {l : List Nat} (h : Way p l) (go : Nat → Bool) : ∀ (i x : Nat), l[i]? = some x → (∀ j y, j < i → l[j]? = some y → go y = true) → Go.Proofs.YtohfampfnhfnlaaDoor.mark (nextL p) go p.length x = true
  | 0, x, hx, _ => by rw [h.1 x hx]; exact mark_mono (Nat.zero_le _) rfl
  | i + 1, x, hx, hg => by
    have hi : i < l.length := by have := (List.getElem?_eq_some_iff.1 hx).1; omega
    have hy : l[i]? = some l[i] := List.getElem?_eq_getElem hi
    exact mark_step (h.mark go i l[i] hy (fun j y hj => hg j y (by omega))) (h.2.2 _ (List.getElem_mem hi)) (hg i _ (Nat.lt_succ_self _) hy) (h.2.1 i _ _ hy hx)
/-- What comes to a place is reached. -/
theorem Way.reach {p : List Ins} {l : List Nat} (h : Way p l) {x : Nat} (hx : x ∈ l) : reachB p x = true := by
  obtain ⟨i, hi⟩ := List.getElem?_of_mem hx
  exact h.mark (fun _ => true) i x hi (fun _ _ _ _ => rfl)
/-- A cell that is certain was written. -/
theorem Way.un {p : List Ins} {l : List Nat} (h : Way p l) (c i x : Nat) (hx : l[i]? = some x) (hw : ∀ j y, j < i → l[j]? = some y → writesB p c y = false) : unB p c x = true :=
  h.mark (fun i => !writesB p c i) i x hx (fun j y hj hy => by show (!writesB p c y) = true; rw [hw j y hj hy]; rfl)
/-- The set of the first m cells that are certain at a place, as a number. -/
def sureTo (p : List Ins) (j : Nat) : Nat → Nat
  | 0 => 0
  | m + 1 => if unB p m j then sureTo p j m else sureTo p j m ||| 2 ^ m
def sureN (p : List Ins) (j : Nat) : Nat := sureTo p j 16
theorem sureTo_bit (p : List Ins) (j c : Nat) : ∀ m, (sureTo p j m).testBit c = (decide (c < m) && !unB p c j)
  | 0 => by simp [sureTo]
  | m + 1 => by
    unfold sureTo
    by_cases hc : c = m
    · subst hc
      have ih := sureTo_bit p j c c
      simp only [Nat.lt_irrefl, decide_false, Bool.false_and] at ih
      cases hu : unB p c j with
      | true => simp [ih]
      | false => simp [ih, Nat.testBit_or]
    · have ih := sureTo_bit p j c m
      have h1 : decide (c < m + 1) = decide (c < m) := decide_eq_decide.2 (by omega)
      rw [h1, ← ih]
      split
      · rfl
      · rw [Nat.testBit_or, Nat.testBit_two_pow, decide_eq_false (fun e => hc e.symm), Bool.or_false]
theorem sureTo_lt (p : List Ins) (j : Nat) : ∀ m, sureTo p j m < 2 ^ m
  | 0 => by show 0 < 1; decide
  | m + 1 => by
    have ih := sureTo_lt p j m
    have hp : (2 : Nat) ^ m < 2 ^ (m + 1) := by rw [Nat.pow_succ]; have := Nat.pow_pos (n := m) (by decide : 0 < 2); omega
    unfold sureTo
    split
    · omega
    · exact Nat.or_lt_two_pow (by omega) hp
end Go.Proofs.YtohfampfnhfnlaaDoor
namespace Go.Proofs.YtohfampfnhfnlaaDoor
set_option linter.unusedVariables false

/-- An instruction after which the run goes on leads to where it goes on. -/
def goesTo (i : Ins) (at_ : Nat) : Out → Prop
  | .go _ _ _ n => (clsI i.c ≠ 0 ∧ clsI i.c ≠ 5) ∧ (at_ + 1 + n = (leads i at_).1 ∨ at_ + 1 + n = (leads i at_).2)
  | _ => True
theorem gt_fin {i : Ins} {at_ : Nat} {v : Int} : goesTo i at_ (.fin v) := True.intro
theorem gt_bad {i : Ins} {at_ : Nat} {v : Int} : goesTo i at_ (.bad v) := True.intro
theorem goesTo_ite {i : Ins} {at_ : Nat} {q : Prop} [Decidable q] {u v : Out} (hu : q → goesTo i at_ u) (hv : ¬ q → goesTo i at_ v) : goesTo i at_ (if q then u else v) := by
  by_cases h : q
  · rw [if_pos h]; exact hu h
  · rw [if_neg h]; exact hv h
theorem goes_on {i : Ins} {at_ : Nat} {a x : Int} {c : Nat → Int} (h4 : clsI i.c ≠ 4) (h0 : clsI i.c ≠ 0) (h5 : clsI i.c ≠ 5) : goesTo i at_ (.go a x c 0) := by
  refine ⟨⟨h0, h5⟩, Or.inl ?_⟩
  unfold leads
  rw [if_neg h4]
theorem opc {c : Int} (h : isOp c = true ∨ isOpX c = true) (h0 : 0 ≤ c) : clsI c = 3 := by
  have : c = 4 ∨ c = 20 ∨ c = 36 ∨ c = 52 ∨ c = 68 ∨ c = 84 ∨ c = 100 ∨ c = 116 ∨ c = 164 ∨ c = 12 ∨ c = 28 ∨ c = 44 ∨ c = 60 ∨ c = 76 ∨ c = 92 ∨ c = 108 ∨ c = 124 ∨ c = 172 := by
    rcases h with h | h
    · unfold isOp at h; simp at h; omega
    · unfold isOpX at h; simp at h; omega
  rcases this with rfl | rfl | rfl | rfl | rfl | rfl | rfl | rfl | rfl | rfl | rfl | rfl | rfl | rfl | rfl | rfl | rfl | rfl <;> decide +kernel
theorem cmpc {c : Int} (h : isCmp c = true ∨ isCmpX c = true) (h0 : 0 ≤ c) : clsI c = 4 ∧ c ≠ 5 := by
  have : c = 21 ∨ c = 37 ∨ c = 53 ∨ c = 69 ∨ c = 29 ∨ c = 45 ∨ c = 61 ∨ c = 77 := by
    rcases h with h | h
    · unfold isCmp at h; simp at h; omega
    · unfold isCmpX at h; simp at h; omega
  rcases this with rfl | rfl | rfl | rfl | rfl | rfl | rfl | rfl <;> exact ⟨by decide +kernel, by decide⟩
theorem goes_cmp {i : Ins} {at_ : Nat} {a x : Int} {c : Nat → Int} {b : Bool} (h : isCmp i.c = true ∨ isCmpX i.c = true) (h0 : 0 ≤ i.c) : goesTo i at_ (.go a x c (if b then i.jt.toNat else i.jf.toNat)) := by
  obtain ⟨h4, h5⟩ := cmpc h h0
  refine ⟨⟨by rw [h4]; decide, by rw [h4]; decide⟩, ?_⟩
  unfold leads
  rw [if_pos h4, if_neg h5]
  cases b
  · exact Or.inr rfl
  · exact Or.inl rfl
theorem goes_ja {i : Ins} {at_ : Nat} {a x : Int} {c : Nat → Int} (h : i.c = 5) : goesTo i at_ (.go a x c i.k.toNat) := by
  have h4 : clsI i.c = 4 := by rw [h]; decide +kernel
  refine ⟨⟨by rw [h4]; decide, by rw [h4]; decide⟩, Or.inl ?_⟩
  unfold leads
  rw [if_pos h4, if_pos h]
theorem goes_op {i : Ins} {at_ : Nat} {a x : Int} {c : Nat → Int} (h : isOp i.c = true ∨ isOpX i.c = true) (h0 : 0 ≤ i.c) : goesTo i at_ (.go a x c 0) := by
  have h3 := opc h h0
  exact goes_on (by rw [h3]; decide) (by rw [h3]; decide) (by rw [h3]; decide)
theorem doI_goes {i : Ins} (hi : i.Ok) (d : Dat) (a x : Int) (c : Nat → Int) (at_ : Nat) : goesTo i at_ (doI i d a x c) := by
  have one : ∀ {k : Int} {a x : Int} {c : Nat → Int}, i.c = k → clsI k ≠ 4 ∧ clsI k ≠ 0 ∧ clsI k ≠ 5 → goesTo i at_ (.go a x c 0) := fun e h => goes_on (by rw [e]; exact h.1) (by rw [e]; exact h.2.1) (by rw [e]; exact h.2.2)
  unfold doI
  refine goesTo_ite (fun h => goesTo_ite (fun _ => one h (by decide +kernel)) (fun _ => gt_bad)) (fun _ => ?_)
  refine goesTo_ite (fun h => one h (by decide +kernel)) (fun _ => ?_)
  refine goesTo_ite (fun h => one h (by decide +kernel)) (fun _ => ?_)
  refine goesTo_ite (fun h => goesTo_ite (fun _ => one h (by decide +kernel)) (fun _ => gt_bad)) (fun _ => ?_)
  refine goesTo_ite (fun h => one h (by decide +kernel)) (fun _ => ?_)
  refine goesTo_ite (fun h => one h (by decide +kernel)) (fun _ => ?_)
  refine goesTo_ite (fun h => goesTo_ite (fun _ => one h (by decide +kernel)) (fun _ => gt_bad)) (fun _ => ?_)
  refine goesTo_ite (fun h => goesTo_ite (fun _ => one h (by decide +kernel)) (fun _ => gt_bad)) (fun _ => ?_)
  refine goesTo_ite (fun h => goesTo_ite (fun _ => one h (by decide +kernel)) (fun _ => gt_bad)) (fun _ => ?_)
  refine goesTo_ite (fun h => one h (by decide +kernel)) (fun _ => ?_)
  refine goesTo_ite (fun h => goes_ja h) (fun _ => ?_)
  refine goesTo_ite (fun h => gt_fin) (fun _ => ?_)
  refine goesTo_ite (fun h => gt_fin) (fun _ => ?_)
  refine goesTo_ite (fun h => one h (by decide +kernel)) (fun _ => ?_)
  refine goesTo_ite (fun h => one h (by decide +kernel)) (fun _ => ?_)
  refine goesTo_ite (fun h => goesTo_ite (fun _ => gt_bad) (fun _ => goesTo_ite (fun _ => gt_bad) (fun _ => goes_op (Or.inl h) hi.c0))) (fun _ => ?_)
  refine goesTo_ite (fun h => goesTo_ite (fun _ => gt_fin) (fun _ => goes_op (Or.inr h) hi.c0)) (fun _ => ?_)
  refine goesTo_ite (fun h => goes_cmp (Or.inl h) hi.c0) (fun _ => ?_)
  refine goesTo_ite (fun h => goes_cmp (Or.inr h) hi.c0) (fun _ => ?_)
  · exact gt_bad
theorem runF_way {p : List Ins} (hp : OkL p) (d : Dat) : ∀ (f at_ : Nat) (a x : Int) (c : Nat → Int) (b : Int) (l : List Nat), Way p l → (l = [] → at_ = 0) → (∀ y, l.getLast? = some y → at_ < p.length → at_ ∈ nextL p y) → Way p (runF p d f at_ a x c b l).pl := by
  intro f
  induction f with
  | zero => intro at_ a x c b l h _ _; exact h
  | succ f ih =>
    intro at_ a x c b l h h0 hl
    have snoc : at_ < p.length → Way p (l ++ [at_]) := fun hlt => by
      refine ⟨fun y hy => ?_, fun i y z hy hz => ?_, fun y hy => ?_⟩
      · cases l with
        | nil => simp at hy; rw [← hy]; exact h0 rfl
        | cons e r => exact h.1 y (by simpa using hy)
      · by_cases hi : i + 1 < l.length
        · rw [List.getElem?_append_left (by omega)] at hy
          rw [List.getElem?_append_left hi] at hz
          exact h.2.1 i y z hy hz
        · have hz' := (List.getElem?_eq_some_iff.1 hz).1
          rw [List.length_append] at hz'
          simp only [List.length_cons, List.length_nil] at hz'
          have hil : i + 1 = l.length := by omega
          rw [List.getElem?_append_right (by omega), hil, Nat.sub_self] at hz
          rw [List.getElem?_append_left (by omega)] at hy
          have hz2 : z = at_ := by simpa using hz.symm
          rw [hz2]
          refine hl y ?_ hlt
          rw [List.getLast?_eq_getElem?, ← hil, Nat.add_sub_cancel]; exact hy
      · rcases List.mem_append.1 hy with hy | hy
        · exact h.2.2 y hy
        · rw [List.mem_singleton.1 hy]; exact hlt
    simp only [runF]
    cases hx : p[at_]? with
    | none => exact h
    | some i =>
      have hlt : at_ < p.length := (List.getElem?_eq_some_iff.1 hx).1
      simp only
      have hg := doI_goes (hp i (List.mem_of_getElem? hx)) d a x c at_
      cases ho : doI i d a x c with
      | bad e => exact snoc hlt
      | fin v => exact snoc hlt
      | go a' x' c' n =>
        rw [ho] at hg
        refine ih _ _ _ _ _ _ (snoc hlt) (fun e => by simp at e) (fun y hy hlt' => ?_)
        rw [List.getLast?_append, List.getLast?_singleton] at hy
        have hy' : y = at_ := by simpa using hy.symm
        rw [hy']
        unfold nextL
        rw [hx]
        unfold nextI
        simp only
        rw [if_neg (by rintro (e | e); exact hg.1.1 e; exact hg.1.2 e)]
        exact two_mem.2 ⟨hg.2, hlt'⟩
theorem runL_way {p : List Ins} (hp : OkL p) (d : Dat) : Way p (runL p d).pl := by
  show Way p (runF p d (p.length + 1) 0 0 0 (fun _ => 0) 46 []).pl
  have h0 : Way p [] := ⟨fun x hx => by simp at hx, fun i x y hx => by simp at hx, fun x hx => by cases hx⟩
  exact runF_way hp d _ _ _ _ _ _ _ h0 (fun _ => rfl) (fun y hy => by simp at hy)
/-- One instruction ahead of all others. -/
theorem leads_cons (i : Ins) (at_ : Nat) : leads i (at_ + 1) = ((leads i at_).1 + 1, (leads i at_).2 + 1) := by
  unfold leads
  split
  · split <;> (congr 1 <;> omega)
  · rfl
theorem nextL_cons (x : Ins) (p : List Ins) (i j : Nat) : j + 1 ∈ nextL (x :: p) (i + 1) ↔ j ∈ nextL p i := by
  unfold nextL
  rw [List.getElem?_cons_succ]
  cases p[i]? with
  | none => simp
  | some y =>
    simp only
    unfold nextI
    split
    · simp
    · rw [two_mem, two_mem, leads_cons, List.length_cons]
      simp only
      omega
theorem cls_st : clsI 2 = 2 := by decide +kernel
theorem nextL_head (k : Int) (p : List Ins) (j : Nat) : j + 1 ∈ nextL (⟨2, 0, 0, k⟩ :: p) 0 ↔ j = 0 ∧ 0 < p.length := by
  unfold nextL
  simp only [List.getElem?_cons_zero]
  unfold nextI leads
  rw [cls_st, if_neg (by decide), if_neg (by decide), two_mem, List.length_cons]
  omega
theorem contains_of_iff {a b : List Nat} {i j : Nat} (h : i ∈ a ↔ j ∈ b) : a.contains i = b.contains j := by
  cases hb : b.contains j with
  | true => exact List.contains_iff_mem.2 (h.2 (List.contains_iff_mem.1 hb))
  | false =>
    rw [Bool.eq_false_iff] at hb ⊢
    exact fun hc => hb (List.contains_iff_mem.2 (h.1 (List.contains_iff_mem.1 hc)))
theorem writes_cons (x : Ins) (p : List Ins) (c i : Nat) : writesB (x :: p) c (i + 1) = writesB p c i := by unfold writesB; rw [List.getElem?_cons_succ]
theorem mark_cons {k : Nat} {p : List Ins} (c : Nat) (h0 : 0 < p.length) : ∀ (n j : Nat), mark (nextL (⟨2, 0, 0, (k : Int)⟩ :: p)) (fun i => !writesB (⟨2, 0, 0, (k : Int)⟩ :: p) c i) (n + 1) (j + 1) = (!decide (k = c) && mark (nextL p) (fun i => !writesB p c i) n j)
  | 0, j => by
    show ((j + 1 == 0) || ((0 == 0) && !writesB (⟨2, 0, 0, (k : Int)⟩ :: p) c 0 && (nextL (⟨2, 0, 0, (k : Int)⟩ :: p) 0).contains (j + 1))) = (!decide (k = c) && (j == 0))
    have e1 : writesB (⟨2, 0, 0, (k : Int)⟩ :: p) c 0 = decide (k = c) := by
      unfold writesB
      simp only [List.getElem?_cons_zero]
      by_cases e : k = c
      · subst e; simp
      · rw [decide_eq_false e]; simp; omega
    have e2 : (nextL (⟨2, 0, 0, (k : Int)⟩ :: p) 0).contains (j + 1) = (j == 0) := by
      cases hj : (j == 0) with
      | true => exact List.contains_iff_mem.2 ((nextL_head _ p j).2 ⟨beq_iff_eq.1 hj, h0⟩)
      | false =>
        rw [Bool.eq_false_iff]
        exact fun hc => absurd ((nextL_head _ p j).1 (List.contains_iff_mem.1 hc)).1 (beq_eq_false_iff_ne.1 hj)
    rw [e1, e2]; simp
  | n + 1, j => by
    show (mark _ _ (n + 1) (j + 1) || (mark _ _ (n + 1) (n + 1) && !writesB (⟨2, 0, 0, (k : Int)⟩ :: p) c (n + 1) && (nextL (⟨2, 0, 0, (k : Int)⟩ :: p) (n + 1)).contains (j + 1))) = (!decide (k = c) && (mark (nextL p) (fun i => !writesB p c i) n j || (mark (nextL p) (fun i => !writesB p c i) n n && !writesB p c n && (nextL p n).contains j)))
    rw [mark_cons c h0 n j, mark_cons c h0 n n, writes_cons, contains_of_iff (nextL_cons _ p n j)]
    cases decide (k = c) <;> simp
/-- A cell that is written ahead of all others is certain everywhere behind it. -/
theorem unB_cons {k : Nat} {p : List Ins} (c j : Nat) (hj : j < p.length) : unB (⟨2, 0, 0, (k : Int)⟩ :: p) c (j + 1) = (!decide (k = c) && unB p c j) := mark_cons c (by omega) p.length j
theorem sureN_cons {k : Nat} {p : List Ins} (hk : k < 16) {j : Nat} (hj : j < p.length) : sureN (⟨2, 0, 0, (k : Int)⟩ :: p) (j + 1) = sureN p j ||| 2 ^ k := by
  refine Nat.eq_of_testBit_eq fun c => ?_
  unfold sureN
  rw [Nat.testBit_or, Nat.testBit_two_pow, sureTo_bit, sureTo_bit, unB_cons c j hj]
  by_cases e : k = c
  · subst e; simp [hk]
  · simp [e]
/-- Instructions that write nothing, one behind the other. -/
theorem cls_tax : clsI 7 = 6 := by decide +kernel
theorem next_tax {n i : Nat} (hi : i < n) : nextL (List.replicate n ⟨7, 0, 0, 0⟩) i = if i + 1 < n then [i + 1] else [] := by
  have e1 : leads ⟨7, 0, 0, 0⟩ i = (i + 1, i + 1) := by unfold leads; simp only [cls_tax]; rfl
  unfold nextL
  rw [List.getElem?_replicate, if_pos hi]
  simp only
  unfold nextI
  rw [e1]
  simp only [cls_tax, List.length_replicate]
  rw [if_neg (by decide)]
  unfold two
  by_cases h : i + 1 < n
  · simp [h]
  · simp [h]
theorem mark_tax {n : Nat} (go : Nat → Bool) (hg : ∀ i, i < n → go i = true) : ∀ (i : Nat), i < n → mark (nextL (List.replicate n ⟨7, 0, 0, 0⟩)) go n i = true
  | 0, _ => mark_mono (Nat.zero_le _) rfl
  | i + 1, h => by
    have hs := mark_step (p := List.replicate n ⟨7, 0, 0, 0⟩) (go := go) (i := i) (j := i + 1) (by rw [List.length_replicate]; exact mark_tax go hg i (by omega)) (by rw [List.length_replicate]; omega) (hg i (by omega)) (by rw [next_tax (by omega), if_pos h]; exact List.mem_singleton.2 rfl)
    rwa [List.length_replicate] at hs
theorem reach_tax {n i : Nat} (h : i < n) : reachB (List.replicate n ⟨7, 0, 0, 0⟩) i = true := by
  unfold reachB
  rw [List.length_replicate]
  exact mark_tax _ (fun _ _ => rfl) i h
theorem sure_tax {n i : Nat} (h : i < n) : sureN (List.replicate n ⟨7, 0, 0, 0⟩) i = 0 := by
  refine Nat.eq_of_testBit_eq fun c => ?_
  unfold sureN
  rw [sureTo_bit, Nat.zero_testBit]
  have : unB (List.replicate n ⟨7, 0, 0, 0⟩) c i = true := by
    unfold unB
    rw [List.length_replicate]
    refine mark_tax _ (fun j hj => ?_) i h
    unfold writesB
    rw [List.getElem?_replicate, if_pos hj]; rfl
  rw [this]; simp
end Go.Proofs.YtohfampfnhfnlaaDoor
