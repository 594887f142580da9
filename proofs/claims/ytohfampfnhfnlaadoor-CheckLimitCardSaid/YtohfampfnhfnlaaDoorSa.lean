/- What may be wrong with a program, as the chapter says it, on lists; a program with which nothing is wrong halts. Plain lists and integers, no program. Programs that are taken, one behind the other; without the last instruction; with one that is wrong; what a run reads was written. Plain lists and integers, no program. What the calls of the package check have to return, as the chapter says it. -/
import Derived.Test.YtohfampfnhfnlaaDoorOf
import Derived.Test.YtohfampfnhfnlaaDoorIs
namespace Go.Proofs.YtohfampfnhfnlaaDoor
set_option linter.unusedVariables false

/-- What is wrong with an instruction that has so many others behind it; 0: nothing. -/
def oneE (i : Ins) (left : Int) : Int :=
  if clsI i.c = 0 then 40
  else if i.c = 32 then (if wordB i.k = true then 0 else 41)
  else if i.c = 96 ∨ i.c = 97 ∨ i.c = 2 ∨ i.c = 3 then (if i.k < 16 then 0 else 43)
  else if i.c = 52 then (if i.k = 0 then 44 else 0)
  else if i.c = 100 ∨ i.c = 116 then (if 31 < i.k then 45 else 0)
  else if i.c = 5 then (if max left 0 ≤ i.k then 42 else 0)
  else if clsI i.c = 4 ∧ (max left 0 ≤ i.jt ∨ max left 0 ≤ i.jf) then 42 else 0
/-- The class of the last instruction. -/
def lastC (p : List Ins) : Int := match p[p.length - 1]? with | none => 0 | some x => clsI x.c
/-- The first k places, as far as nothing is wrong with them. -/
def badTo (p : List Ins) : Nat → Option (Nat × Int)
  | 0 => none
  | k + 1 => match badTo p k with
    | some r => some r
    | none => match p[k]? with
      | none => none
      | some x => if oneE x ((p.length : Int) - 1 - k) = 0 then none else some (k, oneE x ((p.length : Int) - 1 - k))
/-- The fault of a program, with its index. -/
def atL (p : List Ins) : Nat × Int :=
  if p.length = 0 ∨ 4096 < p.length then (0, 60)
  else match badTo p p.length with
    | some r => r
    | none => if lastC p = 5 then (match unsureL p with | [] => (0, 0) | j :: _ => (j, 61)) else (p.length - 1, 46)
theorem badTo_none {p : List Ins} : ∀ {k : Nat}, badTo p k = none ↔ ∀ i x, i < k → p[i]? = some x → oneE x ((p.length : Int) - 1 - i) = 0
  | 0 => ⟨fun _ i x h => absurd h (by omega), fun _ => rfl⟩
  | k + 1 => by
    have ih := badTo_none (p := p) (k := k)
    constructor
    · intro h i x hi hx
      unfold badTo at h
      cases hb : badTo p k with
      | some r => rw [hb] at h; cases h
      | none =>
        by_cases e : i = k
        · subst e
          rw [hb] at h
          simp only [hx] at h
          by_cases h0 : oneE x ((p.length : Int) - 1 - i) = 0
          · exact h0
          · rw [if_neg h0] at h; cases h
        · exact ih.1 hb i x (by omega) hx
    · intro h
      unfold badTo
      rw [ih.2 (fun i x hi hx => h i x (by omega) hx)]
      cases hx : p[k]? with
      | none => rfl
      | some x => simp only [h k x (by omega) hx]; rfl
theorem badTo_some {p : List Ins} : ∀ {k i : Nat} {e : Int}, badTo p k = some (i, e) → i < k ∧ e ≠ 0 ∧ (∃ x, p[i]? = some x ∧ e = oneE x ((p.length : Int) - 1 - i)) ∧ ∀ j x, j < i → p[j]? = some x → oneE x ((p.length : Int) - 1 - j) = 0
  | 0, i, e, h => by cases h
  | k + 1, i, e, h => by
    unfold badTo at h
    cases hb : badTo p k with
    | some r =>
      rw [hb] at h
      simp only at h
      obtain ⟨h1, h2, h3, h4⟩ := badTo_some (hb.trans h)
      exact ⟨by omega, h2, h3, h4⟩
    | none =>
      rw [hb] at h
      cases hx : p[k]? with
      | none => rw [hx] at h; cases h
      | some x =>
        rw [hx] at h
        simp only at h
        by_cases h0 : oneE x ((p.length : Int) - 1 - k) = 0
        · rw [if_pos h0] at h; cases h
        · rw [if_neg h0] at h
          injection h with h
          injection h with h1 h2
          subst h1
          exact ⟨by omega, by rw [← h2]; exact h0, ⟨x, hx, h2.symm⟩, fun j y hj hy => badTo_none.1 hb j y hj hy⟩
/-- With a program is nothing wrong. -/
theorem atL_ok {p : List Ins} : (atL p).2 = 0 ↔ (0 < p.length ∧ p.length ≤ 4096) ∧ (∀ (i : Nat) (x : Ins), p[i]? = some x → oneE x ((p.length : Int) - 1 - i) = 0) ∧ lastC p = 5 ∧ unsureL p = [] := by
  unfold atL
  by_cases h : p.length = 0 ∨ 4096 < p.length
  · rw [if_pos h]
    constructor
    · intro e; exact absurd e (by decide)
    · intro e; omega
  · rw [if_neg h]
    cases hb : badTo p p.length with
    | some r =>
      obtain ⟨i, e⟩ := r
      obtain ⟨h1, h2, ⟨x, hx, he⟩, _⟩ := badTo_some hb
      simp only
      constructor
      · intro e0; exact absurd e0 h2
      · intro hh; exact absurd (he.trans (hh.2.1 i x hx)) h2
    | none =>
      have hn := badTo_none.1 hb
      simp only
      by_cases h5 : lastC p = 5
      · rw [if_pos h5]
        cases hu : unsureL p with
        | nil => exact ⟨fun _ => ⟨by omega, fun i x hx => hn i x (List.getElem?_eq_some_iff.1 hx).1 hx, h5, rfl⟩, fun _ => rfl⟩
        | cons j r => exact ⟨fun e => absurd e (by simp), fun hh => by cases hh.2.2.2⟩
      · rw [if_neg h5]
        exact ⟨fun e => absurd e (by simp), fun hh => absurd hh.2.2.1 h5⟩
theorem known_codes {c : Int} (h : clsI c ≠ 0) : c = 32 ∨ c = 128 ∨ c = 0 ∨ c = 96 ∨ c = 129 ∨ c = 1 ∨ c = 97 ∨ c = 2 ∨ c = 3 ∨ c = 4 ∨ c = 20 ∨ c = 36 ∨ c = 52 ∨ c = 68 ∨ c = 84 ∨ c = 100 ∨ c = 116 ∨ c = 164 ∨ c = 12 ∨ c = 28 ∨ c = 44 ∨ c = 60 ∨ c = 76 ∨ c = 92 ∨ c = 108 ∨ c = 124 ∨ c = 172 ∨ c = 132 ∨ c = 5 ∨ c = 21 ∨ c = 37 ∨ c = 53 ∨ c = 69 ∨ c = 29 ∨ c = 45 ∨ c = 61 ∨ c = 77 ∨ c = 6 ∨ c = 22 ∨ c = 7 ∨ c = 135 := by
  have hk : knownB c = true := by unfold knownB; exact decide_eq_true h
  rw [← known_rows] at hk
  obtain ⟨o, ho, rfl⟩ := of_decide_eq_true hk
  simp only [rowsL, List.mem_cons, List.not_mem_nil, or_false] at ho
  rcases ho with rfl | rfl | rfl | rfl | rfl | rfl | rfl | rfl | rfl | rfl | rfl | rfl | rfl | rfl | rfl | rfl | rfl | rfl | rfl | rfl | rfl | rfl | rfl | rfl | rfl | rfl | rfl | rfl | rfl | rfl | rfl | rfl | rfl | rfl | rfl | rfl | rfl | rfl | rfl | rfl | rfl <;> simp
/-- The machine does not end with an error at an instruction with which nothing is wrong. -/
def fineO : Out → Prop
  | .bad _ => False
  | _ => True
theorem fine_ite {q : Prop} [Decidable q] {u v : Out} (hu : q → fineO u) (hv : ¬ q → fineO v) : fineO (if q then u else v) := by
  by_cases h : q
  · rw [if_pos h]; exact hu h
  · rw [if_neg h]; exact hv h
theorem one_wrong {q : Prop} [Decidable q] {e : Int} (he : e ≠ 0) (h : (if q then e else 0) = 0) : ¬ q := fun hq => he (by rw [if_pos hq] at h; exact h)
theorem doI_fine {i : Ins} {left : Int} (h : oneE i left = 0) (d : Dat) (a x : Int) (c : Nat → Int) : fineO (doI i d a x c) := by
  obtain ⟨ic, jt, jf, k⟩ := i
  have h0 : clsI ic ≠ 0 := fun e => by unfold oneE at h; rw [if_pos e] at h; exact absurd h (by decide)
  have hc := known_codes h0
  unfold oneE at h
  rw [if_neg h0] at h
  simp only at h
  clear h0
  rcases hc with rfl | rfl | rfl | rfl | rfl | rfl | rfl | rfl | rfl | rfl | rfl | rfl | rfl | rfl | rfl | rfl | rfl | rfl | rfl | rfl | rfl | rfl | rfl | rfl | rfl | rfl | rfl | rfl | rfl | rfl | rfl | rfl | rfl | rfl | rfl | rfl | rfl | rfl | rfl | rfl | rfl
  · rw [if_pos rfl] at h
    have hw : wordB k = true := by
      by_cases hw : wordB k = true
      · exact hw
      · rw [if_neg hw] at h; exact absurd h (by decide)
    simp [doI, fineO, hw]
  · clear h
    simp [doI, fineO]
  · clear h
    simp [doI, fineO]
  · rw [if_neg (by decide), if_pos (by decide)] at h
    have hk : k < 16 := by
      by_cases hk : k < 16
      · exact hk
      · rw [if_neg hk] at h; exact absurd h (by decide)
    simp [doI, fineO, hk]
  · clear h
    simp [doI, fineO]
  · clear h
    simp [doI, fineO]
  · rw [if_neg (by decide), if_pos (by decide)] at h
    have hk : k < 16 := by
      by_cases hk : k < 16
      · exact hk
      · rw [if_neg hk] at h; exact absurd h (by decide)
    simp [doI, fineO, hk]
  · rw [if_neg (by decide), if_pos (by decide)] at h
    have hk : k < 16 := by
      by_cases hk : k < 16
      · exact hk
      · rw [if_neg hk] at h; exact absurd h (by decide)
    simp [doI, fineO, hk]
  · rw [if_neg (by decide), if_pos (by decide)] at h
    have hk : k < 16 := by
      by_cases hk : k < 16
      · exact hk
      · rw [if_neg hk] at h; exact absurd h (by decide)
    simp [doI, fineO, hk]
  · clear h
    simp [doI, fineO, isOp]
  · clear h
    simp [doI, fineO, isOp]
  · clear h
    simp [doI, fineO, isOp]
  · rw [if_neg (by decide), if_neg (by decide), if_pos rfl] at h
    have hk := one_wrong (by decide) h
    simp [doI, fineO, isOp, hk]
  · clear h
    simp [doI, fineO, isOp]
  · clear h
    simp [doI, fineO, isOp]
  · rw [if_neg (by decide), if_neg (by decide), if_neg (by decide), if_pos (by decide)] at h
    have hk := one_wrong (by decide) h
    simp [doI, fineO, isOp, hk]
  · rw [if_neg (by decide), if_neg (by decide), if_neg (by decide), if_pos (by decide)] at h
    have hk := one_wrong (by decide) h
    simp [doI, fineO, isOp, hk]
  · clear h
    simp [doI, fineO, isOp]
  · clear h
    simp [doI, fineO, isOp, isOpX]
  · clear h
    simp [doI, fineO, isOp, isOpX]
  · clear h
    simp [doI, fineO, isOp, isOpX]
  · clear h
    by_cases hx : x = 0 <;> simp [doI, fineO, isOp, isOpX, hx]
  · clear h
    simp [doI, fineO, isOp, isOpX]
  · clear h
    simp [doI, fineO, isOp, isOpX]
  · clear h
    simp [doI, fineO, isOp, isOpX]
  · clear h
    simp [doI, fineO, isOp, isOpX]
  · clear h
    simp [doI, fineO, isOp, isOpX]
  · clear h
    simp [doI, fineO]
  · clear h
    simp [doI, fineO]
  · clear h
    simp [doI, fineO, isOp, isOpX, isCmp]
  · clear h
    simp [doI, fineO, isOp, isOpX, isCmp]
  · clear h
    simp [doI, fineO, isOp, isOpX, isCmp]
  · clear h
    simp [doI, fineO, isOp, isOpX, isCmp]
  · clear h
    simp [doI, fineO, isOp, isOpX, isCmp, isCmpX]
  · clear h
    simp [doI, fineO, isOp, isOpX, isCmp, isCmpX]
  · clear h
    simp [doI, fineO, isOp, isOpX, isCmp, isCmpX]
  · clear h
    simp [doI, fineO, isOp, isOpX, isCmp, isCmpX]
  · clear h
    simp [doI, fineO]
  · clear h
    simp [doI, fineO]
  · clear h
    simp [doI, fineO]
  · clear h
    simp [doI, fineO]
/-- It skips as many as there are, at most. -/
theorem doI_skips {i : Ins} (hi : i.Ok) {left : Int} (hl : 0 ≤ left) (h : oneE i left = 0) {d : Dat} {a x a' x' : Int} {c c' : Nat → Int} {n : Nat} (hg : doI i d a x c = .go a' x' c' n) : clsI i.c ≠ 5 ∧ (n = 0 ∨ (n : Int) < left) := by
  have hgo := doI_goes hi d a x c 0
  rw [hg] at hgo
  obtain ⟨⟨h0, h5⟩, hn⟩ := hgo
  refine ⟨h5, ?_⟩
  obtain ⟨_, _, t0, _, f0, _, k0, _⟩ := hi
  by_cases h4 : clsI i.c = 4
  · unfold leads at hn
    rw [if_pos h4] at hn
    unfold oneE at h
    rw [if_neg h0] at h
    have n1 : i.c ≠ 32 := fun e => by rw [e] at h4; exact absurd h4 (by decide +kernel)
    have n2 : ¬ (i.c = 96 ∨ i.c = 97 ∨ i.c = 2 ∨ i.c = 3) := fun e => by rcases e with e | e | e | e <;> rw [e] at h4 <;> exact absurd h4 (by decide +kernel)
    have n3 : i.c ≠ 52 := fun e => by rw [e] at h4; exact absurd h4 (by decide +kernel)
    have n4 : ¬ (i.c = 100 ∨ i.c = 116) := fun e => by rcases e with e | e <;> rw [e] at h4 <;> exact absurd h4 (by decide +kernel)
    rw [if_neg n1, if_neg n2, if_neg n3, if_neg n4] at h
    by_cases hc : i.c = 5
    · rw [if_pos hc] at h hn
      have hk := one_wrong (by decide) h
      simp only at hn
      right; omega
    · rw [if_neg hc] at h hn
      have hk := one_wrong (by decide) h
      simp only at hn
      right
      have h1 : ¬ max left 0 ≤ i.jt := fun e => hk ⟨h4, Or.inl e⟩
      have h2 : ¬ max left 0 ≤ i.jf := fun e => hk ⟨h4, Or.inr e⟩
      omega
  · unfold leads at hn
    rw [if_neg h4] at hn
    simp only at hn
    left; omega
theorem runF_halts {p : List Ins} (hp : OkL p) (d : Dat) (hok : ∀ (i : Nat) (x : Ins), p[i]? = some x → oneE x ((p.length : Int) - 1 - i) = 0) (hlast : lastC p = 5) : ∀ (f at_ : Nat) (a x : Int) (c : Nat → Int) (b : Int) (l : List Nat), at_ < p.length → p.length ≤ f + at_ →
    (runF p d f at_ a x c b l).err = 0 ∧ l.length + 1 ≤ (runF p d f at_ a x c b l).steps ∧ (runF p d f at_ a x c b l).steps + at_ ≤ l.length + p.length := by
  intro f
  induction f with
  | zero => intro at_ a x c b l h1 h2; omega
  | succ f ih =>
    intro at_ a x c b l h1 h2
    have hx : p[at_]? = some p[at_] := List.getElem?_eq_getElem h1
    have h1e := hok at_ _ hx
    have hio := hp.get h1
    simp only [runF, hx]
    cases hd : doI p[at_] d a x c with
    | bad e =>
      have := doI_fine h1e d a x c
      rw [hd] at this
      exact this.elim
    | fin v => exact ⟨rfl, Nat.le_refl _, by show l.length + 1 + at_ ≤ _; omega⟩
    | go a' x' c' n =>
      have hs := doI_skips hio (by omega) h1e hd
      have hlt : at_ + 1 + n < p.length := by
        rcases hs.2 with h0 | h0
        · have : at_ ≠ p.length - 1 := fun e => by
            refine hs.1 ?_
            unfold lastC at hlast
            rw [← e, hx] at hlast
            exact hlast
          omega
        · omega
      obtain ⟨g1, g2, g3⟩ := ih (at_ + 1 + n) a' x' c' (if isJump p[at_].c then 42 else 46) (l ++ [at_]) hlt (by omega)
      rw [List.length_append, List.length_singleton] at g2 g3
      refine ⟨g1, ?_, ?_⟩
      · show l.length + 1 ≤ (runF p d f (at_ + 1 + n) a' x' c' (if isJump p[at_].c = true then 42 else 46) (l ++ [at_])).steps
        omega
      · show (runF p d f (at_ + 1 + n) a' x' c' (if isJump p[at_].c = true then 42 else 46) (l ++ [at_])).steps + at_ ≤ _
        omega
/-- A program with which nothing is wrong ends with an answer, within as many steps as it has instructions. -/
theorem runL_halts {p : List Ins} (hp : OkL p) (d : Dat) (h : (atL p).2 = 0) : (runL p d).err = 0 ∧ 1 ≤ (runL p d).steps ∧ (runL p d).steps ≤ p.length := by
  obtain ⟨⟨h0, _⟩, h1, h2, _⟩ := atL_ok.1 h
  obtain ⟨g1, g2, g3⟩ := runF_halts hp d h1 h2 (p.length + 1) 0 0 0 (fun _ => 0) 46 [] h0 (by omega)
  refine ⟨g1, g2, ?_⟩
  rw [List.length_nil] at g3
  show (runF p d (p.length + 1) 0 0 0 (fun _ => 0) 46 []).steps ≤ _
  omega
end Go.Proofs.YtohfampfnhfnlaaDoor
namespace Go.Proofs.YtohfampfnhfnlaaDoor
set_option linter.unusedVariables false

theorem unsure_nil {p : List Ins} : unsureL p = [] ↔ ∀ i, i < p.length → unsureB p i = false := by
  unfold unsureL unsureTo
  rw [List.filter_eq_nil_iff]
  constructor
  · intro h i hi
    cases hb : unsureB p i with
    | false => rfl
    | true => exact absurd hb (h i (List.mem_range.2 hi))
  · intro h i hi
    rw [h i (List.mem_range.1 hi)]; simp
/-- What a run of a program that is taken reads was written. -/
theorem read_set {p : List Ins} (hp : OkL p) {l : List Nat} (hw : Way p l) (h : (atL p).2 = 0) {i : Nat} (hi : i < l.length) {y : Ins} (hy : p[l.getD i 0]? = some y) (hc : y.c = 96 ∨ y.c = 97) (hk : y.k < 16) : (wrote p l i).testBit y.k.toNat = true := by
  obtain ⟨_, _, _, hu⟩ := atL_ok.1 h
  have hlt := (List.getElem?_eq_some_iff.1 hy).1
  have hub := unsure_nil.1 hu _ hlt
  have hyo : y.Ok := by
    have := hp.get hlt
    rw [List.getElem?_eq_getElem hlt] at hy
    injection hy with hy
    rw [← hy]; exact this
  have k0 : 0 ≤ y.k := hyo.k0
  rw [unsure_at hy, way_reach hw hi, decide_eq_true hk] at hub
  have hcb : (y.c == 96 || y.c == 97) = true := by rcases hc with h | h <;> rw [h] <;> rfl
  rw [hcb] at hub
  simp only [Bool.true_and] at hub
  have hs := done_sure hw hi
  have hb := congrArg (fun x => x.testBit y.k.toNat) hs
  simp only [Nat.zero_testBit, Nat.testBit_and] at hb
  have h1 : (sureN p (l.getD i 0)).testBit y.k.toNat = true := by
    unfold sureN
    rw [sureTo_bit, hub, decide_eq_true (show y.k.toNat < 16 by omega)]; rfl
  rw [h1, Bool.true_and, show 65535 - wrote p l i = 2 ^ 16 - (wrote p l i + 1) by omega, Nat.testBit_two_pow_sub_succ (wrote_lt p l i), decide_eq_true (show y.k.toNat < 16 by omega), Bool.true_and] at hb
  cases hx : (wrote p l i).testBit y.k.toNat with
  | true => rfl
  | false => rw [hx] at hb; cases hb
theorem one_more {i : Ins} {l l' : Int} (h : oneE i l = 0) (hl : l ≤ l') : oneE i l' = 0 := by
  unfold oneE at h ⊢
  by_cases c0 : clsI i.c = 0
  · rw [if_pos c0] at h; exact absurd h (by decide)
  rw [if_neg c0] at h ⊢
  by_cases c1 : i.c = 32
  · rw [if_pos c1] at h ⊢; exact h
  rw [if_neg c1] at h ⊢
  by_cases c2 : i.c = 96 ∨ i.c = 97 ∨ i.c = 2 ∨ i.c = 3
  · rw [if_pos c2] at h ⊢; exact h
  rw [if_neg c2] at h ⊢
  by_cases c3 : i.c = 52
  · rw [if_pos c3] at h ⊢; exact h
  rw [if_neg c3] at h ⊢
  by_cases c4 : i.c = 100 ∨ i.c = 116
  · rw [if_pos c4] at h ⊢; exact h
  rw [if_neg c4] at h ⊢
  by_cases c5 : i.c = 5
  · rw [if_pos c5] at h ⊢
    have := one_wrong (by decide) h
    rw [if_neg (by omega)]
  rw [if_neg c5] at h ⊢
  have hn := one_wrong (by decide) h
  rw [if_neg]
  rintro ⟨h4, h5⟩
  exact hn ⟨h4, by omega⟩
theorem one_known {i : Ins} {l : Int} (h : oneE i l = 0) : clsI i.c ≠ 0 := fun e => by unfold oneE at h; rw [if_pos e] at h; exact absurd h (by decide)
/-- The jumps of an instruction with which nothing is wrong lead to where there are instructions. -/
theorem one_leads {i : Ins} (hi : i.Ok) {l : Int} (hl : 0 ≤ l) (h : oneE i l = 0) (h4 : clsI i.c = 4) (at_ : Nat) : ((leads i at_).1 : Int) < at_ + 1 + l ∧ ((leads i at_).2 : Int) < at_ + 1 + l := by
  obtain ⟨_, _, t0, _, f0, _, k0, _⟩ := hi
  unfold oneE at h
  have n1 : i.c ≠ 32 := fun e => by rw [e] at h4; exact absurd h4 (by decide +kernel)
  have n2 : ¬ (i.c = 96 ∨ i.c = 97 ∨ i.c = 2 ∨ i.c = 3) := fun e => by rcases e with e | e | e | e <;> rw [e] at h4 <;> exact absurd h4 (by decide +kernel)
  have n3 : i.c ≠ 52 := fun e => by rw [e] at h4; exact absurd h4 (by decide +kernel)
  have n4 : ¬ (i.c = 100 ∨ i.c = 116) := fun e => by rcases e with e | e <;> rw [e] at h4 <;> exact absurd h4 (by decide +kernel)
  rw [if_neg (by rw [h4]; decide), if_neg n1, if_neg n2, if_neg n3, if_neg n4] at h
  unfold leads
  rw [if_pos h4]
  by_cases hc : i.c = 5
  · rw [if_pos hc] at h ⊢
    have hk := one_wrong (by decide) h
    simp only
    omega
  · rw [if_neg hc] at h ⊢
    have hk := one_wrong (by decide) h
    have h1 : ¬ max l 0 ≤ i.jt := fun e => hk ⟨h4, Or.inl e⟩
    have h2 : ¬ max l 0 ≤ i.jf := fun e => hk ⟨h4, Or.inr e⟩
    simp only
    omega
theorem two_in {n m a b : Nat} (h1 : a < n) (h2 : b < n) (h3 : a < m) (h4 : b < m) : two n a b = two m a b := by
  unfold two
  rw [if_pos (by omega : min a b < n), if_pos (by omega : min a b < m)]
  by_cases e : a = b
  · rw [if_neg (fun h => h.2 e), if_neg (fun h => h.2 e)]
  · rw [if_pos ⟨by omega, e⟩, if_pos ⟨by omega, e⟩]
/-- Out of a program that is taken no way leads. -/
theorem next_app {a b : List Ins} (ha : OkL a) (h : (atL a).2 = 0) {i : Nat} (hi : i < a.length) : nextL (a ++ b) i = nextL a i := by
  obtain ⟨_, h1, h5, _⟩ := atL_ok.1 h
  have hx : a[i]? = some a[i] := List.getElem?_eq_getElem hi
  unfold nextL
  rw [List.getElem?_append_left hi, hx]
  simp only
  unfold nextI
  by_cases hc : clsI a[i].c = 0 ∨ clsI a[i].c = 5
  · rw [if_pos hc, if_pos hc]
  · rw [if_neg hc, if_neg hc]
    have hb : (leads a[i] i).1 < a.length ∧ (leads a[i] i).2 < a.length := by
      by_cases h4 : clsI a[i].c = 4
      · have := one_leads (ha.get hi) (by omega) (h1 i _ hx) h4 i
        omega
      · have hne : i ≠ a.length - 1 := fun e => by
          unfold lastC at h5
          rw [← e, hx] at h5
          exact hc (Or.inr h5)
        unfold leads
        rw [if_neg h4]
        simp only
        omega
    rw [List.length_append]
    exact two_in (by omega) (by omega) hb.1 hb.2
theorem mark_app {a b : List Ins} (ha : OkL a) (h : (atL a).2 = 0) {go go' : Nat → Bool} (hg : ∀ i, i < a.length → go' i = go i) : ∀ n, n ≤ a.length → (∀ j, j < a.length → mark (nextL (a ++ b)) go' n j = mark (nextL a) go n j) ∧ ∀ j, a.length ≤ j → mark (nextL (a ++ b)) go' n j = false
  | 0, _ => ⟨fun j _ => rfl, fun j hj => by
    have := (atL_ok.1 h).1.1
    show (j == 0) = false
    rw [beq_eq_false_iff_ne]; omega⟩
  | n + 1, hn => by
    have ih := mark_app (b := b) ha h hg n (by omega)
    have hnl : n < a.length := by omega
    refine ⟨fun j hj => ?_, fun j hj => ?_⟩
    · show (mark (nextL (a ++ b)) go' n j || (mark (nextL (a ++ b)) go' n n && go' n && (nextL (a ++ b) n).contains j)) = (mark (nextL a) go n j || (mark (nextL a) go n n && go n && (nextL a n).contains j))
      rw [ih.1 j hj, ih.1 n hnl, hg n hnl, next_app ha h hnl]
    · show (mark (nextL (a ++ b)) go' n j || (mark (nextL (a ++ b)) go' n n && go' n && (nextL (a ++ b) n).contains j)) = false
      rw [ih.2 j hj, next_app ha h hnl, show (nextL a n).contains j = false from by
        rw [Bool.eq_false_iff]
        intro hc
        have := (nextL_lt (List.contains_iff_mem.1 hc)).2
        omega]
      simp
theorem mark_behind {a b : List Ins} (ha : OkL a) (h : (atL a).2 = 0) {go go' : Nat → Bool} (hg : ∀ i, i < a.length → go' i = go i) {j : Nat} (hj : a.length ≤ j) : ∀ n, mark (nextL (a ++ b)) go' n j = false
  | 0 => (mark_app ha h hg 0 (Nat.zero_le _)).2 j hj
  | n + 1 => by
    show (mark (nextL (a ++ b)) go' n j || (mark (nextL (a ++ b)) go' n n && go' n && (nextL (a ++ b) n).contains j)) = false
    rw [mark_behind ha h hg hj n, Bool.false_or]
    by_cases hn : n < a.length
    · rw [next_app ha h hn, show (nextL a n).contains j = false from by
        rw [Bool.eq_false_iff]
        intro hc
        have := (nextL_lt (List.contains_iff_mem.1 hc)).2
        omega]
      simp
    · rw [mark_behind ha h hg (j := n) (by omega) n]; rfl
theorem mark_ahead {a b : List Ins} (ha : OkL a) (h : (atL a).2 = 0) {go go' : Nat → Bool} (hg : ∀ i, i < a.length → go' i = go i) {j : Nat} (hj : j < a.length) : mark (nextL (a ++ b)) go' (a ++ b).length j = mark (nextL a) go a.length j := by
  rw [mark_more next_up (by rw [List.length_append]; omega : j ≤ (a ++ b).length), mark_more (f := nextL a) next_up (by omega : j ≤ a.length)]
  exact (mark_app ha h hg j (by omega)).1 j hj
theorem writes_app {a b : List Ins} {c i : Nat} (hi : i < a.length) : writesB (a ++ b) c i = writesB a c i := by
  unfold writesB
  rw [List.getElem?_append_left hi]
theorem lastC_app {a b : List Ins} (hb : 0 < b.length) : lastC (a ++ b) = lastC b := by
  unfold lastC
  rw [List.length_append, List.getElem?_append_right (by omega), show a.length + b.length - 1 - a.length = b.length - 1 by omega]
/-- Two programs that are taken, one behind the other. -/
theorem taken_app {a b : List Ins} (ha : OkL a) (h1 : (atL a).2 = 0) (h2 : (atL b).2 = 0) (hl : a.length + b.length ≤ 4096) : (atL (a ++ b)).2 = 0 := by
  obtain ⟨a1, a2, a3, a4⟩ := atL_ok.1 h1
  obtain ⟨b1, b2, b3, b4⟩ := atL_ok.1 h2
  refine atL_ok.2 ⟨⟨by rw [List.length_append]; omega, by rw [List.length_append]; omega⟩, fun i x hx => ?_, by rw [lastC_app b1.1]; exact b3, unsure_nil.2 fun i hi => ?_⟩
  · rw [List.length_append]
    by_cases hi : i < a.length
    · rw [List.getElem?_append_left hi] at hx
      exact one_more (a2 i x hx) (by omega)
    · rw [List.getElem?_append_right (by omega)] at hx
      have := b2 _ x hx
      rwa [show ((a.length + b.length : Nat) : Int) - 1 - i = (b.length : Int) - 1 - ((i - a.length : Nat) : Int) by omega]
  · by_cases hia : i < a.length
    · have hu := unsure_nil.1 a4 i hia
      unfold unsureB at hu ⊢
      rw [List.getElem?_append_left hia]
      rw [List.getElem?_eq_getElem hia] at hu ⊢
      simp only at hu ⊢
      rw [show reachB (a ++ b) i = reachB a i from mark_ahead ha h1 (fun _ _ => rfl) hia, show unB (a ++ b) a[i].k.toNat i = unB a a[i].k.toNat i from mark_ahead ha h1 (fun j hj => by rw [writes_app hj]) hia]
      exact hu
    · unfold unsureB
      split
      · rfl
      · rw [show reachB (a ++ b) i = false from mark_behind ha h1 (fun _ _ => rfl) (by omega) _]; rfl
/-- A program that ends with no answer isn't taken. -/
theorem untaken_last {p : List Ins} (h : lastC p ≠ 5) : (atL p).2 ≠ 0 := fun e => h (atL_ok.1 e).2.2.1
/-- With one instruction something is wrong: it is told there, or ahead of it. -/
theorem spoilt {q : List Ins} {i : Nat} {x : Ins} (hx : q[i]? = some x) (hl : q.length ≤ 4096) (he : oneE x ((q.length : Int) - 1 - i) ≠ 0) : (atL q).2 ≠ 0 ∧ (atL q).1 ≤ i ∧ ((atL q).1 < i ∨ (atL q).2 = oneE x ((q.length : Int) - 1 - i)) := by
  have hi := (List.getElem?_eq_some_iff.1 hx).1
  unfold atL
  rw [if_neg (by omega)]
  cases hb : badTo q q.length with
  | none => exact absurd (badTo_none.1 hb i x hi hx) he
  | some r =>
    obtain ⟨n, e⟩ := r
    obtain ⟨h1, h2, ⟨y, hy, hye⟩, h4⟩ := badTo_some hb
    simp only
    rcases Nat.lt_trichotomy n i with h | h | h
    · exact ⟨h2, by omega, Or.inl h⟩
    · subst h
      rw [hx] at hy
      injection hy with hy
      rw [← hy] at hye
      exact ⟨h2, Nat.le_refl _, Or.inr hye⟩
    · exact absurd (h4 i x h hx) he
end Go.Proofs.YtohfampfnhfnlaaDoor
namespace Go.Proofs.YtohfampfnhfnlaaDoor
open Go.RowKit
set_option linter.unusedVariables false

/-- What check.At, Check, One have to return, over what must lie in memory. -/
structure CheckC (G : World → Prop) : Prop where
  on : ∀ {w w' : World}, G w → Below w.heap.size w w' → G w'
  one : ∀ (i : Ins) (left : Int) (w : World), G w → i.Ok → -9223372036854775808 ≤ left → left ≤ 9223372036854775807 → Calls Tryd.prog 15 #[.agg #[.int .u16 i.c, .int .u8 i.jt, .int .u8 i.jf, .int .u32 i.k], .int .i64 left] w fun e w' => e = .returned (.int .i64 (oneE i left)) ∧ Below w.heap.size w w'
  at_ : ∀ (a0 : Option Addr) (n cap : Nat) (p : List Ins) (w : World), G w → p.length = n → OkL p → n ≤ cap → cap ≤ maxLen → (a0 = none → cap = 0) → RdI w w.heap.size a0 p → Calls Tryd.prog 11 #[.slice a0 n cap] w fun e w' => e = .returned (.tuple #[.int .i64 (((atL p).1 : Nat) : Int), .int .i64 (atL p).2]) ∧ Below w.heap.size w w'
  check_ : ∀ (a0 : Option Addr) (n cap : Nat) (p : List Ins) (w : World), G w → p.length = n → OkL p → n ≤ cap → cap ≤ maxLen → (a0 = none → cap = 0) → RdI w w.heap.size a0 p → Calls Tryd.prog 13 #[.slice a0 n cap] w fun e w' => e = .returned (.int .i64 (atL p).2) ∧ Below w.heap.size w w'
theorem CheckC.al {G : World → Prop} (H : CheckC G) {w : World} (h : G w) (o : Obj) : G (w.alloc o) := H.on h ((Below.refl _ _).alloc (Nat.le_refl _) o)
end Go.Proofs.YtohfampfnhfnlaaDoor
