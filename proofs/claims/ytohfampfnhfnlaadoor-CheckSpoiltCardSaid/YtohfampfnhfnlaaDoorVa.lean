/- The virtual machine as a function on lists: the effect of an instruction, a program's run: the answer, the steps, the places, the error; what depends on what. Plain lists and integers, no program. -/
import Derived.Test.YtohfampfnhfnlaaDoorIa
import Derived.Test.YtohfampfnhfnlaaDoorDa
namespace Go.Proofs.YtohfampfnhfnlaaDoor
set_option linter.unusedVariables false

/-- What comes of an instruction: on, with A, X, the cells, and how many are skipped; an answer; an error. -/
inductive Out where
  | go (a x : Int) (c : Nat → Int) (n : Nat)
  | fin (v : Int)
  | bad (e : Int)
/-- Bit by bit, on numbers below 2 to the 32nd. -/
def bitsV (f : Nat → Nat → Nat) (a b : Int) : Int := (f a.toNat b.toNat : Nat)
/-- An operation on two numbers. -/
def opV (o : Nat) (a b : Int) : Int :=
  match o with
  | 0 => (a + b) % 4294967296
  | 1 => (a - b) % 4294967296
  | 2 => (a * b) % 4294967296
  | 3 => a / b
  | 4 => bitsV (· ||| ·) a b
  | 5 => bitsV (· &&& ·) a b
  | 6 => (a * 2 ^ (b % 32).toNat) % 4294967296
  | 7 => a / 2 ^ (b % 32).toNat
  | 10 => bitsV (· ^^^ ·) a b
  | _ => 0
/-- A comparison of two numbers. -/
def cmpV (o : Nat) (a b : Int) : Bool :=
  match o with
  | 1 => decide (a = b)
  | 2 => decide (a > b)
  | 3 => decide (a ≥ b)
  | 4 => decide (bitsV (· &&& ·) a b > 0)
  | _ => false
def isOp (c : Int) : Bool := c % 16 == 4 && (c / 16 ≤ 7 || c / 16 == 10)
def isOpX (c : Int) : Bool := c % 16 == 12 && (c / 16 ≤ 7 || c / 16 == 10)
def isCmp (c : Int) : Bool := c % 16 == 5 && (1 ≤ c / 16 && c / 16 ≤ 4)
def isCmpX (c : Int) : Bool := c % 16 == 13 && (1 ≤ c / 16 && c / 16 ≤ 4)
/-- Is it of the class Jump? -/
def isJump (c : Int) : Bool := c == 5 || isCmp c || isCmpX c
/-- The effect of an instruction. -/
def doI (i : Ins) (d : Dat) (a x : Int) (c : Nat → Int) : Out :=
  if i.c = 0x20 then (if wordB i.k then .go (wordV d i.k) x c 0 else .bad 41)
  else if i.c = 0x80 then .go 64 x c 0
  else if i.c = 0 then .go i.k x c 0
  else if i.c = 0x60 then (if i.k < 16 then .go (c i.k.toNat) x c 0 else .bad 43)
  else if i.c = 0x81 then .go a 64 c 0
  else if i.c = 1 then .go a i.k c 0
  else if i.c = 0x61 then (if i.k < 16 then .go a (c i.k.toNat) c 0 else .bad 43)
  else if i.c = 2 then (if i.k < 16 then .go a x (fun j => if j = i.k.toNat then a else c j) 0 else .bad 43)
  else if i.c = 3 then (if i.k < 16 then .go a x (fun j => if j = i.k.toNat then x else c j) 0 else .bad 43)
  else if i.c = 0x84 then .go ((0 - a) % 4294967296) x c 0
  else if i.c = 5 then .go a x c i.k.toNat
  else if i.c = 6 then .fin i.k
  else if i.c = 0x16 then .fin a
  else if i.c = 7 then .go a a c 0
  else if i.c = 0x87 then .go x x c 0
  else if isOp i.c then
    if i.c / 16 = 3 ∧ i.k = 0 then .bad 44
    else if (i.c / 16 = 6 ∨ i.c / 16 = 7) ∧ i.k > 31 then .bad 45
    else .go (opV (i.c / 16).toNat a i.k) x c 0
  else if isOpX i.c then
    if i.c / 16 = 3 ∧ x = 0 then .fin 0
    else .go (opV (i.c / 16).toNat a x) x c 0
  else if isCmp i.c then .go a x c (if cmpV (i.c / 16).toNat a i.k then i.jt.toNat else i.jf.toNat)
  else if isCmpX i.c then .go a x c (if cmpV (i.c / 16).toNat a x then i.jt.toNat else i.jf.toNat)
  else .bad 40
/-- What a run comes to: the answer, the steps, the places, the error. -/
structure Res where
  ans : Int
  steps : Nat
  pl : List Nat
  err : Int
/-- The run from a place on; l: the places so far. -/
def runF (p : List Ins) (d : Dat) : Nat → Nat → Int → Int → (Nat → Int) → Int → List Nat → Res
  | 0, _, _, _, _, b, l => ⟨0, l.length, l, b⟩
  | f + 1, at_, a, x, c, b, l =>
    match p[at_]? with
    | none => ⟨0, l.length, l, b⟩
    | some i =>
      match doI i d a x c with
      | .bad e => ⟨0, l.length, l ++ [at_], e⟩
      | .fin v => ⟨v, l.length + 1, l ++ [at_], 0⟩
      | .go a' x' c' n => runF p d f (at_ + 1 + n) a' x' c' (if isJump i.c then 42 else 46) (l ++ [at_])
def runL (p : List Ins) (d : Dat) : Res := runF p d (p.length + 1) 0 0 0 (fun _ => 0) 46 []
def okO : Out → Prop
  | .bad e => 40 ≤ e ∧ e ≤ 45
  | _ => True
theorem okO_ite {q : Prop} [Decidable q] {u v : Out} (hu : okO u) (hv : okO v) : okO (if q then u else v) := by
  by_cases h : q
  · rw [if_pos h]; exact hu
  · rw [if_neg h]; exact hv
theorem doI_ok (i : Ins) (d : Dat) (a x : Int) (c : Nat → Int) : okO (doI i d a x c) := by
  unfold doI
  repeat' (first | exact trivial | apply okO_ite)
  all_goals exact ⟨by decide, by decide⟩
theorem doI_bad {i : Ins} {d : Dat} {a x : Int} {c : Nat → Int} {e : Int} (h : doI i d a x c = .bad e) : 40 ≤ e ∧ e ≤ 45 := by
  have := doI_ok i d a x c
  rw [h] at this
  exact this
/-- A run that has fuel enough does not hang on how much. -/
theorem runF_fuel (p : List Ins) (d : Dat) : ∀ (f g at_ : Nat) (a x : Int) (c : Nat → Int) (b : Int) (l : List Nat), p.length < f + at_ → p.length < g + at_ → runF p d f at_ a x c b l = runF p d g at_ a x c b l := by
  intro f
  induction f with
  | zero =>
    intro g at_ a x c b l h1 h2
    match g with
    | 0 => rfl
    | g + 1 =>
      have e : p[at_]? = none := List.getElem?_eq_none (by omega)
      simp only [runF, e]
  | succ f ih =>
    intro g at_ a x c b l h1 h2
    match g with
    | 0 =>
      have e : p[at_]? = none := List.getElem?_eq_none (by omega)
      simp only [runF, e]
    | g + 1 =>
      simp only [runF]
      split
      · rfl
      · split
        · rfl
        · rfl
        · exact ih g _ _ _ _ _ _ (by omega) (by omega)
theorem end_err {b : Int} (hb : b = 42 ∨ b = 46) : 40 ≤ b ∧ b ≤ 46 := by omega
/-- What is so of every run. -/
structure Good (p : List Ins) (l : List Nat) (r : Res) : Prop where
  ahead : l <+: r.pl
  below : ∀ j ∈ r.pl, j < p.length
  rise : r.pl.Pairwise (· < ·)
  s1 : r.steps ≤ r.pl.length
  s2 : r.pl.length ≤ r.steps + 1
  e0 : r.err ≠ 0 → r.ans = 0
  e1 : r.err = 0 → r.pl.length = r.steps
  e2 : r.err = 0 ∨ (40 ≤ r.err ∧ r.err ≤ 46)
theorem rise_snoc {l : List Nat} {j : Nat} (h : l.Pairwise (· < ·)) (k : ∀ i ∈ l, i < j) : (l ++ [j]).Pairwise (· < ·) := by
  rw [List.pairwise_append]
  refine ⟨h, List.pairwise_singleton _ _, fun a ha b hb => ?_⟩
  rw [List.mem_singleton.1 hb]; exact k a ha
theorem runF_good (p : List Ins) (d : Dat) : ∀ (f at_ : Nat) (a x : Int) (c : Nat → Int) (b : Int) (l : List Nat), (b = 42 ∨ b = 46) → l.Pairwise (· < ·) → (∀ j ∈ l, j < at_ ∧ j < p.length) → Good p l (runF p d f at_ a x c b l) := by
  intro f
  induction f with
  | zero =>
    intro at_ a x c b l hb hr hl
    exact ⟨List.prefix_refl _, fun j hj => (hl j hj).2, hr, Nat.le_refl _, Nat.le_succ _, fun _ => rfl, (fun h => by rcases hb with rfl | rfl <;> cases h), Or.inr (end_err hb)⟩
  | succ f ih =>
    intro at_ a x c b l hb hr hl
    simp only [runF]
    split
    · exact ⟨List.prefix_refl _, fun j hj => (hl j hj).2, hr, Nat.le_refl _, Nat.le_succ _, fun _ => rfl, (fun h => by rcases hb with rfl | rfl <;> cases h), Or.inr (end_err hb)⟩
    · rename_i i hi
      have ha : at_ < p.length := (List.getElem?_eq_some_iff.1 hi).1
      have hr' := rise_snoc hr (fun j hj => (hl j hj).1)
      have hb' : ∀ j ∈ l ++ [at_], j < p.length := fun j hj => by
        rcases List.mem_append.1 hj with hj | hj
        · exact (hl j hj).2
        · rw [List.mem_singleton.1 hj]; exact ha
      split
      · rename_i e he
        have := doI_bad he
        exact ⟨List.prefix_append _ _, hb', hr', by simp, by simp, fun _ => rfl, fun h => by simp only at h; omega, Or.inr (by simp only; omega)⟩
      · exact ⟨List.prefix_append _ _, hb', hr', by simp, by simp, fun h => absurd rfl h, fun _ => by simp, Or.inl rfl⟩
      · rename_i a' x' c' n he
        have g := ih (at_ + 1 + n) a' x' c' (if isJump i.c then 42 else 46) (l ++ [at_]) (by split <;> simp) hr' (fun j hj => by
          rcases List.mem_append.1 hj with hj' | hj'
          · have := hl j hj'; exact ⟨by omega, this.2⟩
          · rw [List.mem_singleton.1 hj']; exact ⟨by omega, ha⟩)
        exact ⟨(List.prefix_append _ _).trans g.ahead, g.below, g.rise, g.s1, g.s2, g.e0, g.e1, g.e2⟩
theorem runL_good (p : List Ins) (d : Dat) : Good p [] (runL p d) := runF_good p d _ _ _ _ _ _ _ (Or.inr rfl) List.Pairwise.nil (fun j hj => by cases hj)
theorem rise_bound : ∀ (n : Nat) {l : List Nat}, l.Pairwise (· < ·) → (∀ j ∈ l, j < n) → l.length ≤ n := by
  intro n l h hb
  have h2 : l.length ≤ (List.range n).length := by
    have hn : l.Nodup := h.imp (fun {a b} hab => Nat.ne_of_lt hab)
    exact hn.length_le_of_subset (fun j hj => List.mem_range.2 (hb j hj))
  rwa [List.length_range] at h2
theorem runF_ahead (p : List Ins) (d : Dat) : ∀ (f at_ : Nat) (a x : Int) (c : Nat → Int) (b : Int) (l : List Nat), l <+: (runF p d f at_ a x c b l).pl := by
  intro f
  induction f with
  | zero => intro at_ a x c b l; exact List.prefix_refl _
  | succ f ih =>
    intro at_ a x c b l
    simp only [runF]
    split
    · exact List.prefix_refl _
    · split
      · exact List.prefix_append _ _
      · exact List.prefix_append _ _
      · exact (List.prefix_append _ _).trans (ih _ _ _ _ _ _)
/-- A run that ends with an answer does so with more fuel, too. -/
theorem runF_more (p : List Ins) (d : Dat) : ∀ (f g at_ : Nat) (a x : Int) (c : Nat → Int) (b : Int) (l : List Nat), f ≤ g → (b = 42 ∨ b = 46) → (runF p d f at_ a x c b l).err = 0 → runF p d g at_ a x c b l = runF p d f at_ a x c b l := by
  intro f
  induction f with
  | zero => intro g at_ a x c b l _ hb h; exact absurd h (by show b ≠ 0; omega)
  | succ f ih =>
    intro g at_ a x c b l hfg hb h
    obtain ⟨g, rfl⟩ : ∃ k, g = k + 1 := ⟨g - 1, by omega⟩
    simp only [runF] at h ⊢
    cases hp : p[at_]? with
    | none => rfl
    | some i =>
      rw [hp] at h
      simp only at h ⊢
      cases ho : doI i d a x c with
      | bad e => rfl
      | fin v => rfl
      | go a' x' c' n =>
        rw [ho] at h
        simp only at h ⊢
        exact ih _ _ _ _ _ _ _ (by omega) (by split <;> simp) h
/-- Numbers below 2 to the 32nd. -/
def U32 (a : Int) : Prop := 0 ≤ a ∧ a < 4294967296
def okR : Out → Prop
  | .go a x c _ => U32 a ∧ U32 x ∧ ∀ j, U32 (c j)
  | .fin v => U32 v
  | .bad _ => True
theorem okR_ite {q : Prop} [Decidable q] {u v : Out} (hu : q → okR u) (hv : ¬ q → okR v) : okR (if q then u else v) := by
  by_cases h : q
  · rw [if_pos h]; exact hu h
  · rw [if_neg h]; exact hv h
theorem mod32 (a : Int) : U32 (a % 4294967296) := ⟨Int.emod_nonneg _ (by decide), Int.emod_lt_of_pos _ (by decide)⟩
theorem toNat32 {a : Int} (h : U32 a) : a.toNat < 2 ^ 32 := by have := h.2; have := h.1; omega
theorem bits32 {f : Nat → Nat → Nat} (hf : ∀ x y : Nat, x < 2 ^ 32 → y < 2 ^ 32 → f x y < 2 ^ 32) {a b : Int} (ha : U32 a) (hb : U32 b) : U32 (bitsV f a b) := by
  have := hf _ _ (toNat32 ha) (toNat32 hb)
  unfold bitsV
  exact ⟨by omega, by omega⟩
theorem div32 {a b : Int} (ha : U32 a) (hb : 0 ≤ b) : U32 (a / b) :=
  ⟨Int.ediv_nonneg ha.1 hb, Int.lt_of_le_of_lt (Int.ediv_le_self _ ha.1) ha.2⟩
theorem op32 (o : Nat) {a b : Int} (ha : U32 a) (hb : U32 b) : U32 (opV o a b) := by
  unfold opV
  split
  · exact mod32 _
  · exact mod32 _
  · exact mod32 _
  · exact div32 ha hb.1
  · exact bits32 (fun x y hx hy => Nat.or_lt_two_pow hx hy) ha hb
  · exact bits32 (fun x y hx hy => Nat.and_lt_two_pow _ hy) ha hb
  · exact mod32 _
  · exact div32 ha (Int.le_of_lt (Int.pow_pos (by decide)))
  · exact bits32 (fun x y hx hy => Nat.xor_lt_two_pow hx hy) ha hb
  · exact ⟨by decide, by decide⟩
theorem set32 {c : Nat → Int} (hc : ∀ j, U32 (c j)) (k : Nat) {v : Int} (hv : U32 v) : ∀ j, U32 ((fun j => if j = k then v else c j) j) := by
  intro j
  by_cases h : j = k
  · simp only [h, if_true]; exact hv
  · simp only [h, if_false]; exact hc j
/-- The numbers stay below 2 to the 32nd. -/
theorem doI_range {i : Ins} (hi : i.Ok) (d : Dat) {a x : Int} {c : Nat → Int} (ha : U32 a) (hx : U32 x) (hc : ∀ j, U32 (c j)) : okR (doI i d a x c) := by
  have hk : U32 i.k := ⟨hi.k0, hi.k1⟩
  have h64 : U32 64 := ⟨by decide, by decide⟩
  have h0 : U32 0 := ⟨by decide, by decide⟩
  unfold doI
  repeat' (first | exact trivial | (refine okR_ite (fun _ => ?_) (fun _ => ?_)))
  all_goals first
    | exact trivial
    | exact ⟨wordV_ok d i.k, hx, hc⟩
    | exact ⟨h64, hx, hc⟩ | exact ⟨hk, hx, hc⟩ | exact ⟨hc _, hx, hc⟩ | exact ⟨ha, h64, hc⟩ | exact ⟨ha, hk, hc⟩ | exact ⟨ha, hc _, hc⟩
    | exact ⟨ha, hx, set32 hc _ ha⟩ | exact ⟨ha, hx, set32 hc _ hx⟩ | exact ⟨mod32 _, hx, hc⟩ | exact ⟨ha, hx, hc⟩ | exact hk | exact ha
    | exact ⟨ha, ha, hc⟩ | exact ⟨hx, hx, hc⟩ | exact h0 | exact ⟨op32 _ ha hk, hx, hc⟩ | exact ⟨op32 _ ha hx, hx, hc⟩
/-- Two sets of data that have the same words wherever the program loads one are the same to an instruction. -/
theorem doI_data {i : Ins} {d d' : Dat} {a x : Int} {c : Nat → Int} (h : i.c = 32 → wordV d i.k = wordV d' i.k) : doI i d a x c = doI i d' a x c := by
  unfold doI
  by_cases h1 : i.c = 32
  · rw [if_pos h1, if_pos h1, h h1]
  · rw [if_neg h1, if_neg h1]
/-- What isn't done changes nothing: another program that has the same instructions at the places that are come to, of as many, and data that has the same words there. -/
theorem runF_unseen (p q : List Ins) (d d' : Dat) (hl : q.length = p.length) : ∀ (f at_ : Nat) (a x : Int) (c : Nat → Int) (b : Int) (l : List Nat),
    (∀ j ∈ (runF p d f at_ a x c b l).pl, j ∉ l → q[j]? = p[j]? ∧ ∀ i, p[j]? = some i → i.c = 32 → wordV d' i.k = wordV d i.k) → (∀ j ∈ l, j < at_) → runF q d' f at_ a x c b l = runF p d f at_ a x c b l := by
  intro f
  induction f with
  | zero => intro at_ a x c b l _ _; rfl
  | succ f ih =>
    intro at_ a x c b l h hl'
    simp only [runF] at h ⊢
    cases hp : p[at_]? with
    | none =>
      have hq : q[at_]? = none := List.getElem?_eq_none (by have := List.getElem?_eq_none_iff.1 hp; omega)
      rw [hq]
    | some i =>
      rw [hp] at h
      simp only at h
      have hni : at_ ∉ l := fun hm => absurd (hl' _ hm) (by omega)
      have hmem : at_ ∈ (match doI i d a x c with
          | .bad e => (⟨0, l.length, l ++ [at_], e⟩ : Res)
          | .fin v => ⟨v, l.length + 1, l ++ [at_], 0⟩
          | .go a' x' c' n => runF p d f (at_ + 1 + n) a' x' c' (if isJump i.c then 42 else 46) (l ++ [at_])).pl := by
        split
        · simp
        · simp
        · exact (runF_ahead p d f _ _ _ _ _ _).subset (by simp)
      obtain ⟨hq, hd⟩ := h at_ hmem hni
      rw [hq, hp]
      simp only
      have hdo : doI i d' a x c = doI i d a x c := doI_data (fun h32 => hd i hp h32)
      rw [hdo]
      cases ho : doI i d a x c with
      | bad e => rfl
      | fin v => rfl
      | go a' x' c' n =>
        rw [ho] at h
        simp only at h ⊢
        refine ih _ _ _ _ _ _ (fun j hj hnj => h j hj (fun hm => hnj (by simp [hm]))) (fun j hj => ?_)
        rcases List.mem_append.1 hj with hj | hj
        · have := hl' j hj; omega
        · rw [List.mem_singleton.1 hj]; omega
theorem runL_unseen {p q : List Ins} {d d' : Dat} (hl : q.length = p.length) (h : ∀ j ∈ (runL p d).pl, q[j]? = p[j]? ∧ ∀ i, p[j]? = some i → i.c = 32 → wordV d' i.k = wordV d i.k) : runL q d' = runL p d := by
  unfold runL
  rw [hl]
  exact runF_unseen p q d d' hl _ _ _ _ _ _ _ (fun j hj _ => h j hj) (fun j hj => by cases hj)
/-- A program that tells an answer tells the same with others behind it. -/
theorem runF_behind (p m : List Ins) (d : Dat) : ∀ (f at_ : Nat) (a x : Int) (c : Nat → Int) (b : Int) (l : List Nat), (b = 42 ∨ b = 46) → (runF p d f at_ a x c b l).err = 0 → runF (p ++ m) d f at_ a x c b l = runF p d f at_ a x c b l := by
  intro f
  induction f with
  | zero => intro at_ a x c b l _ _; rfl
  | succ f ih =>
    intro at_ a x c b l hb h
    simp only [runF] at h ⊢
    cases hp : p[at_]? with
    | none =>
      rw [hp] at h
      simp only at h
      omega
    | some i =>
      have hlt : at_ < p.length := (List.getElem?_eq_some_iff.1 hp).1
      rw [hp] at h
      rw [List.getElem?_append_left hlt, hp]
      simp only at h ⊢
      cases ho : doI i d a x c with
      | bad e => rfl
      | fin v => rfl
      | go a' x' c' n =>
        rw [ho] at h
        simp only at h ⊢
        exact ih _ _ _ _ _ _ (by split <;> simp) h
theorem runL_behind {p m : List Ins} {d : Dat} (h : (runL p d).err = 0) : runL (p ++ m) d = runL p d := by
  have h1 := runF_behind p m d (p.length + 1) 0 0 0 (fun _ => 0) 46 [] (Or.inr rfl) h
  have h2 : runL (p ++ m) d = runF (p ++ m) d ((p ++ m).length + 1) 0 0 0 (fun _ => 0) 46 [] := rfl
  have h3 := runF_more (p ++ m) d (p.length + 1) ((p ++ m).length + 1) 0 0 0 (fun _ => 0) 46 [] (by simp) (Or.inr rfl) (by rw [h1]; exact h)
  rw [h2, h3, h1]; rfl
/-- Data with another argument. -/
def Dat.setArg (d : Dat) : Nat → Int → Dat
  | 0, y => { d with a0 := y }
  | 1, y => { d with a1 := y }
  | 2, y => { d with a2 := y }
  | 3, y => { d with a3 := y }
  | 4, y => { d with a4 := y }
  | 5, y => { d with a5 := y }
  | _, _ => d
/-- The eight bytes of the data from 8 s on. -/
def sec (d : Dat) : Nat → List Int
  | 0 => putL 4 d.nr ++ putL 4 d.arch
  | 1 => putL 8 d.ip
  | 2 => putL 8 d.a0
  | 3 => putL 8 d.a1
  | 4 => putL 8 d.a2
  | 5 => putL 8 d.a3
  | 6 => putL 8 d.a4
  | 7 => putL 8 d.a5
  | _ => []
theorem datB_sec (d : Dat) {s : Nat} (hs : s < 8) : ((datB d).drop (8 * s)).take 8 = sec d s := by
  match s, hs with
  | 0, _ =>
    have h : datB d = (putL 4 d.nr ++ putL 4 d.arch) ++ (putL 8 d.ip ++ putL 8 d.a0 ++ putL 8 d.a1 ++ putL 8 d.a2 ++ putL 8 d.a3 ++ putL 8 d.a4 ++ putL 8 d.a5) := by simp [datB]
    rw [h, Nat.mul_zero, List.drop_zero, List.take_left' (by simp [putL_length])]; rfl
  | 1, _ => exact datB_ip d
  | 2, _ => exact datB_a0 d
  | 3, _ => exact datB_a1 d
  | 4, _ => exact datB_a2 d
  | 5, _ => exact datB_a3 d
  | 6, _ => exact datB_a4 d
  | 7, _ => exact datB_a5 d
theorem sec_set (d : Dat) (k : Nat) (y : Int) {s : Nat} (h : s ≠ 2 + k) : sec (d.setArg k y) s = sec d s := by
  match k with
  | 0 =>
    match s, h with
    | 0, _ | 1, _ | 3, _ | 4, _ | 5, _ | 6, _ | 7, _ => rfl
    | 2, h => exact absurd rfl h
    | s + 8, _ => rfl
  | 1 =>
    match s, h with
    | 0, _ | 1, _ | 2, _ | 4, _ | 5, _ | 6, _ | 7, _ => rfl
    | 3, h => exact absurd rfl h
    | s + 8, _ => rfl
  | 2 =>
    match s, h with
    | 0, _ | 1, _ | 2, _ | 3, _ | 5, _ | 6, _ | 7, _ => rfl
    | 4, h => exact absurd rfl h
    | s + 8, _ => rfl
  | 3 =>
    match s, h with
    | 0, _ | 1, _ | 2, _ | 3, _ | 4, _ | 6, _ | 7, _ => rfl
    | 5, h => exact absurd rfl h
    | s + 8, _ => rfl
  | 4 =>
    match s, h with
    | 0, _ | 1, _ | 2, _ | 3, _ | 4, _ | 5, _ | 7, _ => rfl
    | 6, h => exact absurd rfl h
    | s + 8, _ => rfl
  | 5 =>
    match s, h with
    | 0, _ | 1, _ | 2, _ | 3, _ | 4, _ | 5, _ | 6, _ => rfl
    | 7, h => exact absurd rfl h
    | s + 8, _ => rfl
  | k + 6 => rfl
theorem wordV_sec (d : Dat) {a : Int} (h0 : 0 ≤ a) (hw : wordB a = true) : wordV d a = leV (((sec d (a / 8).toNat).drop (a % 8).toNat).take 4) := by
  have h := of_decide_eq_true hw
  unfold wordV
  rw [if_pos hw, ← datB_sec d (by omega), List.drop_take, List.drop_drop, List.take_take]
  congr 2
  · omega
  · congr 1; omega
/-- A word that lies elsewhere doesn't hang on the argument. -/
theorem wordV_set (d : Dat) (k : Nat) (y : Int) {a : Int} (h0 : 0 ≤ a) (h : a / 8 ≠ 2 + (k : Int)) : wordV (d.setArg k y) a = wordV d a := by
  by_cases hw : wordB a = true
  · rw [wordV_sec _ h0 hw, wordV_sec _ h0 hw, sec_set d k y (by omega)]
  · unfold wordV; rw [if_neg hw, if_neg hw]
end Go.Proofs.YtohfampfnhfnlaaDoor
