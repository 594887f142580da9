/- What drop-ins come to hangs on their names, numbers and bytes alone, wherever they lie. Plain lists and numbers, no program. The drop-ins that count, in the order of their names: it hangs on which they are alone, not on how they were handed in. Plain lists, no program. A drop-in with another one's name, and a greater number (or the same, and behind it), counts for nothing; those that count have names of their own, rising. Plain lists, no program. -/
import Derived.Test.YtgigdhincpcdbaaGreatDoorPh
namespace Go.Proofs.YtgigdhincpcdbaaGreatDoor
set_option linter.unusedVariables false

theorem fil_getD {L D : List Fle} (h : L.map Fle.fil = D.map Fle.fil) (k : Nat) : (L.getD k f0).fil = (D.getD k f0).fil := by
  have h2 := congrArg (fun l => l[k]?) h
  simp only [List.getElem?_map] at h2
  rw [List.getD_eq_getElem?_getD, List.getD_eq_getElem?_getD]
  cases h3 : L[k]? with
  | none =>
    rw [h3] at h2
    cases h4 : D[k]? with
    | none => rfl
    | some d => rw [h4] at h2; cases h2
  | some l =>
    rw [h3] at h2
    cases h4 : D[k]? with
    | none => rw [h4] at h2; cases h2
    | some d => rw [h4] at h2; exact Option.some.inj h2
theorem fil_parts {a b : Fle} (h : a.fil = b.fil) : a.name = b.name ∧ a.dir = b.dir ∧ a.bytes = b.bytes := by
  unfold Fle.fil at h
  simp only [Prod.mk.injEq] at h
  exact h
theorem fil_len {L D : List Fle} (h : L.map Fle.fil = D.map Fle.fil) : L.length = D.length := by
  have := congrArg List.length h
  rwa [List.length_map, List.length_map] at this
theorem maskB_fil {L D : List Fle} (h : L.map Fle.fil = D.map Fle.fil) (i : Nat) : ∀ k, maskB L i k = maskB D i k
  | 0 => rfl
  | k + 1 => by
    obtain ⟨a1, a2, _⟩ := fil_parts (fil_getD h k)
    obtain ⟨b1, b2, _⟩ := fil_parts (fil_getD h i)
    show (maskB L i k || overB (L.getD k f0) (L.getD i f0) k i) = (maskB D i k || overB (D.getD k f0) (D.getD i f0) k i)
    unfold overB
    rw [maskB_fil h i k, a1, a2, b1, b2]
theorem map_set {l : List Fle} {i : Nat} {e : Fle} : (l.set i e).map Fle.fil = (l.map Fle.fil).set i e.fil := List.map_set
theorem swpF_fil {L D : List Fle} (h : L.map Fle.fil = D.map Fle.fil) (k : Nat) : (swpF L k).map Fle.fil = (swpF D k).map Fle.fil := by
  unfold swpF
  rw [map_set, map_set, map_set, map_set, h, fil_getD h k, fil_getD h (k + 1)]
theorem bubF_fil : ∀ (k : Nat) {L D : List Fle} (h : L.map Fle.fil = D.map Fle.fil), (bubF k L).map Fle.fil = (bubF k D).map Fle.fil
  | 0, _, _, h => h
  | 1, _, _, h => h
  | k + 2, L, D, h => by
    obtain ⟨a1, _, _⟩ := fil_parts (fil_getD h (k + 2))
    obtain ⟨b1, _, _⟩ := fil_parts (fil_getD h (k + 1))
    unfold bubF
    rw [a1, b1]
    split
    · exact bubF_fil (k + 1) (swpF_fil h (k + 1))
    · exact h
theorem ordF_fil {m m2 : Fle} (hm : m.fil = m2.fil) {L D : List Fle} (h : L.map Fle.fil = D.map Fle.fil) : ∀ i, (ordF m L i).map Fle.fil = (ordF m2 D i).map Fle.fil
  | 0 => by show [m.fil] = [m2.fil]; rw [hm]
  | i + 1 => by
    have ih := ordF_fil hm h i
    unfold ordF
    rw [maskB_fil h i, fil_len h]
    split
    · exact ih
    · rw [fil_len ih]
      refine bubF_fil _ ?_
      rw [List.map_append, List.map_append, ih, List.map_singleton, List.map_singleton, fil_getD h i]
theorem badN_fil {L D : List Fle} (h : L.map Fle.fil = D.map Fle.fil) : ∀ n, badN L n = badN D n
  | 0 => rfl
  | n + 1 => by
    show (badN L n || !mayL (L.getD n f0).name.data.toList) = (badN D n || !mayL (D.getD n f0).name.data.toList)
    rw [badN_fil h n, (fil_parts (fil_getD h n)).1]
theorem ordE_fil {L D : List Fle} (h : L.map Fle.fil = D.map Fle.fil) : ordE L = ordE D := by
  unfold ordE
  rw [fil_len h, badN_fil h]
theorem ordL_fil {m m2 : Fle} (hm : m.fil = m2.fil) {L D : List Fle} (h : L.map Fle.fil = D.map Fle.fil) : (ordL m L).map Fle.fil = (ordL m2 D).map Fle.fil := by
  unfold ordL
  rw [ordE_fil h, fil_len h]
  split
  · exact ordF_fil hm h _
  · rfl
theorem badT_fil : ∀ {L D : List Fle} (h : L.map Fle.fil = D.map Fle.fil), badT L = badT D
  | [], [], _ => rfl
  | [], _ :: _, h => by cases h
  | _ :: _, [], h => by cases h
  | a :: l, b :: d, h => by
    rw [List.map_cons, List.map_cons, List.cons.injEq] at h
    unfold badT
    rw [(fil_parts h.1).1, badT_fil h.2]
theorem flat_fil {α : Type} (F : ByteArray → List UInt8 → List α) : ∀ {L D : List Fle} (h : L.map Fle.fil = D.map Fle.fil), L.flatMap (fun f => F f.name f.bytes) = D.flatMap (fun f => F f.name f.bytes)
  | [], [], _ => rfl
  | [], _ :: _, h => by cases h
  | _ :: _, [], h => by cases h
  | a :: l, b :: d, h => by
    rw [List.map_cons, List.map_cons, List.cons.injEq] at h
    obtain ⟨h1, _, h3⟩ := fil_parts h.1
    rw [List.flatMap_cons, List.flatMap_cons, flat_fil F h.2, h1, h3]
theorem mrgN_fil {m : Fle} {L D : List Fle} (h : L.map Fle.fil = D.map Fle.fil) : mrgN m L = mrgN m D := by
  unfold mrgN
  rw [ordE_fil h, badT_fil h, flat_fil filN (ordL_fil rfl h)]
theorem mrgA_fil {m : Fle} {L D : List Fle} (h : L.map Fle.fil = D.map Fle.fil) : mrgA m L = mrgA m D := by
  unfold mrgA
  rw [ordE_fil h, mrgN_fil h, flat_fil filA (ordL_fil rfl h)]
theorem mrgN_len (m : Fle) (D : List Fle) : (mrgN m D).length ≤ 17000 := by
  unfold mrgN
  split
  · have := flat_len (fun f => filN f.name f.bytes) (fun f => filN_len _ _) (ordL m D)
    have := ordL_length m D
    omega
  · exact Nat.le_of_ble_eq_true rfl
theorem mrgA_len (m : Fle) (D : List Fle) : (mrgA m D).length ≤ 17000 := by
  unfold mrgA
  split
  · have := flat_len (fun f => filA f.name f.bytes) (fun f => filA_len _ _) (ordL m D)
    have := ordL_length m D
    omega
  · exact Nat.zero_le _
end Go.Proofs.YtgigdhincpcdbaaGreatDoor
namespace Go.Proofs.YtgigdhincpcdbaaGreatDoor
set_option linter.unusedVariables false

theorem ltN_is (a b : ByteArray) : ltN a b = decide (a.toList < b.toList) := bytesLess_eq _ _
theorem ltN_trans {a b c : ByteArray} (h1 : ltN a b = true) (h2 : ltN b c = true) : ltN a c = true := by
  rw [ltN_is, decide_eq_true_iff] at *
  exact List.lt_trans h1 h2
theorem ltN_irrefl (a : ByteArray) : ltN a a = false := by
  rw [ltN_is, decide_eq_false_iff_not]
  exact List.lt_irrefl _
theorem ltN_asymm {a b : ByteArray} (h1 : ltN a b = true) (h2 : ltN b a = true) : False := by
  have := ltN_trans h1 h2
  rw [ltN_irrefl] at this
  cases this
theorem ltN_total {a b : ByteArray} (h1 : ltN a b = false) (h : a.toList ≠ b.toList) : ltN b a = true := by
  rw [ltN_is, decide_eq_false_iff_not] at h1
  rw [ltN_is, decide_eq_true_iff]
  rcases Classical.em (b.toList < a.toList) with h2 | h2
  · exact h2
  · exact absurd (List.le_antisymm (show a.toList ≤ b.toList from h2) (show b.toList ≤ a.toList from h1)) h
/-- One more among those that are sorted, the greatest first. -/
def insV (x : Fle) : List Fle → List Fle
  | [] => [x]
  | y :: R => if ltN x.name y.name = true then y :: insV x R else x :: y :: R
theorem insV_perm (x : Fle) : ∀ R, (insV x R).Perm (x :: R)
  | [] => List.Perm.refl _
  | y :: R => by
    unfold insV
    split
    · exact ((insV_perm x R).cons y).trans (List.Perm.swap x y R)
    · exact List.Perm.refl _
def srtV (l : List Fle) : List Fle := l.foldl (fun R x => insV x R) []
theorem srtV_snoc (l : List Fle) (x : Fle) : srtV (l ++ [x]) = insV x (srtV l) := by unfold srtV; rw [List.foldl_append]; rfl
theorem getD_app {A B : List Fle} {x : Fle} {k : Nat} (h : k = A.length) : (A ++ x :: B).getD k f0 = x := by
  subst h
  rw [List.getD_eq_getElem?_getD, List.getElem?_append_right (Nat.le_refl _), Nat.sub_self]; rfl
theorem set_app {A B : List Fle} {x y : Fle} {k : Nat} (h : k = A.length) : (A ++ x :: B).set k y = A ++ y :: B := by
  subst h
  rw [List.set_append_right _ _ (Nat.le_refl _), Nat.sub_self]; rfl
theorem bub_at (m x : Fle) : ∀ (R B : List Fle), bubF (R.length + 1) (m :: (R.reverse ++ x :: B)) = m :: ((insV x R).reverse ++ B)
  | [], B => rfl
  | y :: R, B => by
    have e1 : (m :: ((y :: R).reverse ++ x :: B)) = (m :: R.reverse) ++ y :: x :: B := by rw [List.reverse_cons, List.append_assoc]; rfl
    have e2 : (m :: ((y :: R).reverse ++ x :: B)) = (m :: R.reverse ++ [y]) ++ x :: B := by rw [e1, List.append_assoc]; rfl
    have g1 : (m :: ((y :: R).reverse ++ x :: B)).getD (R.length + 2) f0 = x := by rw [e2]; exact getD_app (by simp)
    have g2 : (m :: ((y :: R).reverse ++ x :: B)).getD (R.length + 1) f0 = y := by rw [e1]; exact getD_app (by simp)
    show (if ltN ((m :: ((y :: R).reverse ++ x :: B)).getD (R.length + 2) f0).name ((m :: ((y :: R).reverse ++ x :: B)).getD (R.length + 1) f0).name = true then bubF (R.length + 1) (swpF (m :: ((y :: R).reverse ++ x :: B)) (R.length + 1)) else _) = _
    rw [g1, g2]
    unfold insV
    by_cases h : ltN x.name y.name = true
    · rw [if_pos h, if_pos h]
      have e3 : swpF (m :: ((y :: R).reverse ++ x :: B)) (R.length + 1) = m :: (R.reverse ++ x :: (y :: B)) := by
        unfold swpF
        rw [g1, g2]
        have s1 : (m :: ((y :: R).reverse ++ x :: B)).set (R.length + 1 + 1) y = (m :: R.reverse) ++ y :: y :: B := by
          rw [e2, set_app (by simp), List.append_assoc]; rfl
        rw [s1, set_app (by simp)]; rfl
      rw [e3, bub_at m x R (y :: B), List.reverse_cons, List.append_assoc]; rfl
    · rw [if_neg h, if_neg h]; simp
/-- Those of the first drop-ins that count. -/
def effL (D : List Fle) : Nat → List Fle
  | 0 => []
  | i + 1 => if maskB D i D.length = true then effL D i else effL D i ++ [D.getD i f0]
theorem srtV_length (l : List Fle) : ∀ (R : List Fle), (l.foldl (fun R x => insV x R) R).length = R.length + l.length := by
  induction l with
  | nil => intro R; rfl
  | cons x r ih =>
    intro R
    rw [List.foldl_cons, ih, (insV_perm x R).length_eq, List.length_cons, List.length_cons]
    omega
theorem ordF_is (m : Fle) (D : List Fle) : ∀ i, ordF m D i = m :: (srtV (effL D i)).reverse
  | 0 => rfl
  | i + 1 => by
    have ih := ordF_is m D i
    unfold ordF effL
    split
    · exact ih
    · rw [srtV_snoc, ih]
      have h := bub_at m (D.getD i f0) (srtV (effL D i)) []
      rw [List.append_nil] at h
      rw [show (m :: (srtV (effL D i)).reverse).length = (srtV (effL D i)).length + 1 by simp]
      exact h
theorem srtV_perm (l : List Fle) : (srtV l).Perm l := by
  have key : ∀ (l R : List Fle), (l.foldl (fun R x => insV x R) R).Perm (R ++ l) := by
    intro l
    induction l with
    | nil => intro R; rw [List.append_nil]; exact List.Perm.refl _
    | cons x r ih =>
      intro R
      rw [List.foldl_cons]
      refine (ih _).trans (((insV_perm x R).append_right r).trans ?_)
      exact List.perm_middle.symm
  exact key l []
/-- No two have one name. -/
def Apart14 (l : List Fle) : Prop := l.Pairwise fun a b => a.name.toList ≠ b.name.toList
def Desc (l : List Fle) : Prop := l.Pairwise fun a b => ltN b.name a.name = true
theorem insV_desc {x : Fle} : ∀ {R : List Fle}, Desc R → (∀ y ∈ R, x.name.toList ≠ y.name.toList) → Desc (insV x R)
  | [], _, _ => List.pairwise_singleton _ _
  | y :: R, h, hn => by
    obtain ⟨h1, h2⟩ := List.pairwise_cons.1 h
    unfold insV
    by_cases hl : ltN x.name y.name = true
    · rw [if_pos hl]
      refine List.pairwise_cons.2 ⟨fun z hz => ?_, insV_desc h2 fun z hz => hn z (List.mem_cons_of_mem _ hz)⟩
      rcases List.mem_cons.1 ((insV_perm x R).mem_iff.1 hz) with e | e
      · rw [e]; exact hl
      · exact h1 z e
    · rw [if_neg hl]
      have hyx : ltN y.name x.name = true := ltN_total (by cases e : ltN x.name y.name with | true => exact absurd e hl | false => rfl) (hn y List.mem_cons_self)
      refine List.pairwise_cons.2 ⟨fun z hz => ?_, h⟩
      rcases List.mem_cons.1 hz with e | e
      · rw [e]; exact hyx
      · exact ltN_trans (h1 z e) hyx
theorem srtV_desc : ∀ {l : List Fle}, Apart14 l → Desc (srtV l) := by
  have key : ∀ (l R : List Fle), Desc R → Apart14 l → (∀ x ∈ l, ∀ y ∈ R, x.name.toList ≠ y.name.toList) → Desc (l.foldl (fun R x => insV x R) R) := by
    intro l
    induction l with
    | nil => intro R h _ _; exact h
    | cons x r ih =>
      intro R h ha hn
      obtain ⟨h1, h2⟩ := List.pairwise_cons.1 ha
      rw [List.foldl_cons]
      refine ih _ (insV_desc h fun y hy => hn x List.mem_cons_self y hy) h2 fun z hz y hy => ?_
      rcases List.mem_cons.1 ((insV_perm x R).mem_iff.1 hy) with e | e
      · rw [e]; exact fun e2 => h1 z hz e2.symm
      · exact hn z (List.mem_cons_of_mem _ hz) y e
  intro l h
  exact key l [] List.Pairwise.nil h (fun _ _ y hy => by cases hy)
theorem desc_unique : ∀ {a b : List Fle}, Desc a → Desc b → a.Perm b → a = b
  | [], b, _, _, h => (List.Perm.nil_eq h)
  | x :: a, [], _, _, h => by have := h.length_eq; simp at this
  | x :: a, y :: b, ha, hb, h => by
    obtain ⟨a1, a2⟩ := List.pairwise_cons.1 ha
    obtain ⟨b1, b2⟩ := List.pairwise_cons.1 hb
    have hxy : x = y := by
      have hx := h.mem_iff.1 (List.mem_cons_self (a := x) (l := a))
      have hy := h.symm.mem_iff.1 (List.mem_cons_self (a := y) (l := b))
      rcases List.mem_cons.1 hx with e | e
      · exact e
      · rcases List.mem_cons.1 hy with e2 | e2
        · exact e2.symm
        · exact (ltN_asymm (b1 x e) (a1 y e2)).elim
    subst hxy
    rw [desc_unique a2 b2 ((List.perm_cons x).1 h)]
/-- Those that count are sorted alike, however they were handed in. -/
theorem srtV_same {a b : List Fle} (ha : Apart14 a) (hb : Apart14 b) (h : a.Perm b) : srtV a = srtV b :=
  desc_unique (srtV_desc ha) (srtV_desc hb) ((srtV_perm a).trans (h.trans (srtV_perm b).symm))
theorem over_self (d : Fle) (i : Nat) : overB d d i i = false := by
  unfold overB
  rw [decide_eq_false (p := d.dir < d.dir) (by omega), decide_eq_false (p := i < i) (by omega)]
  simp
/-- Where no two have one name all count. -/
theorem mask_apart {D : List Fle} (h : Apart14 D) {i : Nat} (hi : i < D.length) : ∀ k, k ≤ D.length → maskB D i k = false
  | 0, _ => rfl
  | k + 1, hk => by
    show (maskB D i k || overB (D.getD k f0) (D.getD i f0) k i) = false
    rw [mask_apart h hi k (by omega), Bool.false_or]
    by_cases e : k = i
    · rw [e]; exact over_self _ _
    · unfold overB
      have hne : (D.getD k f0).name.toList ≠ (D.getD i f0).name.toList := by
        rw [List.getD_eq_getElem?_getD, List.getD_eq_getElem?_getD, List.getElem?_eq_getElem (show k < D.length by omega), List.getElem?_eq_getElem hi]
        rcases Nat.lt_or_gt_of_ne e with h2 | h2
        · exact List.pairwise_iff_getElem.1 h k i (by omega) hi h2
        · exact fun e2 => List.pairwise_iff_getElem.1 h i k hi (by omega) h2 e2.symm
      rw [beq_eq_false_iff_ne.2 hne, Bool.false_and]
theorem eff_apart {D : List Fle} (h : Apart14 D) : ∀ n, n ≤ D.length → effL D n = D.take n
  | 0, _ => rfl
  | n + 1, hn => by
    unfold effL
    rw [mask_apart h (by omega) _ (Nat.le_refl _), if_neg Bool.false_ne_true, eff_apart h n (by omega), List.take_add_one, List.getElem?_eq_getElem (by omega), List.getD_eq_getElem?_getD, List.getElem?_eq_getElem (show n < D.length by omega)]; rfl
/-- Drop-ins of unlike names, in whatever order. -/
theorem ordL_any {m : Fle} {D D' : List Fle} (h : Apart14 D) (h' : Apart14 D') (hp : D.Perm D') (hE : ordE D = 0) (hE' : ordE D' = 0) : ordL m D = ordL m D' := by
  unfold ordL
  rw [if_pos hE, if_pos hE', ordF_is, ordF_is, eff_apart h _ (Nat.le_refl _), eff_apart h' _ (Nat.le_refl _), List.take_length, List.take_length, srtV_same h h' hp]
end Go.Proofs.YtgigdhincpcdbaaGreatDoor
namespace Go.Proofs.YtgigdhincpcdbaaGreatDoor
set_option linter.unusedVariables false

theorem mask_iff {D : List Fle} {i : Nat} : ∀ {n : Nat}, maskB D i n = true ↔ ∃ k, k < n ∧ overB (D.getD k f0) (D.getD i f0) k i = true
  | 0 => ⟨fun h => (by cases h), fun ⟨_, h, _⟩ => absurd h (Nat.not_lt_zero _)⟩
  | n + 1 => by
    show (maskB D i n || overB (D.getD n f0) (D.getD i f0) n i) = true ↔ _
    rw [Bool.or_eq_true, mask_iff]
    constructor
    · rintro (⟨k, hk, h⟩ | h)
      · exact ⟨k, by omega, h⟩
      · exact ⟨n, by omega, h⟩
    · rintro ⟨k, hk, h⟩
      by_cases e : k = n
      · subst e; exact .inr h
      · exact .inl ⟨k, by omega, h⟩
theorem over_iff {e d : Fle} {k i : Nat} : overB e d k i = true ↔ e.name.toList = d.name.toList ∧ (e.dir < d.dir ∨ (e.dir = d.dir ∧ k < i)) := by
  unfold overB
  simp
theorem getD_left {D : List Fle} {x : Fle} {k : Nat} (h : k < D.length) : (D ++ [x]).getD k f0 = D.getD k f0 := by
  rw [List.getD_eq_getElem?_getD, List.getD_eq_getElem?_getD, List.getElem?_append_left h]
theorem getD_last {D : List Fle} {x : Fle} : (D ++ [x]).getD D.length f0 = x := by
  rw [List.getD_eq_getElem?_getD, List.getElem?_append_right (Nat.le_refl _), Nat.sub_self]; rfl
theorem bad_more {D : List Fle} {x : Fle} : ∀ n, n ≤ D.length → badN (D ++ [x]) n = badN D n
  | 0, _ => rfl
  | n + 1, h => by
    show (badN (D ++ [x]) n || !mayL ((D ++ [x]).getD n f0).name.data.toList) = (badN D n || !mayL (D.getD n f0).name.data.toList)
    rw [bad_more n (by omega), getD_left (by omega)]
theorem bad_at {D : List Fle} {n k : Nat} (hk : k < n) (h : mayL (D.getD k f0).name.data.toList = false) : badN D n = true := by
  refine badN_le (a := k + 1) ?_ hk
  show (badN D k || !mayL (D.getD k f0).name.data.toList) = true
  rw [h]; simp
theorem badT_masked {D : List Fle} {x : Fle} (hE : ordE D = 140) : badT (D ++ [x]) = badT D := by
  have hb : badN D D.length = true := by
    rcases ordE_three D with h | h | h
    · rw [h] at hE; cases hE
    · rw [h] at hE; cases hE
    · exact h.2.2
  have key : ∀ (l : List Fle), (∃ d ∈ l, mayL d.name.data.toList = false) → badT (l ++ [x]) = badT l := by
    intro l
    induction l with
    | nil => rintro ⟨d, hd, _⟩; cases hd
    | cons a r ih =>
      rintro ⟨d, hd, hf⟩
      show (if mayL a.name.data.toList = true then badT (r ++ [x]) else _) = (if mayL a.name.data.toList = true then badT r else _)
      by_cases ha : mayL a.name.data.toList = true
      · rw [if_pos ha, if_pos ha]
        refine ih ⟨d, ?_, hf⟩
        rcases List.mem_cons.1 hd with e | e
        · rw [e, ha] at hf; cases hf
        · exact e
      · rw [if_neg ha, if_neg ha]
  obtain ⟨k, hk, hf⟩ := badN_ex hb
  exact key D ⟨_, getD_memF hk, hf⟩
theorem bad_masked {D : List Fle} {x : Fle} {j : Nat} (hj : j < D.length) (hn : x.name = (D.getD j f0).name) : badN (D ++ [x]) (D ++ [x]).length = badN D D.length := by
  rw [show (D ++ [x]).length = D.length + 1 by rw [List.length_append]; rfl]
  show (badN (D ++ [x]) D.length || !mayL ((D ++ [x]).getD D.length f0).name.data.toList) = _
  rw [bad_more _ (Nat.le_refl _), getD_last, hn]
  cases h : mayL (D.getD j f0).name.data.toList with
  | true => simp
  | false => rw [bad_at hj h]; rfl
theorem ordE_masked {D : List Fle} {x : Fle} {j : Nat} (hj : j < D.length) (hn : x.name = (D.getD j f0).name) (h15 : D.length ≤ 15) : ordE (D ++ [x]) = ordE D := by
  unfold ordE
  rw [bad_masked hj hn, if_neg (show ¬ 16 < (D ++ [x]).length by rw [List.length_append, List.length_singleton]; omega), if_neg (show ¬ 16 < D.length by omega)]
section
variable {D : List Fle} {x : Fle} {j : Nat} (hj : j < D.length) (hn : x.name = (D.getD j f0).name) (hd : (D.getD j f0).dir ≤ x.dir)
include hj hn hd
theorem mask_more {i : Nat} (hi : i < D.length) : maskB (D ++ [x]) i (D ++ [x]).length = maskB D i D.length := by
  rw [Bool.eq_iff_iff, mask_iff, mask_iff, List.length_append, List.length_singleton]
  constructor
  · rintro ⟨k, hk, h⟩
    rw [getD_left hi] at h
    by_cases e : k = D.length
    · subst e
      rw [getD_last, over_iff] at h
      refine ⟨j, hj, over_iff.2 ⟨by rw [← hn]; exact h.1, .inl ?_⟩⟩
      rcases h.2 with h2 | h2 <;> omega
    · rw [getD_left (by omega)] at h
      exact ⟨k, by omega, h⟩
  · rintro ⟨k, hk, h⟩
    exact ⟨k, by omega, by rw [getD_left hk, getD_left hi]; exact h⟩
theorem mask_last : maskB (D ++ [x]) D.length (D ++ [x]).length = true := by
  rw [mask_iff, List.length_append, List.length_singleton]
  refine ⟨j, by omega, ?_⟩
  rw [getD_left hj, getD_last, over_iff]
  refine ⟨by rw [hn], ?_⟩
  by_cases h : (D.getD j f0).dir < x.dir
  · exact .inl h
  · exact .inr ⟨by omega, hj⟩
theorem eff_more : ∀ n, n ≤ D.length → effL (D ++ [x]) n = effL D n
  | 0, _ => rfl
  | n + 1, h => by
    unfold effL
    rw [mask_more hj hn hd (by omega), eff_more n (by omega), getD_left (by omega)]
theorem eff_masked : effL (D ++ [x]) (D ++ [x]).length = effL D D.length := by
  rw [show (D ++ [x]).length = D.length + 1 by rw [List.length_append]; rfl]
  have h := mask_last hj hn hd
  show (if maskB (D ++ [x]) D.length (D ++ [x]).length = true then effL (D ++ [x]) D.length else effL (D ++ [x]) D.length ++ [(D ++ [x]).getD D.length f0]) = effL D D.length
  rw [h, if_pos rfl]
  exact eff_more hj hn hd _ (Nat.le_refl _)
theorem ordL_masked (h15 : D.length ≤ 15) (m : Fle) : ordL m (D ++ [x]) = ordL m D := by
  unfold ordL
  rw [ordE_masked hj hn h15, ordF_is, ordF_is, eff_masked hj hn hd]
theorem mrgN_masked (h15 : D.length ≤ 15) (m : Fle) : mrgN m (D ++ [x]) = mrgN m D := by
  unfold mrgN
  rw [ordE_masked hj hn h15, ordL_masked hj hn hd h15]
  by_cases hE : ordE D = 140
  · rw [if_pos hE, if_pos hE, badT_masked hE]
  · rw [if_neg hE, if_neg hE]
theorem mrgA_masked (h15 : D.length ≤ 15) (m : Fle) : mrgA m (D ++ [x]) = mrgA m D := by
  unfold mrgA
  rw [ordE_masked hj hn h15, ordL_masked hj hn hd h15, mrgN_masked hj hn hd h15]
end
theorem eff_mem {D : List Fle} : ∀ {n : Nat} {f : Fle}, f ∈ effL D n → ∃ i, i < n ∧ f = D.getD i f0 ∧ maskB D i D.length = false
  | 0, f, h => by cases h
  | n + 1, f, h => by
    unfold effL at h
    split at h
    · obtain ⟨i, hi, r⟩ := eff_mem h
      exact ⟨i, by omega, r⟩
    · rename_i hm
      rcases List.mem_append.1 h with h | h
      · obtain ⟨i, hi, r⟩ := eff_mem h
        exact ⟨i, by omega, r⟩
      · refine ⟨n, by omega, List.mem_singleton.1 h, ?_⟩
        cases e : maskB D n D.length with
        | true => exact absurd e hm
        | false => rfl
/-- Those that count have names of their own. -/
theorem eff_names {D : List Fle} : ∀ n, n ≤ D.length → Apart14 (effL D n)
  | 0, _ => List.Pairwise.nil
  | n + 1, h => by
    unfold effL
    split
    · exact eff_names n (by omega)
    · rename_i hm
      refine List.pairwise_append.2 ⟨eff_names n (by omega), List.pairwise_singleton _ _, fun a ha b hb e => ?_⟩
      rw [List.mem_singleton.1 hb] at e
      obtain ⟨i, hi, e2, hf⟩ := eff_mem ha
      rw [e2] at e
      by_cases hd : (D.getD n f0).dir < (D.getD i f0).dir
      · have : maskB D i D.length = true := mask_iff.2 ⟨n, by omega, over_iff.2 ⟨e.symm, .inl hd⟩⟩
        rw [hf] at this; cases this
      · refine hm (mask_iff.2 ⟨i, by omega, over_iff.2 ⟨e, ?_⟩⟩)
        by_cases h3 : (D.getD i f0).dir < (D.getD n f0).dir
        · exact .inl h3
        · exact .inr ⟨by omega, hi⟩
/-- The order's names rise. -/
theorem ord_rise {m : Fle} {D : List Fle} {i : Nat} (hi : 1 < i) (hl : i < (ordL m D).length) : ltN ((ordL m D).getD (i - 1) f0).name ((ordL m D).getD i f0).name = true := by
  unfold ordL at hl ⊢
  split at hl
  · rename_i hE
    rw [if_pos hE]
    rw [ordF_is] at hl ⊢
    have hd := srtV_desc (eff_names (D := D) D.length (Nat.le_refl _))
    have ha : ((srtV (effL D D.length)).reverse).Pairwise fun a b => ltN a.name b.name = true := by
      rw [List.pairwise_reverse]; exact hd
    obtain ⟨R, hR⟩ : ∃ R, R = (srtV (effL D D.length)).reverse := ⟨_, rfl⟩
    rw [← hR] at hl ha ⊢
    rw [List.length_cons] at hl
    obtain ⟨k, rfl⟩ : ∃ k, i = k + 2 := ⟨i - 2, by omega⟩
    have h1 : (m :: R).getD (k + 2 - 1) f0 = R[k]'(by omega) := by
      rw [show k + 2 - 1 = k + 1 by omega, List.getD_cons_succ, List.getD_eq_getElem?_getD, List.getElem?_eq_getElem (by omega)]; rfl
    have h2 : (m :: R).getD (k + 2) f0 = R[k + 1]'(by omega) := by
      rw [List.getD_cons_succ, List.getD_eq_getElem?_getD, List.getElem?_eq_getElem (by omega)]; rfl
    rw [h1, h2]
    exact List.pairwise_iff_getElem.1 ha k (k + 1) (by omega) (by omega) (by omega)
  · simp at hl
end Go.Proofs.YtgigdhincpcdbaaGreatDoor
