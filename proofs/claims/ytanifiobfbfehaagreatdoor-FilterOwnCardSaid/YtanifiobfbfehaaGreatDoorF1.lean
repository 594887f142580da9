/- Ascending calls: where one of a name is or would be; putting and taking at that place. No program, no condition. -/
import Derived.Test.YtanifiobfbfehaaGreatDoorTj
namespace Go.Proofs.YtanifiobfbfehaaGreatDoor
set_option linter.unusedVariables false

theorem lt16_gt {a b : ByteArray} (h : lt16 a b = true) : lt16 b a = false := by
  cases e : lt16 b a with
  | false => rfl
  | true => exact (lt16_asymm h e).elim
theorem lt16_ne {a b : ByteArray} (h : lt16 a b = true) : a ≠ b := fun e => by rw [e, lt16_irrefl] at h; cases h
/-- How many names precede. -/
def posC (L : List Cl) (s : ByteArray) : Nat := L.countP fun c => lt16 c.1 s
def atC (L : List Cl) (s : ByteArray) : Bool := match L[posC L s]? with | some c => decide (c.1 = s) | none => false
theorem pos_le (L : List Cl) (s : ByteArray) : posC L s ≤ L.length := List.countP_le_length
theorem split16 (s : ByteArray) : ∀ {L : List Cl}, Asc16 L → ∃ A B, L = A ++ B ∧ A.length = posC L s ∧ (∀ c ∈ A, lt16 c.1 s = true) ∧ (∀ c ∈ B, lt16 c.1 s = false)
  | [], _ => ⟨[], [], rfl, rfl, fun c h => (by cases h), fun c h => (by cases h)⟩
  | c :: r, h => by
    obtain ⟨h1, h2⟩ := List.pairwise_cons.1 h
    by_cases e : lt16 c.1 s = true
    · obtain ⟨A, B, hr, hl, ha, hb⟩ := split16 s h2
      refine ⟨c :: A, B, by rw [hr]; rfl, ?_, fun d hd => ?_, hb⟩
      · rw [List.length_cons, hl]
        unfold posC
        rw [List.countP_cons_of_pos (by exact e)]
      · rcases List.mem_cons.1 hd with rfl | hd
        · exact e
        · exact ha d hd
    · have e' : lt16 c.1 s = false := by cases x : lt16 c.1 s with | true => exact absurd x e | false => rfl
      have hall : ∀ d ∈ c :: r, lt16 d.1 s = false := fun d hd => by
        rcases List.mem_cons.1 hd with rfl | hd
        · exact e'
        · cases x : lt16 d.1 s with
          | false => rfl
          | true => exact absurd (lt16_trans (h1 d hd) x) e
      refine ⟨[], c :: r, rfl, ?_, fun d hd => (by cases hd), hall⟩
      show 0 = posC (c :: r) s
      unfold posC
      rw [eq_comm, List.countP_eq_zero]
      intro d hd x
      rw [hall d hd] at x
      cases x
theorem pos_before {L : List Cl} {s : ByteArray} (h : Asc16 L) {t : Nat} {c : Cl} (ht : t < posC L s) (hc : L[t]? = some c) : lt16 c.1 s = true := by
  obtain ⟨A, B, hL, hl, ha, hb⟩ := split16 s h
  rw [hL, List.getElem?_append_left (by omega)] at hc
  exact ha c (List.mem_of_getElem? hc)
theorem pos_after {L : List Cl} {s : ByteArray} (h : Asc16 L) {t : Nat} {c : Cl} (ht : posC L s ≤ t) (hc : L[t]? = some c) : lt16 c.1 s = false := by
  obtain ⟨A, B, hL, hl, ha, hb⟩ := split16 s h
  rw [hL, List.getElem?_append_right (by omega)] at hc
  exact hb c (List.mem_of_getElem? hc)
theorem ins_ahead (n : ByteArray) (a : Nat) : ∀ (A B : List Cl), (∀ c ∈ A, lt16 c.1 n = true) → insC n a (A ++ B) = A ++ insC n a B
  | [], B, _ => rfl
  | c :: r, B, h => by
    show insC n a (c :: (r ++ B)) = c :: (r ++ insC n a B)
    conv => lhs; unfold insC
    rw [if_neg (by rw [lt16_gt (h c (List.mem_cons_self ..))]; exact Bool.noConfusion), ins_ahead n a r B fun d hd => h d (List.mem_cons_of_mem _ hd)]
theorem ins_front (n : ByteArray) (a : Nat) (B : List Cl) (h : ∀ c ∈ B, lt16 n c.1 = true) : insC n a B = (n, a) :: B := by
  cases B with
  | nil => rfl
  | cons c r => unfold insC; rw [if_pos (h c (List.mem_cons_self ..))]
theorem take_ahead (n : ByteArray) (A B : List Cl) (h : ∀ c ∈ A, lt16 c.1 n = true) : takeC (A ++ B) n = A ++ takeC B n := by
  unfold takeC
  rw [List.filter_append, List.filter_eq_self.2 fun c hc => decide_eq_true (lt16_ne (h c hc))]
theorem take_behind (n : ByteArray) (B : List Cl) (h : ∀ c ∈ B, c.1 ≠ n) : takeC B n = B := List.filter_eq_self.2 fun c hc => decide_eq_true (h c hc)
theorem gt_ne {s : ByteArray} {B : List Cl} (hb : ∀ c ∈ B, lt16 s c.1 = true) : ∀ c ∈ B, c.1 ≠ s := fun c hc e => by
  have := hb c hc
  rw [e, lt16_irrefl] at this
  cases this
/-- The two ways that a list lies about a name. -/
theorem ways16 {L : List Cl} (s : ByteArray) (h : Asc16 L) : ∃ A B, A.length = posC L s ∧ (∀ c ∈ A, lt16 c.1 s = true) ∧ (∀ c ∈ B, lt16 s c.1 = true) ∧ ((atC L s = true ∧ ∃ a, L = A ++ (s, a) :: B) ∨ (atC L s = false ∧ L = A ++ B)) := by
  obtain ⟨A, B, hL, hl, ha, hb⟩ := split16 s h
  have hat : atC L s = match B[0]? with | some c => decide (c.1 = s) | none => false := by
    unfold atC
    rw [← hl]
    have : L[A.length]? = B[0]? := by rw [hL, List.getElem?_append_right (Nat.le_refl _), Nat.sub_self]
    rw [this]
  cases B with
  | nil => exact ⟨A, [], hl, ha, fun c hc => (by cases hc), Or.inr ⟨hat, hL⟩⟩
  | cons c r =>
    have hasc : Asc16 (c :: r) := by
      unfold Asc16 at h ⊢
      rw [hL] at h
      exact (List.pairwise_append.1 h).2.1
    obtain ⟨h1, h2⟩ := List.pairwise_cons.1 hasc
    by_cases e : c.1 = s
    · refine ⟨A, r, hl, ha, fun d hd => ?_, Or.inl ⟨by rw [hat]; exact decide_eq_true e, c.2, ?_⟩⟩
      · rw [← e]; exact h1 d hd
      · rw [hL, ← e]
    · refine ⟨A, c :: r, hl, ha, fun d hd => ?_, Or.inr ⟨by rw [hat]; exact decide_eq_false e, hL⟩⟩
      have hc := lt16_total (hb c (List.mem_cons_self ..)) e
      rcases List.mem_cons.1 hd with rfl | hd
      · exact hc
      · exact lt16_trans hc (h1 d hd)
theorem at_lt {L : List Cl} {s : ByteArray} (h : atC L s = true) : posC L s < L.length := by
  unfold atC at h
  cases e : L[posC L s]? with
  | none => rw [e] at h; cases h
  | some c => exact (List.getElem?_eq_some_iff.1 e).1
theorem put_there {L : List Cl} {s : ByteArray} (h : Asc16 L) (ht : atC L s = true) (a : Nat) : putC L s a = L.take (posC L s) ++ (s, a) :: L.drop (posC L s + 1) := by
  obtain ⟨A, B, hl, ha, hb, ⟨_, x, hL⟩ | ⟨hf, _⟩⟩ := ways16 s h
  · rw [← hl]
    subst hL
    unfold putC
    rw [take_ahead s A _ ha, show takeC ((s, x) :: B) s = takeC B s from List.filter_cons_of_neg (by simp), take_behind s B (gt_ne hb),
      ins_ahead s a A B ha, ins_front s a B hb, List.take_left, show A ++ (s, x) :: B = (A ++ [(s, x)]) ++ B by simp, show A.length + 1 = (A ++ [(s, x)]).length by simp, List.drop_left]
  · rw [ht] at hf; cases hf
theorem put_new {L : List Cl} {s : ByteArray} (h : Asc16 L) (ht : atC L s = false) (a : Nat) : putC L s a = L.take (posC L s) ++ (s, a) :: L.drop (posC L s) := by
  obtain ⟨A, B, hl, ha, hb, ⟨hf, _⟩ | ⟨_, hL⟩⟩ := ways16 s h
  · rw [ht] at hf; cases hf
  · rw [← hl]
    subst hL
    unfold putC
    rw [take_ahead s A _ ha, take_behind s B (gt_ne hb), ins_ahead s a A B ha, ins_front s a B hb, List.take_left, List.drop_left]
theorem take_there {L : List Cl} {s : ByteArray} (h : Asc16 L) (ht : atC L s = true) : takeC L s = L.take (posC L s) ++ L.drop (posC L s + 1) := by
  obtain ⟨A, B, hl, ha, hb, ⟨_, x, hL⟩ | ⟨hf, _⟩⟩ := ways16 s h
  · rw [← hl]
    subst hL
    rw [take_ahead s A _ ha, show takeC ((s, x) :: B) s = takeC B s from List.filter_cons_of_neg (by simp), take_behind s B (gt_ne hb),
      List.take_left, show A ++ (s, x) :: B = (A ++ [(s, x)]) ++ B by simp, show A.length + 1 = (A ++ [(s, x)]).length by simp, List.drop_left]
  · rw [ht] at hf; cases hf
theorem take_none {L : List Cl} {s : ByteArray} (h : Asc16 L) (ht : atC L s = false) : takeC L s = L := by
  obtain ⟨A, B, hl, ha, hb, ⟨hf, _⟩ | ⟨_, hL⟩⟩ := ways16 s h
  · rw [ht] at hf; cases hf
  · subst hL
    rw [take_ahead s A _ ha, take_behind s B (gt_ne hb)]
/-! ### rows of calls, cut -/
theorem rowC_take (L : List Cl) (k : Nat) : (rowC encC L).take (k * 2) = rowC encC (L.take k) := by
  rw [show rowC encC L = rowC encC (L.take k) ++ rowC encC (L.drop k) by rw [← rowC_app, List.take_append_drop]]
  by_cases h : k ≤ L.length
  · rw [show k * 2 = (rowC encC (L.take k)).length by rw [rowC_length encC_len, List.length_take, Nat.min_eq_left h], List.take_left]
  · rw [List.drop_of_length_le (by omega), show rowC encC ([] : List Cl) = [] from rfl, List.append_nil]
    exact List.take_of_length_le (by rw [rowC_length encC_len, List.length_take]; omega)
theorem rowC_drop (L : List Cl) (k : Nat) : (rowC encC L).drop (k * 2) = rowC encC (L.drop k) := by
  rw [show rowC encC L = rowC encC (L.take k) ++ rowC encC (L.drop k) by rw [← rowC_app, List.take_append_drop]]
  by_cases h : k ≤ L.length
  · rw [show k * 2 = (rowC encC (L.take k)).length by rw [rowC_length encC_len, List.length_take, Nat.min_eq_left h], List.drop_left]
  · rw [List.drop_of_length_le (show L.length ≤ k by omega), show rowC encC ([] : List Cl) = [] from rfl, List.append_nil]
    exact List.drop_of_length_le (by rw [rowC_length encC_len, List.length_take]; omega)
end Go.Proofs.YtanifiobfbfehaaGreatDoor
