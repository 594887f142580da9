/- What reading a file has come to at some line stands at the head of what it comes to. -/
import Derived.Test.YtifjnioichfodaaDoorYc
namespace Go.Proofs.YtifjnioichfodaaDoor
set_option linter.unusedVariables false

theorem stepU_pre (fn : ByteArray) (st : US) (p : Nat × List UInt8) : st.asl <+: (stepU fn st p).asl ∧ st.nts <+: (stepU fn st p).nts := by
  unfold stepU
  split
  · exact ⟨List.prefix_refl _, List.prefix_refl _⟩
  · split
    · exact ⟨List.prefix_append _ _, List.prefix_refl _⟩
    · exact ⟨List.prefix_refl _, List.prefix_append _ _⟩
theorem stU_next (fn : ByteArray) (O : List (Nat × List UInt8)) (k : Nat) : (stU fn O k).asl <+: (stU fn O (k + 1)).asl ∧ (stU fn O k).nts <+: (stU fn O (k + 1)).nts := by
  cases hp : O[k]? with
  | none =>
    have e : stU fn O (k + 1) = stU fn O k := by
      unfold stU
      rw [List.take_add_one, hp, Option.toList_none, List.append_nil]
    rw [e]; exact ⟨List.prefix_refl _, List.prefix_refl _⟩
  | some p => rw [stU_step hp]; exact stepU_pre fn _ p
theorem stU_pre (fn : ByteArray) (O : List (Nat × List UInt8)) (k : Nat) : ∀ m, (stU fn O k).asl <+: (stU fn O (k + m)).asl ∧ (stU fn O k).nts <+: (stU fn O (k + m)).nts
  | 0 => ⟨List.prefix_refl _, List.prefix_refl _⟩
  | m + 1 => ⟨(stU_pre fn O k m).1.trans (stU_next fn O (k + m)).1, (stU_pre fn O k m).2.trans (stU_next fn O (k + m)).2⟩
theorem pre_get {α : Type} {a b : List α} {x : α} (h : a ++ [x] <+: b) : b[a.length]? = some x := by
  obtain ⟨r, rfl⟩ := h
  rw [List.append_assoc, List.getElem?_append_right (Nat.le_refl _), Nat.sub_self]; rfl
/-- What a line of a file comes to: a section's, an assignment, a note. -/
structure EitF (fn : ByteArray) (O : List (Nat × List UInt8)) (m : Nat) : Prop where
  sec : ∀ k p s, k < m → O[k]? = some p → secL p.2 = some s → (stU fn O (k + 1)).sec = s ∧ (stU fn O (k + 1)).asl = (stU fn O k).asl ∧ (stU fn O (k + 1)).nts = (stU fn O k).nts
  asg : ∀ k p, k < m → O[k]? = some p → secL p.2 = none → (asgL p.2).isSome = true → (stU fn O k).sec ≠ [] → (stU fn O (k + 1)).sec = (stU fn O k).sec ∧ (stU fn O (k + 1)).asl.length = (stU fn O k).asl.length + 1 ∧ (stU fn O (k + 1)).nts = (stU fn O k).nts ∧
    (stU fn O m).asl[(stU fn O k).asl.length]? = some ⟨fn, (p.1 : Nat), bs (stU fn O k).sec, bs (asgK p.2), bs (asgW p.2)⟩
  nte : ∀ k p, k < m → O[k]? = some p → secL p.2 = none → ((asgL p.2).isSome = false ∨ (stU fn O k).sec = []) → (stU fn O (k + 1)).sec = (stU fn O k).sec ∧ (stU fn O (k + 1)).asl = (stU fn O k).asl ∧ (stU fn O (k + 1)).nts.length = (stU fn O k).nts.length + 1 ∧
    (stU fn O m).nts[(stU fn O k).nts.length]? = some ⟨fn, (p.1 : Nat), 130, bs (p.2.take 60)⟩
theorem eitF (fn : ByteArray) (O : List (Nat × List UInt8)) (m : Nat) : EitF fn O m := by
  have hpre : ∀ k, k < m → (stU fn O (k + 1)).asl <+: (stU fn O m).asl ∧ (stU fn O (k + 1)).nts <+: (stU fn O m).nts := fun k hk => by
    have := stU_pre fn O (k + 1) (m - (k + 1))
    rw [Nat.add_sub_cancel' (by omega)] at this
    exact this
  refine ⟨fun k p s hk hp hs => ?_, fun k p hk hp hs ha hse => ?_, fun k p hk hp hs ha => ?_⟩
  · rw [stU_step hp, stepU_sec hs]; exact ⟨rfl, rfl, rfl⟩
  · have h := (hpre k hk).1
    rw [stU_step hp, stepU_asg hs ha hse] at h ⊢
    exact ⟨rfl, by rw [List.length_append]; rfl, rfl, pre_get h⟩
  · have h := (hpre k hk).2
    rw [stU_step hp, stepU_nte hs ha] at h ⊢
    exact ⟨rfl, rfl, by rw [List.length_append]; rfl, pre_get h⟩
end Go.Proofs.YtifjnioichfodaaDoor
