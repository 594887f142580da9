/- All of an architecture: every call there has the number by which it is told, the numbers rise, x32's alone have the bit. -/
import Derived.Test.YtijnkhenplmghaaDoorCg
namespace Go.Proofs.YtijnkhenplmghaaDoor
open Go.RowKit
set_option linter.unusedVariables false

/-- What CallsOne asks of one call of an architecture. -/
def oneOk (a : Nat) (l : List En) (k : Nat) : Bool :=
  let e := l.getD k d0
  decide (numR a e.1 = (e.2, 0)) && decide (namR a e.2 = e.1) && (decide (1073741824 ≤ e.2) == decide (a = 2)) && (decide (k = 0) || decide ((l.getD (k - 1) d0).2 < e.2)) && knownR e.1 && decide (e.1.size ≤ 200) && decide (0 ≤ e.2) && decide (e.2 < 4294967296)
set_option maxRecDepth 100000 in
theorem one_ok : ∀ a, a < 6 → (0 < (allT (a : Nat) 40).length ∧ ∀ k, k < (allT (a : Nat) 40).length → oneOk a (allT (a : Nat) 40) k = true) := by decide +kernel
theorem one_open {a k : Nat} {l : List En} (h : oneOk a l k = true) : numR a (l.getD k d0).1 = ((l.getD k d0).2, 0) ∧ namR a (l.getD k d0).2 = (l.getD k d0).1 ∧ decide ((1073741824 : Int) ≤ (l.getD k d0).2) = decide (a = 2) ∧ (k = 0 ∨ (l.getD (k - 1) d0).2 < (l.getD k d0).2) ∧ knownR (l.getD k d0).1 = true ∧ (l.getD k d0).1.size ≤ 200 ∧ 0 ≤ (l.getD k d0).2 ∧ (l.getD k d0).2 < 4294967296 := by
  unfold oneOk at h
  simp only [Bool.and_eq_true, Bool.or_eq_true, decide_eq_true_eq, beq_iff_eq] at h
  obtain ⟨⟨⟨⟨⟨⟨⟨h1, h2⟩, h3⟩, h4⟩, h5⟩, h6⟩, h7⟩, h8⟩ := h
  exact ⟨h1, h2, h3, h4, h5, h6, h7, h8⟩
/-- Is a number among the first so many? -/
def inU (l : List En) (nr : Int) (k : Nat) : Bool := (List.range k).any fun j => decide ((l.getD j d0).2 = nr)
theorem inU_succ (l : List En) (nr : Int) (k : Nat) : inU l nr (k + 1) = (inU l nr k || decide ((l.getD k d0).2 = nr)) := by
  unfold inU; rw [List.range_succ, List.any_append]; simp
theorem nmT_some : ∀ j, j < 40 → nmT j ≠ ⟨#[]⟩ := by decide +kernel
theorem inU_all (a nr : Int) : inU (allT a 40) nr (allT a 40).length = decide (namR a nr ≠ ⟨#[]⟩) := by
  rw [Bool.eq_iff_iff, decide_eq_true_eq]
  unfold inU namR
  rw [List.any_eq_true]
  constructor
  · rintro ⟨i, hi, he⟩
    have hi := List.mem_range.1 hi
    have he := of_decide_eq_true he
    rw [List.getD_eq_getElem?_getD, List.getElem?_eq_getElem hi, Option.getD_some] at he
    obtain ⟨j, h1, h2, h3⟩ := mem_all.1 (List.getElem_mem hi)
    cases hf : firstT (fun j => decide (numR a (nmT j) = (nr, 0))) 40 with
    | some i' => exact nmT_some _ (first_some hf).1
    | none =>
      have := of_decide_eq_false (first_none hf j h1)
      refine absurd (Prod.ext ?_ h2) this
      rw [h3] at he
      exact he
  · intro h
    cases hf : firstT (fun j => decide (numR a (nmT j) = (nr, 0))) 40 with
    | none => rw [hf] at h; exact absurd rfl h
    | some j =>
      have hj := first_some hf
      have he := of_decide_eq_true hj.2
      have hm : (nmT j, (numR a (nmT j)).1) ∈ allT a 40 := mem_all.2 ⟨j, hj.1, by rw [he], rfl⟩
      obtain ⟨i, hi, hx⟩ := List.getElem_of_mem hm
      refine ⟨i, List.mem_range.2 hi, decide_eq_true ?_⟩
      rw [List.getD_eq_getElem?_getD, List.getElem?_eq_getElem hi, Option.getD_some, hx]
      show (numR a (nmT j)).1 = nr
      rw [he]
end Go.Proofs.YtijnkhenplmghaaDoor
