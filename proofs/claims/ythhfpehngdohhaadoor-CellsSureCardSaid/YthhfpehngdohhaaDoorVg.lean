/- What the document's machine makes of any instruction: as the plain function says. Condition: numbers below 2 to the 32nd. -/
import Derived.Test.YthhfpehngdohhaaDoorVf
namespace Go.Proofs.YthhfpehngdohhaaDoor
open Go.RowKit
set_option linter.unusedVariables false

def vmCodes : List Int := [32, 128, 0, 96, 129, 1, 97, 2, 3, 132, 5, 6, 22, 7, 135, 4, 12, 20, 28, 36, 44, 52, 60, 68, 76, 84, 92, 100, 108, 116, 124, 164, 172, 21, 29, 37, 45, 53, 61, 69, 77]
theorem ofL_in : ∀ (l : List One) (c : Int), ofL l c = noOne ∨ (∃ o ∈ l, o.code = c ∧ ofL l c = o)
  | [], _ => Or.inl rfl
  | o :: r, c => by
    by_cases h : o.code = c
    · exact Or.inr ⟨o, List.mem_cons_self .., h, by show (if o.code = c then o else ofL r c) = o; rw [if_pos h]⟩
    · have e : ofL (o :: r) c = ofL r c := by show (if o.code = c then o else ofL r c) = _; rw [if_neg h]
      rw [e]
      rcases ofL_in r c with h1 | ⟨p, h1, h2, h3⟩
      · exact Or.inl h1
      · exact Or.inr ⟨p, List.mem_cons_of_mem _ h1, h2, h3⟩
theorem known_code {c : Int} (h : knownB c = true) : c ∈ vmCodes := by
  rcases ofL_in allL c with h1 | ⟨o, h1, h2, _⟩
  · unfold knownB at h; rw [h1] at h; exact absurd h (by decide)
  · have e : allL.map One.code = vmCodes := by kernel_rfl
    rw [← e, ← h2]
    exact List.mem_map.2 ⟨o, h1, rfl⟩
theorem code_known {c : Int} (h : c ∈ vmCodes) : knownB c = true := by
  have e : vmCodes.all knownB = true := by decide +kernel
  exact List.all_eq_true.1 e c h
theorem op_code {c : Int} (h0 : 0 ≤ c) (h : isOp c = true) : c ∈ vmCodes := by
  unfold isOp at h
  simp at h
  have : c = 4 ∨ c = 20 ∨ c = 36 ∨ c = 52 ∨ c = 68 ∨ c = 84 ∨ c = 100 ∨ c = 116 ∨ c = 164 := by omega
  rcases this with rfl | rfl | rfl | rfl | rfl | rfl | rfl | rfl | rfl <;> decide
theorem opx_code {c : Int} (h0 : 0 ≤ c) (h : isOpX c = true) : c ∈ vmCodes := by
  unfold isOpX at h
  simp at h
  have : c = 12 ∨ c = 28 ∨ c = 44 ∨ c = 60 ∨ c = 76 ∨ c = 92 ∨ c = 108 ∨ c = 124 ∨ c = 172 := by omega
  rcases this with rfl | rfl | rfl | rfl | rfl | rfl | rfl | rfl | rfl <;> decide
theorem cmp_code {c : Int} (h0 : 0 ≤ c) (h : isCmp c = true) : c ∈ vmCodes := by
  unfold isCmp at h
  simp at h
  have : c = 21 ∨ c = 37 ∨ c = 53 ∨ c = 69 := by omega
  rcases this with rfl | rfl | rfl | rfl <;> decide
theorem cmpx_code {c : Int} (h0 : 0 ≤ c) (h : isCmpX c = true) : c ∈ vmCodes := by
  unfold isCmpX at h
  simp at h
  have : c = 29 ∨ c = 45 ∨ c = 61 ∨ c = 77 := by omega
  rcases this with rfl | rfl | rfl | rfl <;> decide
theorem doI_unknown {i : Ins} (hi : i.Ok) (h : knownB i.c = false) (d : Dat) (a x : Int) (c : Nat → Int) : doI i d a x c = .bad 40 := by
  have hn : i.c ∉ vmCodes := fun hm => by rw [code_known hm] at h; cases h
  have h0 := hi.c0
  have q1 : isOp i.c = false := Bool.eq_false_iff.2 fun e => hn (op_code h0 e)
  have q2 : isOpX i.c = false := Bool.eq_false_iff.2 fun e => hn (opx_code h0 e)
  have q3 : isCmp i.c = false := Bool.eq_false_iff.2 fun e => hn (cmp_code h0 e)
  have q4 : isCmpX i.c = false := Bool.eq_false_iff.2 fun e => hn (cmpx_code h0 e)
  unfold doI
  rw [if_neg (fun e => hn (by rw [e]; decide) : ¬ i.c = 0x20)]
  rw [if_neg (fun e => hn (by rw [e]; decide) : ¬ i.c = 0x80)]
  rw [if_neg (fun e => hn (by rw [e]; decide) : ¬ i.c = 0)]
  rw [if_neg (fun e => hn (by rw [e]; decide) : ¬ i.c = 0x60)]
  rw [if_neg (fun e => hn (by rw [e]; decide) : ¬ i.c = 0x81)]
  rw [if_neg (fun e => hn (by rw [e]; decide) : ¬ i.c = 1)]
  rw [if_neg (fun e => hn (by rw [e]; decide) : ¬ i.c = 0x61)]
  rw [if_neg (fun e => hn (by rw [e]; decide) : ¬ i.c = 2)]
  rw [if_neg (fun e => hn (by rw [e]; decide) : ¬ i.c = 3)]
  rw [if_neg (fun e => hn (by rw [e]; decide) : ¬ i.c = 0x84)]
  rw [if_neg (fun e => hn (by rw [e]; decide) : ¬ i.c = 5)]
  rw [if_neg (fun e => hn (by rw [e]; decide) : ¬ i.c = 6)]
  rw [if_neg (fun e => hn (by rw [e]; decide) : ¬ i.c = 0x16)]
  rw [if_neg (fun e => hn (by rw [e]; decide) : ¬ i.c = 7)]
  rw [if_neg (fun e => hn (by rw [e]; decide) : ¬ i.c = 0x87)]
  rw [q1, q2, q3, q4]; rfl
end Go.Proofs.YthhfpehngdohhaaDoor
