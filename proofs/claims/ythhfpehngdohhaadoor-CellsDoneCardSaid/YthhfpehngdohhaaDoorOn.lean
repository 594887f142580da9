/- What is certain at a place was written on the way to it: the running set of the cells that a run has written. Plain lists, no program. -/
import Derived.Test.YthhfpehngdohhaaDoorOg
namespace Go.Proofs.YthhfpehngdohhaaDoor
set_option linter.unusedVariables false

/-- The set, with the cell that the instruction at a place writes. -/
def addBit (p : List Ins) (s x : Nat) : Nat := match p[x]? with | none => s | some y => if ((y.c == 2 || y.c == 3) && decide (y.k < 16)) = true then s ||| 2 ^ y.k.toNat else s
/-- The cells that the first i places of a run have written. -/
def wrote (p : List Ins) (l : List Nat) : Nat → Nat
  | 0 => 0
  | i + 1 => addBit p (wrote p l i) (l.getD i 0)
theorem addBit_lt {p : List Ins} {s x : Nat} (h : s < 2 ^ 16) : addBit p s x < 2 ^ 16 := by
  unfold addBit
  split
  · exact h
  · rename_i y _
    split
    · rename_i hy
      rw [Bool.and_eq_true, decide_eq_true_eq] at hy
      exact Nat.or_lt_two_pow h (Nat.pow_lt_pow_right (by decide) (by omega))
    · exact h
theorem wrote_lt (p : List Ins) (l : List Nat) : ∀ i, wrote p l i < 2 ^ 16
  | 0 => by show 0 < 2 ^ 16; decide
  | i + 1 => addBit_lt (wrote_lt p l i)
theorem addBit_keep {p : List Ins} {s x c : Nat} (h : s.testBit c = true) : (addBit p s x).testBit c = true := by
  unfold addBit
  split
  · exact h
  · split
    · rw [Nat.testBit_or, h]; rfl
    · exact h
theorem addBit_new {p : List Ins} {s x c : Nat} (hc : c < 16) (h : writesB p c x = true) : (addBit p s x).testBit c = true := by
  unfold writesB at h
  unfold addBit
  split at h
  · cases h
  · rename_i y hy
    rw [Bool.and_eq_true, beq_iff_eq] at h
    simp only [hy]
    rw [h.1, h.2, if_pos (by rw [Bool.true_and, decide_eq_true_eq]; omega), Int.toNat_natCast, Nat.testBit_or, Nat.testBit_two_pow]
    simp
theorem wrote_bit {p : List Ins} {l : List Nat} {c : Nat} (hc : c < 16) : ∀ {i j : Nat}, j < i → writesB p c (l.getD j 0) = true → (wrote p l i).testBit c = true
  | 0, j, hj, _ => absurd hj (by omega)
  | i + 1, j, hj, h => by
    by_cases e : j = i
    · subst e; exact addBit_new hc h
    · exact addBit_keep (wrote_bit hc (by omega) h)
/-- What is certain at a place of a run was written. -/
theorem done_sure {p : List Ins} {l : List Nat} (h : Way p l) {i : Nat} (hi : i < l.length) : sureN p (l.getD i 0) &&& (65535 - wrote p l i) = 0 := by
  apply Nat.eq_of_testBit_eq
  intro c
  rw [Nat.zero_testBit, Nat.testBit_and]
  unfold sureN
  rw [sureTo_bit, show 65535 - wrote p l i = 2 ^ 16 - (wrote p l i + 1) by omega, Nat.testBit_two_pow_sub_succ (wrote_lt p l i)]
  by_cases hc : c < 16
  · cases hu : unB p c (l.getD i 0) with
    | true => simp
    | false =>
      have hb : (wrote p l i).testBit c = true := by
        cases hb : (wrote p l i).testBit c with
        | true => rfl
        | false =>
          exfalso
          have := h.un c i (l.getD i 0) (by rw [List.getD_eq_getElem?_getD, List.getElem?_eq_getElem hi]; rfl) (fun j y hj hy => by
            cases hw : writesB p c y with
            | false => rfl
            | true =>
              have e : l.getD j 0 = y := by rw [List.getD_eq_getElem?_getD, hy]; rfl
              have := wrote_bit (l := l) hc hj (by rw [e]; exact hw)
              rw [this] at hb; cases hb)
          rw [this] at hu; cases hu
      rw [hb]; simp
  · rw [decide_eq_false hc]; simp
theorem way_next {p : List Ins} {l : List Nat} (h : Way p l) {i : Nat} (hi : i + 1 < l.length) : l.getD (i + 1) 0 ∈ nextL p (l.getD i 0) :=
  h.2.1 i _ _ (by rw [List.getD_eq_getElem?_getD, List.getElem?_eq_getElem (show i < l.length by omega)]; rfl) (by rw [List.getD_eq_getElem?_getD, List.getElem?_eq_getElem hi]; rfl)
theorem way_reach {p : List Ins} {l : List Nat} (h : Way p l) {i : Nat} (hi : i < l.length) : reachB p (l.getD i 0) = true := h.reach (by rw [List.getD_eq_getElem?_getD, List.getElem?_eq_getElem hi]; exact List.getElem_mem hi)
theorem way_lt {p : List Ins} {l : List Nat} (h : Way p l) {i : Nat} (hi : i < l.length) : l.getD i 0 < p.length := h.2.2 _ (by rw [List.getD_eq_getElem?_getD, List.getElem?_eq_getElem hi]; exact List.getElem_mem hi)
end Go.Proofs.YthhfpehngdohhaaDoor
