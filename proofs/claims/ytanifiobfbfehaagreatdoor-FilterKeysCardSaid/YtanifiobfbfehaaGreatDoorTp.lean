/- What the document's own Step returns of a list that may be and a value that has words. Condition: a list that can be read, a value of at most 1,000 bytes. -/
import Derived.Test.YtanifiobfbfehaaGreatDoorTn
namespace Go.Proofs.YtanifiobfbfehaaGreatDoor
open Go.RowKit
set_option linter.unusedVariables false
set_option linter.unusedSimpArgs false
attribute [local go_sem ↓] Go.wp_at_zero Go.wp_at_succ

theorem nts_next (sfx T : Bool) {WL : List (List UInt8)} {i : Nat} {x : List UInt8} (h : WL[i]? = some x) : ntsF knownR grpX sfx T (WL.take (i + 1)) = ntsF knownR grpX sfx T (WL.take i) ++ (wordF knownR grpX sfx T x).1 := by
  unfold ntsF
  rw [List.take_add_one, h, List.flatMap_append]
  simp
theorem ops_next (sfx T : Bool) (mF : Nat) {WL : List (List UInt8)} {i : Nat} {x : List UInt8} (h : WL[i]? = some x) : opsF knownR grpX sfx T mF (WL.take (i + 1)) = opsF knownR grpX sfx T mF (WL.take i) ++ (wordF knownR grpX sfx T x).2.map (opF mF T) := by
  unfold opsF
  rw [List.take_add_one, h, List.flatMap_append, List.map_append]
  simp
theorem word_nts_le (sfx T : Bool) (x : List UInt8) : (wordF knownR grpX sfx T x).1.length ≤ 1 := by
  unfold wordF
  split
  · exact Nat.le_refl _
  · split
    · exact Nat.le_refl _
    · split
      · exact Nat.le_refl _
      · exact Nat.zero_le _
theorem nts_le (sfx T : Bool) : ∀ (WL : List (List UInt8)), (ntsF knownR grpX sfx T WL).length ≤ WL.length
  | [] => Nat.le_refl _
  | x :: r => by
    have h1 := word_nts_le sfx T x
    have h2 := nts_le sfx T r
    unfold ntsF at h2 ⊢
    rw [List.flatMap_cons, List.length_append, List.length_cons]
    omega
theorem doAll_app (l : List Cl) (a b : List Ef) : doAll l (a ++ b) = doAll (doAll l a) b := List.foldl_append
theorem box_set16 {V : World} {b : Nat} {x y u : Value} (h : V.heap[b]? = some (.cells #[x, u] 25 (0, 0))) : (V.setCell ⟨b, 0, none⟩ y).heap[b]? = some (.cells #[y, u] 25 (0, 0)) := by
  simp [World.setCell, Array.getElem?_modify, h]
theorem le_sum16 {a : Nat} : ∀ {l : List Nat}, a ∈ l → a ≤ l.sum
  | b :: r, h => by
    rw [List.sum_cons]
    rcases List.mem_cons.1 h with rfl | h
    · omega
    · have := le_sum16 h; omega
end Go.Proofs.YtanifiobfbfehaaGreatDoor
