/- A slice of strings that came in. No condition. -/
import Derived.Test.YtanifiobfbfehaaGreatDoorWd
import Derived.Deep.Strs
namespace Go.Proofs.YtanifiobfbfehaaGreatDoor
open Go.ChangeShapes Go.WideShapes Go.ChangeAt Go.RowKit
set_option linter.unusedVariables false

/-- What is known of a slice of strings that came in. -/
structure IsStrs (w : World) (a : Option Addr) (len cap : Nat) (z : List ByteArray) : Prop where
  size : z.length = len
  rng : ∀ y ∈ z, y.size ≤ maxLen
  fits : len ≤ cap
  most : cap ≤ maxLen
  rd : 0 < len → ∃ b o, a = some ⟨b, o, none⟩ ∧ b < w.heap.size ∧ ∀ i s, z[i]? = some s → w.cell? ⟨b, o + i, none⟩ = some (.string s)
  nil : a = none → cap = 0
theorem strs_open {H : Type} {enc : TypeId × Value → H} {W : World} {a : Option Addr} {len cap : Nat} {d : DataW H} {p : List MemPlace}
    (h : DataW.Trod enc Tryz.prog W 0 (fun _ => true) true 52 (.slice a len cap) d p) (lt : ∀ x ∈ p, x.block < W.heap.size) : ∃ z, IsStrs W a len cap z := by
  obtain ⟨fuel, hf⟩ := h
  rcases Go.Deep.open_strs Tryz.underlying52 Tryz.underlying9 (by kernel_rfl) hf with ⟨hcs, _⟩ | ⟨x, l, c, m, Sx, hcs, _, hl, hm, hmm, _, hcell⟩
  · simp [Value.cells] at hcs
    obtain ⟨rfl, rfl, rfl⟩ := hcs
    exact ⟨[], rfl, (fun y hy => by cases hy), Nat.le_refl _, Nat.zero_le _, (fun h => absurd h (by omega)), fun _ => rfl⟩
  · simp [Value.cells] at hcs
    obtain ⟨rfl, rfl, rfl⟩ := hcs
    have hmc : m = cap := by simpa using hmm
    subst hmc
    refine ⟨(List.range len).map Sx, by simp, fun y hy => ?_, hl, hm, fun hn => ?_, fun h => by cases h⟩
    · obtain ⟨i, hi, rfl⟩ := List.mem_map.1 hy
      exact (hcell i (by have := List.mem_range.1 hi; omega)).2
    · obtain ⟨b, o, s⟩ := x
      have hc := (hcell 0 (by omega)).1
      have hs : s = none := by simpa [Addr.add] using World.cell?_spot hc
      subst hs
      refine ⟨b, o, rfl, World.block_lt_of_cell? W _ hc, fun i t ht => ?_⟩
      rw [List.getElem?_map] at ht
      obtain ⟨j, hj, rfl⟩ := Option.map_eq_some_iff.1 ht
      have hi : i < len := by have := (List.getElem?_eq_some_iff.1 hj).1; simpa using this
      rw [List.getElem?_range hi] at hj
      injection hj with hj
      subst hj
      have h1 := (hcell i (by omega)).1
      rw [Addr.add_lit] at h1
      exact h1
end Go.Proofs.YtanifiobfbfehaaGreatDoor
