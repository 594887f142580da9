/- How an argument of a statement is opened: slices of bytes in a slice that came in, as a list of lists of bytes. Condition: what was read takes no more bytes than the form's reach. -/
import Derived.Test.YtegbagbcbnloaaaFr
import Derived.Deep.Matrix
import Derived.SizedLaws
namespace Go.Proofs.Ytegbagbcbnloaaa
open Go.ChangeShapes Go.WideShapes Go.ChangeAt Go.RowKit
set_option linter.unusedVariables false

/-- What is known of a slice of slices of bytes that came in. -/
structure IsLists (w : World) (a : Option Addr) (len cap : Nat) (z : List (List Int)) : Prop where
  size : z.length = len
  byt : ∀ i, Byt (z.getD i [])
  small : ∀ i, (z.getD i []).length ≤ 140737488351232
  fits : len ≤ cap
  most : cap ≤ maxLen
  rd : RdL w w.heap.size a z
theorem bytes1 : Try.prog.bytesOf 5 = 1 := by kernel_rfl
theorem weights_all {H : Type} {P : Program} {e : TypeId} : ∀ {ds : List (DataW H)} {d : DataW H}, d ∈ ds → ∀ n ∈ d.weights P e, n ∈ DataW.weightsAll P e ds
  | d0 :: r, d, h, n, hn => by
    simp only [DataW.weightsAll, List.mem_append]
    rcases List.mem_cons.1 h with rfl | h
    · exact Or.inl hn
    · exact Or.inr (weights_all h n hn)
theorem lists_open {H : Type} {enc : TypeId × Value → H} {W : World} {a : Option Addr} {len cap : Nat} {d : DataW H} {p : List MemPlace}
    (h : DataW.Trod enc Try.prog W 0 (fun _ => true) true 43 (.slice a len cap) d p) (lt : ∀ x ∈ p, x.block < W.heap.size) (hsz : ∀ n ∈ d.weights Try.prog 43, n ≤ reachBytes) : ∃ z, IsLists W a len cap z := by
  obtain ⟨fuel, hf⟩ := h
  rcases Go.Deep.open_int_rows Try.underlying43 Try.underlying22 Try.underlying5 (by kernel_rfl) (by kernel_rfl) hf with ⟨hcs, _⟩ | ⟨x, l, c, A, L, C, Z, hcs, _, hl, hm, hx, hcell⟩
  · simp [Value.cells] at hcs
    obtain ⟨rfl, rfl, rfl⟩ := hcs
    exact ⟨[], rfl, fun i => by simpa using Byt.nil, fun i => by simp, Nat.le_refl _, by unfold maxLen; omega, fun h => absurd h (by simp)⟩
  · simp [Value.cells] at hcs
    obtain ⟨rfl, rfl, rfl⟩ := hcs
    simp only [Prod.mk.injEq] at hx
    have hd := hx.1
    have hget : ∀ i, i < len → ((List.range len).map fun r => (Z r).take (L r)).getD i [] = (Z i).take (L i) := fun i hi => by
      simp [List.getD_eq_getElem?_getD, hi]
    have hout : ∀ i, ¬ i < len → ((List.range len).map fun r => (Z r).take (L r)).getD i [] = [] := fun i hi => by
      rw [List.getD_eq_getElem?_getD, List.getElem?_eq_none (by simp; omega)]; rfl
    have hlen : ∀ i, i < len → ((Z i).take (L i)).length = L i := fun i hi => by
      obtain ⟨_, h2, _, h4, _⟩ := hcell i (by omega)
      rw [List.length_take, h4]; omega
    refine ⟨(List.range len).map fun r => (Z r).take (L r), by simp, fun i => ?_, fun i => ?_, hl, hm, fun hn => ?_⟩
    · by_cases hi : i < len
      · rw [hget i hi]
        obtain ⟨_, _, _, _, h5, _⟩ := hcell i (by omega)
        exact fun y hy => by have := bounds_u8 (h5 y (List.mem_of_mem_take hy)); omega
      · rw [hout i hi]; exact Byt.nil
    · by_cases hi : i < len
      · rw [hget i hi, hlen i hi]
        obtain ⟨_, h2, _, h4, _, h6, _⟩ := hcell i (by omega)
        rcases hA : A i with _ | a'
        · have := h6 hA; omega
        · have hmem : Go.Deep.intRow (H := H) .u8 (A i) (L i) (Z i) ∈ (List.range len).map fun r => Go.Deep.intRow (H := H) .u8 (A r) (L r) (Z r) := List.mem_map.2 ⟨i, List.mem_range.2 hi, rfl⟩
          have hw : (Z i).length ∈ (Go.Deep.intRow (H := H) .u8 (A i) (L i) (Z i)).weights Try.prog 22 := by
            rw [hA]
            simp only [Go.Deep.intRow, DataW.weights, Try.underlying22, bytes1, List.mem_cons]
            left
            simp [lits]
            omega
          have := hsz (Z i).length (by
            rw [hd]
            simp only [DataW.weights, Try.underlying43, List.mem_cons, List.mem_append]
            exact Or.inr (Or.inl (weights_all hmem _ hw)))
          have e : reachBytes = 140737488351232 := rfl
          omega
      · rw [hout i hi]; simp
    · have hn : 0 < len := by simpa using hn
      obtain ⟨b, o, s⟩ := x
      have hc := (hcell 0 (by omega)).1
      have hs : s = none := by simpa [Addr.add] using World.cell?_spot hc
      subst hs
      refine ⟨b, o, rfl, World.block_lt_of_cell? W _ hc, fun i hi => ?_⟩
      have hi : i < len := by simpa using hi
      obtain ⟨h1, h2, h3, h4, h5, h6, h7⟩ := hcell i (by omega)
      rw [Addr.add_lit] at h1
      rw [hget i hi, hlen i hi]
      refine ⟨A i, C i, h1, fun hp => ?_, h6⟩
      rw [hlen i hi] at hp ⊢
      rcases hA : A i with _ | a'
      · have := h6 hA; omega
      · obtain ⟨_, h8⟩ := h7 a' hA
        obtain ⟨b', o', s'⟩ := a'
        have hc' := h8 0 (by omega)
        have hs' : s' = none := by simpa [Addr.add] using World.cell?_spot hc'
        subst hs'
        refine ⟨b', o', rfl, World.block_lt_of_cell? W _ hc', fun j hj => ?_⟩
        have := h8 j (by omega)
        rw [Addr.add_lit] at this
        rw [this]
        simp [List.getD_eq_getElem?_getD, hj]
end Go.Proofs.Ytegbagbcbnloaaa
