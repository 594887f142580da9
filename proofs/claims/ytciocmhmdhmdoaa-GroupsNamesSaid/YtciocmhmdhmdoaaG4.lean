/- The library's slices.Sort and slices.Compact at []string, by their contracts, over rows of the program's own. No condition. -/
import Derived.Test.YtciocmhmdhmdoaaGf
import Derived.Test.YtciocmhmdhmdoaaHc
import Derived.Sort.Grow
import Derived.Sort.EncStr
import Derived.Lib.SlicesCompact
import Derived.Lib.RowBridge
import Derived.Sort.KeysCollected
namespace Go.Proofs.Ytciocmhmdhmdoaa
open Go.RowKit Go.Sort
set_option linter.unusedVariables false

def bL (x : ByteArray) : List UInt8 := x.data.toList
theorem enc_bL (x : ByteArray) : encStr (bL x) = .string x := by
  show Value.string ⟨x.data.toList.toArray⟩ = .string x
  rw [Array.toArray_toList]
theorem holds_own {V : World} {B g cap : Nat} {L : List ByteArray} (h : V.ownsRow B 9 1 (.slice (some ⟨g, 0, none⟩) L.length cap) L.length (sG L)) : Holds encStr V g 0 (L.map bL).toArray := fun j hj => by
  have hj2 : j < L.length := by simpa using hj
  rw [Nat.zero_add]
  refine ⟨(h.cellAt j (by omega)).trans ?_, h.frozenAt j⟩
  rw [getElem!_pos _ j hj, List.getElem_toArray, List.getElem_map, enc_bL]
  exact sG_get (List.getElem?_eq_getElem hj2)
theorem below_put (W : World) (B g q : Nat) (d : Array (List UInt8)) (os : Array Obj) (hg : B ≤ g) (hW : B ≤ W.heap.size) : RowKit.Below B W (grow (putRow encStr (Sort.ahead W q) g 0 d) os) :=
  ⟨rfl, rfl, rfl, by rw [size_grow, size_putRow, heap_ahead]; omega, fun k hk => by
    rw [heap_grow_old _ _ (by rw [size_putRow, heap_ahead]; omega)]
    unfold putRow mapBlock
    rw [Array.getElem?_modify, if_neg (by omega)]; rfl⟩
def leS : List UInt8 → List UInt8 → Bool := fun x y => decide (x ≤ y)
theorem sort_S (V : World) (B g cap n : Nat) (L : List ByteArray) (hn : n = L.length) (h : V.ownsRow B 9 1 (.slice (some ⟨g, 0, none⟩) n cap) n (sG L)) (hl : n ≤ 1000000) (hB : B ≤ V.heap.size) :
    Calls Try.prog 23 #[.slice (some ⟨g, 0, none⟩) n cap] V fun e w' => e = .returned (.tuple #[]) ∧ Holds encStr w' g 0 ((L.map bL).mergeSort leS).toArray ∧ g < w'.heap.size ∧ RowKit.Below B V w' := by
  subst hn
  have hlt := h.lt g rfl
  have hH := holds_own h
  have hc := Try.slices_Sort_string g 0 cap (L.map bL) V hH hlt.2 (by rw [List.length_map]; omega)
  rw [List.length_map] at hc
  refine hc.mono ?_
  rintro e w' ⟨rfl, q, os, rfl⟩
  have hsz : (List.mergeSort (L.map bL) fun x y => decide (x ≤ y)).toArray.size = (L.map bL).toArray.size := by
    rw [List.size_toArray, List.size_toArray, List.length_mergeSort]
  refine ⟨rfl, holds_grow _ _ _ _ _ _ (by rw [size_putRow, heap_ahead]; exact hlt.2) (holds_putRow _ _ _ _ _ _ (holds_ahead _ _ _ _ _ _ hH) hsz), ?_, below_put V B g q _ os hlt.1 hB⟩
  rw [size_grow, size_putRow, heap_ahead]; omega
theorem comp_S (V : World) (B g cap n : Nat) (zs : List (List UInt8)) (hn : n = zs.length) (hH : Holds encStr V g 0 zs.toArray) (hg : B ≤ g) (hV : g < V.heap.size) (hcap : n ≤ cap) (hl : n ≤ 1000000) :
    Calls Try.prog 24 #[.slice (some ⟨g, 0, none⟩) n cap] V fun e w' => e = .returned (.slice (some ⟨g, 0, none⟩) (Lib.compact zs).length cap) ∧ (∀ k s, (Lib.compact zs)[k]? = some s → w'.cell? ⟨g, 0 + k, none⟩ = some (encStr s)) ∧ RowKit.Below B V w' := by
  subst hn
  refine (Try.slices_Compact_string g 0 cap zs V hH (by omega) hcap).mono ?_
  rintro e w' ⟨rfl, q, rfl⟩
  have hle := Lib.compact_length_le zs
  refine ⟨rfl, fun k s hk => ?_, by have := below_put V B g q (Lib.compact zs ++ List.replicate (zs.length - (Lib.compact zs).length) []).toArray #[] hg (by omega); rw [grow_empty] at this; exact this⟩
  have hk2 := (List.getElem?_eq_some_iff.1 hk).1
  have hs : (Lib.compact zs ++ List.replicate (zs.length - (Lib.compact zs).length) []).toArray.size = zs.toArray.size := by simp; omega
  have := (holds_putRow encStr (Sort.ahead V q) g 0 zs.toArray (Lib.compact zs ++ List.replicate (zs.length - (Lib.compact zs).length) []).toArray (holds_ahead _ _ _ _ _ _ hH) hs k (by rw [hs, List.size_toArray]; omega)).1
  rw [this]
  congr 1
  congr 1
  rw [getElem!_pos _ k (by rw [hs, List.size_toArray]; omega), List.getElem_toArray, List.getElem_append_left hk2]
  exact Option.some.inj ((List.getElem?_eq_getElem hk2).symm.trans hk)
/-- A list, sorted by insertion: to be decided with. -/
def insS (x : List UInt8) : List (List UInt8) → List (List UInt8)
  | [] => [x]
  | y :: r => if leS x y = true then x :: y :: r else y :: insS x r
def isortS : List (List UInt8) → List (List UInt8)
  | [] => []
  | x :: r => insS x (isortS r)
theorem insS_perm (x : List UInt8) : ∀ l, (insS x l).Perm (x :: l)
  | [] => List.Perm.refl _
  | y :: r => by
    unfold insS
    split
    · exact List.Perm.refl _
    · exact ((insS_perm x r).cons y).trans (List.Perm.swap x y r)
theorem isortS_perm : ∀ l, (isortS l).Perm l
  | [] => List.Perm.refl _
  | x :: r => (insS_perm x (isortS r)).trans ((isortS_perm r).cons x)
theorem sorted_S {l : List (List UInt8)} (h : (isortS l).Pairwise fun a b => leS a b = true) : l.mergeSort leS = isortS l := by
  have h1 : (isortS l).mergeSort leS = l.mergeSort leS := mergeSort_of_perm (isortS_perm l)
  rw [← h1]
  exact List.mergeSort_of_pairwise h
end Go.Proofs.Ytciocmhmdhmdoaa
