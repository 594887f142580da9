/- The codes that are known, their names and classes, as the document's own table has them: what its All returns. No condition. -/
import Derived.Test.YtekmbhjdacaphaaIc
namespace Go.Proofs.Ytekmbhjdacaphaa
open Go.RowKit
set_option linter.unusedVariables false

/-- A code, its name, its class. -/
structure One where
  code : Int
  name : ByteArray
  cls : Int
def oneC (o : One) : List Value := [.int .u16 o.code, .string o.name, .int .u8 o.cls]
def onesC (l : List One) : List Value := l.flatMap oneC
def baseL : List One := [⟨32, ⟨#[108, 100, 97, 98, 115]⟩, 1⟩, ⟨128, ⟨#[108, 100, 108, 101, 110]⟩, 1⟩, ⟨0, ⟨#[108, 100, 105]⟩, 1⟩, ⟨96, ⟨#[108, 100, 109]⟩, 1⟩, ⟨129, ⟨#[108, 100, 120, 108, 101, 110]⟩, 1⟩, ⟨1, ⟨#[108, 100, 120, 105]⟩, 1⟩, ⟨97, ⟨#[108, 100, 120, 109]⟩, 1⟩, ⟨2, ⟨#[115, 116]⟩, 2⟩, ⟨3, ⟨#[115, 116, 120]⟩, 2⟩, ⟨132, ⟨#[110, 101, 103]⟩, 3⟩, ⟨5, ⟨#[106, 97]⟩, 4⟩, ⟨6, ⟨#[114, 101, 116]⟩, 5⟩, ⟨22, ⟨#[114, 101, 116, 97]⟩, 5⟩, ⟨7, ⟨#[116, 97, 120]⟩, 6⟩, ⟨135, ⟨#[116, 120, 97]⟩, 6⟩]
def numS : List ByteArray := [⟨#[97, 100, 100]⟩, ⟨#[115, 117, 98]⟩, ⟨#[109, 117, 108]⟩, ⟨#[100, 105, 118]⟩, ⟨#[111, 114]⟩, ⟨#[97, 110, 100]⟩, ⟨#[108, 115, 104]⟩, ⟨#[114, 115, 104]⟩]
def jmpS : List ByteArray := [⟨#[106, 101, 113]⟩, ⟨#[106, 103, 116]⟩, ⟨#[106, 103, 101]⟩, ⟨#[106, 115, 101, 116]⟩]
def xS : ByteArray := ⟨#[120]⟩
def numP (k : Nat) : List One := (List.range k).flatMap fun (j : Nat) => [⟨16 * (j : Int) + 4, numS.getD j ByteArray.empty, 3⟩, ⟨16 * (j : Int) + 12, numS.getD j ByteArray.empty ++ xS, 3⟩]
def jmpP (k : Nat) : List One := (List.range k).flatMap fun (j : Nat) => [⟨16 * (j : Int) + 21, jmpS.getD j ByteArray.empty, 4⟩, ⟨16 * (j : Int) + 29, jmpS.getD j ByteArray.empty ++ xS, 4⟩]
def xorL : List One := [⟨164, ⟨#[120, 111, 114]⟩, 3⟩, ⟨172, ⟨#[120, 111, 114, 120]⟩, 3⟩]
def allL : List One := baseL ++ numP 8 ++ xorL ++ jmpP 4
theorem numP_succ (k : Nat) : numP (k + 1) = numP k ++ [⟨16 * (k : Int) + 4, numS.getD k ByteArray.empty, 3⟩, ⟨16 * (k : Int) + 12, numS.getD k ByteArray.empty ++ xS, 3⟩] := by
  unfold numP; rw [List.range_succ, List.flatMap_append]; simp
theorem jmpP_succ (k : Nat) : jmpP (k + 1) = jmpP k ++ [⟨16 * (k : Int) + 21, jmpS.getD k ByteArray.empty, 4⟩, ⟨16 * (k : Int) + 29, jmpS.getD k ByteArray.empty ++ xS, 4⟩] := by
  unfold jmpP; rw [List.range_succ, List.flatMap_append]; simp
theorem onesC_app (l m : List One) : onesC (l ++ m) = onesC l ++ onesC m := List.flatMap_append
theorem onesC_two (l m : List One) (a b : One) : onesC (l ++ (m ++ [a, b])) = onesC (l ++ m) ++ oneC a ++ oneC b := by
  rw [← List.append_assoc, onesC_app, List.append_assoc (onesC (l ++ m))]
  congr 1
theorem oneC_one (o : One) : ∀ v ∈ oneC o, v.oneCell' = true := by
  intro v hi
  simp only [oneC, List.mem_cons, List.not_mem_nil, or_false] at hi
  rcases hi with rfl | rfl | rfl <;> rfl
theorem onesC_length : ∀ (l : List One), (onesC l).length = l.length * 3
  | [] => rfl
  | i :: r => by
    have := onesC_length r
    show (oneC i ++ onesC r).length = _
    rw [List.length_append, this, List.length_cons]
    show 3 + r.length * 3 = _
    omega
theorem numP_length : ∀ (k : Nat), (numP k).length = 2 * k
  | 0 => rfl
  | k + 1 => by rw [numP_succ, List.length_append, numP_length k]; simp; omega
theorem jmpP_length : ∀ (k : Nat), (jmpP k).length = 2 * k
  | 0 => rfl
  | k + 1 => by rw [jmpP_succ, List.length_append, jmpP_length k]; simp; omega
/-- An owned row and a block of another element type are two blocks. -/
theorem own_ne {w : World} {B n size g : Nat} {e t : TypeId} {v : Value} {xs : List Value} {cs : Array Value} (h : w.ownsRow B e size v n xs) (hb : w.heap[g]? = some (.cells cs t (0, 0))) (hne : e ≠ t) : v.ownBlock ≠ some g := by
  rcases h.2 with ⟨rfl, _⟩ | ⟨g', cap, cur, rfl, _, hh, _⟩
  · intro he; cases he
  · intro he
    injection he with he
    have he : g' = g := he
    subst he
    rw [hh] at hb
    injection hb with hb
    injection hb with _ hb
    exact hne hb
theorem own_some {w : World} {B n size : Nat} {e : TypeId} {v : Value} {xs : List Value} (h : w.ownsRow B e size v n xs) (hn : 0 < n) : ∃ g c, v = .slice (some ⟨g, 0, none⟩) n c := by
  rcases h.2 with ⟨_, h0⟩ | ⟨g, cap, cur, rfl, _⟩
  · omega
  · exact ⟨g, cap, rfl⟩
theorem blk_alloc {w : World} {g : Nat} {o o' : Obj} (h : w.heap[g]? = some o) : (w.alloc o').heap[g]? = some o := by
  have hl : g < w.heap.size := by
    rcases Nat.lt_or_ge g w.heap.size with hlt | hge
    · exact hlt
    · rw [Array.getElem?_eq_none hge] at h; cases h
  rw [Below.heap_alloc w o' g hl]; exact h
theorem blk_grown {w w' : World} {g : Nat} {o : Obj} {row : Option Nat} (h : w.heap[g]? = some o) (hg : w.grownBy w' row) (hne : row ≠ some g) : w'.heap[g]? = some o := by
  have hl : g < w.heap.size := by
    rcases Nat.lt_or_ge g w.heap.size with hlt | hge
    · exact hlt
    · rw [Array.getElem?_eq_none hge] at h; cases h
  rw [hg.block g hl (fun e => hne e.symm)]; exact h
theorem numS_cell {w : World} {g k : Nat} (h : w.heap[g]? = some (.cells (numS.map Value.string).toArray 9 (0, 0))) (hk : k < 8) : w.cell? ⟨g, k, none⟩ = some (.string (numS.getD k ByteArray.empty)) := by
  rw [cell_of_row w g k _ _ (0, 0) h, List.getElem?_toArray, List.getElem?_map, List.getD_eq_getElem?_getD, List.getElem?_eq_getElem (show k < numS.length from hk)]; rfl
theorem jmpS_cell {w : World} {g k : Nat} (h : w.heap[g]? = some (.cells (jmpS.map Value.string).toArray 9 (0, 0))) (hk : k < 4) : w.cell? ⟨g, k, none⟩ = some (.string (jmpS.getD k ByteArray.empty)) := by
  rw [cell_of_row w g k _ _ (0, 0) h, List.getElem?_toArray, List.getElem?_map, List.getD_eq_getElem?_getD, List.getElem?_eq_getElem (show k < jmpS.length from hk)]; rfl
theorem numS_size (k : Nat) : (numS.getD k ByteArray.empty).size ≤ 5 := by
  match k with
  | 0 | 1 | 2 | 3 | 4 | 5 | 6 | 7 => decide
  | k + 8 => rw [List.getD_eq_getElem?_getD, List.getElem?_eq_none (by show 8 ≤ k + 8; omega)]; decide
theorem jmpS_size (k : Nat) : (jmpS.getD k ByteArray.empty).size ≤ 5 := by
  match k with
  | 0 | 1 | 2 | 3 => decide
  | k + 4 => rw [List.getD_eq_getElem?_getD, List.getElem?_eq_none (by show 4 ≤ k + 4; omega)]; decide
end Go.Proofs.Ytekmbhjdacaphaa
