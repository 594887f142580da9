/- The table of the groups as the document's own code lays it: each group's names in memory of their own; what a group names. No condition. What a group names, how deep it is, and the document's own Members, Deep. No condition. What the document's own Put returns: a name more in a list that rises. Condition: the list lies below, of at most a thousand. A queue of names that one owns: read off the front, appended to behind; what Expand makes of a group, as a function. No condition. -/
import Derived.Test.YtbjhleajhkofeaaDoorWd
import Derived.Deep.AppendLies
import Derived.Deep.DrawnRows
import Derived.RegionTactic
import Derived.BigRegion
import Derived.Deep.DeepCutAuto
import Derived.Laws.Cover1
import Derived.Maps.AppendAt
import Derived.ArgAppend
namespace Go.Proofs.YtbjhleajhkofeaaDoor
open Go.RowKit
set_option linter.unusedVariables false
attribute [local go_sem ↓] Go.wp_at_zero Go.wp_at_succ

/-- A group: its name, what it names. -/
abbrev Gp := ByteArray × List ByteArray
def grpT : List Gp := [(⟨#[64, 98, 97, 115, 105, 99, 45, 105, 111]⟩, [⟨#[114, 101, 97, 100]⟩, ⟨#[119, 114, 105, 116, 101]⟩, ⟨#[99, 108, 111, 115, 101]⟩]), (⟨#[64, 99, 108, 111, 99, 107]⟩, [⟨#[99, 108, 111, 99, 107, 95, 115, 101, 116, 116, 105, 109, 101]⟩, ⟨#[115, 101, 116, 116, 105, 109, 101, 111, 102, 100, 97, 121]⟩]), (⟨#[64, 100, 101, 98, 117, 103]⟩, [⟨#[112, 116, 114, 97, 99, 101]⟩, ⟨#[112, 101, 114, 115, 111, 110, 97, 108, 105, 116, 121]⟩]), (⟨#[64, 102, 105, 108, 101]⟩, [⟨#[64, 98, 97, 115, 105, 99, 45, 105, 111]⟩, ⟨#[111, 112, 101, 110]⟩, ⟨#[111, 112, 101, 110, 97, 116]⟩, ⟨#[105, 111, 99, 116, 108]⟩]), (⟨#[64, 109, 101, 109, 111, 114, 121]⟩, [⟨#[98, 114, 107]⟩, ⟨#[109, 109, 97, 112]⟩, ⟨#[109, 112, 114, 111, 116, 101, 99, 116]⟩, ⟨#[109, 117, 110, 109, 97, 112]⟩, ⟨#[112, 107, 101, 121, 95, 109, 112, 114, 111, 116, 101, 99, 116]⟩, ⟨#[115, 104, 109, 97, 116]⟩]), (⟨#[64, 109, 111, 100, 117, 108, 101]⟩, [⟨#[100, 101, 108, 101, 116, 101, 95, 109, 111, 100, 117, 108, 101]⟩, ⟨#[102, 105, 110, 105, 116, 95, 109, 111, 100, 117, 108, 101]⟩, ⟨#[105, 110, 105, 116, 95, 109, 111, 100, 117, 108, 101]⟩]), (⟨#[64, 109, 111, 117, 110, 116]⟩, [⟨#[109, 111, 117, 110, 116]⟩, ⟨#[117, 109, 111, 117, 110, 116, 50]⟩]), (⟨#[64, 110, 101, 115, 116]⟩, [⟨#[64, 110, 101, 115, 116, 45, 50]⟩, ⟨#[107, 105, 108, 108]⟩]), (⟨#[64, 110, 101, 115, 116, 45, 50]⟩, [⟨#[64, 110, 101, 115, 116, 45, 51]⟩, ⟨#[103, 101, 116, 117, 105, 100]⟩]), (⟨#[64, 110, 101, 115, 116, 45, 51]⟩, [⟨#[64, 110, 101, 115, 116, 45, 52]⟩, ⟨#[115, 101, 116, 117, 105, 100]⟩]), (⟨#[64, 110, 101, 115, 116, 45, 52]⟩, [⟨#[64, 110, 101, 115, 116, 45, 53]⟩, ⟨#[101, 120, 105, 116]⟩]), (⟨#[64, 110, 101, 115, 116, 45, 53]⟩, [⟨#[114, 101, 97, 100]⟩]), (⟨#[64, 110, 101, 116, 119, 111, 114, 107]⟩, [⟨#[98, 105, 110, 100]⟩, ⟨#[99, 111, 110, 110, 101, 99, 116]⟩, ⟨#[108, 105, 115, 116, 101, 110]⟩, ⟨#[115, 111, 99, 107, 101, 116]⟩]), (⟨#[64, 112, 114, 105, 118, 105, 108, 101, 103, 101, 100]⟩, [⟨#[64, 99, 108, 111, 99, 107]⟩, ⟨#[64, 109, 111, 100, 117, 108, 101]⟩, ⟨#[64, 109, 111, 117, 110, 116]⟩, ⟨#[64, 114, 101, 98, 111, 111, 116]⟩, ⟨#[98, 112, 102]⟩, ⟨#[115, 101, 116, 117, 105, 100]⟩]), (⟨#[64, 112, 114, 111, 99, 101, 115, 115]⟩, [⟨#[99, 108, 111, 110, 101]⟩, ⟨#[99, 108, 111, 110, 101, 51]⟩, ⟨#[101, 120, 101, 99, 118, 101]⟩, ⟨#[101, 120, 105, 116]⟩, ⟨#[102, 111, 114, 107]⟩, ⟨#[107, 105, 108, 108]⟩, ⟨#[115, 101, 116, 110, 115]⟩, ⟨#[117, 110, 115, 104, 97, 114, 101]⟩]), (⟨#[64, 114, 101, 98, 111, 111, 116]⟩, [⟨#[114, 101, 98, 111, 111, 116]⟩]), (⟨#[64, 114, 101, 115, 111, 117, 114, 99, 101, 115]⟩, [⟨#[115, 99, 104, 101, 100, 95, 115, 101, 116, 97, 116, 116, 114]⟩, ⟨#[115, 99, 104, 101, 100, 95, 115, 101, 116, 115, 99, 104, 101, 100, 117, 108, 101, 114]⟩]), (⟨#[64, 115, 121, 115, 116, 101, 109]⟩, [⟨#[64, 102, 105, 108, 101]⟩, ⟨#[64, 109, 101, 109, 111, 114, 121]⟩, ⟨#[64, 110, 101, 116, 119, 111, 114, 107]⟩, ⟨#[64, 112, 114, 111, 99, 101, 115, 115]⟩, ⟨#[103, 101, 116, 117, 105, 100]⟩])]
def gD : Gp := (⟨#[]⟩, [])
def gN (j : Nat) : ByteArray := (grpT.getD j gD).1
def gL (j : Nat) : List ByteArray := (grpT.getD j gD).2
def gRow (j : Nat) : Array Value := ((gL j).map Value.string).toArray
/-- So many groups' lists lie in memory, one behind the other. -/
structure PG (w : World) (k : Nat) (W : World) : Prop where
  size : W.heap.size = w.heap.size + k
  below : Below w.heap.size w W
  rows : ∀ j, j < k → ∀ i s, (gL j)[i]? = some s → W.cell? ⟨w.heap.size + j, i, none⟩ = some (.string s)
theorem PG.zero (w : World) : PG w 0 w := ⟨rfl, Below.refl _ _, fun j hj => absurd hj (by omega)⟩
theorem PG.next {w W : World} {k : Nat} (h : PG w k W) (t : TypeId) : PG w (k + 1) (W.alloc (.cells (gRow k) t)) := by
  refine ⟨by rw [World.size_alloc, h.size]; omega, h.below.alloc h.below.size _, fun j hj i s hi => ?_⟩
  by_cases e : j = k
  · subst e
    rw [← h.size, cell_of_row _ _ i _ _ (0, 0) (heap_alloc_new W _)]
    unfold gRow
    rw [List.getElem?_toArray, List.getElem?_map, hi]; rfl
  · rw [World.cell?_alloc_lt W _ _ (by show w.heap.size + j < _; rw [h.size]; omega)]
    exact h.rows j (by omega) i s hi
/-- The table lies in memory: where its groups' lists lie. -/
structure GrpAt (w : World) (g B : Nat) : Prop where
  name : ∀ j, j < 18 → w.cell? ⟨g, j * 2, none⟩ = some (.string (gN j))
  row : ∀ j, j < 18 → w.cell? ⟨g, j * 2 + 1, none⟩ = some (.slice (some ⟨B + j, 0, none⟩) (gL j).length (gL j).length)
  has : ∀ j, j < 18 → ∀ i s, (gL j)[i]? = some s → w.cell? ⟨B + j, i, none⟩ = some (.string s)
  lt : g < w.heap.size ∧ B + 18 ≤ w.heap.size
theorem GrpAt.on {w w' : World} {g B : Nat} (h : GrpAt w g B) (hb : Below w.heap.size w w') : GrpAt w' g B :=
  ⟨fun j hj => (hb.cell (p := ⟨g, j * 2, none⟩) h.lt.1).trans (h.name j hj), fun j hj => (hb.cell (p := ⟨g, j * 2 + 1, none⟩) h.lt.1).trans (h.row j hj),
    fun j hj i s hi => (hb.cell (p := ⟨B + j, i, none⟩) (show B + j < _ by have := h.lt.2; omega)).trans (h.has j hj i s hi), by have := hb.size; have := h.lt; omega⟩
end Go.Proofs.YtbjhleajhkofeaaDoor
namespace Go.Proofs.YtbjhleajhkofeaaDoor
open Go.RowKit
set_option linter.unusedVariables false
set_option linter.unusedSimpArgs false
attribute [local go_sem ↓] Go.wp_at_zero Go.wp_at_succ

def memIn : List Gp → ByteArray → List ByteArray
  | [], _ => []
  | e :: r, s => if e.1 = s then e.2 else memIn r s
/-- What a group names. -/
def memR (s : ByteArray) : List ByteArray := memIn grpT s
/-- Names lie in memory, as a slice says it. -/
def StrsAt (w : World) (v : Value) (l : List ByteArray) : Prop := ∃ q c, v = .slice q l.length c ∧ ∀ k s, l[k]? = some s → ∃ g o, q = some ⟨g, o, none⟩ ∧ w.cell? ⟨g, o + k, none⟩ = some (.string s)
theorem StrsAt.on {w w' : World} {v : Value} {l : List ByteArray} (h : StrsAt w v l) (hb : Below w.heap.size w w') : StrsAt w' v l := by
  obtain ⟨q, c, rfl, hr⟩ := h
  refine ⟨q, c, rfl, fun k s hk => ?_⟩
  obtain ⟨g, o, rfl, hc⟩ := hr k s hk
  exact ⟨g, o, rfl, (hb.cell (World.block_lt_of_cell? w _ hc)).trans hc⟩
theorem StrsAt.nil (w : World) : StrsAt w (.slice none 0 0) [] := ⟨none, 0, rfl, fun k s h => by simp at h⟩
theorem StrsAt.form {w : World} {v : Value} {l : List ByteArray} (h : StrsAt w v l) (h0 : 0 < l.length) : ∃ g o c, v = .slice (some ⟨g, o, none⟩) l.length c ∧ ∀ k s, l[k]? = some s → w.cell? ⟨g, o + k, none⟩ = some (.string s) := by
  obtain ⟨q, c, rfl, hr⟩ := h
  obtain ⟨g, o, rfl, _⟩ := hr 0 l[0] (List.getElem?_eq_getElem h0)
  refine ⟨g, o, c, rfl, fun k s hk => ?_⟩
  obtain ⟨g', o', e, hc⟩ := hr k s hk
  cases e
  exact hc
def upD (f : ByteArray → Nat) (n : Nat) (t : ByteArray) : Nat := if n < f t + 1 then f t + 1 else n
def deepF : Nat → ByteArray → Nat
  | 0, _ => 0
  | k + 1, s => (memR s).foldl (upD (deepF k)) 0
/-- How deep a group is. -/
def deepR (s : ByteArray) : Nat := deepF 6 s
def deepTo (l : List ByteArray) (k : Nat) : Nat := (l.take k).foldl (upD deepR) 0
end Go.Proofs.YtbjhleajhkofeaaDoor
namespace Go.Proofs.YtbjhleajhkofeaaDoor
open Go.RowKit
set_option linter.unusedVariables false
set_option linter.unusedSimpArgs false
attribute [local go_sem ↓] Go.wp_at_zero Go.wp_at_succ

def sG (l : List ByteArray) : List Value := l.map Value.string
theorem sG_get {l : List ByteArray} {k : Nat} {s : ByteArray} (h : l[k]? = some s) : (sG l)[k]? = some (.string s) := by
  unfold sG; rw [List.getElem?_map, h]; rfl
theorem news_g (w : World) (x : ByteArray) (t : TypeId) : ∀ j u, (sG [x])[j]? = some u → (w.alloc (.cells #[.string x] t)).cell? ((⟨w.heap.size, 0, none⟩ : Addr).add j) = some u := fun j u hu => by
  rw [Addr.add_lit, Nat.zero_add, cell_of_row _ _ j _ _ (0, 0) (heap_alloc_new w _), ← Array.getElem?_toList]
  exact hu
def ltB (a b : ByteArray) : Bool := Go.Op.bytesLess a.toList b.toList
def leB (a b : ByteArray) : Bool := ltB a b || a.toList == b.toList
/-- A name more in a list that rises, once: as far as so many elements; in all. -/
def putTo (l : List ByteArray) (s : ByteArray) : Nat → Bool × List ByteArray
  | 0 => (false, [])
  | k + 1 =>
    let p := putTo l s k
    let t := l.getD k ⟨#[]⟩
    if p.1 = false ∧ leB s t = true then (true, (if ltB s t = true then p.2 ++ [s] else p.2) ++ [t]) else (p.1, p.2 ++ [t])
def putR (l : List ByteArray) (s : ByteArray) : List ByteArray := if (putTo l s l.length).1 = true then (putTo l s l.length).2 else (putTo l s l.length).2 ++ [s]
end Go.Proofs.YtbjhleajhkofeaaDoor
namespace Go.Proofs.YtbjhleajhkofeaaDoor
open Go.RowKit
set_option linter.unusedVariables false
set_option linter.unusedSimpArgs false

/-- A queue: names in a block of one's own, room behind them. -/
def QAt (B : Nat) (w : World) (v : Value) (l : List ByteArray) : Prop := ∃ g o c, v = .slice (some ⟨g, o, none⟩) l.length c ∧ B ≤ g ∧ g < w.heap.size ∧ l.length ≤ c ∧ c ≤ maxLen ∧
  (∀ k s, l[k]? = some s → w.cell? ⟨g, o + k, none⟩ = some (.string s)) ∧
  (∀ j, j < c - l.length → (w.cell? ⟨g, o + l.length + j, none⟩).isSome = true ∧ w.frozen? ⟨g, o + l.length + j, none⟩ = false)
theorem QAt.kept {B : Nat} {w w' : World} {v : Value} {l : List ByteArray} (h : QAt B w v l) (hs : w.heap.size ≤ w'.heap.size) (hb : ∀ g, v.ownBlock = some g → w'.heap[g]? = w.heap[g]?) : QAt B w' v l := by
  obtain ⟨g, o, c, rfl, h1, h2, h3, h4, h5, h6⟩ := h
  have hg := hb g rfl
  refine ⟨g, o, c, rfl, h1, Nat.lt_of_lt_of_le h2 hs, h3, h4, fun k s hk => ?_, fun j hj => ?_⟩
  · exact (World.cell?_of_block (a := ⟨g, o + k, none⟩) hg).trans (h5 k s hk)
  · rw [World.cell?_of_block (a := ⟨g, o + l.length + j, none⟩) hg, World.frozen?_of_block (a := ⟨g, o + l.length + j, none⟩) hg]
    exact h6 j hj
theorem QAt.lt {B : Nat} {w : World} {v : Value} {l : List ByteArray} (h : QAt B w v l) : ∀ g, v.ownBlock = some g → B ≤ g ∧ g < w.heap.size := by
  obtain ⟨g, o, c, rfl, h1, h2, _⟩ := h
  intro g' e
  have := Option.some.inj e
  subst this
  exact ⟨h1, h2⟩
theorem QAt.on {B : Nat} {w w' : World} {v : Value} {l : List ByteArray} (h : QAt B w v l) (hb : Below w.heap.size w w') : QAt B w' v l :=
  h.kept hb.size fun g hg => hb.block g (h.lt g hg).2
theorem QAt.own {B : Nat} {w : World} {v : Value} {l : List ByteArray} {t : TypeId} {n : Nat} (h : w.ownsRow B t 1 v n (sG l)) (hn : n = l.length) (h0 : 0 < n) : QAt B w v l := by
  subst hn
  rcases h.2 with ⟨_, h0'⟩ | ⟨g, cap, cur, rfl, hgB, hg, hc, hm, hs, ht⟩
  · omega
  · refine ⟨g, 0, cap, rfl, hgB, (Array.getElem?_eq_some_iff.1 hg).1, hc, hm, fun k s hk => ?_, fun j hj => ?_⟩
    · have hl : k < l.length := (List.getElem?_eq_some_iff.1 hk).1
      rw [Nat.zero_add, h.cellAt k (by omega)]
      exact sG_get hk
    · rw [Nat.zero_add, cell_of_row w g _ cur t (0, 0) hg]
      refine ⟨?_, h.frozenAt _⟩
      rw [Array.getElem?_eq_getElem (by omega)]; rfl
/-- One name of a group: a call goes into the list, a group behind the queue. -/
def inE (p : List ByteArray × List ByteArray) (t : ByteArray) : List ByteArray × List ByteArray := if memR t = [] then (p.1, putR p.2 t) else (p.1 ++ [t], p.2)
def stepE : List ByteArray × List ByteArray → List ByteArray × List ByteArray
  | ([], o) => ([], o)
  | (x :: r, o) => (memR x).foldl inE (r, o)
def iterE (s : ByteArray) : Nat → List ByteArray × List ByteArray
  | 0 => ([s], [])
  | k + 1 => stepE (iterE s k)
/-- A round as far as so many names. -/
def midE (r o M : List ByteArray) (k : Nat) : List ByteArray × List ByteArray := (M.take k).foldl inE (r, o)
end Go.Proofs.YtbjhleajhkofeaaDoor
