/- Calls of the package words one behind the other, each in the world that the one ahead of it left: the bytes of numbers, two lists as one. Condition: the lengths together are at most 2 to the 46th. -/
import Derived.Test.YtfmfjnnbldmdlaaDoorWg
namespace Go.Proofs.YtfmfjnnbldmdlaaDoor
open Go.RowKit
set_option linter.unusedVariables false

/-- What was read is read behind a call that makes new memory alone. -/
theorem Rd.on {w w' : World} {p : Option Addr} {xs : List Int} (h : Rd w w.heap.size p xs) (hb : Below w.heap.size w w') : Rd w' w'.heap.size p xs := (h.below hb (Nat.le_refl _)).more hb.size
theorem Rd.upon {w w' : World} {p : Option Addr} {xs : List Int} (h : Rd w w.heap.size p xs) (hb : Below w.heap.size w w') : Rd w' w.heap.size p xs := h.below hb (Nat.le_refl _)
theorem thn {w0 w w' : World} (h : Below w0.heap.size w0 w) (k : Below w.heap.size w w') : Below w0.heap.size w0 w' := h.trans (k.mono h.size)
/-- Two slices that the text writes out as a slice of slices. -/
theorem RdL.two {w : World} {p q : Option Addr} {n m c d : Nat} {xs ys : List Int} (e : TypeId) (h1 : Rd w w.heap.size p xs) (h2 : Rd w w.heap.size q ys) (hx : xs.length = n) (hy : ys.length = m) (hp : p = none → c = 0) (hq : q = none → d = 0) :
    RdL (w.alloc (.cells #[.slice p n c, .slice q m d] e)) (w.heap.size + 1) (some ⟨w.heap.size, 0, none⟩) [xs, ys] := fun _ => by
  subst hx hy
  refine ⟨_, 0, rfl, by omega, fun i hi => ?_⟩
  rw [Nat.zero_add, cell_of_row (w.alloc (.cells #[.slice p xs.length c, .slice q ys.length d] e)) w.heap.size i _ e (0, 0) (heap_alloc_new w _)]
  match i, hi with
  | 0, _ => exact ⟨p, c, rfl, (h1.alloc (Nat.le_refl _) _).more (by omega), hp⟩
  | 1, _ => exact ⟨q, d, rfl, (h2.alloc (Nat.le_refl _) _).more (by omega), hq⟩
/-- A row of bytes that the call owns, whatever they are. -/
def Mine (w : World) (B g n : Nat) : Prop := ∃ l : List Int, w.ownsRow B 5 1 (.slice (some ⟨g, 0, none⟩) n n) n (bv l)
theorem own_block {w w' : World} {B g n c : Nat} {e : TypeId} {xs : List Value} (h : w.ownsRow B e 1 (.slice (some ⟨g, 0, none⟩) n c) n xs) (hk : w'.heap[g]? = w.heap[g]?) : w'.ownsRow B e 1 (.slice (some ⟨g, 0, none⟩) n c) n xs := by
  obtain ⟨h1, h2⟩ := h
  refine ⟨h1, ?_⟩
  rcases h2 with ⟨h', _⟩ | ⟨g', cap, cur, hv, hg, hh, r⟩
  · simp at h'
  · refine Or.inr ⟨g', cap, cur, hv, hg, ?_, r⟩
    simp only [Value.slice.injEq, Option.some.injEq, Addr.mk.injEq, and_true, true_and] at hv
    obtain ⟨rfl, _⟩ := hv
    rw [hk]; exact hh
theorem Mine.lt {w : World} {B g n : Nat} (h : Mine w B g n) : B ≤ g ∧ g < w.heap.size := by obtain ⟨l, h⟩ := h; exact h.lt g rfl
theorem Mine.on {w w' : World} {B g n : Nat} (h : Mine w B g n) (hb : Below w.heap.size w w') : Mine w' B g n := by
  have hl := h.lt.2
  obtain ⟨l, h⟩ := h
  exact ⟨l, own_block h (hb.block g hl)⟩
theorem Mine.far {w : World} {B g n h : Nat} (m : Mine w B g n) (hne : g ≠ h) (j : Nat) (u : Value) : Mine (w.setCell ⟨h, j, none⟩ u) B g n := by
  obtain ⟨l, m⟩ := m
  exact ⟨l, own_block m (Below.heap_setCell _ _ _ _ hne)⟩
theorem Mine.cell {w : World} {B g n j : Nat} (m : Mine w B g n) (hj : j < n) : (∃ v, w.cell? ⟨g, j, none⟩ = some (.int .u8 v)) ∧ w.frozen? ⟨g, j, none⟩ = false := by
  obtain ⟨l, m⟩ := m
  refine ⟨?_, m.frozenAt j⟩
  have hl : l.length = n := by have := m.1; rw [bv_length] at this; omega
  rw [m.cellAt j (by omega)]
  exact ⟨_, bv_get (by omega)⟩
theorem Mine.set_ {w : World} {B g n : Nat} (m : Mine w B g n) (j : Nat) (u : Int) : Mine (w.setCell ⟨g, j, none⟩ (.int .u8 u)) B g n := by
  obtain ⟨l, m⟩ := m
  have := (m.stored j (.int .u8 u)).1
  rw [bv_set] at this
  exact ⟨_, this⟩
end Go.Proofs.YtfmfjnnbldmdlaaDoor
