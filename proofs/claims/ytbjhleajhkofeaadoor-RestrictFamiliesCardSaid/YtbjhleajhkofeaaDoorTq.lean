/- What the document's own Step returns, of any list; what its Fold returns. Conditions: a list of at most a million calls that can be read; values of at most 1,000 bytes, at most 100. A list of calls that came in. No condition. -/
import Derived.Test.YtbjhleajhkofeaaDoorTn
import Derived.Maps.AppendAt
import Derived.Test.YtbjhleajhkofeaaDoorTj
import Derived.Deep.Slices
import Derived.Deep.Fields
import Derived.ChangeSame
import Derived.Lib.SmallJoins
namespace Go.Proofs.YtbjhleajhkofeaaDoor
open Go.RowKit
set_option linter.unusedVariables false
set_option linter.unusedSimpArgs false
attribute [local go_sem ↓] Go.wp_at_zero Go.wp_at_succ

section
variable {P : Program} {w : World}
end
/-- Strings that can be read. -/
abbrev FoldL (w w' : World) (e : Ending) (r : (Nat × List Cl) × List (Int × ByteArray)) : Prop := ∃ q n c vN, e = .returned (.tuple #[lsV r.1.1 q n c, vN]) ∧ n = r.1.2.length ∧ (r.1.2 = [] ∨ w'.ownsRow w.heap.size 82 2 (.slice q n c) n (rowC encC r.1.2)) ∧ w'.ownsRow w.heap.size 43 4 vN r.2.length (rowC encN (r.2.map nteS)) ∧ Below w.heap.size w w'
theorem FoldL.ls {w w' : World} {q : Option Addr} {n c : Nat} {L : List Cl} (h : L = [] ∨ w'.ownsRow w.heap.size 82 2 (.slice q n c) n (rowC encC L)) (hl : n = L.length) : LsAt w' q L := by
  rcases h with h | h
  · rw [h]; intro k c hk; simp at hk
  · exact LsAt.of_own h hl
/-- The state of Fold in memory: the result's cells, the list's box, the notes' row. -/
structure FW (w : World) (m : Nat) (L : List Cl) (q : Option Addr) (n c : Nat) (N : List Nte) (vN : Value) (W : World) : Prop where
  bel : Below w.heap.size w W
  res : W.heap[w.heap.size]? = some (.cells #[.int .u8 0, .slice none 0 0] 27 (0, 0))
  box : W.heap[w.heap.size + 1]? = some (.cells #[.int .u8 (m : Nat), .slice q n c] 27 (0, 0))
  len : n = L.length
  cur : L = [] ∨ W.ownsRow w.heap.size 82 2 (.slice q n c) n (rowC encC L)
  nts : W.ownsRow w.heap.size 43 4 vN N.length (rowC encN N)
section
variable {w : World} {m : Nat} {L : List Cl} {q : Option Addr} {n c : Nat} {N : List Nte} {vN : Value} {W : World}
theorem FW.ls (h : FW w m L q n c N vN W) : LsAt W q L := by
  rcases h.cur with h1 | h1
  · rw [h1]; intro k c hk; simp at hk
  · exact LsAt.of_own h1 h.len
theorem FW.lt (h : FW w m L q n c N vN W) : w.heap.size + 1 < W.heap.size := (Array.getElem?_eq_some_iff.1 h.box).1
theorem FW.x0 (h : FW w m L q n c N vN W) : W.cell? ⟨w.heap.size + 1, 0, none⟩ = some (.int .u8 (m : Nat)) := (cell_of_row W (w.heap.size + 1) 0 _ _ (0, 0) h.box).trans rfl
theorem FW.on {W' : World} (h : FW w m L q n c N vN W) (b : Below W.heap.size W W') : FW w m L q n c N vN W' :=
  have hl := h.lt
  ⟨thn16 h.bel b, (b.block _ (by omega)).trans h.res, (b.block _ (by omega)).trans h.box, h.len, h.cur.imp id (fun h1 => owns_on16 h1 b), owns_on16 h.nts b⟩
theorem ne_type16 {W : World} {k k' : Nat} {cs cs' : Array Value} {t t' : TypeId} {fz fz' : Nat × Nat} (h : W.heap[k]? = some (.cells cs t fz)) (h' : W.heap[k']? = some (.cells cs' t' fz')) (ht : t ≠ t') : k ≠ k' := fun e => by
  subst e
  rw [h] at h'
  injection h' with h'
  injection h' with _ e _
  exact ht e
/-- A list, stored into a box of its type, leaves rows of other types. -/
theorem own_box16 {b : Nat} {cs : Array Value} {fz : Nat × Nat} (hb : W.heap[b]? = some (.cells cs 27 fz)) {B s k : Nat} {t : TypeId} (ht : t ≠ 27) {u : Value} {xs : List Value} (ho : W.ownsRow B t s u k xs) (l : List Value) : (W.setCells b 0 l).ownsRow B t s u k xs := owns_same16 ho fun g cs fz _ hk => (heap_setCells16 W _ _ (ne_type16 hk hb ht) _ _).trans hk
/-- The list's box takes another list; the notes grow. -/
theorem FW.next (h : FW w m L q n c N vN W) {m' : Nat} {L' : List Cl} {q' : Option Addr} {n' c' : Nat} (hl : n' = L'.length) (hc : L' = [] ∨ W.ownsRow w.heap.size 82 2 (.slice q' n' c') n' (rowC encC L')) :
    FW w m' L' q' n' c' N vN (W.setCells (w.heap.size + 1) 0 [.int .u8 (m' : Nat), .slice q' n' c']) :=
  ⟨below_setCells16 (by omega) _ _ _ h.bel, (heap_setCells16 W _ _ (by omega) _ _).trans h.res, by
    have hb := h.box
    simp [World.setCells, World.setCell, Array.getElem?_modify, hb], hl, hc.imp id (fun h1 => own_box16 h.box (by decide) h1 _), own_box16 h.box (by decide) h.nts _⟩
theorem FW.note (h : FW w m L q n c N vN W) {wA : World} {v' : Value} {N' : List Nte} (hg : W.grownBy wA vN.ownBlock) (hO : wA.ownsRow w.heap.size 43 4 v' N'.length (rowC encN N')) : FW w m L q n c N' v' wA := by
  have hl := h.lt
  have keep : ∀ {k : Nat} {cs : Array Value} {t : TypeId} {fz : Nat × Nat}, W.heap[k]? = some (.cells cs t fz) → t ≠ 43 → wA.heap[k]? = some (.cells cs t fz) := fun {k} {cs} {t} {fz} hk ht => by
    refine (hg.block k (Array.getElem?_eq_some_iff.1 hk).1 (fun e => ?_)).trans hk
    rcases h.nts.2 with ⟨hv, _⟩ | ⟨g, cap, cur, hv, hB, hg2, _⟩
    · rw [hv] at e; cases e
    · rw [hv] at e
      have e2 : k = g := Option.some.inj e
      exact ne_type16 hk hg2 ht e2
  exact ⟨h.bel.grown hg (by omega) (fun k e => (h.nts.lt k e).1), keep h.res (by decide), keep h.box (by decide), h.len, h.cur.imp id (fun h1 => owns_same16 h1 fun g cs fz _ hk => keep hk (by decide)), hO⟩
end
end Go.Proofs.YtbjhleajhkofeaaDoor
namespace Go.Proofs.YtbjhleajhkofeaaDoor
open Go.ChangeShapes Go.WideShapes Go.ChangeAt Go.RowKit
set_option linter.unusedVariables false
set_option linter.unusedSimpArgs false

section
variable {H : Type} {enc : TypeId × Value → H} {P : Program} {w : World} {base : Nat} {spare : Nat → Bool} {held : Bool}
end
end Go.Proofs.YtbjhleajhkofeaaDoor
