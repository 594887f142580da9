/- Are two lists of names the same; what the calls of the package groups have to return, as the chapter says it; the chapter's rows. -/
import Derived.Test.YtanifiobfbfehaaGreatDoorGa
import Derived.Deep.LoopGhost
import Derived.Deep.RegionWith
import Derived.BigQuiet
import Derived.Deep.QuietTactic
import Derived.WalkSmall
namespace Go.Proofs.YtanifiobfbfehaaGreatDoor
open Go.RowKit
set_option linter.unusedVariables false
attribute [local irreducible] iterE stepE midE putR putTo memR deepR deepTo grpT
set_option linter.unusedSimpArgs false
attribute [local go_sem ↓] Go.wp_at_zero Go.wp_at_succ

theorem QAt.new (B : Nat) (w : World) (s : ByteArray) (t : TypeId) (h : B ≤ w.heap.size) : QAt B (w.alloc (.cells #[.string s] t)) (.slice (some ⟨w.heap.size, 0, none⟩) 1 1) [s] := by
  refine ⟨w.heap.size, 0, 1, rfl, h, by rw [World.size_alloc]; omega, Nat.le_refl _, by unfold maxLen; omega, fun k x hk => ?_, fun j hj => absurd hj (by simp)⟩
  have := news_g w s t k (.string x) (sG_get hk)
  rwa [Addr.add_lit] at this
theorem own_kept {w w' : World} {B n s : Nat} {e : TypeId} {v : Value} {xs : List Value} (h : w.ownsRow B e s v n xs) (hb : ∀ g, v.ownBlock = some g → w'.heap[g]? = w.heap[g]?) : w'.ownsRow B e s v n xs := by
  refine ⟨h.1, ?_⟩
  rcases h.2 with h2 | ⟨g, cap, cur, rfl, hgB, hg, r⟩
  · exact Or.inl h2
  · exact Or.inr ⟨g, cap, cur, rfl, hgB, (hb g rfl).trans hg, r⟩
theorem own_on {w w' : World} {B n s : Nat} {e : TypeId} {v : Value} {xs : List Value} (h : w.ownsRow B e s v n xs) (hb : Below w.heap.size w w') : w'.ownsRow B e s v n xs :=
  own_kept h fun g hg => hb.block g (h.lt g hg).2
/-- A group's names while Expand reads them: in no block of the queue. -/
def MemAt (w : World) (q : Option Addr) (v5 : Value) (M : List ByteArray) : Prop := ∀ k s, M[k]? = some s → ∃ g o, q = some ⟨g, o, none⟩ ∧ w.cell? ⟨g, o + k, none⟩ = some (.string s) ∧ v5.ownBlock ≠ some g
theorem MemAt.on {w w' : World} {q : Option Addr} {v5 : Value} {M : List ByteArray} (h : MemAt w q v5 M) (hb : Below w.heap.size w w') : MemAt w' q v5 M := fun k s hk => by
  obtain ⟨g, o, rfl, hc, hn⟩ := h k s hk
  exact ⟨g, o, rfl, (hb.cell (World.block_lt_of_cell? w _ hc)).trans hc, hn⟩
theorem MemAt.turned {w w' : World} {q : Option Addr} {v5 v' : Value} {M : List ByteArray} (h : MemAt w q v5 M) (hb : ∀ b, b < w.heap.size → v5.ownBlock ≠ some b → w'.heap[b]? = w.heap[b]?) (hv : v'.ownBlock = v5.ownBlock ∨ ∀ b, v'.ownBlock = some b → w.heap.size ≤ b) : MemAt w' q v' M := fun k s hk => by
  obtain ⟨g, o, rfl, hc, hn⟩ := h k s hk
  have hlt : g < w.heap.size := World.block_lt_of_cell? w _ hc
  refine ⟨g, o, rfl, (World.cell?_of_block (a := ⟨g, o + k, none⟩) (hb g hlt hn)).trans hc, fun e => ?_⟩
  rcases hv with hv | hv
  · exact hn (hv ▸ e)
  · have := hv g e; omega
end Go.Proofs.YtanifiobfbfehaaGreatDoor
namespace Go.Proofs.YtanifiobfbfehaaGreatDoor
open Go.RowKit
set_option linter.unusedVariables false
set_option linter.unusedSimpArgs false
attribute [local go_sem ↓] Go.wp_at_zero Go.wp_at_succ

theorem StrsAt.lit (w : World) (l : List ByteArray) (t : TypeId) : StrsAt (w.alloc (.cells (sG l).toArray t)) (.slice (some ⟨w.heap.size, 0, none⟩) l.length l.length) l := by
  refine ⟨_, _, rfl, fun k s hk => ⟨w.heap.size, 0, rfl, ?_⟩⟩
  rw [Nat.zero_add, cell_of_row _ _ k _ _ (0, 0) (heap_alloc_new w _), List.getElem?_toArray]
  exact sG_get hk
end Go.Proofs.YtanifiobfbfehaaGreatDoor
