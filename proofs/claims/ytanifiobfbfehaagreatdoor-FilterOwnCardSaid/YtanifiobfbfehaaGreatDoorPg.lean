/- FilterOwn: what its walks share. -/
import Derived.Test.YtanifiobfbfehaaGreatDoorP9
import Derived.Test.YtanifiobfbfehaaGreatDoorPb
import Derived.BigQuiet
import Derived.Deep.QuietTactic
namespace Go.Proofs.YtanifiobfbfehaaGreatDoor.filterOwn
open Go.RowKit Go.Proofs.YtanifiobfbfehaaGreatDoor.filterSets
set_option linter.unusedVariables false
set_option linter.unusedSimpArgs false
attribute [local go_sem ↓] Go.wp_at_zero Go.wp_at_succ

theorem OwnP.keep {B : Nat} {w w' : World} {p : Pls} {P : Pol} (h : OwnP B w p P) (hk : ∀ (g : Nat) (cs : Array Value) (t : TypeId) (fz : Nat × Nat), t ≠ 30 → w.heap[g]? = some (.cells cs t fz) → w'.heap[g]? = some (.cells cs t fz)) : OwnP B w' p P :=
  ⟨h.al, h.fl, h.ll, h.ml, owns_same16 h.ar (fun g cs fz _ hg => hk g cs _ fz (by decide) hg), owns_same16 h.fi (fun g cs fz _ hg => hk g cs _ fz (by decide) hg), owns_same16 h.lo (fun g cs fz _ hg => hk g cs _ fz (by decide) hg), owns_same16 h.fa (fun g cs fz _ hg => hk g cs _ fz (by decide) hg)⟩
theorem put17 {w v3 : World} {B g5 : Nat} {p q3 : Pls} {P P2 : Pol} {a : As} {vN : Value} {NN : List Nte} (X3 : v3.heap[w.heap.size]? = some (.cells (plC p P).toArray 30 (0, 0))) (Y3 : v3.heap[w.heap.size + 1]? = some (.cells (asC a).toArray 32 (0, 0))) (Z3 : v3.heap[g5]? = some (.cells ([.slice none 0 0, .int .u8 0, .slice none 0 0, .int .u32 0, .int .u8 0, .slice none 0 0, .slice none 0 0, .int .u8 0, .int .u64 0, .bool false, .bool false, .bool false, .bool false] : List Value).toArray 30 (0, 0)))
    (hx : w.heap.size ≠ g5) (hy : w.heap.size + 1 ≠ g5) (hw : w.heap.size ≤ g5) (B3 : Below w.heap.size w v3) (O3 : OwnP B v3 q3 P2) (R3 : v3.ownsRow w.heap.size 51 4 vN NN.length (rowC encN NN)) :
    (v3.setCells g5 0 (plC q3 P2)).heap[w.heap.size]? = some (.cells (plC p P).toArray 30 (0, 0)) ∧ (v3.setCells g5 0 (plC q3 P2)).heap[w.heap.size + 1]? = some (.cells (asC a).toArray 32 (0, 0)) ∧ (v3.setCells g5 0 (plC q3 P2)).heap[g5]? = some (.cells (plC q3 P2).toArray 30 (0, 0)) ∧ Below w.heap.size w (v3.setCells g5 0 (plC q3 P2)) ∧ PolAt (v3.setCells g5 0 (plC q3 P2)) q3 P2 ∧ RowsAt 4 encN (v3.setCells g5 0 (plC q3 P2)) vN NN := by
  have hk : ∀ (g : Nat) (cs : Array Value) (t : TypeId) (fz : Nat × Nat), t ≠ 30 → v3.heap[g]? = some (.cells cs t fz) → (v3.setCells g5 0 (plC q3 P2)).heap[g]? = some (.cells cs t fz) := fun g cs t fz ht h => (heap_setCells16 v3 _ _ (ne_type16 h Z3 ht) _ 0).trans h
  refine ⟨(heap_setCells16 v3 _ _ hx _ 0).trans X3, (heap_setCells16 v3 _ _ hy _ 0).trans Y3, ?_, below_setCells16 hw _ 0 _ B3, (OwnP.keep O3 hk).pol, rows_own encN_len (owns_same16 R3 fun g cs fz _ h => hk g cs _ fz (by decide) h)⟩
  have := set_row17 (W := v3) (plC q3 P2) 0 _ v3 Z3 (by rw [plC_len]; decide)
  rw [this, plC_len]
  rfl
end Go.Proofs.YtanifiobfbfehaaGreatDoor.filterOwn
