/- Are two lists of names the same; what the calls of the package groups have to return, as the chapter says it; the chapter's rows. -/
import Derived.Test.YtanifiobfbfehaaGreatDoorGe
import Derived.Deep.RegionWith
import Derived.BigQuiet
import Derived.Deep.QuietTactic
import Derived.WalkSmall
namespace Go.Proofs.YtanifiobfbfehaaGreatDoor
open Go.RowKit
set_option linter.unusedVariables false
set_option linter.unusedSimpArgs false
attribute [local go_sem ↓] Go.wp_at_zero Go.wp_at_succ

theorem StrsAt.lit (w : World) (l : List ByteArray) (t : TypeId) : StrsAt (w.alloc (.cells (sG l).toArray t)) (.slice (some ⟨w.heap.size, 0, none⟩) l.length l.length) l := by
  refine ⟨_, _, rfl, fun k s hk => ⟨w.heap.size, 0, rfl, ?_⟩⟩
  rw [Nat.zero_add, cell_of_row _ _ k _ _ (0, 0) (heap_alloc_new w _), List.getElem?_toArray]
  exact sG_get hk
end Go.Proofs.YtanifiobfbfehaaGreatDoor
