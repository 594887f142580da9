/- Are two lists of names the same; what the calls of the package groups have to return, as the chapter says it; the chapter's rows. -/
import Derived.Test.YtickkaeaaemakaaGreatDoorGe
import Derived.Deep.RegionWith
import Derived.BigQuiet
import Derived.Deep.QuietTactic
import Derived.WalkSmall
namespace Go.Proofs.YtickkaeaaemakaaGreatDoor
open Go.RowKit
set_option linter.unusedVariables false
set_option linter.unusedSimpArgs false
attribute [local go_sem ↓] Go.wp_at_zero Go.wp_at_succ

theorem StrsAt.lit (w : World) (l : List ByteArray) (t : TypeId) : StrsAt (w.alloc (.cells (sG l).toArray t)) (.slice (some ⟨w.heap.size, 0, none⟩) l.length l.length) l := by
  refine ⟨_, _, rfl, fun k s hk => ⟨w.heap.size, 0, rfl, ?_⟩⟩
  rw [Nat.zero_add, cell_of_row _ _ k _ _ (0, 0) (heap_alloc_new w _), List.getElem?_toArray]
  exact sG_get hk
theorem ex11_0 : expL ⟨#[64, 102, 105, 108, 101]⟩ = [⟨#[99, 108, 111, 115, 101]⟩, ⟨#[105, 111, 99, 116, 108]⟩, ⟨#[111, 112, 101, 110]⟩, ⟨#[111, 112, 101, 110, 97, 116]⟩, ⟨#[114, 101, 97, 100]⟩, ⟨#[119, 114, 105, 116, 101]⟩] ∧ expE ⟨#[64, 102, 105, 108, 101]⟩ = 0 := by constructor <;> kernel_rfl
theorem ex11_1 : expL ⟨#[64, 110, 101, 115, 116]⟩ = [] ∧ expE ⟨#[64, 110, 101, 115, 116]⟩ = 111 := by constructor <;> kernel_rfl
theorem ex11_2 : expL ⟨#[64, 110, 101, 115, 116, 45, 50]⟩ = [⟨#[101, 120, 105, 116]⟩, ⟨#[103, 101, 116, 117, 105, 100]⟩, ⟨#[114, 101, 97, 100]⟩, ⟨#[115, 101, 116, 117, 105, 100]⟩] ∧ expE ⟨#[64, 110, 101, 115, 116, 45, 50]⟩ = 0 := by constructor <;> kernel_rfl
theorem ex11_3 : expL ⟨#[102, 105, 108, 101]⟩ = [] ∧ expE ⟨#[102, 105, 108, 101]⟩ = 110 := by constructor <;> kernel_rfl
theorem de11_0 : ((deepR ⟨#[64, 115, 121, 115, 116, 101, 109]⟩ : Nat) : Int) = 3 := by kernel_rfl
theorem de11_1 : ((deepR ⟨#[64, 99, 108, 111, 99, 107]⟩ : Nat) : Int) = 1 := by kernel_rfl
theorem de11_2 : ((deepR ⟨#[114, 101, 97, 100]⟩ : Nat) : Int) = 0 := by kernel_rfl
end Go.Proofs.YtickkaeaaemakaaGreatDoor
