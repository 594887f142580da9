/- The chapter's examples, over what the calls of the package lines have to return. -/
import Derived.Test.YtgigdhincpcdbaaGreatDoorLf
namespace Go.Proofs.YtgigdhincpcdbaaGreatDoor
open Go.RowKit
set_option linter.unusedVariables false
set_option linter.unusedSimpArgs false
attribute [local go_sem ↓] Go.wp_at_zero Go.wp_at_succ

theorem ex12_0 : splE [97, 61, 32, 49, 32, 10, 32, 35, 32, 99, 32, 10, 32, 98] = 0 ∧ splL [97, 61, 32, 49, 32, 10, 32, 35, 32, 99, 32, 10, 32, 98] = [(1, [97, 61, 32, 49]), (3, [98])] := by constructor <;> kernel_rfl
theorem ex12_1 : splE [97, 32, 92, 10, 32, 98, 92, 10, 99, 10, 100] = 0 ∧ splL [97, 32, 92, 10, 32, 98, 92, 10, 99, 10, 100] = [(1, [97, 32, 32, 32, 98, 32, 99]), (4, [100])] := by constructor <;> kernel_rfl
theorem ex12_2 : splE [97, 92, 10, 59, 120, 10, 98] = 0 ∧ splL [97, 92, 10, 59, 120, 10, 98] = [(1, [97, 32, 98])] := by constructor <;> kernel_rfl
theorem ex12_3 : splE [97, 92] = 0 ∧ splL [97, 92] = [(1, [97])] := by constructor <;> kernel_rfl
theorem ex12_4 : splE [10, 32, 10] = 0 ∧ splL [10, 32, 10] = [] := by constructor <;> kernel_rfl
theorem cm12_0 : comL [32, 59, 120] = true := by kernel_rfl
theorem cm12_1 : comL [97, 59] = false := by kernel_rfl
theorem tr12_0 : bs (trimL [32, 9, 97, 32, 98, 13]) = ⟨#[97, 32, 98]⟩ := by kernel_rfl
theorem cnt12 {G : World → Prop} (HC : LinesC G) (X : World) (g : G X) : Calls Tryz.prog 46 #[.slice (some ⟨X.heap.size, 0, none⟩) 2 2] (X.alloc (.cells #[.int .u8 97, .int .u8 10] 5 (2, 3))) fun e w' => e = .returned (.int .i64 1) ∧ Below X.heap.size X w' := by
  have hA : Below X.heap.size X (X.alloc (.cells #[.int .u8 97, .int .u8 10] 5 (2, 3))) := (Below.refl _ X).alloc (Nat.le_refl _) _
  refine (HC.count (some ⟨X.heap.size, 0, none⟩) 2 2 [97, 10] _ (HC.on g hA) rfl (by decide) (Nat.le_refl _) (by unfold maxLen; decide) (fun h => by cases h) (fun _ => ⟨X.heap.size, 0, rfl, by simp, fun i hi => ?_⟩)).mono ?_
  · rw [Nat.zero_add, World.cell?_alloc_mark]
    match i, hi with
    | 0, _ => rfl
    | 1, _ => rfl
  · rintro e w' ⟨rfl, b⟩
    exact ⟨by rw [show (linL [97, 10]).length = 1 from by kernel_rfl]; rfl, hA.trans (b.mono hA.size)⟩
end Go.Proofs.YtgigdhincpcdbaaGreatDoor
