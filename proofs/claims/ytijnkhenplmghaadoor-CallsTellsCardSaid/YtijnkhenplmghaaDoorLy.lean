/- The table of architectures as the statements' conditions give it, and a world that meets the condition. -/
import Derived.Test.YtijnkhenplmghaaDoorBk
import Derived.Test.YtijnkhenplmghaaDoorLz
import Derived.ProofKit
import Derived.LaidMore
import Derived.OpenShut
import Derived.Stop.Joined
import Derived.MakeChecks
import Derived.Test.YtijnkhenplmghaaDoorRows
namespace Go.Proofs.YtijnkhenplmghaaDoor
open Go.ChangeShapes Go.WideShapes Go.ChangeAt Go.RowKit
set_option linter.unusedVariables false

abbrev listed8 : List (String × DataW Unit) := [("vestibule/arch.rows", Rows.laid_vestibule_arch_rows)]
def archL : List Value := [.string ⟨#[120, 56, 54, 45, 54, 52]⟩, .int .u32 3221225534, .string ⟨#[120, 56, 54]⟩, .int .u32 1073741827, .string ⟨#[120, 51, 50]⟩, .int .u32 3221225534, .string ⟨#[97, 114, 109]⟩, .int .u32 1073741864, .string ⟨#[97, 114, 109, 54, 52]⟩, .int .u32 3221225655, .string ⟨#[114, 105, 115, 99, 118, 54, 52]⟩, .int .u32 3221225715]
theorem archL_flat : flatD Tryd.prog 4 82 (Rows.laid_vestibule_arch_rows : DataW Unit) = some archL := by kernel_rfl
theorem of_laid8 {W : World} (h : laidMetH Tryd.prog listed8 W) : GA8 W := by
  rw [MakeChecks.laidMetH_plain _ _ _ (by kernel_rfl)] at h
  obtain ⟨ps, ⟨g0, t0, cs0, f0, p0, q0, hg0, ht0, hv0, hd0, _, _⟩, _, _⟩ := h
  have H := laidAt_of (g := 0) (t := 82) (by kernel_rfl) (by kernel_rfl) hg0 ht0 hv0 hd0 4 archL_flat
  intro k hk
  match k, hk with
  | 0, _ => exact ⟨H 0 _ rfl, H 1 _ rfl⟩
  | 1, _ => exact ⟨H 2 _ rfl, H 3 _ rfl⟩
  | 2, _ => exact ⟨H 4 _ rfl, H 5 _ rfl⟩
  | 3, _ => exact ⟨H 6 _ rfl, H 7 _ rfl⟩
  | 4, _ => exact ⟨H 8 _ rfl, H 9 _ rfl⟩
  | 5, _ => exact ⟨H 10 _ rfl, H 11 _ rfl⟩
  | k + 6, hk => omega
/-- The heap that the program's own start leaves meets the condition. -/
theorem door_met8 (os : Os) (args : Array Value) : laidMetH Tryd.prog listed8 ((World.doorLaid Tryd.prog 4000 os).forCall (fun _ _ => 0) ⟨#[], args, []⟩).memory :=
  laidMetH_of_parts3 (fuel := 8) (laidMet_of_run' 8 (by kernel_rfl) (by kernel_rfl)) (by kernel_rfl) (by kernel_rfl)
end Go.Proofs.YtijnkhenplmghaaDoor
