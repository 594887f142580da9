/- The variables that the statements list, as their conditions give them: the tables of architectures, families, namespaces, words. And a world that meets the conditions. -/
import Derived.Test.YtbjhleajhkofeaaDoorR6
import Derived.Test.YtbjhleajhkofeaaDoorLz
import Derived.ProofKit
import Derived.LaidMore
import Derived.OpenShut
import Derived.Stop.Joined
import Derived.MakeChecks
import Derived.Test.YtbjhleajhkofeaaDoorRows
namespace Go.Proofs.YtbjhleajhkofeaaDoor
open Go.ChangeShapes Go.WideShapes Go.ChangeAt Go.RowKit
set_option linter.unusedVariables false

abbrev listed18 : List (String × DataW Unit) := [("vestibule/arch.rows", Rows.laid_vestibule_arch_rows), ("vestibule/names.families", Rows.laid_vestibule_names_families), ("vestibule/names.spaces", Rows.laid_vestibule_names_spaces), ("vestibule/values.booleans", Rows.laid_vestibule_values_booleans)]
def archL18 : List Value := [.string ⟨#[120, 56, 54, 45, 54, 52]⟩, .int .u32 3221225534, .string ⟨#[120, 56, 54]⟩, .int .u32 1073741827, .string ⟨#[120, 51, 50]⟩, .int .u32 3221225534, .string ⟨#[97, 114, 109]⟩, .int .u32 1073741864, .string ⟨#[97, 114, 109, 54, 52]⟩, .int .u32 3221225655, .string ⟨#[114, 105, 115, 99, 118, 54, 52]⟩, .int .u32 3221225715]
theorem archL18_flat : flatD Tryd.prog 4 100 (Rows.laid_vestibule_arch_rows : DataW Unit) = some archL18 := by kernel_rfl
theorem flat_fams18 : flatD Tryd.prog 4 76 (Rows.laid_vestibule_names_families : DataW Unit) = some (cellsT .u32 famT) := by kernel_rfl
theorem flat_spcs18 : flatD Tryd.prog 4 73 (Rows.laid_vestibule_names_spaces : DataW Unit) = some (cellsT .u64 spcT) := by kernel_rfl
theorem flat_boo18 : flatD Tryd.prog 4 69 (Rows.laid_vestibule_values_booleans : DataW Unit) = some boolC := by kernel_rfl
theorem of_laid18 {W : World} (h : laidMetH Tryd.prog listed18 W) : G18 W := by
  rw [MakeChecks.laidMetH_plain _ _ _ (by kernel_rfl)] at h
  obtain ⟨ps, ⟨g0, t0, cs0, f0, p0, q0, hg0, ht0, hv0, hd0, ⟨g1, t1, cs1, f1, p1, q1, hg1, ht1, hv1, hd1, ⟨g2, t2, cs2, f2, p2, q2, hg2, ht2, hv2, hd2, ⟨g3, t3, cs3, f3, p3, q3, hg3, ht3, hv3, hd3, _, _⟩, _⟩, _⟩, _⟩, _, _⟩ := h
  have H := laidAt_of (g := 3) (t := 100) (by kernel_rfl) (by kernel_rfl) hg0 ht0 hv0 hd0 4 archL18_flat
  refine { ar := ?_, nm := { fams := laidAt_of (g := 2) (t := 76) (by kernel_rfl) (by kernel_rfl) hg1 ht1 hv1 hd1 4 flat_fams18, spcs := laidAt_of (g := 1) (t := 73) (by kernel_rfl) (by kernel_rfl) hg2 ht2 hv2 hd2 4 flat_spcs18 }, boo := laidAt_of (g := 0) (t := 69) (by kernel_rfl) (by kernel_rfl) hg3 ht3 hv3 hd3 4 flat_boo18 }
  intro k hk
  match k, hk with
  | 0, _ => exact ⟨H 0 _ rfl, H 1 _ rfl⟩
  | 1, _ => exact ⟨H 2 _ rfl, H 3 _ rfl⟩
  | 2, _ => exact ⟨H 4 _ rfl, H 5 _ rfl⟩
  | 3, _ => exact ⟨H 6 _ rfl, H 7 _ rfl⟩
  | 4, _ => exact ⟨H 8 _ rfl, H 9 _ rfl⟩
  | 5, _ => exact ⟨H 10 _ rfl, H 11 _ rfl⟩
  | k + 6, hk => omega
/-- The heap that the program's own start leaves meets the conditions. -/
theorem door_met18 (os : Os) (args : Array Value) : laidMetH Tryd.prog listed18 ((World.doorLaid Tryd.prog 4000 os).forCall (fun _ _ => 0) ⟨#[], args, []⟩).memory :=
  laidMetH_of_parts3 (fuel := 8) (laidMet_of_run' 8 (by kernel_rfl) (by kernel_rfl)) (by kernel_rfl) (by kernel_rfl)
end Go.Proofs.YtbjhleajhkofeaaDoor
