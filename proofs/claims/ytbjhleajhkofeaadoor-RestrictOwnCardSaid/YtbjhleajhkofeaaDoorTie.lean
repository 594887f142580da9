/-
  DERIVED. GIVEN WITH THE SEED: THE PROGRAM's TIES (one call each: nine closed facts by the kernel) AND EACH ROW's TIE, after the 31st guide's Derived/Test/Toyas{Tie, Card}.lean. No idea stands in it: it is a product of the set-up. Laid BY PROGRAM, IN A SANDBOX (cutbox-door.mjs). By AI agents, Wed Nov 11 2026. No macro, syntax, notation, axiom, sorry.
-/
import Derived.Test.YtbjhleajhkofeaaDoorRows
import Derived.LaidByTextLater
import Derived.SevenTiedAt
import Derived.LaidSub
import Derived.LaidOnce
namespace Go.Proofs.YtbjhleajhkofeaaDoor
open Go
set_option maxRecDepth 100000
theorem seatTie1 : Tryd.prog.laidByTextLater [("vestibule/arch.rows", Rows.laid_vestibule_arch_rows), ("vestibule/names.families", Rows.laid_vestibule_names_families), ("vestibule/names.spaces", Rows.laid_vestibule_names_spaces), ("vestibule/values.booleans", Rows.laid_vestibule_values_booleans)] [.data, .data, .data, .data] true :=
  Program.laidByTextLater_by_one 53 8 17 (by kernel_rfl) (by kernel_rfl) (by kernel_rfl) (by kernel_rfl) (by kernel_rfl) (by kernel_rfl) (fun _ _ => by kernel_rfl)
theorem noOwnUnsafe : Tryd.pinned.checked.prog.headLifts.contains "ownunsafe" = false := by kernel_rfl
theorem tie : Tryd.prog.laidByTextLater [("vestibule/arch.rows", Rows.laid_vestibule_arch_rows), ("vestibule/names.families", Rows.laid_vestibule_names_families), ("vestibule/names.spaces", Rows.laid_vestibule_names_spaces), ("vestibule/values.booleans", Rows.laid_vestibule_values_booleans)] [.data, .data, .data, .data] true :=
  Program.laidByTextLater.sub seatTie1 ["vestibule/arch.rows", "vestibule/names.families", "vestibule/names.spaces", "vestibule/values.booleans"] (by kernel_rfl) (by kernel_rfl)
theorem restrictKeys_row_tie : Rows.restrictKeysRow.laidByTextAt .later Tryd.pinned [.data, .data, .data, .data] true :=
  OpenClaim.laidByTextAt_later rfl rfl tie noOwnUnsafe
theorem restrictOwn_row_tie : Rows.restrictOwnRow.laidByTextAt .later Tryd.pinned [.data, .data, .data, .data] true :=
  OpenClaim.laidByTextAt_later rfl rfl tie noOwnUnsafe
theorem restrictSpaces_row_tie : Rows.restrictSpacesRow.laidByTextAt .later Tryd.pinned [.data, .data, .data, .data] true :=
  OpenClaim.laidByTextAt_later rfl rfl tie noOwnUnsafe
theorem restrictFamilies_row_tie : Rows.restrictFamiliesRow.laidByTextAt .later Tryd.pinned [.data, .data, .data, .data] true :=
  OpenClaim.laidByTextAt_later rfl rfl tie noOwnUnsafe
theorem restrictKeysUpto_row_tie : Rows.restrictKeysUptoRow.laidByTextAt .later Tryd.pinned [.data, .data, .data, .data] true :=
  OpenClaim.laidByTextAt_later rfl rfl tie noOwnUnsafe
theorem restrictOwnUpto_row_tie : Rows.restrictOwnUptoRow.laidByTextAt .later Tryd.pinned [.data, .data, .data, .data] true :=
  OpenClaim.laidByTextAt_later rfl rfl tie noOwnUnsafe
theorem restrictSpacesUpto_row_tie : Rows.restrictSpacesUptoRow.laidByTextAt .later Tryd.pinned [.data, .data, .data, .data] true :=
  OpenClaim.laidByTextAt_later rfl rfl tie noOwnUnsafe
theorem restrictFamiliesUpto_row_tie : Rows.restrictFamiliesUptoRow.laidByTextAt .later Tryd.pinned [.data, .data, .data, .data] true :=
  OpenClaim.laidByTextAt_later rfl rfl tie noOwnUnsafe
end Go.Proofs.YtbjhleajhkofeaaDoor
