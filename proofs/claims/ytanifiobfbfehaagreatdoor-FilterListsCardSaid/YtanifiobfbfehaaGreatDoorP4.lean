/- The document's own Same: policies of the same make are the same. Conditions: lists of at most 1,000,000. Are a policy and an assignment more than are gone through? No condition. -/
import Derived.Test.YtanifiobfbfehaaGreatDoorP3
import Derived.Test.YtanifiobfbfehaaGreatDoorTs
namespace Go.Proofs.YtanifiobfbfehaaGreatDoor
open Go.RowKit
set_option linter.unusedVariables false
set_option linter.unusedSimpArgs false
attribute [local go_sem ↓] Go.wp_at_zero Go.wp_at_succ

theorem pcells17 {V : World} {p : Pls} {P : Pol} {g : Nat} (h : V.heap[g]? = some (.cells (plC p P).toArray 30 (0, 0))) : V.cell? ⟨g, 0, none⟩ = some (.slice p.aq p.an p.ac) ∧ V.cell? ⟨g, 1, none⟩ = some (.int .u8 (P.fl.1 : Nat)) ∧ V.cell? ⟨g, 2, none⟩ = some (.slice p.fq p.fn p.fc) ∧ V.cell? ⟨g, 3, none⟩ = some (.int .u32 (P.dn : Nat)) ∧ V.cell? ⟨g, 4, none⟩ = some (.int .u8 (P.lg.1 : Nat)) ∧ V.cell? ⟨g, 5, none⟩ = some (.slice p.lq p.ln p.lc) ∧ V.cell? ⟨g, 6, none⟩ = some (.slice p.mq p.mn p.mc) ∧ V.cell? ⟨g, 7, none⟩ = some (.int .u8 (P.fm : Nat)) ∧ V.cell? ⟨g, 8, none⟩ = some (.int .u64 (P.sp : Nat)) ∧ V.cell? ⟨g, 9, none⟩ = some (.bool P.b1) ∧ V.cell? ⟨g, 10, none⟩ = some (.bool P.b2) ∧ V.cell? ⟨g, 11, none⟩ = some (.bool P.b3) ∧ V.cell? ⟨g, 12, none⟩ = some (.bool P.b4) :=
  ⟨(cell_of_row V g 0 _ _ (0, 0) h).trans rfl, (cell_of_row V g 1 _ _ (0, 0) h).trans rfl, (cell_of_row V g 2 _ _ (0, 0) h).trans rfl, (cell_of_row V g 3 _ _ (0, 0) h).trans rfl, (cell_of_row V g 4 _ _ (0, 0) h).trans rfl, (cell_of_row V g 5 _ _ (0, 0) h).trans rfl, (cell_of_row V g 6 _ _ (0, 0) h).trans rfl, (cell_of_row V g 7 _ _ (0, 0) h).trans rfl, (cell_of_row V g 8 _ _ (0, 0) h).trans rfl, (cell_of_row V g 9 _ _ (0, 0) h).trans rfl, (cell_of_row V g 10 _ _ (0, 0) h).trans rfl, (cell_of_row V g 11 _ _ (0, 0) h).trans rfl, (cell_of_row V g 12 _ _ (0, 0) h).trans rfl⟩
end Go.Proofs.YtanifiobfbfehaaGreatDoor
namespace Go.Proofs.YtanifiobfbfehaaGreatDoor
open Go.RowKit
set_option linter.unusedVariables false
set_option linter.unusedSimpArgs false
attribute [local go_sem ↓] Go.wp_at_zero Go.wp_at_succ

end Go.Proofs.YtanifiobfbfehaaGreatDoor
