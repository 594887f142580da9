/- What the document's machine makes of the codes that load, store, move. Condition: numbers below 2 to the 32nd. -/
import Derived.Test.YthhfpehngdohhaaDoorVb
import Derived.RegionTactic
import Derived.ChangeAlike
import Derived.BigRegion
namespace Go.Proofs.YthhfpehngdohhaaDoor
open Go.RowKit
set_option linter.unusedVariables false
attribute [local go_sem ↓] Go.wp_at_zero Go.wp_at_succ

theorem of_al2 (w : World) (o o' : Obj) (row : Option Nat) : w.grownBy ((w.alloc o).alloc o') row := (of_alloc w o row).trans (of_alloc _ o' row)
theorem of_drew {w w' : World} {row : Option Nat} (h : w.grownBy w' row) : w.grownBy w'.drew row := ⟨h.os, h.tape, h.output, h.size, h.block⟩
end Go.Proofs.YthhfpehngdohhaaDoor
