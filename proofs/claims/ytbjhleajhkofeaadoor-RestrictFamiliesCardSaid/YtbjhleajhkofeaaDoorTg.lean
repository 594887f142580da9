/- Lists of calls, modified by one value after another, as the chapter says them: what is found in a list decides it; what a value does is a row of effects; done twice it is done once. Plain lists; which calls are known (K) and what a group stands for (X) are letters. No program. A value of one known call alone; a call put behind a list and swapped forward is the list with that call. Plain lists, no program. Lists of calls in memory; what the document's own Warns, Find, Same return. Conditions: a list of at most a million calls that can be read. -/
import Derived.Test.YtbjhleajhkofeaaDoorKc
import Derived.Sort.Walk0
import Derived.Test.YtbjhleajhkofeaaDoorWd
import Derived.BigQuiet
import Derived.WalkSmall
import Derived.Deep.QuietTactic
namespace Go.Proofs.YtbjhleajhkofeaaDoor
set_option linter.unusedVariables false

abbrev Cl := ByteArray × Nat
/-! ### effects -/
/-! ### a value -/
end Go.Proofs.YtbjhleajhkofeaaDoor
namespace Go.Proofs.YtbjhleajhkofeaaDoor
set_option linter.unusedVariables false

end Go.Proofs.YtbjhleajhkofeaaDoor
namespace Go.Proofs.YtbjhleajhkofeaaDoor
open Go.RowKit
set_option linter.unusedVariables false
set_option linter.unusedSimpArgs false
attribute [local go_sem ↓] Go.wp_at_zero Go.wp_at_succ

/-- Calls that can be read. -/
def LsAt (w : World) (q : Option Addr) (L : List Cl) : Prop := ∀ k c, L[k]? = some c → ∃ g o, q = some ⟨g, o, none⟩ ∧ w.cell? ⟨g, o + k * 2, none⟩ = some (.string c.1) ∧ w.cell? ⟨g, o + k * 2 + 1, none⟩ = some (.int .u32 (c.2 : Nat))
theorem LsAt.on {w w' : World} {q : Option Addr} {L : List Cl} (h : LsAt w q L) (hb : Below w.heap.size w w') : LsAt w' q L := fun k x hk => by
  obtain ⟨g, o, e, c1, c2⟩ := h k x hk
  exact ⟨g, o, e, (hb.cell (World.block_lt_of_cell? w _ c1)).trans c1, (hb.cell (World.block_lt_of_cell? w _ c2)).trans c2⟩
def lsV (m : Nat) (q : Option Addr) (n c : Nat) : Value := .agg #[.int .u8 (m : Nat), .slice q n c]
end Go.Proofs.YtbjhleajhkofeaaDoor
