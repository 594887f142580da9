/-
  DERIVED. GIVEN WITH THE SEED: THE CARDS: each row of YthhfpehngdohhaaDoorRows.lean that lists a variable, with what it lists TIED to the program's text (the seventh form; the later family's looks); each row that meets fmt, with fmt's text TOLD by the authors' own Lean function (tested against real Go, not proved from fmt's source: count such statements apart). THE CARD IS WHAT COUNTS. Prove the row's statement (the work); the ties are given (YthhfpehngdohhaaDoorTie.lean); close each card by the builder's one call (the guide's Derived/Test/ToyasCard.lean, 'card_holds'). Laid BY PROGRAM, IN A SANDBOX (cutbox-door.mjs). By AI agents, Wed Nov 11 2026. No macro, syntax, notation, axiom, sorry.
-/
import Derived.Test.YthhfpehngdohhaaDoorRows
import GoSem.ClaimSeven
namespace Go.Proofs.YthhfpehngdohhaaDoor
namespace Rows

/-- THE TIED CARD OF 'vestibulelaw05.CellsWays'. -/
def cellsWaysCard : Claim7 := { stood := { row := cellsWaysRow, standIns := [], harness := (true, "1922a290dd02758be3068cbe7c73aa4e99a274c2f28bdb57e1ecae552c0ada0d"), looks := true }, kinds := [], alts := [], laidByText := true, laidKinds := [.data], laidTests := true, laidLooks := .later }
def CellsWaysCardSaid : Prop := Claim7.holds Tryd.pinned (.plain (OpenSpec.ofChange cellsWaysSpec)) cellsWaysCard

/-- THE TIED CARD OF 'vestibulelaw05.CellsSure'. -/
def cellsSureCard : Claim7 := { stood := { row := cellsSureRow, standIns := [], harness := (true, "1922a290dd02758be3068cbe7c73aa4e99a274c2f28bdb57e1ecae552c0ada0d"), looks := true }, kinds := [], alts := [], laidByText := true, laidKinds := [.data], laidTests := true, laidLooks := .later }
def CellsSureCardSaid : Prop := Claim7.holds Tryd.pinned (.plain (OpenSpec.ofChange cellsSureSpec)) cellsSureCard

/-- THE TIED CARD OF 'vestibulelaw05.CellsLimit'. -/
def cellsLimitCard : Claim7 := { stood := { row := cellsLimitRow, standIns := [], harness := (true, "1922a290dd02758be3068cbe7c73aa4e99a274c2f28bdb57e1ecae552c0ada0d"), looks := true }, kinds := [], alts := [], laidByText := true, laidKinds := [.data], laidTests := true, laidLooks := .later }
def CellsLimitCardSaid : Prop := Claim7.holds Tryd.pinned (.plain (OpenSpec.ofChange cellsLimitSpec)) cellsLimitCard

/-- THE TIED CARD OF 'vestibulelaw05.CellsDone'. -/
def cellsDoneCard : Claim7 := { stood := { row := cellsDoneRow, standIns := [], harness := (true, "1922a290dd02758be3068cbe7c73aa4e99a274c2f28bdb57e1ecae552c0ada0d"), looks := true }, kinds := [], alts := [], laidByText := true, laidKinds := [.data], laidTests := true, laidLooks := .later }
def CellsDoneCardSaid : Prop := Claim7.holds Tryd.pinned (.plain (OpenSpec.ofChange cellsDoneSpec)) cellsDoneCard

/-- THE TIED CARD OF 'vestibulelaw05.CellsMore'. -/
def cellsMoreCard : Claim7 := { stood := { row := cellsMoreRow, standIns := [], harness := (true, "1922a290dd02758be3068cbe7c73aa4e99a274c2f28bdb57e1ecae552c0ada0d"), looks := true }, kinds := [], alts := [], laidByText := true, laidKinds := [.data], laidTests := true, laidLooks := .later }
def CellsMoreCardSaid : Prop := Claim7.holds Tryd.pinned (.plain (OpenSpec.ofChange cellsMoreSpec)) cellsMoreCard

/-- THE TIED CARD OF 'vestibulelaw05.CellsNone'. -/
def cellsNoneCard : Claim7 := { stood := { row := cellsNoneRow, standIns := [], harness := (true, "1922a290dd02758be3068cbe7c73aa4e99a274c2f28bdb57e1ecae552c0ada0d"), looks := true }, kinds := [], alts := [], laidByText := true, laidKinds := [.data], laidTests := true, laidLooks := .later }
def CellsNoneCardSaid : Prop := Claim7.holds Tryd.pinned (.plain (OpenSpec.ofChange cellsNoneSpec)) cellsNoneCard

/-- THE SECOND FORM's CARD OF 'vestibulelaw05.CellsWays'. -/
def cellsWaysUptoCard : Claim7 := { stood := { row := cellsWaysUptoRow, standIns := [], harness := (true, "1922a290dd02758be3068cbe7c73aa4e99a274c2f28bdb57e1ecae552c0ada0d"), looks := true }, kinds := [], alts := [], laidByText := true, laidKinds := [.data], laidTests := true, laidLooks := .later }
def CellsWaysUptoCardSaid : Prop := Claim7.holds Tryd.pinned (.plain (OpenSpec.upto cellsWaysSpec)) cellsWaysUptoCard

/-- THE SECOND FORM's CARD OF 'vestibulelaw05.CellsSure'. -/
def cellsSureUptoCard : Claim7 := { stood := { row := cellsSureUptoRow, standIns := [], harness := (true, "1922a290dd02758be3068cbe7c73aa4e99a274c2f28bdb57e1ecae552c0ada0d"), looks := true }, kinds := [], alts := [], laidByText := true, laidKinds := [.data], laidTests := true, laidLooks := .later }
def CellsSureUptoCardSaid : Prop := Claim7.holds Tryd.pinned (.plain (OpenSpec.upto cellsSureSpec)) cellsSureUptoCard

/-- THE SECOND FORM's CARD OF 'vestibulelaw05.CellsLimit'. -/
def cellsLimitUptoCard : Claim7 := { stood := { row := cellsLimitUptoRow, standIns := [], harness := (true, "1922a290dd02758be3068cbe7c73aa4e99a274c2f28bdb57e1ecae552c0ada0d"), looks := true }, kinds := [], alts := [], laidByText := true, laidKinds := [.data], laidTests := true, laidLooks := .later }
def CellsLimitUptoCardSaid : Prop := Claim7.holds Tryd.pinned (.plain (OpenSpec.upto cellsLimitSpec)) cellsLimitUptoCard

/-- THE SECOND FORM's CARD OF 'vestibulelaw05.CellsDone'. -/
def cellsDoneUptoCard : Claim7 := { stood := { row := cellsDoneUptoRow, standIns := [], harness := (true, "1922a290dd02758be3068cbe7c73aa4e99a274c2f28bdb57e1ecae552c0ada0d"), looks := true }, kinds := [], alts := [], laidByText := true, laidKinds := [.data], laidTests := true, laidLooks := .later }
def CellsDoneUptoCardSaid : Prop := Claim7.holds Tryd.pinned (.plain (OpenSpec.upto cellsDoneSpec)) cellsDoneUptoCard

/-- THE SECOND FORM's CARD OF 'vestibulelaw05.CellsMore'. -/
def cellsMoreUptoCard : Claim7 := { stood := { row := cellsMoreUptoRow, standIns := [], harness := (true, "1922a290dd02758be3068cbe7c73aa4e99a274c2f28bdb57e1ecae552c0ada0d"), looks := true }, kinds := [], alts := [], laidByText := true, laidKinds := [.data], laidTests := true, laidLooks := .later }
def CellsMoreUptoCardSaid : Prop := Claim7.holds Tryd.pinned (.plain (OpenSpec.upto cellsMoreSpec)) cellsMoreUptoCard

/-- THE SECOND FORM's CARD OF 'vestibulelaw05.CellsNone'. -/
def cellsNoneUptoCard : Claim7 := { stood := { row := cellsNoneUptoRow, standIns := [], harness := (true, "1922a290dd02758be3068cbe7c73aa4e99a274c2f28bdb57e1ecae552c0ada0d"), looks := true }, kinds := [], alts := [], laidByText := true, laidKinds := [.data], laidTests := true, laidLooks := .later }
def CellsNoneUptoCardSaid : Prop := Claim7.holds Tryd.pinned (.plain (OpenSpec.upto cellsNoneSpec)) cellsNoneUptoCard
end Rows
end Go.Proofs.YthhfpehngdohhaaDoor
