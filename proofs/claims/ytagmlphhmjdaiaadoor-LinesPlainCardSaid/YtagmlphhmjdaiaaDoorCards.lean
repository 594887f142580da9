/-
  DERIVED. GIVEN WITH THE SEED: THE CARDS: each row of YtagmlphhmjdaiaaDoorRows.lean that lists a variable, with what it lists TIED to the program's text (the seventh form; the later family's looks); each row that meets fmt, with fmt's text TOLD by the authors' own Lean function (tested against real Go, not proved from fmt's source: count such statements apart). THE CARD IS WHAT COUNTS. Prove the row's statement (the work); the ties are given (YtagmlphhmjdaiaaDoorTie.lean); close each card by the builder's one call (the guide's Derived/Test/ToyasCard.lean, 'card_holds'). Laid BY PROGRAM, IN A SANDBOX (cutbox-door.mjs). By AI agents, Wed Nov 11 2026. No macro, syntax, notation, axiom, sorry.
-/
import Derived.Test.YtagmlphhmjdaiaaDoorRows
import GoSem.ClaimSeven
namespace Go.Proofs.YtagmlphhmjdaiaaDoor
namespace Rows

/-- THE TIED CARD OF 'vestibulelaw12.LinesSplits'. -/
def linesSplitsCard : Claim7 := { stood := { row := linesSplitsRow, standIns := [], harness := (true, "4ff581415ee31eec0514fd6a1e99086700deef7ab985b486f8cc4d2541dbe838"), looks := false }, kinds := [], alts := [], laidByText := true, laidKinds := [.data, .pinned], laidTests := true, laidLooks := .later }
def LinesSplitsCardSaid : Prop := Claim7.holds Tryd.pinned (.plain (OpenSpec.ofChange linesSplitsSpec)) linesSplitsCard

/-- THE TIED CARD OF 'vestibulelaw12.LinesTrims'. -/
def linesTrimsCard : Claim7 := { stood := { row := linesTrimsRow, standIns := [], harness := (true, "4ff581415ee31eec0514fd6a1e99086700deef7ab985b486f8cc4d2541dbe838"), looks := false }, kinds := [], alts := [], laidByText := true, laidKinds := [.data, .pinned], laidTests := true, laidLooks := .later }
def LinesTrimsCardSaid : Prop := Claim7.holds Tryd.pinned (.plain (OpenSpec.ofChange linesTrimsSpec)) linesTrimsCard

/-- THE TIED CARD OF 'vestibulelaw12.LinesRise'. -/
def linesRiseCard : Claim7 := { stood := { row := linesRiseRow, standIns := [], harness := (true, "4ff581415ee31eec0514fd6a1e99086700deef7ab985b486f8cc4d2541dbe838"), looks := false }, kinds := [], alts := [], laidByText := true, laidKinds := [.data, .pinned], laidTests := true, laidLooks := .later }
def LinesRiseCardSaid : Prop := Claim7.holds Tryd.pinned (.plain (OpenSpec.ofChange linesRiseSpec)) linesRiseCard

/-- THE TIED CARD OF 'vestibulelaw12.LinesPlain'. -/
def linesPlainCard : Claim7 := { stood := { row := linesPlainRow, standIns := [], harness := (true, "4ff581415ee31eec0514fd6a1e99086700deef7ab985b486f8cc4d2541dbe838"), looks := false }, kinds := [], alts := [], laidByText := true, laidKinds := [.data, .pinned], laidTests := true, laidLooks := .later }
def LinesPlainCardSaid : Prop := Claim7.holds Tryd.pinned (.plain (OpenSpec.ofChange linesPlainSpec)) linesPlainCard

/-- THE TIED CARD OF 'vestibulelaw12.LinesJoined'. -/
def linesJoinedCard : Claim7 := { stood := { row := linesJoinedRow, standIns := [], harness := (true, "4ff581415ee31eec0514fd6a1e99086700deef7ab985b486f8cc4d2541dbe838"), looks := false }, kinds := [], alts := [], laidByText := true, laidKinds := [.data, .pinned], laidTests := true, laidLooks := .later }
def LinesJoinedCardSaid : Prop := Claim7.holds Tryd.pinned (.plain (OpenSpec.ofChange linesJoinedSpec)) linesJoinedCard

/-- THE SECOND FORM's CARD OF 'vestibulelaw12.LinesSplits'. -/
def linesSplitsUptoCard : Claim7 := { stood := { row := linesSplitsUptoRow, standIns := [], harness := (true, "4ff581415ee31eec0514fd6a1e99086700deef7ab985b486f8cc4d2541dbe838"), looks := false }, kinds := [], alts := [], laidByText := true, laidKinds := [.data, .pinned], laidTests := true, laidLooks := .later }
def LinesSplitsUptoCardSaid : Prop := Claim7.holds Tryd.pinned (.plain (OpenSpec.upto linesSplitsSpec)) linesSplitsUptoCard

/-- THE SECOND FORM's CARD OF 'vestibulelaw12.LinesTrims'. -/
def linesTrimsUptoCard : Claim7 := { stood := { row := linesTrimsUptoRow, standIns := [], harness := (true, "4ff581415ee31eec0514fd6a1e99086700deef7ab985b486f8cc4d2541dbe838"), looks := false }, kinds := [], alts := [], laidByText := true, laidKinds := [.data, .pinned], laidTests := true, laidLooks := .later }
def LinesTrimsUptoCardSaid : Prop := Claim7.holds Tryd.pinned (.plain (OpenSpec.upto linesTrimsSpec)) linesTrimsUptoCard

/-- THE SECOND FORM's CARD OF 'vestibulelaw12.LinesRise'. -/
def linesRiseUptoCard : Claim7 := { stood := { row := linesRiseUptoRow, standIns := [], harness := (true, "4ff581415ee31eec0514fd6a1e99086700deef7ab985b486f8cc4d2541dbe838"), looks := false }, kinds := [], alts := [], laidByText := true, laidKinds := [.data, .pinned], laidTests := true, laidLooks := .later }
def LinesRiseUptoCardSaid : Prop := Claim7.holds Tryd.pinned (.plain (OpenSpec.upto linesRiseSpec)) linesRiseUptoCard

/-- THE SECOND FORM's CARD OF 'vestibulelaw12.LinesPlain'. -/
def linesPlainUptoCard : Claim7 := { stood := { row := linesPlainUptoRow, standIns := [], harness := (true, "4ff581415ee31eec0514fd6a1e99086700deef7ab985b486f8cc4d2541dbe838"), looks := false }, kinds := [], alts := [], laidByText := true, laidKinds := [.data, .pinned], laidTests := true, laidLooks := .later }
def LinesPlainUptoCardSaid : Prop := Claim7.holds Tryd.pinned (.plain (OpenSpec.upto linesPlainSpec)) linesPlainUptoCard

/-- THE SECOND FORM's CARD OF 'vestibulelaw12.LinesJoined'. -/
def linesJoinedUptoCard : Claim7 := { stood := { row := linesJoinedUptoRow, standIns := [], harness := (true, "4ff581415ee31eec0514fd6a1e99086700deef7ab985b486f8cc4d2541dbe838"), looks := false }, kinds := [], alts := [], laidByText := true, laidKinds := [.data, .pinned], laidTests := true, laidLooks := .later }
def LinesJoinedUptoCardSaid : Prop := Claim7.holds Tryd.pinned (.plain (OpenSpec.upto linesJoinedSpec)) linesJoinedUptoCard
end Rows
end Go.Proofs.YtagmlphhmjdaiaaDoor
