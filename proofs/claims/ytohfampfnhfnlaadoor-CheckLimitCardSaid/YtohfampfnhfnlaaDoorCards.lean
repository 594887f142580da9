/-
  DERIVED. GIVEN WITH THE SEED: THE CARDS: each row of YtohfampfnhfnlaaDoorRows.lean that lists a variable, with what it lists TIED to the program's text (the seventh form; the later family's looks); each row that meets fmt, with fmt's text TOLD by the authors' own Lean function (tested against real Go, not proved from fmt's source: count such statements apart). THE CARD IS WHAT COUNTS. Prove the row's statement (the work); the ties are given (YtohfampfnhfnlaaDoorTie.lean); close each card by the builder's one call (the guide's Derived/Test/ToyasCard.lean, 'card_holds'). Laid BY PROGRAM, IN A SANDBOX (cutbox-door.mjs). By AI agents, Wed Nov 11 2026. No macro, syntax, notation, axiom, sorry.
-/
import Derived.Test.YtohfampfnhfnlaaDoorRows
import GoSem.ClaimSeven
namespace Go.Proofs.YtohfampfnhfnlaaDoor
namespace Rows

/-- THE TIED CARD OF 'vestibulelaw06.CheckPrograms'. -/
def checkProgramsCard : Claim7 := { stood := { row := checkProgramsRow, standIns := [], harness := (true, "7ce10da4fe3f4602640b4edda9d9496d075cd73815156a991f24ac8186386303"), looks := true }, kinds := [], alts := [], laidByText := true, laidKinds := [.data], laidTests := true, laidLooks := .later }
def CheckProgramsCardSaid : Prop := Claim7.holds Tryd.pinned (.plain (OpenSpec.ofChange checkProgramsSpec)) checkProgramsCard

/-- THE TIED CARD OF 'vestibulelaw06.CheckOne'. -/
def checkOneCard : Claim7 := { stood := { row := checkOneRow, standIns := [], harness := (true, "7ce10da4fe3f4602640b4edda9d9496d075cd73815156a991f24ac8186386303"), looks := true }, kinds := [], alts := [], laidByText := true, laidKinds := [.data], laidTests := true, laidLooks := .later }
def CheckOneCardSaid : Prop := Claim7.holds Tryd.pinned (.plain (OpenSpec.ofChange checkOneSpec)) checkOneCard

/-- THE TIED CARD OF 'vestibulelaw06.CheckLimit'. -/
def checkLimitCard : Claim7 := { stood := { row := checkLimitRow, standIns := [], harness := (true, "7ce10da4fe3f4602640b4edda9d9496d075cd73815156a991f24ac8186386303"), looks := true }, kinds := [], alts := [], laidByText := true, laidKinds := [.data], laidTests := true, laidLooks := .later }
def CheckLimitCardSaid : Prop := Claim7.holds Tryd.pinned (.plain (OpenSpec.ofChange checkLimitSpec)) checkLimitCard

/-- THE TIED CARD OF 'vestibulelaw06.CheckHalts'. -/
def checkHaltsCard : Claim7 := { stood := { row := checkHaltsRow, standIns := [], harness := (true, "7ce10da4fe3f4602640b4edda9d9496d075cd73815156a991f24ac8186386303"), looks := true }, kinds := [], alts := [], laidByText := true, laidKinds := [.data], laidTests := true, laidLooks := .later }
def CheckHaltsCardSaid : Prop := Claim7.holds Tryd.pinned (.plain (OpenSpec.ofChange checkHaltsSpec)) checkHaltsCard

/-- THE TIED CARD OF 'vestibulelaw06.CheckErrors'. -/
def checkErrorsCard : Claim7 := { stood := { row := checkErrorsRow, standIns := [], harness := (true, "7ce10da4fe3f4602640b4edda9d9496d075cd73815156a991f24ac8186386303"), looks := true }, kinds := [], alts := [], laidByText := true, laidKinds := [.data], laidTests := true, laidLooks := .later }
def CheckErrorsCardSaid : Prop := Claim7.holds Tryd.pinned (.plain (OpenSpec.ofChange checkErrorsSpec)) checkErrorsCard

/-- THE TIED CARD OF 'vestibulelaw06.CheckMore'. -/
def checkMoreCard : Claim7 := { stood := { row := checkMoreRow, standIns := [], harness := (true, "7ce10da4fe3f4602640b4edda9d9496d075cd73815156a991f24ac8186386303"), looks := true }, kinds := [], alts := [], laidByText := true, laidKinds := [.data], laidTests := true, laidLooks := .later }
def CheckMoreCardSaid : Prop := Claim7.holds Tryd.pinned (.plain (OpenSpec.ofChange checkMoreSpec)) checkMoreCard

/-- THE TIED CARD OF 'vestibulelaw06.CheckSpoilt'. -/
def checkSpoiltCard : Claim7 := { stood := { row := checkSpoiltRow, standIns := [], harness := (true, "7ce10da4fe3f4602640b4edda9d9496d075cd73815156a991f24ac8186386303"), looks := true }, kinds := [], alts := [], laidByText := true, laidKinds := [.data], laidTests := true, laidLooks := .later }
def CheckSpoiltCardSaid : Prop := Claim7.holds Tryd.pinned (.plain (OpenSpec.ofChange checkSpoiltSpec)) checkSpoiltCard

/-- THE SECOND FORM's CARD OF 'vestibulelaw06.CheckPrograms'. -/
def checkProgramsUptoCard : Claim7 := { stood := { row := checkProgramsUptoRow, standIns := [], harness := (true, "7ce10da4fe3f4602640b4edda9d9496d075cd73815156a991f24ac8186386303"), looks := true }, kinds := [], alts := [], laidByText := true, laidKinds := [.data], laidTests := true, laidLooks := .later }
def CheckProgramsUptoCardSaid : Prop := Claim7.holds Tryd.pinned (.plain (OpenSpec.upto checkProgramsSpec)) checkProgramsUptoCard

/-- THE SECOND FORM's CARD OF 'vestibulelaw06.CheckOne'. -/
def checkOneUptoCard : Claim7 := { stood := { row := checkOneUptoRow, standIns := [], harness := (true, "7ce10da4fe3f4602640b4edda9d9496d075cd73815156a991f24ac8186386303"), looks := true }, kinds := [], alts := [], laidByText := true, laidKinds := [.data], laidTests := true, laidLooks := .later }
def CheckOneUptoCardSaid : Prop := Claim7.holds Tryd.pinned (.plain (OpenSpec.upto checkOneSpec)) checkOneUptoCard

/-- THE SECOND FORM's CARD OF 'vestibulelaw06.CheckLimit'. -/
def checkLimitUptoCard : Claim7 := { stood := { row := checkLimitUptoRow, standIns := [], harness := (true, "7ce10da4fe3f4602640b4edda9d9496d075cd73815156a991f24ac8186386303"), looks := true }, kinds := [], alts := [], laidByText := true, laidKinds := [.data], laidTests := true, laidLooks := .later }
def CheckLimitUptoCardSaid : Prop := Claim7.holds Tryd.pinned (.plain (OpenSpec.upto checkLimitSpec)) checkLimitUptoCard

/-- THE SECOND FORM's CARD OF 'vestibulelaw06.CheckHalts'. -/
def checkHaltsUptoCard : Claim7 := { stood := { row := checkHaltsUptoRow, standIns := [], harness := (true, "7ce10da4fe3f4602640b4edda9d9496d075cd73815156a991f24ac8186386303"), looks := true }, kinds := [], alts := [], laidByText := true, laidKinds := [.data], laidTests := true, laidLooks := .later }
def CheckHaltsUptoCardSaid : Prop := Claim7.holds Tryd.pinned (.plain (OpenSpec.upto checkHaltsSpec)) checkHaltsUptoCard

/-- THE SECOND FORM's CARD OF 'vestibulelaw06.CheckErrors'. -/
def checkErrorsUptoCard : Claim7 := { stood := { row := checkErrorsUptoRow, standIns := [], harness := (true, "7ce10da4fe3f4602640b4edda9d9496d075cd73815156a991f24ac8186386303"), looks := true }, kinds := [], alts := [], laidByText := true, laidKinds := [.data], laidTests := true, laidLooks := .later }
def CheckErrorsUptoCardSaid : Prop := Claim7.holds Tryd.pinned (.plain (OpenSpec.upto checkErrorsSpec)) checkErrorsUptoCard

/-- THE SECOND FORM's CARD OF 'vestibulelaw06.CheckMore'. -/
def checkMoreUptoCard : Claim7 := { stood := { row := checkMoreUptoRow, standIns := [], harness := (true, "7ce10da4fe3f4602640b4edda9d9496d075cd73815156a991f24ac8186386303"), looks := true }, kinds := [], alts := [], laidByText := true, laidKinds := [.data], laidTests := true, laidLooks := .later }
def CheckMoreUptoCardSaid : Prop := Claim7.holds Tryd.pinned (.plain (OpenSpec.upto checkMoreSpec)) checkMoreUptoCard

/-- THE SECOND FORM's CARD OF 'vestibulelaw06.CheckSpoilt'. -/
def checkSpoiltUptoCard : Claim7 := { stood := { row := checkSpoiltUptoRow, standIns := [], harness := (true, "7ce10da4fe3f4602640b4edda9d9496d075cd73815156a991f24ac8186386303"), looks := true }, kinds := [], alts := [], laidByText := true, laidKinds := [.data], laidTests := true, laidLooks := .later }
def CheckSpoiltUptoCardSaid : Prop := Claim7.holds Tryd.pinned (.plain (OpenSpec.upto checkSpoiltSpec)) checkSpoiltUptoCard
end Rows
end Go.Proofs.YtohfampfnhfnlaaDoor
