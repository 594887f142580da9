/-
  DERIVED. GIVEN WITH THE SEED: THE CARDS: each row of YtifjnioichfodaaDoorRows.lean that lists a variable, with what it lists TIED to the program's text (the seventh form; the later family's looks); each row that meets fmt, with fmt's text TOLD by the authors' own Lean function (tested against real Go, not proved from fmt's source: count such statements apart). THE CARD IS WHAT COUNTS. Prove the row's statement (the work); the ties are given (YtifjnioichfodaaDoorTie.lean); close each card by the builder's one call (the guide's Derived/Test/ToyasCard.lean, 'card_holds'). Laid BY PROGRAM, IN A SANDBOX (cutbox-door.mjs). By AI agents, Wed Nov 11 2026. No macro, syntax, notation, axiom, sorry.
-/
import Derived.Test.YtifjnioichfodaaDoorRows
import GoSem.ClaimSeven
namespace Go.Proofs.YtifjnioichfodaaDoor
namespace Rows

/-- THE TIED CARD OF 'vestibulelaw13.UnitParses'. -/
def unitParsesCard : Claim7 := { stood := { row := unitParsesRow, standIns := [], harness := (true, "e0115aa45cc3b4744906a486522db2155cf237bf535a9405599686a628e5b3d4"), looks := false }, kinds := [], alts := [], laidByText := true, laidKinds := [.data, .pinned], laidTests := true, laidLooks := .later }
def UnitParsesCardSaid : Prop := Claim7.holds Tryd.pinned (.plain (OpenSpec.ofChange unitParsesSpec)) unitParsesCard

/-- THE TIED CARD OF 'vestibulelaw13.UnitLines'. -/
def unitLinesCard : Claim7 := { stood := { row := unitLinesRow, standIns := [], harness := (true, "e0115aa45cc3b4744906a486522db2155cf237bf535a9405599686a628e5b3d4"), looks := false }, kinds := [], alts := [], laidByText := true, laidKinds := [.data, .pinned], laidTests := true, laidLooks := .later }
def UnitLinesCardSaid : Prop := Claim7.holds Tryd.pinned (.plain (OpenSpec.ofChange unitLinesSpec)) unitLinesCard

/-- THE TIED CARD OF 'vestibulelaw13.UnitWritten'. -/
def unitWrittenCard : Claim7 := { stood := { row := unitWrittenRow, standIns := [], harness := (true, "e0115aa45cc3b4744906a486522db2155cf237bf535a9405599686a628e5b3d4"), looks := false }, kinds := [], alts := [], laidByText := true, laidKinds := [.data, .pinned], laidTests := true, laidLooks := .later }
def UnitWrittenCardSaid : Prop := Claim7.holds Tryd.pinned (.plain (OpenSpec.ofChange unitWrittenSpec)) unitWrittenCard

/-- THE TIED CARD OF 'vestibulelaw13.UnitEither'. -/
def unitEitherCard : Claim7 := { stood := { row := unitEitherRow, standIns := [], harness := (true, "e0115aa45cc3b4744906a486522db2155cf237bf535a9405599686a628e5b3d4"), looks := false }, kinds := [], alts := [], laidByText := true, laidKinds := [.data, .pinned], laidTests := true, laidLooks := .later }
def UnitEitherCardSaid : Prop := Claim7.holds Tryd.pinned (.plain (OpenSpec.ofChange unitEitherSpec)) unitEitherCard

/-- THE SECOND FORM's CARD OF 'vestibulelaw13.UnitParses'. -/
def unitParsesUptoCard : Claim7 := { stood := { row := unitParsesUptoRow, standIns := [], harness := (true, "e0115aa45cc3b4744906a486522db2155cf237bf535a9405599686a628e5b3d4"), looks := false }, kinds := [], alts := [], laidByText := true, laidKinds := [.data, .pinned], laidTests := true, laidLooks := .later }
def UnitParsesUptoCardSaid : Prop := Claim7.holds Tryd.pinned (.plain (OpenSpec.upto unitParsesSpec)) unitParsesUptoCard

/-- THE SECOND FORM's CARD OF 'vestibulelaw13.UnitLines'. -/
def unitLinesUptoCard : Claim7 := { stood := { row := unitLinesUptoRow, standIns := [], harness := (true, "e0115aa45cc3b4744906a486522db2155cf237bf535a9405599686a628e5b3d4"), looks := false }, kinds := [], alts := [], laidByText := true, laidKinds := [.data, .pinned], laidTests := true, laidLooks := .later }
def UnitLinesUptoCardSaid : Prop := Claim7.holds Tryd.pinned (.plain (OpenSpec.upto unitLinesSpec)) unitLinesUptoCard

/-- THE SECOND FORM's CARD OF 'vestibulelaw13.UnitWritten'. -/
def unitWrittenUptoCard : Claim7 := { stood := { row := unitWrittenUptoRow, standIns := [], harness := (true, "e0115aa45cc3b4744906a486522db2155cf237bf535a9405599686a628e5b3d4"), looks := false }, kinds := [], alts := [], laidByText := true, laidKinds := [.data, .pinned], laidTests := true, laidLooks := .later }
def UnitWrittenUptoCardSaid : Prop := Claim7.holds Tryd.pinned (.plain (OpenSpec.upto unitWrittenSpec)) unitWrittenUptoCard

/-- THE SECOND FORM's CARD OF 'vestibulelaw13.UnitEither'. -/
def unitEitherUptoCard : Claim7 := { stood := { row := unitEitherUptoRow, standIns := [], harness := (true, "e0115aa45cc3b4744906a486522db2155cf237bf535a9405599686a628e5b3d4"), looks := false }, kinds := [], alts := [], laidByText := true, laidKinds := [.data, .pinned], laidTests := true, laidLooks := .later }
def UnitEitherUptoCardSaid : Prop := Claim7.holds Tryd.pinned (.plain (OpenSpec.upto unitEitherSpec)) unitEitherUptoCard
end Rows
end Go.Proofs.YtifjnioichfodaaDoor
