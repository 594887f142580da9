/-
  DERIVED. GIVEN WITH THE SEED: THE CARDS: each row of YtlneiiljdghmjaaDoorRows.lean that lists a variable, with what it lists TIED to the program's text (the seventh form; the later family's looks); each row that meets fmt, with fmt's text TOLD by the authors' own Lean function (tested against real Go, not proved from fmt's source: count such statements apart). THE CARD IS WHAT COUNTS. Prove the row's statement (the work); the ties are given (YtlneiiljdghmjaaDoorTie.lean); close each card by the builder's one call (the guide's Derived/Test/ToyasCard.lean, 'card_holds'). Laid BY PROGRAM, IN A SANDBOX (cutbox-door.mjs). By AI agents, Wed Nov 11 2026. No macro, syntax, notation, axiom, sorry.
-/
import Derived.Test.YtlneiiljdghmjaaDoorRows
import GoSem.ClaimSeven
namespace Go.Proofs.YtlneiiljdghmjaaDoor
namespace Rows

/-- THE TIED CARD OF 'vestibulelaw07.AsmText'. -/
def asmTextCard : Claim7 := { stood := { row := asmTextRow, standIns := [], harness := (true, "3ffae9df1bcb9046aa21dc69186a704345c888ed9f25f36157521a34e001a5b7"), looks := true }, kinds := [], alts := [], laidByText := true, laidKinds := [.data, .data, .data, .data], laidTests := true, laidLooks := .later }
def AsmTextCardSaid : Prop := Claim7.holds Tryd.pinned (.plain (OpenSpec.ofChange asmTextSpec)) asmTextCard

/-- THE TIED CARD OF 'vestibulelaw07.AsmLine'. -/
def asmLineCard : Claim7 := { stood := { row := asmLineRow, standIns := [], harness := (true, "3ffae9df1bcb9046aa21dc69186a704345c888ed9f25f36157521a34e001a5b7"), looks := true }, kinds := [], alts := [], laidByText := true, laidKinds := [.data, .data, .data, .data], laidTests := true, laidLooks := .later }
def AsmLineCardSaid : Prop := Claim7.holds Tryd.pinned (.plain (OpenSpec.ofChange asmLineSpec)) asmLineCard

/-- THE TIED CARD OF 'vestibulelaw07.AsmParse'. -/
def asmParseCard : Claim7 := { stood := { row := asmParseRow, standIns := [], harness := (true, "3ffae9df1bcb9046aa21dc69186a704345c888ed9f25f36157521a34e001a5b7"), looks := true }, kinds := [], alts := [], laidByText := true, laidKinds := [.data, .data, .data, .sentinel, .sentinel, .data], laidTests := true, laidLooks := .later }
def AsmParseCardSaid : Prop := Claim7.holds Tryd.pinned (.plain (OpenSpec.ofChange asmParseSpec)) asmParseCard

/-- THE TIED CARD OF 'vestibulelaw07.AsmBack'. -/
def asmBackCard : Claim7 := { stood := { row := asmBackRow, standIns := [], harness := (true, "3ffae9df1bcb9046aa21dc69186a704345c888ed9f25f36157521a34e001a5b7"), looks := true }, kinds := [], alts := [], laidByText := true, laidKinds := [.data, .data, .data, .sentinel, .sentinel, .data], laidTests := true, laidLooks := .later }
def AsmBackCardSaid : Prop := Claim7.holds Tryd.pinned (.plain (OpenSpec.ofChange asmBackSpec)) asmBackCard

/-- THE TIED CARD OF 'vestibulelaw07.AsmLines'. -/
def asmLinesCard : Claim7 := { stood := { row := asmLinesRow, standIns := [], harness := (true, "3ffae9df1bcb9046aa21dc69186a704345c888ed9f25f36157521a34e001a5b7"), looks := true }, kinds := [], alts := [], laidByText := true, laidKinds := [.data, .data, .data, .sentinel, .sentinel, .data], laidTests := true, laidLooks := .later }
def AsmLinesCardSaid : Prop := Claim7.holds Tryd.pinned (.plain (OpenSpec.ofChange asmLinesSpec)) asmLinesCard

/-- THE TIED CARD OF 'vestibulelaw07.AsmOne'. -/
def asmOneCard : Claim7 := { stood := { row := asmOneRow, standIns := [], harness := (true, "3ffae9df1bcb9046aa21dc69186a704345c888ed9f25f36157521a34e001a5b7"), looks := true }, kinds := [], alts := [], laidByText := true, laidKinds := [.data, .data, .data, .sentinel, .sentinel, .data], laidTests := true, laidLooks := .later }
def AsmOneCardSaid : Prop := Claim7.holds Tryd.pinned (.plain (OpenSpec.ofChange asmOneSpec)) asmOneCard

/-- THE SECOND FORM's CARD OF 'vestibulelaw07.AsmText'. -/
def asmTextUptoCard : Claim7 := { stood := { row := asmTextUptoRow, standIns := [], harness := (true, "3ffae9df1bcb9046aa21dc69186a704345c888ed9f25f36157521a34e001a5b7"), looks := true }, kinds := [], alts := [], laidByText := true, laidKinds := [.data, .data, .data, .data], laidTests := true, laidLooks := .later }
def AsmTextUptoCardSaid : Prop := Claim7.holds Tryd.pinned (.plain (OpenSpec.upto asmTextSpec)) asmTextUptoCard

/-- THE SECOND FORM's CARD OF 'vestibulelaw07.AsmLine'. -/
def asmLineUptoCard : Claim7 := { stood := { row := asmLineUptoRow, standIns := [], harness := (true, "3ffae9df1bcb9046aa21dc69186a704345c888ed9f25f36157521a34e001a5b7"), looks := true }, kinds := [], alts := [], laidByText := true, laidKinds := [.data, .data, .data, .data], laidTests := true, laidLooks := .later }
def AsmLineUptoCardSaid : Prop := Claim7.holds Tryd.pinned (.plain (OpenSpec.upto asmLineSpec)) asmLineUptoCard

/-- THE SECOND FORM's CARD OF 'vestibulelaw07.AsmParse'. -/
def asmParseUptoCard : Claim7 := { stood := { row := asmParseUptoRow, standIns := [], harness := (true, "3ffae9df1bcb9046aa21dc69186a704345c888ed9f25f36157521a34e001a5b7"), looks := true }, kinds := [], alts := [], laidByText := true, laidKinds := [.data, .data, .data, .sentinel, .sentinel, .data], laidTests := true, laidLooks := .later }
def AsmParseUptoCardSaid : Prop := Claim7.holds Tryd.pinned (.plain (OpenSpec.upto asmParseSpec)) asmParseUptoCard

/-- THE SECOND FORM's CARD OF 'vestibulelaw07.AsmBack'. -/
def asmBackUptoCard : Claim7 := { stood := { row := asmBackUptoRow, standIns := [], harness := (true, "3ffae9df1bcb9046aa21dc69186a704345c888ed9f25f36157521a34e001a5b7"), looks := true }, kinds := [], alts := [], laidByText := true, laidKinds := [.data, .data, .data, .sentinel, .sentinel, .data], laidTests := true, laidLooks := .later }
def AsmBackUptoCardSaid : Prop := Claim7.holds Tryd.pinned (.plain (OpenSpec.upto asmBackSpec)) asmBackUptoCard

/-- THE SECOND FORM's CARD OF 'vestibulelaw07.AsmLines'. -/
def asmLinesUptoCard : Claim7 := { stood := { row := asmLinesUptoRow, standIns := [], harness := (true, "3ffae9df1bcb9046aa21dc69186a704345c888ed9f25f36157521a34e001a5b7"), looks := true }, kinds := [], alts := [], laidByText := true, laidKinds := [.data, .data, .data, .sentinel, .sentinel, .data], laidTests := true, laidLooks := .later }
def AsmLinesUptoCardSaid : Prop := Claim7.holds Tryd.pinned (.plain (OpenSpec.upto asmLinesSpec)) asmLinesUptoCard

/-- THE SECOND FORM's CARD OF 'vestibulelaw07.AsmOne'. -/
def asmOneUptoCard : Claim7 := { stood := { row := asmOneUptoRow, standIns := [], harness := (true, "3ffae9df1bcb9046aa21dc69186a704345c888ed9f25f36157521a34e001a5b7"), looks := true }, kinds := [], alts := [], laidByText := true, laidKinds := [.data, .data, .data, .sentinel, .sentinel, .data], laidTests := true, laidLooks := .later }
def AsmOneUptoCardSaid : Prop := Claim7.holds Tryd.pinned (.plain (OpenSpec.upto asmOneSpec)) asmOneUptoCard
end Rows
end Go.Proofs.YtlneiiljdghmjaaDoor
