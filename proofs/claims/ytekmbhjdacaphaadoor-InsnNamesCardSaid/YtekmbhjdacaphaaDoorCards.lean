/-
  DERIVED. GIVEN WITH THE SEED: THE CARDS: each row of YtekmbhjdacaphaaDoorRows.lean that lists a variable, with what it lists TIED to the program's text (the seventh form; the later family's looks); each row that meets fmt, with fmt's text TOLD by the authors' own Lean function (tested against real Go, not proved from fmt's source: count such statements apart). THE CARD IS WHAT COUNTS. Prove the row's statement (the work); the ties are given (YtekmbhjdacaphaaDoorTie.lean); close each card by the builder's one call (the guide's Derived/Test/ToyasCard.lean, 'card_holds'). Laid BY PROGRAM, IN A SANDBOX (cutbox-door.mjs). By AI agents, Wed Nov 11 2026. No macro, syntax, notation, axiom, sorry.
-/
import Derived.Test.YtekmbhjdacaphaaDoorRows
import GoSem.ClaimSeven
namespace Go.Proofs.YtekmbhjdacaphaaDoor
namespace Rows

/-- THE TIED CARD OF 'vestibulelaw02.InsnCodes'. -/
def insnCodesCard : Claim7 := { stood := { row := insnCodesRow, standIns := [], harness := (true, "731e542b397a316cc6009ead7ce1ca916ea31f05523bf3aecb97a41904832cfa"), looks := false }, kinds := [], alts := [], laidByText := true, laidKinds := [.data], laidTests := true, laidLooks := .later }
def InsnCodesCardSaid : Prop := Claim7.holds Tryd.pinned (.plain (OpenSpec.ofChange insnCodesSpec)) insnCodesCard

/-- THE TIED CARD OF 'vestibulelaw02.InsnBack'. -/
def insnBackCard : Claim7 := { stood := { row := insnBackRow, standIns := [], harness := (true, "731e542b397a316cc6009ead7ce1ca916ea31f05523bf3aecb97a41904832cfa"), looks := false }, kinds := [], alts := [], laidByText := true, laidKinds := [.data], laidTests := true, laidLooks := .later }
def InsnBackCardSaid : Prop := Claim7.holds Tryd.pinned (.plain (OpenSpec.ofChange insnBackSpec)) insnBackCard

/-- THE TIED CARD OF 'vestibulelaw02.InsnNames'. -/
def insnNamesCard : Claim7 := { stood := { row := insnNamesRow, standIns := [], harness := (true, "731e542b397a316cc6009ead7ce1ca916ea31f05523bf3aecb97a41904832cfa"), looks := false }, kinds := [], alts := [], laidByText := true, laidKinds := [.data], laidTests := true, laidLooks := .later }
def InsnNamesCardSaid : Prop := Claim7.holds Tryd.pinned (.plain (OpenSpec.ofChange insnNamesSpec)) insnNamesCard

/-- THE TIED CARD OF 'vestibulelaw02.InsnPieces'. -/
def insnPiecesCard : Claim7 := { stood := { row := insnPiecesRow, standIns := [], harness := (true, "731e542b397a316cc6009ead7ce1ca916ea31f05523bf3aecb97a41904832cfa"), looks := false }, kinds := [], alts := [], laidByText := true, laidKinds := [.data], laidTests := true, laidLooks := .later }
def InsnPiecesCardSaid : Prop := Claim7.holds Tryd.pinned (.plain (OpenSpec.ofChange insnPiecesSpec)) insnPiecesCard

/-- THE SECOND FORM's CARD OF 'vestibulelaw02.InsnCodes'. -/
def insnCodesUptoCard : Claim7 := { stood := { row := insnCodesUptoRow, standIns := [], harness := (true, "731e542b397a316cc6009ead7ce1ca916ea31f05523bf3aecb97a41904832cfa"), looks := false }, kinds := [], alts := [], laidByText := true, laidKinds := [.data], laidTests := true, laidLooks := .later }
def InsnCodesUptoCardSaid : Prop := Claim7.holds Tryd.pinned (.plain (OpenSpec.upto insnCodesSpec)) insnCodesUptoCard

/-- THE SECOND FORM's CARD OF 'vestibulelaw02.InsnBack'. -/
def insnBackUptoCard : Claim7 := { stood := { row := insnBackUptoRow, standIns := [], harness := (true, "731e542b397a316cc6009ead7ce1ca916ea31f05523bf3aecb97a41904832cfa"), looks := false }, kinds := [], alts := [], laidByText := true, laidKinds := [.data], laidTests := true, laidLooks := .later }
def InsnBackUptoCardSaid : Prop := Claim7.holds Tryd.pinned (.plain (OpenSpec.upto insnBackSpec)) insnBackUptoCard

/-- THE SECOND FORM's CARD OF 'vestibulelaw02.InsnNames'. -/
def insnNamesUptoCard : Claim7 := { stood := { row := insnNamesUptoRow, standIns := [], harness := (true, "731e542b397a316cc6009ead7ce1ca916ea31f05523bf3aecb97a41904832cfa"), looks := false }, kinds := [], alts := [], laidByText := true, laidKinds := [.data], laidTests := true, laidLooks := .later }
def InsnNamesUptoCardSaid : Prop := Claim7.holds Tryd.pinned (.plain (OpenSpec.upto insnNamesSpec)) insnNamesUptoCard

/-- THE SECOND FORM's CARD OF 'vestibulelaw02.InsnPieces'. -/
def insnPiecesUptoCard : Claim7 := { stood := { row := insnPiecesUptoRow, standIns := [], harness := (true, "731e542b397a316cc6009ead7ce1ca916ea31f05523bf3aecb97a41904832cfa"), looks := false }, kinds := [], alts := [], laidByText := true, laidKinds := [.data], laidTests := true, laidLooks := .later }
def InsnPiecesUptoCardSaid : Prop := Claim7.holds Tryd.pinned (.plain (OpenSpec.upto insnPiecesSpec)) insnPiecesUptoCard
end Rows
end Go.Proofs.YtekmbhjdacaphaaDoor
