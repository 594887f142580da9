/-
  DERIVED. GIVEN WITH THE SEED: THE CARDS: each row of YtbjhleajhkofeaaDoorRows.lean that lists a variable, with what it lists TIED to the program's text (the seventh form; the later family's looks); each row that meets fmt, with fmt's text TOLD by the authors' own Lean function (tested against real Go, not proved from fmt's source: count such statements apart). THE CARD IS WHAT COUNTS. Prove the row's statement (the work); the ties are given (YtbjhleajhkofeaaDoorTie.lean); close each card by the builder's one call (the guide's Derived/Test/ToyasCard.lean, 'card_holds'). Laid BY PROGRAM, IN A SANDBOX (cutbox-door.mjs). By AI agents, Wed Nov 11 2026. No macro, syntax, notation, axiom, sorry.
-/
import Derived.Test.YtbjhleajhkofeaaDoorRows
import GoSem.ClaimSeven
namespace Go.Proofs.YtbjhleajhkofeaaDoor
namespace Rows

/-- THE TIED CARD OF 'vestibulelaw18.RestrictKeys'. -/
def restrictKeysCard : Claim7 := { stood := { row := restrictKeysRow, standIns := [], harness := (true, "7ef49907a432a7934f02cf14e491b2da05c61bc9152d9af0adf072b7aba98bf3"), looks := false }, kinds := [], alts := [], laidByText := true, laidKinds := [.data, .data, .data, .data], laidTests := true, laidLooks := .later }
def RestrictKeysCardSaid : Prop := Claim7.holds Tryd.pinned (.plain (OpenSpec.ofChange restrictKeysSpec)) restrictKeysCard

/-- THE TIED CARD OF 'vestibulelaw18.RestrictOwn'. -/
def restrictOwnCard : Claim7 := { stood := { row := restrictOwnRow, standIns := [], harness := (true, "7ef49907a432a7934f02cf14e491b2da05c61bc9152d9af0adf072b7aba98bf3"), looks := false }, kinds := [], alts := [], laidByText := true, laidKinds := [.data, .data, .data, .data], laidTests := true, laidLooks := .later }
def RestrictOwnCardSaid : Prop := Claim7.holds Tryd.pinned (.plain (OpenSpec.ofChange restrictOwnSpec)) restrictOwnCard

/-- THE TIED CARD OF 'vestibulelaw18.RestrictSpaces'. -/
def restrictSpacesCard : Claim7 := { stood := { row := restrictSpacesRow, standIns := [], harness := (true, "7ef49907a432a7934f02cf14e491b2da05c61bc9152d9af0adf072b7aba98bf3"), looks := false }, kinds := [], alts := [], laidByText := true, laidKinds := [.data, .data, .data, .data], laidTests := true, laidLooks := .later }
def RestrictSpacesCardSaid : Prop := Claim7.holds Tryd.pinned (.plain (OpenSpec.ofChange restrictSpacesSpec)) restrictSpacesCard

/-- THE TIED CARD OF 'vestibulelaw18.RestrictFamilies'. -/
def restrictFamiliesCard : Claim7 := { stood := { row := restrictFamiliesRow, standIns := [], harness := (true, "7ef49907a432a7934f02cf14e491b2da05c61bc9152d9af0adf072b7aba98bf3"), looks := false }, kinds := [], alts := [], laidByText := true, laidKinds := [.data, .data, .data, .data], laidTests := true, laidLooks := .later }
def RestrictFamiliesCardSaid : Prop := Claim7.holds Tryd.pinned (.plain (OpenSpec.ofChange restrictFamiliesSpec)) restrictFamiliesCard

/-- THE SECOND FORM's CARD OF 'vestibulelaw18.RestrictKeys'. -/
def restrictKeysUptoCard : Claim7 := { stood := { row := restrictKeysUptoRow, standIns := [], harness := (true, "7ef49907a432a7934f02cf14e491b2da05c61bc9152d9af0adf072b7aba98bf3"), looks := false }, kinds := [], alts := [], laidByText := true, laidKinds := [.data, .data, .data, .data], laidTests := true, laidLooks := .later }
def RestrictKeysUptoCardSaid : Prop := Claim7.holds Tryd.pinned (.plain (OpenSpec.upto restrictKeysSpec)) restrictKeysUptoCard

/-- THE SECOND FORM's CARD OF 'vestibulelaw18.RestrictOwn'. -/
def restrictOwnUptoCard : Claim7 := { stood := { row := restrictOwnUptoRow, standIns := [], harness := (true, "7ef49907a432a7934f02cf14e491b2da05c61bc9152d9af0adf072b7aba98bf3"), looks := false }, kinds := [], alts := [], laidByText := true, laidKinds := [.data, .data, .data, .data], laidTests := true, laidLooks := .later }
def RestrictOwnUptoCardSaid : Prop := Claim7.holds Tryd.pinned (.plain (OpenSpec.upto restrictOwnSpec)) restrictOwnUptoCard

/-- THE SECOND FORM's CARD OF 'vestibulelaw18.RestrictSpaces'. -/
def restrictSpacesUptoCard : Claim7 := { stood := { row := restrictSpacesUptoRow, standIns := [], harness := (true, "7ef49907a432a7934f02cf14e491b2da05c61bc9152d9af0adf072b7aba98bf3"), looks := false }, kinds := [], alts := [], laidByText := true, laidKinds := [.data, .data, .data, .data], laidTests := true, laidLooks := .later }
def RestrictSpacesUptoCardSaid : Prop := Claim7.holds Tryd.pinned (.plain (OpenSpec.upto restrictSpacesSpec)) restrictSpacesUptoCard

/-- THE SECOND FORM's CARD OF 'vestibulelaw18.RestrictFamilies'. -/
def restrictFamiliesUptoCard : Claim7 := { stood := { row := restrictFamiliesUptoRow, standIns := [], harness := (true, "7ef49907a432a7934f02cf14e491b2da05c61bc9152d9af0adf072b7aba98bf3"), looks := false }, kinds := [], alts := [], laidByText := true, laidKinds := [.data, .data, .data, .data], laidTests := true, laidLooks := .later }
def RestrictFamiliesUptoCardSaid : Prop := Claim7.holds Tryd.pinned (.plain (OpenSpec.upto restrictFamiliesSpec)) restrictFamiliesUptoCard
end Rows
end Go.Proofs.YtbjhleajhkofeaaDoor
