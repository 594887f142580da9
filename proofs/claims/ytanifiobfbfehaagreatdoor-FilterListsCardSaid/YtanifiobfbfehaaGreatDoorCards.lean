/-
  DERIVED. GIVEN WITH THE SEED: THE CARDS: each row of YtanifiobfbfehaaGreatDoorRows.lean that lists a variable, with what it lists TIED to the program's text (the seventh form; the later family's looks); each row that meets fmt, with fmt's text TOLD by the authors' own Lean function (tested against real Go, not proved from fmt's source: count such statements apart). THE CARD IS WHAT COUNTS. Prove the row's statement (the work); the ties are given (YtanifiobfbfehaaGreatDoorTie.lean); close each card by the builder's one call (the guide's Derived/Test/ToyasCard.lean, 'card_holds'). Laid BY PROGRAM, IN A SANDBOX (cutbox-door.mjs). By AI agents, Wed Nov 11 2026. No macro, syntax, notation, axiom, sorry.
-/
import Derived.Test.YtanifiobfbfehaaGreatDoorRows
import GoSem.ClaimSeven
namespace Go.Proofs.YtanifiobfbfehaaGreatDoor
namespace Rows

/-- THE TIED CARD OF 'vestibulelaw17.FilterSets'. -/
def filterSetsCard : Claim7 := { stood := { row := filterSetsRow, standIns := [], harness := (true, "b14d0add1acf6805e774a3f9f9c50fe57445b82dab32fa7ac0ece1743774b180"), looks := true }, kinds := [], alts := [], laidByText := true, laidKinds := [.data, .data, .data, .sentinel, .sentinel, .data], laidTests := true, laidLooks := .later }
def FilterSetsCardSaid : Prop := Claim7.holds Tryz.pinned (.plain (OpenSpec.ofChange filterSetsSpec)) filterSetsCard

/-- THE TIED CARD OF 'vestibulelaw17.FilterKeys'. -/
def filterKeysCard : Claim7 := { stood := { row := filterKeysRow, standIns := [], harness := (true, "b14d0add1acf6805e774a3f9f9c50fe57445b82dab32fa7ac0ece1743774b180"), looks := true }, kinds := [], alts := [], laidByText := true, laidKinds := [.data, .data, .data, .sentinel, .sentinel, .data], laidTests := true, laidLooks := .later }
def FilterKeysCardSaid : Prop := Claim7.holds Tryz.pinned (.plain (OpenSpec.ofChange filterKeysSpec)) filterKeysCard

/-- THE TIED CARD OF 'vestibulelaw17.FilterOwn'. -/
def filterOwnCard : Claim7 := { stood := { row := filterOwnRow, standIns := [], harness := (true, "b14d0add1acf6805e774a3f9f9c50fe57445b82dab32fa7ac0ece1743774b180"), looks := true }, kinds := [], alts := [], laidByText := true, laidKinds := [.data, .data, .data, .sentinel, .sentinel, .data], laidTests := true, laidLooks := .later }
def FilterOwnCardSaid : Prop := Claim7.holds Tryz.pinned (.plain (OpenSpec.ofChange filterOwnSpec)) filterOwnCard

/-- THE TIED CARD OF 'vestibulelaw17.FilterLists'. -/
def filterListsCard : Claim7 := { stood := { row := filterListsRow, standIns := [], harness := (true, "b14d0add1acf6805e774a3f9f9c50fe57445b82dab32fa7ac0ece1743774b180"), looks := true }, kinds := [], alts := [], laidByText := true, laidKinds := [.data, .data, .data, .sentinel, .sentinel, .data], laidTests := true, laidLooks := .later }
def FilterListsCardSaid : Prop := Claim7.holds Tryz.pinned (.plain (OpenSpec.ofChange filterListsSpec)) filterListsCard

/-- THE SECOND FORM's CARD OF 'vestibulelaw17.FilterSets'. -/
def filterSetsUptoCard : Claim7 := { stood := { row := filterSetsUptoRow, standIns := [], harness := (true, "b14d0add1acf6805e774a3f9f9c50fe57445b82dab32fa7ac0ece1743774b180"), looks := true }, kinds := [], alts := [], laidByText := true, laidKinds := [.data, .data, .data, .sentinel, .sentinel, .data], laidTests := true, laidLooks := .later }
def FilterSetsUptoCardSaid : Prop := Claim7.holds Tryz.pinned (.plain (OpenSpec.upto filterSetsSpec)) filterSetsUptoCard

/-- THE SECOND FORM's CARD OF 'vestibulelaw17.FilterKeys'. -/
def filterKeysUptoCard : Claim7 := { stood := { row := filterKeysUptoRow, standIns := [], harness := (true, "b14d0add1acf6805e774a3f9f9c50fe57445b82dab32fa7ac0ece1743774b180"), looks := true }, kinds := [], alts := [], laidByText := true, laidKinds := [.data, .data, .data, .sentinel, .sentinel, .data], laidTests := true, laidLooks := .later }
def FilterKeysUptoCardSaid : Prop := Claim7.holds Tryz.pinned (.plain (OpenSpec.upto filterKeysSpec)) filterKeysUptoCard

/-- THE SECOND FORM's CARD OF 'vestibulelaw17.FilterOwn'. -/
def filterOwnUptoCard : Claim7 := { stood := { row := filterOwnUptoRow, standIns := [], harness := (true, "b14d0add1acf6805e774a3f9f9c50fe57445b82dab32fa7ac0ece1743774b180"), looks := true }, kinds := [], alts := [], laidByText := true, laidKinds := [.data, .data, .data, .sentinel, .sentinel, .data], laidTests := true, laidLooks := .later }
def FilterOwnUptoCardSaid : Prop := Claim7.holds Tryz.pinned (.plain (OpenSpec.upto filterOwnSpec)) filterOwnUptoCard

/-- THE SECOND FORM's CARD OF 'vestibulelaw17.FilterLists'. -/
def filterListsUptoCard : Claim7 := { stood := { row := filterListsUptoRow, standIns := [], harness := (true, "b14d0add1acf6805e774a3f9f9c50fe57445b82dab32fa7ac0ece1743774b180"), looks := true }, kinds := [], alts := [], laidByText := true, laidKinds := [.data, .data, .data, .sentinel, .sentinel, .data], laidTests := true, laidLooks := .later }
def FilterListsUptoCardSaid : Prop := Claim7.holds Tryz.pinned (.plain (OpenSpec.upto filterListsSpec)) filterListsUptoCard
end Rows
end Go.Proofs.YtanifiobfbfehaaGreatDoor
