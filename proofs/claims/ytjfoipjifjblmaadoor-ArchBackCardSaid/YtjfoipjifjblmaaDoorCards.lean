/-
  DERIVED. GIVEN WITH THE SEED: THE CARDS: each row of YtjfoipjifjblmaaDoorRows.lean that lists a variable, with what it lists TIED to the program's text (the seventh form; the later family's looks); each row that meets fmt, with fmt's text TOLD by the authors' own Lean function (tested against real Go, not proved from fmt's source: count such statements apart). THE CARD IS WHAT COUNTS. Prove the row's statement (the work); the ties are given (YtjfoipjifjblmaaDoorTie.lean); close each card by the builder's one call (the guide's Derived/Test/ToyasCard.lean, 'card_holds'). Laid BY PROGRAM, IN A SANDBOX (cutbox-door.mjs). By AI agents, Wed Nov 11 2026. No macro, syntax, notation, axiom, sorry.
-/
import Derived.Test.YtjfoipjifjblmaaDoorRows
import GoSem.ClaimSeven
namespace Go.Proofs.YtjfoipjifjblmaaDoor
namespace Rows

/-- THE TIED CARD OF 'vestibulelaw08.ArchNames'. -/
def archNamesCard : Claim7 := { stood := { row := archNamesRow, standIns := [], harness := (true, "85f62ec4fdccfff8c615193f85b27d9e0cc673cdc81d6776ac8a22ac0a6f7220"), looks := false }, kinds := [], alts := [], laidByText := true, laidKinds := [.data], laidTests := true, laidLooks := .later }
def ArchNamesCardSaid : Prop := Claim7.holds Tryd.pinned (.plain (OpenSpec.ofChange archNamesSpec)) archNamesCard

/-- THE TIED CARD OF 'vestibulelaw08.ArchTokens'. -/
def archTokensCard : Claim7 := { stood := { row := archTokensRow, standIns := [], harness := (true, "85f62ec4fdccfff8c615193f85b27d9e0cc673cdc81d6776ac8a22ac0a6f7220"), looks := false }, kinds := [], alts := [], laidByText := true, laidKinds := [.data], laidTests := true, laidLooks := .later }
def ArchTokensCardSaid : Prop := Claim7.holds Tryd.pinned (.plain (OpenSpec.ofChange archTokensSpec)) archTokensCard

/-- THE TIED CARD OF 'vestibulelaw08.ArchBack'. -/
def archBackCard : Claim7 := { stood := { row := archBackRow, standIns := [], harness := (true, "85f62ec4fdccfff8c615193f85b27d9e0cc673cdc81d6776ac8a22ac0a6f7220"), looks := false }, kinds := [], alts := [], laidByText := true, laidKinds := [.data], laidTests := true, laidLooks := .later }
def ArchBackCardSaid : Prop := Claim7.holds Tryd.pinned (.plain (OpenSpec.ofChange archBackSpec)) archBackCard

/-- THE TIED CARD OF 'vestibulelaw08.ArchBit'. -/
def archBitCard : Claim7 := { stood := { row := archBitRow, standIns := [], harness := (true, "85f62ec4fdccfff8c615193f85b27d9e0cc673cdc81d6776ac8a22ac0a6f7220"), looks := false }, kinds := [], alts := [], laidByText := true, laidKinds := [.data], laidTests := true, laidLooks := .later }
def ArchBitCardSaid : Prop := Claim7.holds Tryd.pinned (.plain (OpenSpec.ofChange archBitSpec)) archBitCard

/-- THE TIED CARD OF 'vestibulelaw08.ArchLists'. -/
def archListsCard : Claim7 := { stood := { row := archListsRow, standIns := [], harness := (true, "85f62ec4fdccfff8c615193f85b27d9e0cc673cdc81d6776ac8a22ac0a6f7220"), looks := false }, kinds := [], alts := [], laidByText := true, laidKinds := [.data], laidTests := true, laidLooks := .later }
def ArchListsCardSaid : Prop := Claim7.holds Tryd.pinned (.plain (OpenSpec.ofChange archListsSpec)) archListsCard

/-- THE SECOND FORM's CARD OF 'vestibulelaw08.ArchNames'. -/
def archNamesUptoCard : Claim7 := { stood := { row := archNamesUptoRow, standIns := [], harness := (true, "85f62ec4fdccfff8c615193f85b27d9e0cc673cdc81d6776ac8a22ac0a6f7220"), looks := false }, kinds := [], alts := [], laidByText := true, laidKinds := [.data], laidTests := true, laidLooks := .later }
def ArchNamesUptoCardSaid : Prop := Claim7.holds Tryd.pinned (.plain (OpenSpec.upto archNamesSpec)) archNamesUptoCard

/-- THE SECOND FORM's CARD OF 'vestibulelaw08.ArchTokens'. -/
def archTokensUptoCard : Claim7 := { stood := { row := archTokensUptoRow, standIns := [], harness := (true, "85f62ec4fdccfff8c615193f85b27d9e0cc673cdc81d6776ac8a22ac0a6f7220"), looks := false }, kinds := [], alts := [], laidByText := true, laidKinds := [.data], laidTests := true, laidLooks := .later }
def ArchTokensUptoCardSaid : Prop := Claim7.holds Tryd.pinned (.plain (OpenSpec.upto archTokensSpec)) archTokensUptoCard

/-- THE SECOND FORM's CARD OF 'vestibulelaw08.ArchBack'. -/
def archBackUptoCard : Claim7 := { stood := { row := archBackUptoRow, standIns := [], harness := (true, "85f62ec4fdccfff8c615193f85b27d9e0cc673cdc81d6776ac8a22ac0a6f7220"), looks := false }, kinds := [], alts := [], laidByText := true, laidKinds := [.data], laidTests := true, laidLooks := .later }
def ArchBackUptoCardSaid : Prop := Claim7.holds Tryd.pinned (.plain (OpenSpec.upto archBackSpec)) archBackUptoCard

/-- THE SECOND FORM's CARD OF 'vestibulelaw08.ArchBit'. -/
def archBitUptoCard : Claim7 := { stood := { row := archBitUptoRow, standIns := [], harness := (true, "85f62ec4fdccfff8c615193f85b27d9e0cc673cdc81d6776ac8a22ac0a6f7220"), looks := false }, kinds := [], alts := [], laidByText := true, laidKinds := [.data], laidTests := true, laidLooks := .later }
def ArchBitUptoCardSaid : Prop := Claim7.holds Tryd.pinned (.plain (OpenSpec.upto archBitSpec)) archBitUptoCard

/-- THE SECOND FORM's CARD OF 'vestibulelaw08.ArchLists'. -/
def archListsUptoCard : Claim7 := { stood := { row := archListsUptoRow, standIns := [], harness := (true, "85f62ec4fdccfff8c615193f85b27d9e0cc673cdc81d6776ac8a22ac0a6f7220"), looks := false }, kinds := [], alts := [], laidByText := true, laidKinds := [.data], laidTests := true, laidLooks := .later }
def ArchListsUptoCardSaid : Prop := Claim7.holds Tryd.pinned (.plain (OpenSpec.upto archListsSpec)) archListsUptoCard
end Rows
end Go.Proofs.YtjfoipjifjblmaaDoor
