/-
  DERIVED. GIVEN WITH THE SEED: THE CARDS: each row of YtfmfjnnbldmdlaaDoorRows.lean that lists a variable, with what it lists TIED to the program's text (the seventh form; the later family's looks); each row that meets fmt, with fmt's text TOLD by the authors' own Lean function (tested against real Go, not proved from fmt's source: count such statements apart). THE CARD IS WHAT COUNTS. Prove the row's statement (the work); the ties are given (YtfmfjnnbldmdlaaDoorTie.lean); close each card by the builder's one call (the guide's Derived/Test/ToyasCard.lean, 'card_holds'). Laid BY PROGRAM, IN A SANDBOX (cutbox-door.mjs). By AI agents, Wed Nov 11 2026. No macro, syntax, notation, axiom, sorry.
-/
import Derived.Test.YtfmfjnnbldmdlaaDoorRows
import GoSem.ClaimSeven
namespace Go.Proofs.YtfmfjnnbldmdlaaDoor
namespace Rows

/-- THE TIED CARD OF 'vestibulelaw15.ValuesWords'. -/
def valuesWordsCard : Claim7 := { stood := { row := valuesWordsRow, standIns := [], harness := (true, "c0fd1cd617b68827f6dbb69273cddfa249932021e7b4f921efccd1397d356a65"), looks := true }, kinds := [], alts := [], laidByText := true, laidKinds := [.data, .data, .data, .sentinel, .sentinel, .data, .data], laidTests := true, laidLooks := .later }
def ValuesWordsCardSaid : Prop := Claim7.holds Tryd.pinned (.plain (OpenSpec.ofChange valuesWordsSpec)) valuesWordsCard

/-- THE TIED CARD OF 'vestibulelaw15.ValuesEntries'. -/
def valuesEntriesCard : Claim7 := { stood := { row := valuesEntriesRow, standIns := [], harness := (true, "c0fd1cd617b68827f6dbb69273cddfa249932021e7b4f921efccd1397d356a65"), looks := true }, kinds := [], alts := [], laidByText := true, laidKinds := [.data, .data, .data, .sentinel, .sentinel, .data, .data], laidTests := true, laidLooks := .later }
def ValuesEntriesCardSaid : Prop := Claim7.holds Tryd.pinned (.plain (OpenSpec.ofChange valuesEntriesSpec)) valuesEntriesCard

/-- THE TIED CARD OF 'vestibulelaw15.ValuesBack'. -/
def valuesBackCard : Claim7 := { stood := { row := valuesBackRow, standIns := [], harness := (true, "c0fd1cd617b68827f6dbb69273cddfa249932021e7b4f921efccd1397d356a65"), looks := true }, kinds := [], alts := [], laidByText := true, laidKinds := [.data, .data, .data, .sentinel, .sentinel, .data, .data], laidTests := true, laidLooks := .later }
def ValuesBackCardSaid : Prop := Claim7.holds Tryd.pinned (.plain (OpenSpec.ofChange valuesBackSpec)) valuesBackCard

/-- THE TIED CARD OF 'vestibulelaw15.ValuesPlain'. -/
def valuesPlainCard : Claim7 := { stood := { row := valuesPlainRow, standIns := [], harness := (true, "c0fd1cd617b68827f6dbb69273cddfa249932021e7b4f921efccd1397d356a65"), looks := true }, kinds := [], alts := [], laidByText := true, laidKinds := [.data, .data, .data, .sentinel, .sentinel, .data, .data], laidTests := true, laidLooks := .later }
def ValuesPlainCardSaid : Prop := Claim7.holds Tryd.pinned (.plain (OpenSpec.ofChange valuesPlainSpec)) valuesPlainCard

/-- THE SECOND FORM's CARD OF 'vestibulelaw15.ValuesWords'. -/
def valuesWordsUptoCard : Claim7 := { stood := { row := valuesWordsUptoRow, standIns := [], harness := (true, "c0fd1cd617b68827f6dbb69273cddfa249932021e7b4f921efccd1397d356a65"), looks := true }, kinds := [], alts := [], laidByText := true, laidKinds := [.data, .data, .data, .sentinel, .sentinel, .data, .data], laidTests := true, laidLooks := .later }
def ValuesWordsUptoCardSaid : Prop := Claim7.holds Tryd.pinned (.plain (OpenSpec.upto valuesWordsSpec)) valuesWordsUptoCard

/-- THE SECOND FORM's CARD OF 'vestibulelaw15.ValuesEntries'. -/
def valuesEntriesUptoCard : Claim7 := { stood := { row := valuesEntriesUptoRow, standIns := [], harness := (true, "c0fd1cd617b68827f6dbb69273cddfa249932021e7b4f921efccd1397d356a65"), looks := true }, kinds := [], alts := [], laidByText := true, laidKinds := [.data, .data, .data, .sentinel, .sentinel, .data, .data], laidTests := true, laidLooks := .later }
def ValuesEntriesUptoCardSaid : Prop := Claim7.holds Tryd.pinned (.plain (OpenSpec.upto valuesEntriesSpec)) valuesEntriesUptoCard

/-- THE SECOND FORM's CARD OF 'vestibulelaw15.ValuesBack'. -/
def valuesBackUptoCard : Claim7 := { stood := { row := valuesBackUptoRow, standIns := [], harness := (true, "c0fd1cd617b68827f6dbb69273cddfa249932021e7b4f921efccd1397d356a65"), looks := true }, kinds := [], alts := [], laidByText := true, laidKinds := [.data, .data, .data, .sentinel, .sentinel, .data, .data], laidTests := true, laidLooks := .later }
def ValuesBackUptoCardSaid : Prop := Claim7.holds Tryd.pinned (.plain (OpenSpec.upto valuesBackSpec)) valuesBackUptoCard

/-- THE SECOND FORM's CARD OF 'vestibulelaw15.ValuesPlain'. -/
def valuesPlainUptoCard : Claim7 := { stood := { row := valuesPlainUptoRow, standIns := [], harness := (true, "c0fd1cd617b68827f6dbb69273cddfa249932021e7b4f921efccd1397d356a65"), looks := true }, kinds := [], alts := [], laidByText := true, laidKinds := [.data, .data, .data, .sentinel, .sentinel, .data, .data], laidTests := true, laidLooks := .later }
def ValuesPlainUptoCardSaid : Prop := Claim7.holds Tryd.pinned (.plain (OpenSpec.upto valuesPlainSpec)) valuesPlainUptoCard
end Rows
end Go.Proofs.YtfmfjnnbldmdlaaDoor
