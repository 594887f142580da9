/-
  DERIVED. GIVEN WITH THE SEED: THE CARDS: each row of YtgigdhincpcdbaaGreatDoorRows.lean that lists a variable, with what it lists TIED to the program's text (the seventh form; the later family's looks); each row that meets fmt, with fmt's text TOLD by the authors' own Lean function (tested against real Go, not proved from fmt's source: count such statements apart). THE CARD IS WHAT COUNTS. Prove the row's statement (the work); the ties are given (YtgigdhincpcdbaaGreatDoorTie.lean); close each card by the builder's one call (the guide's Derived/Test/ToyasCard.lean, 'card_holds'). Laid BY PROGRAM, IN A SANDBOX (cutbox-door.mjs). By AI agents, Wed Nov 11 2026. No macro, syntax, notation, axiom, sorry.
-/
import Derived.Test.YtgigdhincpcdbaaGreatDoorRows
import GoSem.ClaimSeven
namespace Go.Proofs.YtgigdhincpcdbaaGreatDoor
namespace Rows

/-- THE TIED CARD OF 'vestibulelaw14.DropinOrders'. -/
def dropinOrdersCard : Claim7 := { stood := { row := dropinOrdersRow, standIns := [], harness := (true, "8dcd1387b86aaa064eeaaa8bf415455265d48e827b54c1d7a44c53d9b881f78c"), looks := false }, kinds := [], alts := [], laidByText := true, laidKinds := [.data, .pinned], laidTests := true, laidLooks := .later }
def DropinOrdersCardSaid : Prop := Claim7.holds Tryz.pinned (.plain (OpenSpec.ofChange dropinOrdersSpec)) dropinOrdersCard

/-- THE TIED CARD OF 'vestibulelaw14.DropinMerges'. -/
def dropinMergesCard : Claim7 := { stood := { row := dropinMergesRow, standIns := [], harness := (true, "8dcd1387b86aaa064eeaaa8bf415455265d48e827b54c1d7a44c53d9b881f78c"), looks := false }, kinds := [], alts := [], laidByText := true, laidKinds := [.data, .pinned], laidTests := true, laidLooks := .later }
def DropinMergesCardSaid : Prop := Claim7.holds Tryz.pinned (.plain (OpenSpec.ofChange dropinMergesSpec)) dropinMergesCard

/-- THE TIED CARD OF 'vestibulelaw14.DropinAny'. -/
def dropinAnyCard : Claim7 := { stood := { row := dropinAnyRow, standIns := [], harness := (true, "8dcd1387b86aaa064eeaaa8bf415455265d48e827b54c1d7a44c53d9b881f78c"), looks := false }, kinds := [], alts := [], laidByText := true, laidKinds := [.data, .pinned], laidTests := true, laidLooks := .later }
def DropinAnyCardSaid : Prop := Claim7.holds Tryz.pinned (.plain (OpenSpec.ofChange dropinAnySpec)) dropinAnyCard

/-- THE TIED CARD OF 'vestibulelaw14.DropinMasked'. -/
def dropinMaskedCard : Claim7 := { stood := { row := dropinMaskedRow, standIns := [], harness := (true, "8dcd1387b86aaa064eeaaa8bf415455265d48e827b54c1d7a44c53d9b881f78c"), looks := false }, kinds := [], alts := [], laidByText := true, laidKinds := [.data, .pinned], laidTests := true, laidLooks := .later }
def DropinMaskedCardSaid : Prop := Claim7.holds Tryz.pinned (.plain (OpenSpec.ofChange dropinMaskedSpec)) dropinMaskedCard

/-- THE TIED CARD OF 'vestibulelaw14.DropinBehind'. -/
def dropinBehindCard : Claim7 := { stood := { row := dropinBehindRow, standIns := [], harness := (true, "8dcd1387b86aaa064eeaaa8bf415455265d48e827b54c1d7a44c53d9b881f78c"), looks := false }, kinds := [], alts := [], laidByText := true, laidKinds := [.data, .pinned], laidTests := true, laidLooks := .later }
def DropinBehindCardSaid : Prop := Claim7.holds Tryz.pinned (.plain (OpenSpec.ofChange dropinBehindSpec)) dropinBehindCard

/-- THE SECOND FORM's CARD OF 'vestibulelaw14.DropinOrders'. -/
def dropinOrdersUptoCard : Claim7 := { stood := { row := dropinOrdersUptoRow, standIns := [], harness := (true, "8dcd1387b86aaa064eeaaa8bf415455265d48e827b54c1d7a44c53d9b881f78c"), looks := false }, kinds := [], alts := [], laidByText := true, laidKinds := [.data, .pinned], laidTests := true, laidLooks := .later }
def DropinOrdersUptoCardSaid : Prop := Claim7.holds Tryz.pinned (.plain (OpenSpec.upto dropinOrdersSpec)) dropinOrdersUptoCard

/-- THE SECOND FORM's CARD OF 'vestibulelaw14.DropinMerges'. -/
def dropinMergesUptoCard : Claim7 := { stood := { row := dropinMergesUptoRow, standIns := [], harness := (true, "8dcd1387b86aaa064eeaaa8bf415455265d48e827b54c1d7a44c53d9b881f78c"), looks := false }, kinds := [], alts := [], laidByText := true, laidKinds := [.data, .pinned], laidTests := true, laidLooks := .later }
def DropinMergesUptoCardSaid : Prop := Claim7.holds Tryz.pinned (.plain (OpenSpec.upto dropinMergesSpec)) dropinMergesUptoCard

/-- THE SECOND FORM's CARD OF 'vestibulelaw14.DropinAny'. -/
def dropinAnyUptoCard : Claim7 := { stood := { row := dropinAnyUptoRow, standIns := [], harness := (true, "8dcd1387b86aaa064eeaaa8bf415455265d48e827b54c1d7a44c53d9b881f78c"), looks := false }, kinds := [], alts := [], laidByText := true, laidKinds := [.data, .pinned], laidTests := true, laidLooks := .later }
def DropinAnyUptoCardSaid : Prop := Claim7.holds Tryz.pinned (.plain (OpenSpec.upto dropinAnySpec)) dropinAnyUptoCard

/-- THE SECOND FORM's CARD OF 'vestibulelaw14.DropinMasked'. -/
def dropinMaskedUptoCard : Claim7 := { stood := { row := dropinMaskedUptoRow, standIns := [], harness := (true, "8dcd1387b86aaa064eeaaa8bf415455265d48e827b54c1d7a44c53d9b881f78c"), looks := false }, kinds := [], alts := [], laidByText := true, laidKinds := [.data, .pinned], laidTests := true, laidLooks := .later }
def DropinMaskedUptoCardSaid : Prop := Claim7.holds Tryz.pinned (.plain (OpenSpec.upto dropinMaskedSpec)) dropinMaskedUptoCard

/-- THE SECOND FORM's CARD OF 'vestibulelaw14.DropinBehind'. -/
def dropinBehindUptoCard : Claim7 := { stood := { row := dropinBehindUptoRow, standIns := [], harness := (true, "8dcd1387b86aaa064eeaaa8bf415455265d48e827b54c1d7a44c53d9b881f78c"), looks := false }, kinds := [], alts := [], laidByText := true, laidKinds := [.data, .pinned], laidTests := true, laidLooks := .later }
def DropinBehindUptoCardSaid : Prop := Claim7.holds Tryz.pinned (.plain (OpenSpec.upto dropinBehindSpec)) dropinBehindUptoCard
end Rows
end Go.Proofs.YtgigdhincpcdbaaGreatDoor
