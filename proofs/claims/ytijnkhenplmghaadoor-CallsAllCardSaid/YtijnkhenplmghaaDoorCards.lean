/-
  DERIVED. GIVEN WITH THE SEED: THE CARDS: each row of YtijnkhenplmghaaDoorRows.lean that lists a variable, with what it lists TIED to the program's text (the seventh form; the later family's looks); each row that meets fmt, with fmt's text TOLD by the authors' own Lean function (tested against real Go, not proved from fmt's source: count such statements apart). THE CARD IS WHAT COUNTS. Prove the row's statement (the work); the ties are given (YtijnkhenplmghaaDoorTie.lean); close each card by the builder's one call (the guide's Derived/Test/ToyasCard.lean, 'card_holds'). Laid BY PROGRAM, IN A SANDBOX (cutbox-door.mjs). By AI agents, Wed Nov 11 2026. No macro, syntax, notation, axiom, sorry.
-/
import Derived.Test.YtijnkhenplmghaaDoorRows
import GoSem.ClaimSeven
namespace Go.Proofs.YtijnkhenplmghaaDoor
namespace Rows

/-- THE TIED CARD OF 'vestibulelaw09.CallsTells'. -/
def callsTellsCard : Claim7 := { stood := { row := callsTellsRow, standIns := [], harness := (true, "005109bf3aec19fdc13630d709ed6781ccac499a53ac9955847bd5dc969020f6"), looks := false }, kinds := [], alts := [], laidByText := true, laidKinds := [.data], laidTests := true, laidLooks := .later }
def CallsTellsCardSaid : Prop := Claim7.holds Tryd.pinned (.plain (OpenSpec.ofChange callsTellsSpec)) callsTellsCard

/-- THE TIED CARD OF 'vestibulelaw09.CallsAll'. -/
def callsAllCard : Claim7 := { stood := { row := callsAllRow, standIns := [], harness := (true, "005109bf3aec19fdc13630d709ed6781ccac499a53ac9955847bd5dc969020f6"), looks := false }, kinds := [], alts := [], laidByText := true, laidKinds := [.data], laidTests := true, laidLooks := .later }
def CallsAllCardSaid : Prop := Claim7.holds Tryd.pinned (.plain (OpenSpec.ofChange callsAllSpec)) callsAllCard

/-- THE TIED CARD OF 'vestibulelaw09.CallsOne'. -/
def callsOneCard : Claim7 := { stood := { row := callsOneRow, standIns := [], harness := (true, "005109bf3aec19fdc13630d709ed6781ccac499a53ac9955847bd5dc969020f6"), looks := false }, kinds := [], alts := [], laidByText := true, laidKinds := [.data], laidTests := true, laidLooks := .later }
def CallsOneCardSaid : Prop := Claim7.holds Tryd.pinned (.plain (OpenSpec.ofChange callsOneSpec)) callsOneCard

/-- THE TIED CARD OF 'vestibulelaw09.CallsKnown'. -/
def callsKnownCard : Claim7 := { stood := { row := callsKnownRow, standIns := [], harness := (true, "005109bf3aec19fdc13630d709ed6781ccac499a53ac9955847bd5dc969020f6"), looks := false }, kinds := [], alts := [], laidByText := true, laidKinds := [.data], laidTests := true, laidLooks := .later }
def CallsKnownCardSaid : Prop := Claim7.holds Tryd.pinned (.plain (OpenSpec.ofChange callsKnownSpec)) callsKnownCard

/-- THE SECOND FORM's CARD OF 'vestibulelaw09.CallsTells'. -/
def callsTellsUptoCard : Claim7 := { stood := { row := callsTellsUptoRow, standIns := [], harness := (true, "005109bf3aec19fdc13630d709ed6781ccac499a53ac9955847bd5dc969020f6"), looks := false }, kinds := [], alts := [], laidByText := true, laidKinds := [.data], laidTests := true, laidLooks := .later }
def CallsTellsUptoCardSaid : Prop := Claim7.holds Tryd.pinned (.plain (OpenSpec.upto callsTellsSpec)) callsTellsUptoCard

/-- THE SECOND FORM's CARD OF 'vestibulelaw09.CallsAll'. -/
def callsAllUptoCard : Claim7 := { stood := { row := callsAllUptoRow, standIns := [], harness := (true, "005109bf3aec19fdc13630d709ed6781ccac499a53ac9955847bd5dc969020f6"), looks := false }, kinds := [], alts := [], laidByText := true, laidKinds := [.data], laidTests := true, laidLooks := .later }
def CallsAllUptoCardSaid : Prop := Claim7.holds Tryd.pinned (.plain (OpenSpec.upto callsAllSpec)) callsAllUptoCard

/-- THE SECOND FORM's CARD OF 'vestibulelaw09.CallsOne'. -/
def callsOneUptoCard : Claim7 := { stood := { row := callsOneUptoRow, standIns := [], harness := (true, "005109bf3aec19fdc13630d709ed6781ccac499a53ac9955847bd5dc969020f6"), looks := false }, kinds := [], alts := [], laidByText := true, laidKinds := [.data], laidTests := true, laidLooks := .later }
def CallsOneUptoCardSaid : Prop := Claim7.holds Tryd.pinned (.plain (OpenSpec.upto callsOneSpec)) callsOneUptoCard

/-- THE SECOND FORM's CARD OF 'vestibulelaw09.CallsKnown'. -/
def callsKnownUptoCard : Claim7 := { stood := { row := callsKnownUptoRow, standIns := [], harness := (true, "005109bf3aec19fdc13630d709ed6781ccac499a53ac9955847bd5dc969020f6"), looks := false }, kinds := [], alts := [], laidByText := true, laidKinds := [.data], laidTests := true, laidLooks := .later }
def CallsKnownUptoCardSaid : Prop := Claim7.holds Tryd.pinned (.plain (OpenSpec.upto callsKnownSpec)) callsKnownUptoCard
end Rows
end Go.Proofs.YtijnkhenplmghaaDoor
