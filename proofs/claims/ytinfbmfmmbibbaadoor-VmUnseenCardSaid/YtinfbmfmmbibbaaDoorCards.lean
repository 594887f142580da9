/-
  DERIVED. GIVEN WITH THE SEED: THE CARDS: each row of YtinfbmfmmbibbaaDoorRows.lean that lists a variable, with what it lists TIED to the program's text (the seventh form; the later family's looks); each row that meets fmt, with fmt's text TOLD by the authors' own Lean function (tested against real Go, not proved from fmt's source: count such statements apart). THE CARD IS WHAT COUNTS. Prove the row's statement (the work); the ties are given (YtinfbmfmmbibbaaDoorTie.lean); close each card by the builder's one call (the guide's Derived/Test/ToyasCard.lean, 'card_holds'). Laid BY PROGRAM, IN A SANDBOX (cutbox-door.mjs). By AI agents, Wed Nov 11 2026. No macro, syntax, notation, axiom, sorry.
-/
import Derived.Test.YtinfbmfmmbibbaaDoorRows
import GoSem.ClaimSeven
namespace Go.Proofs.YtinfbmfmmbibbaaDoor
namespace Rows

/-- THE TIED CARD OF 'vestibulelaw04.VmRuns'. -/
def vmRunsCard : Claim7 := { stood := { row := vmRunsRow, standIns := [], harness := (true, "5cccb4d995a3f5767f421f0ffc06f0550226ca6921297aff84d251b8850490a0"), looks := true }, kinds := [], alts := [], laidByText := true, laidKinds := [.data], laidTests := true, laidLooks := .later }
def VmRunsCardSaid : Prop := Claim7.holds Tryd.pinned (.plain (OpenSpec.ofChange vmRunsSpec)) vmRunsCard

/-- THE TIED CARD OF 'vestibulelaw04.VmOne'. -/
def vmOneCard : Claim7 := { stood := { row := vmOneRow, standIns := [], harness := (true, "5cccb4d995a3f5767f421f0ffc06f0550226ca6921297aff84d251b8850490a0"), looks := true }, kinds := [], alts := [], laidByText := true, laidKinds := [.data], laidTests := true, laidLooks := .later }
def VmOneCardSaid : Prop := Claim7.holds Tryd.pinned (.plain (OpenSpec.ofChange vmOneSpec)) vmOneCard

/-- THE TIED CARD OF 'vestibulelaw04.VmEnds'. -/
def vmEndsCard : Claim7 := { stood := { row := vmEndsRow, standIns := [], harness := (true, "5cccb4d995a3f5767f421f0ffc06f0550226ca6921297aff84d251b8850490a0"), looks := true }, kinds := [], alts := [], laidByText := true, laidKinds := [.data], laidTests := true, laidLooks := .later }
def VmEndsCardSaid : Prop := Claim7.holds Tryd.pinned (.plain (OpenSpec.ofChange vmEndsSpec)) vmEndsCard

/-- THE TIED CARD OF 'vestibulelaw04.VmUnseen'. -/
def vmUnseenCard : Claim7 := { stood := { row := vmUnseenRow, standIns := [], harness := (true, "5cccb4d995a3f5767f421f0ffc06f0550226ca6921297aff84d251b8850490a0"), looks := true }, kinds := [], alts := [], laidByText := true, laidKinds := [.data], laidTests := true, laidLooks := .later }
def VmUnseenCardSaid : Prop := Claim7.holds Tryd.pinned (.plain (OpenSpec.ofChange vmUnseenSpec)) vmUnseenCard

/-- THE TIED CARD OF 'vestibulelaw04.VmBehind'. -/
def vmBehindCard : Claim7 := { stood := { row := vmBehindRow, standIns := [], harness := (true, "5cccb4d995a3f5767f421f0ffc06f0550226ca6921297aff84d251b8850490a0"), looks := true }, kinds := [], alts := [], laidByText := true, laidKinds := [.data], laidTests := true, laidLooks := .later }
def VmBehindCardSaid : Prop := Claim7.holds Tryd.pinned (.plain (OpenSpec.ofChange vmBehindSpec)) vmBehindCard

/-- THE SECOND FORM's CARD OF 'vestibulelaw04.VmRuns'. -/
def vmRunsUptoCard : Claim7 := { stood := { row := vmRunsUptoRow, standIns := [], harness := (true, "5cccb4d995a3f5767f421f0ffc06f0550226ca6921297aff84d251b8850490a0"), looks := true }, kinds := [], alts := [], laidByText := true, laidKinds := [.data], laidTests := true, laidLooks := .later }
def VmRunsUptoCardSaid : Prop := Claim7.holds Tryd.pinned (.plain (OpenSpec.upto vmRunsSpec)) vmRunsUptoCard

/-- THE SECOND FORM's CARD OF 'vestibulelaw04.VmOne'. -/
def vmOneUptoCard : Claim7 := { stood := { row := vmOneUptoRow, standIns := [], harness := (true, "5cccb4d995a3f5767f421f0ffc06f0550226ca6921297aff84d251b8850490a0"), looks := true }, kinds := [], alts := [], laidByText := true, laidKinds := [.data], laidTests := true, laidLooks := .later }
def VmOneUptoCardSaid : Prop := Claim7.holds Tryd.pinned (.plain (OpenSpec.upto vmOneSpec)) vmOneUptoCard

/-- THE SECOND FORM's CARD OF 'vestibulelaw04.VmEnds'. -/
def vmEndsUptoCard : Claim7 := { stood := { row := vmEndsUptoRow, standIns := [], harness := (true, "5cccb4d995a3f5767f421f0ffc06f0550226ca6921297aff84d251b8850490a0"), looks := true }, kinds := [], alts := [], laidByText := true, laidKinds := [.data], laidTests := true, laidLooks := .later }
def VmEndsUptoCardSaid : Prop := Claim7.holds Tryd.pinned (.plain (OpenSpec.upto vmEndsSpec)) vmEndsUptoCard

/-- THE SECOND FORM's CARD OF 'vestibulelaw04.VmUnseen'. -/
def vmUnseenUptoCard : Claim7 := { stood := { row := vmUnseenUptoRow, standIns := [], harness := (true, "5cccb4d995a3f5767f421f0ffc06f0550226ca6921297aff84d251b8850490a0"), looks := true }, kinds := [], alts := [], laidByText := true, laidKinds := [.data], laidTests := true, laidLooks := .later }
def VmUnseenUptoCardSaid : Prop := Claim7.holds Tryd.pinned (.plain (OpenSpec.upto vmUnseenSpec)) vmUnseenUptoCard

/-- THE SECOND FORM's CARD OF 'vestibulelaw04.VmBehind'. -/
def vmBehindUptoCard : Claim7 := { stood := { row := vmBehindUptoRow, standIns := [], harness := (true, "5cccb4d995a3f5767f421f0ffc06f0550226ca6921297aff84d251b8850490a0"), looks := true }, kinds := [], alts := [], laidByText := true, laidKinds := [.data], laidTests := true, laidLooks := .later }
def VmBehindUptoCardSaid : Prop := Claim7.holds Tryd.pinned (.plain (OpenSpec.upto vmBehindSpec)) vmBehindUptoCard
end Rows
end Go.Proofs.YtinfbmfmmbibbaaDoor
