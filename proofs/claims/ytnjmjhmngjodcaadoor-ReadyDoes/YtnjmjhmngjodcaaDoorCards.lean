/-
  DERIVED. GIVEN WITH THE SEED: THE CARDS: each row of YtnjmjhmngjodcaaDoorRows.lean that lists a variable, with what it lists TIED to the program's text (the seventh form; the later family's looks); each row that meets fmt, with fmt's text TOLD by the authors' own Lean function (tested against real Go, not proved from fmt's source: count such statements apart). THE CARD IS WHAT COUNTS. Prove the row's statement (the work); the ties are given (YtnjmjhmngjodcaaDoorTie.lean); close each card by the builder's one call (the guide's Derived/Test/ToyasCard.lean, 'card_holds'). Laid BY PROGRAM, IN A SANDBOX (cutbox-door.mjs). By AI agents, Wed Nov 11 2026. No macro, syntax, notation, axiom, sorry.
-/
import Derived.Test.YtnjmjhmngjodcaaDoorRows
import GoSem.ClaimSeven
namespace Go.Proofs.YtnjmjhmngjodcaaDoor
namespace Rows

/-- THE TIED CARD OF 'buttresslaw09.ReadyDoes'. -/
def readyDoesCard : Claim7 := { stood := { row := readyDoesRow, standIns := [], harness := (true, "41a561687ac6472437936b81c306dd771800890cdc6444e9e05f44bbcb4e15e5"), looks := false }, kinds := [], alts := [], laidByText := true, laidKinds := [.data], laidTests := true, laidLooks := .later }
def ReadyDoesCardSaid : Prop := Claim7.holds Tryd.pinned (.plain (OpenSpec.ofChange readyDoesSpec)) readyDoesCard

/-- THE TIED CARD OF 'buttresslaw09.ReadyFirst'. -/
def readyFirstCard : Claim7 := { stood := { row := readyFirstRow, standIns := [], harness := (true, "41a561687ac6472437936b81c306dd771800890cdc6444e9e05f44bbcb4e15e5"), looks := false }, kinds := [], alts := [], laidByText := true, laidKinds := [.data], laidTests := true, laidLooks := .later }
def ReadyFirstCardSaid : Prop := Claim7.holds Tryd.pinned (.plain (OpenSpec.ofChange readyFirstSpec)) readyFirstCard

/-- THE TIED CARD OF 'buttresslaw09.ReadyTurns'. -/
def readyTurnsCard : Claim7 := { stood := { row := readyTurnsRow, standIns := [], harness := (true, "41a561687ac6472437936b81c306dd771800890cdc6444e9e05f44bbcb4e15e5"), looks := false }, kinds := [], alts := [], laidByText := true, laidKinds := [.data], laidTests := true, laidLooks := .later }
def ReadyTurnsCardSaid : Prop := Claim7.holds Tryd.pinned (.plain (OpenSpec.ofChange readyTurnsSpec)) readyTurnsCard

/-- THE TIED CARD OF 'buttresslaw09.ReadyBits'. -/
def readyBitsCard : Claim7 := { stood := { row := readyBitsRow, standIns := [], harness := (true, "41a561687ac6472437936b81c306dd771800890cdc6444e9e05f44bbcb4e15e5"), looks := false }, kinds := [], alts := [], laidByText := true, laidKinds := [.data], laidTests := true, laidLooks := .later }
def ReadyBitsCardSaid : Prop := Claim7.holds Tryd.pinned (.plain (OpenSpec.ofChange readyBitsSpec)) readyBitsCard

/-- THE TIED CARD OF 'buttresslaw09.ReadyTakes'. -/
def readyTakesCard : Claim7 := { stood := { row := readyTakesRow, standIns := [], harness := (true, "41a561687ac6472437936b81c306dd771800890cdc6444e9e05f44bbcb4e15e5"), looks := false }, kinds := [], alts := [], laidByText := true, laidKinds := [.data], laidTests := true, laidLooks := .later }
def ReadyTakesCardSaid : Prop := Claim7.holds Tryd.pinned (.plain (OpenSpec.ofChange readyTakesSpec)) readyTakesCard

/-- THE TIED CARD OF 'buttresslaw09.ReadyApart'. -/
def readyApartCard : Claim7 := { stood := { row := readyApartRow, standIns := [], harness := (true, "41a561687ac6472437936b81c306dd771800890cdc6444e9e05f44bbcb4e15e5"), looks := false }, kinds := [], alts := [], laidByText := true, laidKinds := [.data], laidTests := true, laidLooks := .later }
def ReadyApartCardSaid : Prop := Claim7.holds Tryd.pinned (.plain (OpenSpec.ofChange readyApartSpec)) readyApartCard

/-- THE SECOND FORM's CARD OF 'buttresslaw09.ReadyDoes'. -/
def readyDoesUptoCard : Claim7 := { stood := { row := readyDoesUptoRow, standIns := [], harness := (true, "41a561687ac6472437936b81c306dd771800890cdc6444e9e05f44bbcb4e15e5"), looks := false }, kinds := [], alts := [], laidByText := true, laidKinds := [.data], laidTests := true, laidLooks := .later }
def ReadyDoesUptoCardSaid : Prop := Claim7.holds Tryd.pinned (.plain (OpenSpec.upto readyDoesSpec)) readyDoesUptoCard

/-- THE SECOND FORM's CARD OF 'buttresslaw09.ReadyFirst'. -/
def readyFirstUptoCard : Claim7 := { stood := { row := readyFirstUptoRow, standIns := [], harness := (true, "41a561687ac6472437936b81c306dd771800890cdc6444e9e05f44bbcb4e15e5"), looks := false }, kinds := [], alts := [], laidByText := true, laidKinds := [.data], laidTests := true, laidLooks := .later }
def ReadyFirstUptoCardSaid : Prop := Claim7.holds Tryd.pinned (.plain (OpenSpec.upto readyFirstSpec)) readyFirstUptoCard

/-- THE SECOND FORM's CARD OF 'buttresslaw09.ReadyTurns'. -/
def readyTurnsUptoCard : Claim7 := { stood := { row := readyTurnsUptoRow, standIns := [], harness := (true, "41a561687ac6472437936b81c306dd771800890cdc6444e9e05f44bbcb4e15e5"), looks := false }, kinds := [], alts := [], laidByText := true, laidKinds := [.data], laidTests := true, laidLooks := .later }
def ReadyTurnsUptoCardSaid : Prop := Claim7.holds Tryd.pinned (.plain (OpenSpec.upto readyTurnsSpec)) readyTurnsUptoCard

/-- THE SECOND FORM's CARD OF 'buttresslaw09.ReadyBits'. -/
def readyBitsUptoCard : Claim7 := { stood := { row := readyBitsUptoRow, standIns := [], harness := (true, "41a561687ac6472437936b81c306dd771800890cdc6444e9e05f44bbcb4e15e5"), looks := false }, kinds := [], alts := [], laidByText := true, laidKinds := [.data], laidTests := true, laidLooks := .later }
def ReadyBitsUptoCardSaid : Prop := Claim7.holds Tryd.pinned (.plain (OpenSpec.upto readyBitsSpec)) readyBitsUptoCard

/-- THE SECOND FORM's CARD OF 'buttresslaw09.ReadyTakes'. -/
def readyTakesUptoCard : Claim7 := { stood := { row := readyTakesUptoRow, standIns := [], harness := (true, "41a561687ac6472437936b81c306dd771800890cdc6444e9e05f44bbcb4e15e5"), looks := false }, kinds := [], alts := [], laidByText := true, laidKinds := [.data], laidTests := true, laidLooks := .later }
def ReadyTakesUptoCardSaid : Prop := Claim7.holds Tryd.pinned (.plain (OpenSpec.upto readyTakesSpec)) readyTakesUptoCard

/-- THE SECOND FORM's CARD OF 'buttresslaw09.ReadyApart'. -/
def readyApartUptoCard : Claim7 := { stood := { row := readyApartUptoRow, standIns := [], harness := (true, "41a561687ac6472437936b81c306dd771800890cdc6444e9e05f44bbcb4e15e5"), looks := false }, kinds := [], alts := [], laidByText := true, laidKinds := [.data], laidTests := true, laidLooks := .later }
def ReadyApartUptoCardSaid : Prop := Claim7.holds Tryd.pinned (.plain (OpenSpec.upto readyApartSpec)) readyApartUptoCard
end Rows
end Go.Proofs.YtnjmjhmngjodcaaDoor
