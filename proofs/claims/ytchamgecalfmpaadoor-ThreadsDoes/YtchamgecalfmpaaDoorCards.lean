/-
  DERIVED. GIVEN WITH THE SEED: THE CARDS: each row of YtchamgecalfmpaaDoorRows.lean that lists a variable, with what it lists TIED to the program's text (the seventh form; the later family's looks); each row that meets fmt, with fmt's text TOLD by the authors' own Lean function (tested against real Go, not proved from fmt's source: count such statements apart). THE CARD IS WHAT COUNTS. Prove the row's statement (the work); the ties are given (YtchamgecalfmpaaDoorTie.lean); close each card by the builder's one call (the guide's Derived/Test/ToyasCard.lean, 'card_holds'). Laid BY PROGRAM, IN A SANDBOX (cutbox-door.mjs). By AI agents, Wed Nov 11 2026. No macro, syntax, notation, axiom, sorry.
-/
import Derived.Test.YtchamgecalfmpaaDoorRows
import GoSem.ClaimSeven
namespace Go.Proofs.YtchamgecalfmpaaDoor
namespace Rows

/-- THE TIED CARD OF 'buttresslaw10.ThreadsDoes'. -/
def threadsDoesCard : Claim7 := { stood := { row := threadsDoesRow, standIns := [], harness := (true, "7a264e825968770d3c5b35066886f0b2fdb5c92b9c51622669bdd9d8c92f6ee5"), looks := false }, kinds := [], alts := [], laidByText := true, laidKinds := [.data], laidTests := true, laidLooks := .later }
def ThreadsDoesCardSaid : Prop := Claim7.holds Tryd.pinned (.plain (OpenSpec.ofChange threadsDoesSpec)) threadsDoesCard

/-- THE TIED CARD OF 'buttresslaw10.ThreadsPick'. -/
def threadsPickCard : Claim7 := { stood := { row := threadsPickRow, standIns := [], harness := (true, "7a264e825968770d3c5b35066886f0b2fdb5c92b9c51622669bdd9d8c92f6ee5"), looks := false }, kinds := [], alts := [], laidByText := true, laidKinds := [.data], laidTests := true, laidLooks := .later }
def ThreadsPickCardSaid : Prop := Claim7.holds Tryd.pinned (.plain (OpenSpec.ofChange threadsPickSpec)) threadsPickCard

/-- THE TIED CARD OF 'buttresslaw10.ThreadsTurns'. -/
def threadsTurnsCard : Claim7 := { stood := { row := threadsTurnsRow, standIns := [], harness := (true, "7a264e825968770d3c5b35066886f0b2fdb5c92b9c51622669bdd9d8c92f6ee5"), looks := false }, kinds := [], alts := [], laidByText := true, laidKinds := [.data], laidTests := true, laidLooks := .later }
def ThreadsTurnsCardSaid : Prop := Claim7.holds Tryd.pinned (.plain (OpenSpec.ofChange threadsTurnsSpec)) threadsTurnsCard

/-- THE TIED CARD OF 'buttresslaw10.ThreadsWaits'. -/
def threadsWaitsCard : Claim7 := { stood := { row := threadsWaitsRow, standIns := [], harness := (true, "7a264e825968770d3c5b35066886f0b2fdb5c92b9c51622669bdd9d8c92f6ee5"), looks := false }, kinds := [], alts := [], laidByText := true, laidKinds := [.data], laidTests := true, laidLooks := .later }
def ThreadsWaitsCardSaid : Prop := Claim7.holds Tryd.pinned (.plain (OpenSpec.ofChange threadsWaitsSpec)) threadsWaitsCard

/-- THE TIED CARD OF 'buttresslaw10.ThreadsGreater'. -/
def threadsGreaterCard : Claim7 := { stood := { row := threadsGreaterRow, standIns := [], harness := (true, "7a264e825968770d3c5b35066886f0b2fdb5c92b9c51622669bdd9d8c92f6ee5"), looks := false }, kinds := [], alts := [], laidByText := true, laidKinds := [.data], laidTests := true, laidLooks := .later }
def ThreadsGreaterCardSaid : Prop := Claim7.holds Tryd.pinned (.plain (OpenSpec.ofChange threadsGreaterSpec)) threadsGreaterCard

/-- THE TIED CARD OF 'buttresslaw10.ThreadsMoves'. -/
def threadsMovesCard : Claim7 := { stood := { row := threadsMovesRow, standIns := [], harness := (true, "7a264e825968770d3c5b35066886f0b2fdb5c92b9c51622669bdd9d8c92f6ee5"), looks := false }, kinds := [], alts := [], laidByText := true, laidKinds := [.data], laidTests := true, laidLooks := .later }
def ThreadsMovesCardSaid : Prop := Claim7.holds Tryd.pinned (.plain (OpenSpec.ofChange threadsMovesSpec)) threadsMovesCard

/-- THE SECOND FORM's CARD OF 'buttresslaw10.ThreadsDoes'. -/
def threadsDoesUptoCard : Claim7 := { stood := { row := threadsDoesUptoRow, standIns := [], harness := (true, "7a264e825968770d3c5b35066886f0b2fdb5c92b9c51622669bdd9d8c92f6ee5"), looks := false }, kinds := [], alts := [], laidByText := true, laidKinds := [.data], laidTests := true, laidLooks := .later }
def ThreadsDoesUptoCardSaid : Prop := Claim7.holds Tryd.pinned (.plain (OpenSpec.upto threadsDoesSpec)) threadsDoesUptoCard

/-- THE SECOND FORM's CARD OF 'buttresslaw10.ThreadsPick'. -/
def threadsPickUptoCard : Claim7 := { stood := { row := threadsPickUptoRow, standIns := [], harness := (true, "7a264e825968770d3c5b35066886f0b2fdb5c92b9c51622669bdd9d8c92f6ee5"), looks := false }, kinds := [], alts := [], laidByText := true, laidKinds := [.data], laidTests := true, laidLooks := .later }
def ThreadsPickUptoCardSaid : Prop := Claim7.holds Tryd.pinned (.plain (OpenSpec.upto threadsPickSpec)) threadsPickUptoCard

/-- THE SECOND FORM's CARD OF 'buttresslaw10.ThreadsTurns'. -/
def threadsTurnsUptoCard : Claim7 := { stood := { row := threadsTurnsUptoRow, standIns := [], harness := (true, "7a264e825968770d3c5b35066886f0b2fdb5c92b9c51622669bdd9d8c92f6ee5"), looks := false }, kinds := [], alts := [], laidByText := true, laidKinds := [.data], laidTests := true, laidLooks := .later }
def ThreadsTurnsUptoCardSaid : Prop := Claim7.holds Tryd.pinned (.plain (OpenSpec.upto threadsTurnsSpec)) threadsTurnsUptoCard

/-- THE SECOND FORM's CARD OF 'buttresslaw10.ThreadsWaits'. -/
def threadsWaitsUptoCard : Claim7 := { stood := { row := threadsWaitsUptoRow, standIns := [], harness := (true, "7a264e825968770d3c5b35066886f0b2fdb5c92b9c51622669bdd9d8c92f6ee5"), looks := false }, kinds := [], alts := [], laidByText := true, laidKinds := [.data], laidTests := true, laidLooks := .later }
def ThreadsWaitsUptoCardSaid : Prop := Claim7.holds Tryd.pinned (.plain (OpenSpec.upto threadsWaitsSpec)) threadsWaitsUptoCard

/-- THE SECOND FORM's CARD OF 'buttresslaw10.ThreadsGreater'. -/
def threadsGreaterUptoCard : Claim7 := { stood := { row := threadsGreaterUptoRow, standIns := [], harness := (true, "7a264e825968770d3c5b35066886f0b2fdb5c92b9c51622669bdd9d8c92f6ee5"), looks := false }, kinds := [], alts := [], laidByText := true, laidKinds := [.data], laidTests := true, laidLooks := .later }
def ThreadsGreaterUptoCardSaid : Prop := Claim7.holds Tryd.pinned (.plain (OpenSpec.upto threadsGreaterSpec)) threadsGreaterUptoCard

/-- THE SECOND FORM's CARD OF 'buttresslaw10.ThreadsMoves'. -/
def threadsMovesUptoCard : Claim7 := { stood := { row := threadsMovesUptoRow, standIns := [], harness := (true, "7a264e825968770d3c5b35066886f0b2fdb5c92b9c51622669bdd9d8c92f6ee5"), looks := false }, kinds := [], alts := [], laidByText := true, laidKinds := [.data], laidTests := true, laidLooks := .later }
def ThreadsMovesUptoCardSaid : Prop := Claim7.holds Tryd.pinned (.plain (OpenSpec.upto threadsMovesSpec)) threadsMovesUptoCard
end Rows
end Go.Proofs.YtchamgecalfmpaaDoor
