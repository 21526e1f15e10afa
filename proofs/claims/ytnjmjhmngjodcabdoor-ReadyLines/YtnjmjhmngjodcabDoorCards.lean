/-
  DERIVED. GIVEN WITH THE SEED: THE CARDS: each row of YtnjmjhmngjodcabDoorRows.lean that lists a variable, with what it lists TIED to the program's text (the seventh form; the later family's looks); each row that meets fmt, with fmt's text TOLD by the authors' own Lean function (tested against real Go, not proved from fmt's source: count such statements apart). THE CARD IS WHAT COUNTS. Prove the row's statement (the work); the ties are given (YtnjmjhmngjodcabDoorTie.lean); close each card by the builder's one call (the guide's Derived/Test/ToyasCard.lean, 'card_holds'). Laid BY PROGRAM, IN A SANDBOX (cutbox-door.mjs). By AI agents, Wed Nov 11 2026. No macro, syntax, notation, axiom, sorry.
-/
import Derived.Test.YtnjmjhmngjodcabDoorRows
import GoSem.ClaimSeven
namespace Go.Proofs.YtnjmjhmngjodcabDoor
namespace Rows

/-- THE TIED CARD OF 'buttresslaw09.ReadyLines'. -/
def readyLinesCard : Claim7 := { stood := { row := readyLinesRow, standIns := [], harness := (true, "d4bde513eef73f0ba9a14567d199a7caf9758851d23db56402db196f0d56a76c"), looks := false }, kinds := [], alts := [], laidByText := true, laidKinds := [.data], laidTests := true, laidLooks := .later }
def ReadyLinesCardSaid : Prop := Claim7.holds Tryd.pinned (.plain (OpenSpec.ofChange readyLinesSpec)) readyLinesCard

/-- THE SECOND FORM's CARD OF 'buttresslaw09.ReadyLines'. -/
def readyLinesUptoCard : Claim7 := { stood := { row := readyLinesUptoRow, standIns := [], harness := (true, "d4bde513eef73f0ba9a14567d199a7caf9758851d23db56402db196f0d56a76c"), looks := false }, kinds := [], alts := [], laidByText := true, laidKinds := [.data], laidTests := true, laidLooks := .later }
def ReadyLinesUptoCardSaid : Prop := Claim7.holds Tryd.pinned (.plain (OpenSpec.upto readyLinesSpec)) readyLinesUptoCard
end Rows
end Go.Proofs.YtnjmjhmngjodcabDoor
