/-
  DERIVED. GIVEN WITH THE SEED: THE CARDS: each row of YtkelblkegpmlpabDoorRows.lean that lists a variable, with what it lists TIED to the program's text (the seventh form; the later family's looks); each row that meets fmt, with fmt's text TOLD by the authors' own Lean function (tested against real Go, not proved from fmt's source: count such statements apart). THE CARD IS WHAT COUNTS. Prove the row's statement (the work); the ties are given (YtkelblkegpmlpabDoorTie.lean); close each card by the builder's one call (the guide's Derived/Test/ToyasCard.lean, 'card_holds'). Laid BY PROGRAM, IN A SANDBOX (cutbox-door.mjs). By AI agents, Wed Nov 11 2026. No macro, syntax, notation, axiom, sorry.
-/
import Derived.Test.YtkelblkegpmlpabDoorRows
import GoSem.ClaimSeven
namespace Go.Proofs.YtkelblkegpmlpabDoor
namespace Rows

/-- THE TIED CARD OF 'buttresslaw08.UntypedChecks'. -/
def untypedChecksCard : Claim7 := { stood := { row := untypedChecksRow, standIns := [], harness := (true, "6d4e74b9d0a841a142321519a361e5b7acd2ba8c8f4cc53019692b8a81471f47"), looks := false }, kinds := [], alts := [], laidByText := true, laidKinds := [.data], laidTests := true, laidLooks := .later }
def UntypedChecksCardSaid : Prop := Claim7.holds Tryd.pinned (.plain (OpenSpec.ofChange untypedChecksSpec)) untypedChecksCard

/-- THE SECOND FORM's CARD OF 'buttresslaw08.UntypedChecks'. -/
def untypedChecksUptoCard : Claim7 := { stood := { row := untypedChecksUptoRow, standIns := [], harness := (true, "6d4e74b9d0a841a142321519a361e5b7acd2ba8c8f4cc53019692b8a81471f47"), looks := false }, kinds := [], alts := [], laidByText := true, laidKinds := [.data], laidTests := true, laidLooks := .later }
def UntypedChecksUptoCardSaid : Prop := Claim7.holds Tryd.pinned (.plain (OpenSpec.upto untypedChecksSpec)) untypedChecksUptoCard
end Rows
end Go.Proofs.YtkelblkegpmlpabDoor
