/-
  DERIVED. GIVEN WITH THE SEED: THE CARDS: each row of YtchamgecalfmpabDoorRows.lean that lists a variable, with what it lists TIED to the program's text (the seventh form; the later family's looks); each row that meets fmt, with fmt's text TOLD by the authors' own Lean function (tested against real Go, not proved from fmt's source: count such statements apart). THE CARD IS WHAT COUNTS. Prove the row's statement (the work); the ties are given (YtchamgecalfmpabDoorTie.lean); close each card by the builder's one call (the guide's Derived/Test/ToyasCard.lean, 'card_holds'). Laid BY PROGRAM, IN A SANDBOX (cutbox-door.mjs). By AI agents, Wed Nov 11 2026. No macro, syntax, notation, axiom, sorry.
-/
import Derived.Test.YtchamgecalfmpabDoorRows
import GoSem.ClaimSeven
namespace Go.Proofs.YtchamgecalfmpabDoor
namespace Rows

/-- THE TIED CARD OF 'buttresslaw10.ThreadsFull'. -/
def threadsFullCard : Claim7 := { stood := { row := threadsFullRow, standIns := [], harness := (true, "e610d1d5115c4fef2e0f1e47ea86ea1de4321f1cf478b49b2b3fd31acb9a0c91"), looks := false }, kinds := [], alts := [], laidByText := true, laidKinds := [.data], laidTests := true, laidLooks := .later }
def ThreadsFullCardSaid : Prop := Claim7.holds Tryd.pinned (.plain (OpenSpec.ofChange threadsFullSpec)) threadsFullCard

/-- THE TIED CARD OF 'buttresslaw10.ThreadsNone'. -/
def threadsNoneCard : Claim7 := { stood := { row := threadsNoneRow, standIns := [], harness := (true, "e610d1d5115c4fef2e0f1e47ea86ea1de4321f1cf478b49b2b3fd31acb9a0c91"), looks := false }, kinds := [], alts := [], laidByText := true, laidKinds := [.data], laidTests := true, laidLooks := .later }
def ThreadsNoneCardSaid : Prop := Claim7.holds Tryd.pinned (.plain (OpenSpec.ofChange threadsNoneSpec)) threadsNoneCard

/-- THE SECOND FORM's CARD OF 'buttresslaw10.ThreadsFull'. -/
def threadsFullUptoCard : Claim7 := { stood := { row := threadsFullUptoRow, standIns := [], harness := (true, "e610d1d5115c4fef2e0f1e47ea86ea1de4321f1cf478b49b2b3fd31acb9a0c91"), looks := false }, kinds := [], alts := [], laidByText := true, laidKinds := [.data], laidTests := true, laidLooks := .later }
def ThreadsFullUptoCardSaid : Prop := Claim7.holds Tryd.pinned (.plain (OpenSpec.upto threadsFullSpec)) threadsFullUptoCard

/-- THE SECOND FORM's CARD OF 'buttresslaw10.ThreadsNone'. -/
def threadsNoneUptoCard : Claim7 := { stood := { row := threadsNoneUptoRow, standIns := [], harness := (true, "e610d1d5115c4fef2e0f1e47ea86ea1de4321f1cf478b49b2b3fd31acb9a0c91"), looks := false }, kinds := [], alts := [], laidByText := true, laidKinds := [.data], laidTests := true, laidLooks := .later }
def ThreadsNoneUptoCardSaid : Prop := Claim7.holds Tryd.pinned (.plain (OpenSpec.upto threadsNoneSpec)) threadsNoneUptoCard
end Rows
end Go.Proofs.YtchamgecalfmpabDoor
