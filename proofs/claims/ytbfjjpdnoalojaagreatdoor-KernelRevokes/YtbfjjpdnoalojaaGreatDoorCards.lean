/-
  DERIVED. GIVEN WITH THE SEED: THE CARDS: each row of YtbfjjpdnoalojaaGreatDoorRows.lean that lists a variable, with what it lists TIED to the program's text (the seventh form; the later family's looks); each row that meets fmt, with fmt's text TOLD by the authors' own Lean function (tested against real Go, not proved from fmt's source: count such statements apart). THE CARD IS WHAT COUNTS. Prove the row's statement (the work); the ties are given (YtbfjjpdnoalojaaGreatDoorTie.lean); close each card by the builder's one call (the guide's Derived/Test/ToyasCard.lean, 'card_holds'). Laid BY PROGRAM, IN A SANDBOX (cutbox-door.mjs). By AI agents, Wed Nov 11 2026. No macro, syntax, notation, axiom, sorry.
-/
import Derived.Test.YtbfjjpdnoalojaaGreatDoorRows
import GoSem.ClaimSeven
namespace Go.Proofs.YtbfjjpdnoalojaaGreatDoor
namespace Rows

/-- THE TIED CARD OF 'buttresslaw18.KernelDoes'. -/
def kernelDoesCard : Claim7 := { stood := { row := kernelDoesRow, standIns := [], harness := (true, "567d32f092c5d0204b1d90babac501579a1710d62dded0c5dfdd0e13d24472ad"), looks := true }, kinds := [], alts := [], laidByText := true, laidKinds := [.data, .data, .data], laidTests := true, laidLooks := .later }
def KernelDoesCardSaid : Prop := Claim7.holds Tryz.pinned (.plain (OpenSpec.ofChange kernelDoesSpec)) kernelDoesCard

/-- THE TIED CARD OF 'buttresslaw18.KernelBoots'. -/
def kernelBootsCard : Claim7 := { stood := { row := kernelBootsRow, standIns := [], harness := (true, "567d32f092c5d0204b1d90babac501579a1710d62dded0c5dfdd0e13d24472ad"), looks := true }, kinds := [], alts := [], laidByText := true, laidKinds := [.data, .data, .data], laidTests := true, laidLooks := .later }
def KernelBootsCardSaid : Prop := Claim7.holds Tryz.pinned (.plain (OpenSpec.ofChange kernelBootsSpec)) kernelBootsCard

/-- THE TIED CARD OF 'buttresslaw18.KernelErrors'. -/
def kernelErrorsCard : Claim7 := { stood := { row := kernelErrorsRow, standIns := [], harness := (true, "567d32f092c5d0204b1d90babac501579a1710d62dded0c5dfdd0e13d24472ad"), looks := true }, kinds := [], alts := [], laidByText := true, laidKinds := [.data, .data, .data], laidTests := true, laidLooks := .later }
def KernelErrorsCardSaid : Prop := Claim7.holds Tryz.pinned (.plain (OpenSpec.ofChange kernelErrorsSpec)) kernelErrorsCard

/-- THE TIED CARD OF 'buttresslaw18.KernelRevokes'. -/
def kernelRevokesCard : Claim7 := { stood := { row := kernelRevokesRow, standIns := [], harness := (true, "567d32f092c5d0204b1d90babac501579a1710d62dded0c5dfdd0e13d24472ad"), looks := true }, kinds := [], alts := [], laidByText := true, laidKinds := [.data, .data, .data], laidTests := true, laidLooks := .later }
def KernelRevokesCardSaid : Prop := Claim7.holds Tryz.pinned (.plain (OpenSpec.ofChange kernelRevokesSpec)) kernelRevokesCard

/-- THE TIED CARD OF 'buttresslaw18.KernelTree'. -/
def kernelTreeCard : Claim7 := { stood := { row := kernelTreeRow, standIns := [], harness := (true, "567d32f092c5d0204b1d90babac501579a1710d62dded0c5dfdd0e13d24472ad"), looks := true }, kinds := [], alts := [], laidByText := true, laidKinds := [.data, .data, .data], laidTests := true, laidLooks := .later }
def KernelTreeCardSaid : Prop := Claim7.holds Tryz.pinned (.plain (OpenSpec.ofChange kernelTreeSpec)) kernelTreeCard

/-- THE TIED CARD OF 'buttresslaw18.KernelMakes'. -/
def kernelMakesCard : Claim7 := { stood := { row := kernelMakesRow, standIns := [], harness := (true, "567d32f092c5d0204b1d90babac501579a1710d62dded0c5dfdd0e13d24472ad"), looks := true }, kinds := [], alts := [], laidByText := true, laidKinds := [.data, .data, .data], laidTests := true, laidLooks := .later }
def KernelMakesCardSaid : Prop := Claim7.holds Tryz.pinned (.plain (OpenSpec.ofChange kernelMakesSpec)) kernelMakesCard

/-- THE SECOND FORM's CARD OF 'buttresslaw18.KernelDoes'. -/
def kernelDoesUptoCard : Claim7 := { stood := { row := kernelDoesUptoRow, standIns := [], harness := (true, "567d32f092c5d0204b1d90babac501579a1710d62dded0c5dfdd0e13d24472ad"), looks := true }, kinds := [], alts := [], laidByText := true, laidKinds := [.data, .data, .data], laidTests := true, laidLooks := .later }
def KernelDoesUptoCardSaid : Prop := Claim7.holds Tryz.pinned (.plain (OpenSpec.upto kernelDoesSpec)) kernelDoesUptoCard

/-- THE SECOND FORM's CARD OF 'buttresslaw18.KernelBoots'. -/
def kernelBootsUptoCard : Claim7 := { stood := { row := kernelBootsUptoRow, standIns := [], harness := (true, "567d32f092c5d0204b1d90babac501579a1710d62dded0c5dfdd0e13d24472ad"), looks := true }, kinds := [], alts := [], laidByText := true, laidKinds := [.data, .data, .data], laidTests := true, laidLooks := .later }
def KernelBootsUptoCardSaid : Prop := Claim7.holds Tryz.pinned (.plain (OpenSpec.upto kernelBootsSpec)) kernelBootsUptoCard

/-- THE SECOND FORM's CARD OF 'buttresslaw18.KernelErrors'. -/
def kernelErrorsUptoCard : Claim7 := { stood := { row := kernelErrorsUptoRow, standIns := [], harness := (true, "567d32f092c5d0204b1d90babac501579a1710d62dded0c5dfdd0e13d24472ad"), looks := true }, kinds := [], alts := [], laidByText := true, laidKinds := [.data, .data, .data], laidTests := true, laidLooks := .later }
def KernelErrorsUptoCardSaid : Prop := Claim7.holds Tryz.pinned (.plain (OpenSpec.upto kernelErrorsSpec)) kernelErrorsUptoCard

/-- THE SECOND FORM's CARD OF 'buttresslaw18.KernelRevokes'. -/
def kernelRevokesUptoCard : Claim7 := { stood := { row := kernelRevokesUptoRow, standIns := [], harness := (true, "567d32f092c5d0204b1d90babac501579a1710d62dded0c5dfdd0e13d24472ad"), looks := true }, kinds := [], alts := [], laidByText := true, laidKinds := [.data, .data, .data], laidTests := true, laidLooks := .later }
def KernelRevokesUptoCardSaid : Prop := Claim7.holds Tryz.pinned (.plain (OpenSpec.upto kernelRevokesSpec)) kernelRevokesUptoCard

/-- THE SECOND FORM's CARD OF 'buttresslaw18.KernelTree'. -/
def kernelTreeUptoCard : Claim7 := { stood := { row := kernelTreeUptoRow, standIns := [], harness := (true, "567d32f092c5d0204b1d90babac501579a1710d62dded0c5dfdd0e13d24472ad"), looks := true }, kinds := [], alts := [], laidByText := true, laidKinds := [.data, .data, .data], laidTests := true, laidLooks := .later }
def KernelTreeUptoCardSaid : Prop := Claim7.holds Tryz.pinned (.plain (OpenSpec.upto kernelTreeSpec)) kernelTreeUptoCard

/-- THE SECOND FORM's CARD OF 'buttresslaw18.KernelMakes'. -/
def kernelMakesUptoCard : Claim7 := { stood := { row := kernelMakesUptoRow, standIns := [], harness := (true, "567d32f092c5d0204b1d90babac501579a1710d62dded0c5dfdd0e13d24472ad"), looks := true }, kinds := [], alts := [], laidByText := true, laidKinds := [.data, .data, .data], laidTests := true, laidLooks := .later }
def KernelMakesUptoCardSaid : Prop := Claim7.holds Tryz.pinned (.plain (OpenSpec.upto kernelMakesSpec)) kernelMakesUptoCard
end Rows
end Go.Proofs.YtbfjjpdnoalojaaGreatDoor
