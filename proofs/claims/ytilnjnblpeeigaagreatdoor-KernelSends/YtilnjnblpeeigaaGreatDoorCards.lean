/-
  DERIVED. GIVEN WITH THE SEED: THE CARDS: each row of YtilnjnblpeeigaaGreatDoorRows.lean that lists a variable, with what it lists TIED to the program's text (the seventh form; the later family's looks); each row that meets fmt, with fmt's text TOLD by the authors' own Lean function (tested against real Go, not proved from fmt's source: count such statements apart). THE CARD IS WHAT COUNTS. Prove the row's statement (the work); the ties are given (YtilnjnblpeeigaaGreatDoorTie.lean); close each card by the builder's one call (the guide's Derived/Test/ToyasCard.lean, 'card_holds'). Laid BY PROGRAM, IN A SANDBOX (cutbox-door.mjs). By AI agents, Wed Nov 11 2026. No macro, syntax, notation, axiom, sorry.
-/
import Derived.Test.YtilnjnblpeeigaaGreatDoorRows
import GoSem.ClaimSeven
namespace Go.Proofs.YtilnjnblpeeigaaGreatDoor
namespace Rows

/-- THE TIED CARD OF 'buttresslaw18.KernelSends'. -/
def kernelSendsCard : Claim7 := { stood := { row := kernelSendsRow, standIns := [], harness := (true, "aad0e993d16f2be2919774348f35eaa0a899cacb9b390fffeec8a9ae617a9f19"), looks := false }, kinds := [], alts := [], laidByText := true, laidKinds := [.data, .data, .data], laidTests := true, laidLooks := .later }
def KernelSendsCardSaid : Prop := Claim7.holds Tryz.pinned (.plain (OpenSpec.ofChange kernelSendsSpec)) kernelSendsCard

/-- THE TIED CARD OF 'buttresslaw18.KernelPages'. -/
def kernelPagesCard : Claim7 := { stood := { row := kernelPagesRow, standIns := [], harness := (true, "aad0e993d16f2be2919774348f35eaa0a899cacb9b390fffeec8a9ae617a9f19"), looks := false }, kinds := [], alts := [], laidByText := true, laidKinds := [.data, .data, .data], laidTests := true, laidLooks := .later }
def KernelPagesCardSaid : Prop := Claim7.holds Tryz.pinned (.plain (OpenSpec.ofChange kernelPagesSpec)) kernelPagesCard

/-- THE TIED CARD OF 'buttresslaw18.KernelIrqs'. -/
def kernelIrqsCard : Claim7 := { stood := { row := kernelIrqsRow, standIns := [], harness := (true, "aad0e993d16f2be2919774348f35eaa0a899cacb9b390fffeec8a9ae617a9f19"), looks := false }, kinds := [], alts := [], laidByText := true, laidKinds := [.data, .data, .data], laidTests := true, laidLooks := .later }
def KernelIrqsCardSaid : Prop := Claim7.holds Tryz.pinned (.plain (OpenSpec.ofChange kernelIrqsSpec)) kernelIrqsCard

/-- THE TIED CARD OF 'buttresslaw18.KernelYields'. -/
def kernelYieldsCard : Claim7 := { stood := { row := kernelYieldsRow, standIns := [], harness := (true, "aad0e993d16f2be2919774348f35eaa0a899cacb9b390fffeec8a9ae617a9f19"), looks := false }, kinds := [], alts := [], laidByText := true, laidKinds := [.data, .data, .data], laidTests := true, laidLooks := .later }
def KernelYieldsCardSaid : Prop := Claim7.holds Tryz.pinned (.plain (OpenSpec.ofChange kernelYieldsSpec)) kernelYieldsCard

/-- THE TIED CARD OF 'buttresslaw18.KernelMints'. -/
def kernelMintsCard : Claim7 := { stood := { row := kernelMintsRow, standIns := [], harness := (true, "aad0e993d16f2be2919774348f35eaa0a899cacb9b390fffeec8a9ae617a9f19"), looks := false }, kinds := [], alts := [], laidByText := true, laidKinds := [.data, .data, .data], laidTests := true, laidLooks := .later }
def KernelMintsCardSaid : Prop := Claim7.holds Tryz.pinned (.plain (OpenSpec.ofChange kernelMintsSpec)) kernelMintsCard

/-- THE SECOND FORM's CARD OF 'buttresslaw18.KernelSends'. -/
def kernelSendsUptoCard : Claim7 := { stood := { row := kernelSendsUptoRow, standIns := [], harness := (true, "aad0e993d16f2be2919774348f35eaa0a899cacb9b390fffeec8a9ae617a9f19"), looks := false }, kinds := [], alts := [], laidByText := true, laidKinds := [.data, .data, .data], laidTests := true, laidLooks := .later }
def KernelSendsUptoCardSaid : Prop := Claim7.holds Tryz.pinned (.plain (OpenSpec.upto kernelSendsSpec)) kernelSendsUptoCard

/-- THE SECOND FORM's CARD OF 'buttresslaw18.KernelPages'. -/
def kernelPagesUptoCard : Claim7 := { stood := { row := kernelPagesUptoRow, standIns := [], harness := (true, "aad0e993d16f2be2919774348f35eaa0a899cacb9b390fffeec8a9ae617a9f19"), looks := false }, kinds := [], alts := [], laidByText := true, laidKinds := [.data, .data, .data], laidTests := true, laidLooks := .later }
def KernelPagesUptoCardSaid : Prop := Claim7.holds Tryz.pinned (.plain (OpenSpec.upto kernelPagesSpec)) kernelPagesUptoCard

/-- THE SECOND FORM's CARD OF 'buttresslaw18.KernelIrqs'. -/
def kernelIrqsUptoCard : Claim7 := { stood := { row := kernelIrqsUptoRow, standIns := [], harness := (true, "aad0e993d16f2be2919774348f35eaa0a899cacb9b390fffeec8a9ae617a9f19"), looks := false }, kinds := [], alts := [], laidByText := true, laidKinds := [.data, .data, .data], laidTests := true, laidLooks := .later }
def KernelIrqsUptoCardSaid : Prop := Claim7.holds Tryz.pinned (.plain (OpenSpec.upto kernelIrqsSpec)) kernelIrqsUptoCard

/-- THE SECOND FORM's CARD OF 'buttresslaw18.KernelYields'. -/
def kernelYieldsUptoCard : Claim7 := { stood := { row := kernelYieldsUptoRow, standIns := [], harness := (true, "aad0e993d16f2be2919774348f35eaa0a899cacb9b390fffeec8a9ae617a9f19"), looks := false }, kinds := [], alts := [], laidByText := true, laidKinds := [.data, .data, .data], laidTests := true, laidLooks := .later }
def KernelYieldsUptoCardSaid : Prop := Claim7.holds Tryz.pinned (.plain (OpenSpec.upto kernelYieldsSpec)) kernelYieldsUptoCard

/-- THE SECOND FORM's CARD OF 'buttresslaw18.KernelMints'. -/
def kernelMintsUptoCard : Claim7 := { stood := { row := kernelMintsUptoRow, standIns := [], harness := (true, "aad0e993d16f2be2919774348f35eaa0a899cacb9b390fffeec8a9ae617a9f19"), looks := false }, kinds := [], alts := [], laidByText := true, laidKinds := [.data, .data, .data], laidTests := true, laidLooks := .later }
def KernelMintsUptoCardSaid : Prop := Claim7.holds Tryz.pinned (.plain (OpenSpec.upto kernelMintsSpec)) kernelMintsUptoCard
end Rows
end Go.Proofs.YtilnjnblpeeigaaGreatDoor
