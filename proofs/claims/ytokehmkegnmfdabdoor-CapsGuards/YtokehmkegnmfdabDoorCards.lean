/-
  DERIVED. GIVEN WITH THE SEED: THE CARDS: each row of YtokehmkegnmfdabDoorRows.lean that lists a variable, with what it lists TIED to the program's text (the seventh form; the later family's looks); each row that meets fmt, with fmt's text TOLD by the authors' own Lean function (tested against real Go, not proved from fmt's source: count such statements apart). THE CARD IS WHAT COUNTS. Prove the row's statement (the work); the ties are given (YtokehmkegnmfdabDoorTie.lean); close each card by the builder's one call (the guide's Derived/Test/ToyasCard.lean, 'card_holds'). Laid BY PROGRAM, IN A SANDBOX (cutbox-door.mjs). By AI agents, Wed Nov 11 2026. No macro, syntax, notation, axiom, sorry.
-/
import Derived.Test.YtokehmkegnmfdabDoorRows
import GoSem.ClaimSeven
namespace Go.Proofs.YtokehmkegnmfdabDoor
namespace Rows

/-- THE TIED CARD OF 'buttresslaw04.CapsOrder'. -/
def capsOrderCard : Claim7 := { stood := { row := capsOrderRow, standIns := [], harness := (true, "2fe1690970a5bafab9ac6cd2c16f84d4a734fc7d90457b5ba90218d93ef76098"), looks := false }, kinds := [], alts := [], laidByText := true, laidKinds := [.data, .data, .data, .data], laidTests := true, laidLooks := .later }
def CapsOrderCardSaid : Prop := Claim7.holds Tryd.pinned (.plain (OpenSpec.ofChange capsOrderSpec)) capsOrderCard

/-- THE TIED CARD OF 'buttresslaw04.CapsLess'. -/
def capsLessCard : Claim7 := { stood := { row := capsLessRow, standIns := [], harness := (true, "2fe1690970a5bafab9ac6cd2c16f84d4a734fc7d90457b5ba90218d93ef76098"), looks := false }, kinds := [], alts := [], laidByText := true, laidKinds := [.data, .data, .data, .data], laidTests := true, laidLooks := .later }
def CapsLessCardSaid : Prop := Claim7.holds Tryd.pinned (.plain (OpenSpec.ofChange capsLessSpec)) capsLessCard

/-- THE TIED CARD OF 'buttresslaw04.CapsGuards'. -/
def capsGuardsCard : Claim7 := { stood := { row := capsGuardsRow, standIns := [], harness := (true, "2fe1690970a5bafab9ac6cd2c16f84d4a734fc7d90457b5ba90218d93ef76098"), looks := false }, kinds := [], alts := [], laidByText := true, laidKinds := [.data, .data, .data, .data], laidTests := true, laidLooks := .later }
def CapsGuardsCardSaid : Prop := Claim7.holds Tryd.pinned (.plain (OpenSpec.ofChange capsGuardsSpec)) capsGuardsCard

/-- THE SECOND FORM's CARD OF 'buttresslaw04.CapsOrder'. -/
def capsOrderUptoCard : Claim7 := { stood := { row := capsOrderUptoRow, standIns := [], harness := (true, "2fe1690970a5bafab9ac6cd2c16f84d4a734fc7d90457b5ba90218d93ef76098"), looks := false }, kinds := [], alts := [], laidByText := true, laidKinds := [.data, .data, .data, .data], laidTests := true, laidLooks := .later }
def CapsOrderUptoCardSaid : Prop := Claim7.holds Tryd.pinned (.plain (OpenSpec.upto capsOrderSpec)) capsOrderUptoCard

/-- THE SECOND FORM's CARD OF 'buttresslaw04.CapsLess'. -/
def capsLessUptoCard : Claim7 := { stood := { row := capsLessUptoRow, standIns := [], harness := (true, "2fe1690970a5bafab9ac6cd2c16f84d4a734fc7d90457b5ba90218d93ef76098"), looks := false }, kinds := [], alts := [], laidByText := true, laidKinds := [.data, .data, .data, .data], laidTests := true, laidLooks := .later }
def CapsLessUptoCardSaid : Prop := Claim7.holds Tryd.pinned (.plain (OpenSpec.upto capsLessSpec)) capsLessUptoCard

/-- THE SECOND FORM's CARD OF 'buttresslaw04.CapsGuards'. -/
def capsGuardsUptoCard : Claim7 := { stood := { row := capsGuardsUptoRow, standIns := [], harness := (true, "2fe1690970a5bafab9ac6cd2c16f84d4a734fc7d90457b5ba90218d93ef76098"), looks := false }, kinds := [], alts := [], laidByText := true, laidKinds := [.data, .data, .data, .data], laidTests := true, laidLooks := .later }
def CapsGuardsUptoCardSaid : Prop := Claim7.holds Tryd.pinned (.plain (OpenSpec.upto capsGuardsSpec)) capsGuardsUptoCard
end Rows
end Go.Proofs.YtokehmkegnmfdabDoor
