/-
  DERIVED. GIVEN WITH THE SEED: THE CARDS: each row of YtokehmkegnmfdaaDoorRows.lean that lists a variable, with what it lists TIED to the program's text (the seventh form; the later family's looks); each row that meets fmt, with fmt's text TOLD by the authors' own Lean function (tested against real Go, not proved from fmt's source: count such statements apart). THE CARD IS WHAT COUNTS. Prove the row's statement (the work); the ties are given (YtokehmkegnmfdaaDoorTie.lean); close each card by the builder's one call (the guide's Derived/Test/ToyasCard.lean, 'card_holds'). Laid BY PROGRAM, IN A SANDBOX (cutbox-door.mjs). By AI agents, Wed Nov 11 2026. No macro, syntax, notation, axiom, sorry.
-/
import Derived.Test.YtokehmkegnmfdaaDoorRows
import GoSem.ClaimSeven
namespace Go.Proofs.YtokehmkegnmfdaaDoor
namespace Rows

/-- THE TIED CARD OF 'buttresslaw04.CapsChecks'. -/
def capsChecksCard : Claim7 := { stood := { row := capsChecksRow, standIns := [], harness := (true, "be934071f7cd53961f78b1c1b93a34caad2b68fc960eaee342c2cf0ac54b4406"), looks := false }, kinds := [], alts := [], laidByText := true, laidKinds := [.data, .data, .data, .data], laidTests := true, laidLooks := .later }
def CapsChecksCardSaid : Prop := Claim7.holds Tryd.pinned (.plain (OpenSpec.ofChange capsChecksSpec)) capsChecksCard

/-- THE TIED CARD OF 'buttresslaw04.CapsMints'. -/
def capsMintsCard : Claim7 := { stood := { row := capsMintsRow, standIns := [], harness := (true, "be934071f7cd53961f78b1c1b93a34caad2b68fc960eaee342c2cf0ac54b4406"), looks := false }, kinds := [], alts := [], laidByText := true, laidKinds := [.data, .data, .data, .data], laidTests := true, laidLooks := .later }
def CapsMintsCardSaid : Prop := Claim7.holds Tryd.pinned (.plain (OpenSpec.ofChange capsMintsSpec)) capsMintsCard

/-- THE TIED CARD OF 'buttresslaw04.CapsPacks'. -/
def capsPacksCard : Claim7 := { stood := { row := capsPacksRow, standIns := [], harness := (true, "be934071f7cd53961f78b1c1b93a34caad2b68fc960eaee342c2cf0ac54b4406"), looks := false }, kinds := [], alts := [], laidByText := true, laidKinds := [.data, .data, .data, .data], laidTests := true, laidLooks := .later }
def CapsPacksCardSaid : Prop := Claim7.holds Tryd.pinned (.plain (OpenSpec.ofChange capsPacksSpec)) capsPacksCard

/-- THE TIED CARD OF 'buttresslaw04.CapsBack'. -/
def capsBackCard : Claim7 := { stood := { row := capsBackRow, standIns := [], harness := (true, "be934071f7cd53961f78b1c1b93a34caad2b68fc960eaee342c2cf0ac54b4406"), looks := false }, kinds := [], alts := [], laidByText := true, laidKinds := [.data, .data, .data, .data], laidTests := true, laidLooks := .later }
def CapsBackCardSaid : Prop := Claim7.holds Tryd.pinned (.plain (OpenSpec.ofChange capsBackSpec)) capsBackCard

/-- THE TIED CARD OF 'buttresslaw04.CapsDerive'. -/
def capsDeriveCard : Claim7 := { stood := { row := capsDeriveRow, standIns := [], harness := (true, "be934071f7cd53961f78b1c1b93a34caad2b68fc960eaee342c2cf0ac54b4406"), looks := false }, kinds := [], alts := [], laidByText := true, laidKinds := [.data, .data, .data, .data], laidTests := true, laidLooks := .later }
def CapsDeriveCardSaid : Prop := Claim7.holds Tryd.pinned (.plain (OpenSpec.ofChange capsDeriveSpec)) capsDeriveCard

/-- THE TIED CARD OF 'buttresslaw04.CapsSame'. -/
def capsSameCard : Claim7 := { stood := { row := capsSameRow, standIns := [], harness := (true, "be934071f7cd53961f78b1c1b93a34caad2b68fc960eaee342c2cf0ac54b4406"), looks := false }, kinds := [], alts := [], laidByText := true, laidKinds := [.data, .data, .data, .data], laidTests := true, laidLooks := .later }
def CapsSameCardSaid : Prop := Claim7.holds Tryd.pinned (.plain (OpenSpec.ofChange capsSameSpec)) capsSameCard

/-- THE SECOND FORM's CARD OF 'buttresslaw04.CapsChecks'. -/
def capsChecksUptoCard : Claim7 := { stood := { row := capsChecksUptoRow, standIns := [], harness := (true, "be934071f7cd53961f78b1c1b93a34caad2b68fc960eaee342c2cf0ac54b4406"), looks := false }, kinds := [], alts := [], laidByText := true, laidKinds := [.data, .data, .data, .data], laidTests := true, laidLooks := .later }
def CapsChecksUptoCardSaid : Prop := Claim7.holds Tryd.pinned (.plain (OpenSpec.upto capsChecksSpec)) capsChecksUptoCard

/-- THE SECOND FORM's CARD OF 'buttresslaw04.CapsMints'. -/
def capsMintsUptoCard : Claim7 := { stood := { row := capsMintsUptoRow, standIns := [], harness := (true, "be934071f7cd53961f78b1c1b93a34caad2b68fc960eaee342c2cf0ac54b4406"), looks := false }, kinds := [], alts := [], laidByText := true, laidKinds := [.data, .data, .data, .data], laidTests := true, laidLooks := .later }
def CapsMintsUptoCardSaid : Prop := Claim7.holds Tryd.pinned (.plain (OpenSpec.upto capsMintsSpec)) capsMintsUptoCard

/-- THE SECOND FORM's CARD OF 'buttresslaw04.CapsPacks'. -/
def capsPacksUptoCard : Claim7 := { stood := { row := capsPacksUptoRow, standIns := [], harness := (true, "be934071f7cd53961f78b1c1b93a34caad2b68fc960eaee342c2cf0ac54b4406"), looks := false }, kinds := [], alts := [], laidByText := true, laidKinds := [.data, .data, .data, .data], laidTests := true, laidLooks := .later }
def CapsPacksUptoCardSaid : Prop := Claim7.holds Tryd.pinned (.plain (OpenSpec.upto capsPacksSpec)) capsPacksUptoCard

/-- THE SECOND FORM's CARD OF 'buttresslaw04.CapsBack'. -/
def capsBackUptoCard : Claim7 := { stood := { row := capsBackUptoRow, standIns := [], harness := (true, "be934071f7cd53961f78b1c1b93a34caad2b68fc960eaee342c2cf0ac54b4406"), looks := false }, kinds := [], alts := [], laidByText := true, laidKinds := [.data, .data, .data, .data], laidTests := true, laidLooks := .later }
def CapsBackUptoCardSaid : Prop := Claim7.holds Tryd.pinned (.plain (OpenSpec.upto capsBackSpec)) capsBackUptoCard

/-- THE SECOND FORM's CARD OF 'buttresslaw04.CapsDerive'. -/
def capsDeriveUptoCard : Claim7 := { stood := { row := capsDeriveUptoRow, standIns := [], harness := (true, "be934071f7cd53961f78b1c1b93a34caad2b68fc960eaee342c2cf0ac54b4406"), looks := false }, kinds := [], alts := [], laidByText := true, laidKinds := [.data, .data, .data, .data], laidTests := true, laidLooks := .later }
def CapsDeriveUptoCardSaid : Prop := Claim7.holds Tryd.pinned (.plain (OpenSpec.upto capsDeriveSpec)) capsDeriveUptoCard

/-- THE SECOND FORM's CARD OF 'buttresslaw04.CapsSame'. -/
def capsSameUptoCard : Claim7 := { stood := { row := capsSameUptoRow, standIns := [], harness := (true, "be934071f7cd53961f78b1c1b93a34caad2b68fc960eaee342c2cf0ac54b4406"), looks := false }, kinds := [], alts := [], laidByText := true, laidKinds := [.data, .data, .data, .data], laidTests := true, laidLooks := .later }
def CapsSameUptoCardSaid : Prop := Claim7.holds Tryd.pinned (.plain (OpenSpec.upto capsSameSpec)) capsSameUptoCard
end Rows
end Go.Proofs.YtokehmkegnmfdaaDoor
