/-
  DERIVED. GIVEN WITH THE SEED: THE CARDS: each row of YtkelblkegpmlpaaDoorRows.lean that lists a variable, with what it lists TIED to the program's text (the seventh form; the later family's looks); each row that meets fmt, with fmt's text TOLD by the authors' own Lean function (tested against real Go, not proved from fmt's source: count such statements apart). THE CARD IS WHAT COUNTS. Prove the row's statement (the work); the ties are given (YtkelblkegpmlpaaDoorTie.lean); close each card by the builder's one call (the guide's Derived/Test/ToyasCard.lean, 'card_holds'). Laid BY PROGRAM, IN A SANDBOX (cutbox-door.mjs). By AI agents, Wed Nov 11 2026. No macro, syntax, notation, axiom, sorry.
-/
import Derived.Test.YtkelblkegpmlpaaDoorRows
import GoSem.ClaimSeven
namespace Go.Proofs.YtkelblkegpmlpaaDoor
namespace Rows

/-- THE TIED CARD OF 'buttresslaw08.UntypedPlaces'. -/
def untypedPlacesCard : Claim7 := { stood := { row := untypedPlacesRow, standIns := [], harness := (true, "1ac6fea0fe94d1bc1f64b5d0015c3c9e8f4894f953a0379d6a446c776c8ae2d1"), looks := false }, kinds := [], alts := [], laidByText := true, laidKinds := [.data], laidTests := true, laidLooks := .later }
def UntypedPlacesCardSaid : Prop := Claim7.holds Tryd.pinned (.plain (OpenSpec.ofChange untypedPlacesSpec)) untypedPlacesCard

/-- THE TIED CARD OF 'buttresslaw08.UntypedApart'. -/
def untypedApartCard : Claim7 := { stood := { row := untypedApartRow, standIns := [], harness := (true, "1ac6fea0fe94d1bc1f64b5d0015c3c9e8f4894f953a0379d6a446c776c8ae2d1"), looks := false }, kinds := [], alts := [], laidByText := true, laidKinds := [.data], laidTests := true, laidLooks := .later }
def UntypedApartCardSaid : Prop := Claim7.holds Tryd.pinned (.plain (OpenSpec.ofChange untypedApartSpec)) untypedApartCard

/-- THE TIED CARD OF 'buttresslaw08.UntypedOnes'. -/
def untypedOnesCard : Claim7 := { stood := { row := untypedOnesRow, standIns := [], harness := (true, "1ac6fea0fe94d1bc1f64b5d0015c3c9e8f4894f953a0379d6a446c776c8ae2d1"), looks := false }, kinds := [], alts := [], laidByText := true, laidKinds := [.data], laidTests := true, laidLooks := .later }
def UntypedOnesCardSaid : Prop := Claim7.holds Tryd.pinned (.plain (OpenSpec.ofChange untypedOnesSpec)) untypedOnesCard

/-- THE TIED CARD OF 'buttresslaw08.UntypedSizes'. -/
def untypedSizesCard : Claim7 := { stood := { row := untypedSizesRow, standIns := [], harness := (true, "1ac6fea0fe94d1bc1f64b5d0015c3c9e8f4894f953a0379d6a446c776c8ae2d1"), looks := false }, kinds := [], alts := [], laidByText := true, laidKinds := [.data], laidTests := true, laidLooks := .later }
def UntypedSizesCardSaid : Prop := Claim7.holds Tryd.pinned (.plain (OpenSpec.ofChange untypedSizesSpec)) untypedSizesCard

/-- THE TIED CARD OF 'buttresslaw08.UntypedResets'. -/
def untypedResetsCard : Claim7 := { stood := { row := untypedResetsRow, standIns := [], harness := (true, "1ac6fea0fe94d1bc1f64b5d0015c3c9e8f4894f953a0379d6a446c776c8ae2d1"), looks := false }, kinds := [], alts := [], laidByText := true, laidKinds := [.data], laidTests := true, laidLooks := .later }
def UntypedResetsCardSaid : Prop := Claim7.holds Tryd.pinned (.plain (OpenSpec.ofChange untypedResetsSpec)) untypedResetsCard

/-- THE TIED CARD OF 'buttresslaw08.UntypedFull'. -/
def untypedFullCard : Claim7 := { stood := { row := untypedFullRow, standIns := [], harness := (true, "1ac6fea0fe94d1bc1f64b5d0015c3c9e8f4894f953a0379d6a446c776c8ae2d1"), looks := false }, kinds := [], alts := [], laidByText := true, laidKinds := [.data], laidTests := true, laidLooks := .later }
def UntypedFullCardSaid : Prop := Claim7.holds Tryd.pinned (.plain (OpenSpec.ofChange untypedFullSpec)) untypedFullCard

/-- THE SECOND FORM's CARD OF 'buttresslaw08.UntypedPlaces'. -/
def untypedPlacesUptoCard : Claim7 := { stood := { row := untypedPlacesUptoRow, standIns := [], harness := (true, "1ac6fea0fe94d1bc1f64b5d0015c3c9e8f4894f953a0379d6a446c776c8ae2d1"), looks := false }, kinds := [], alts := [], laidByText := true, laidKinds := [.data], laidTests := true, laidLooks := .later }
def UntypedPlacesUptoCardSaid : Prop := Claim7.holds Tryd.pinned (.plain (OpenSpec.upto untypedPlacesSpec)) untypedPlacesUptoCard

/-- THE SECOND FORM's CARD OF 'buttresslaw08.UntypedApart'. -/
def untypedApartUptoCard : Claim7 := { stood := { row := untypedApartUptoRow, standIns := [], harness := (true, "1ac6fea0fe94d1bc1f64b5d0015c3c9e8f4894f953a0379d6a446c776c8ae2d1"), looks := false }, kinds := [], alts := [], laidByText := true, laidKinds := [.data], laidTests := true, laidLooks := .later }
def UntypedApartUptoCardSaid : Prop := Claim7.holds Tryd.pinned (.plain (OpenSpec.upto untypedApartSpec)) untypedApartUptoCard

/-- THE SECOND FORM's CARD OF 'buttresslaw08.UntypedOnes'. -/
def untypedOnesUptoCard : Claim7 := { stood := { row := untypedOnesUptoRow, standIns := [], harness := (true, "1ac6fea0fe94d1bc1f64b5d0015c3c9e8f4894f953a0379d6a446c776c8ae2d1"), looks := false }, kinds := [], alts := [], laidByText := true, laidKinds := [.data], laidTests := true, laidLooks := .later }
def UntypedOnesUptoCardSaid : Prop := Claim7.holds Tryd.pinned (.plain (OpenSpec.upto untypedOnesSpec)) untypedOnesUptoCard

/-- THE SECOND FORM's CARD OF 'buttresslaw08.UntypedSizes'. -/
def untypedSizesUptoCard : Claim7 := { stood := { row := untypedSizesUptoRow, standIns := [], harness := (true, "1ac6fea0fe94d1bc1f64b5d0015c3c9e8f4894f953a0379d6a446c776c8ae2d1"), looks := false }, kinds := [], alts := [], laidByText := true, laidKinds := [.data], laidTests := true, laidLooks := .later }
def UntypedSizesUptoCardSaid : Prop := Claim7.holds Tryd.pinned (.plain (OpenSpec.upto untypedSizesSpec)) untypedSizesUptoCard

/-- THE SECOND FORM's CARD OF 'buttresslaw08.UntypedResets'. -/
def untypedResetsUptoCard : Claim7 := { stood := { row := untypedResetsUptoRow, standIns := [], harness := (true, "1ac6fea0fe94d1bc1f64b5d0015c3c9e8f4894f953a0379d6a446c776c8ae2d1"), looks := false }, kinds := [], alts := [], laidByText := true, laidKinds := [.data], laidTests := true, laidLooks := .later }
def UntypedResetsUptoCardSaid : Prop := Claim7.holds Tryd.pinned (.plain (OpenSpec.upto untypedResetsSpec)) untypedResetsUptoCard

/-- THE SECOND FORM's CARD OF 'buttresslaw08.UntypedFull'. -/
def untypedFullUptoCard : Claim7 := { stood := { row := untypedFullUptoRow, standIns := [], harness := (true, "1ac6fea0fe94d1bc1f64b5d0015c3c9e8f4894f953a0379d6a446c776c8ae2d1"), looks := false }, kinds := [], alts := [], laidByText := true, laidKinds := [.data], laidTests := true, laidLooks := .later }
def UntypedFullUptoCardSaid : Prop := Claim7.holds Tryd.pinned (.plain (OpenSpec.upto untypedFullSpec)) untypedFullUptoCard
end Rows
end Go.Proofs.YtkelblkegpmlpaaDoor
