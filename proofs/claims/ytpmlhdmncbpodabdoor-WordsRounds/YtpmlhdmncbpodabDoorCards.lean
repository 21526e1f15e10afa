/-
  DERIVED. GIVEN WITH THE SEED: THE CARDS: each row of YtpmlhdmncbpodabDoorRows.lean that lists a variable, with what it lists TIED to the program's text (the seventh form; the later family's looks); each row that meets fmt, with fmt's text TOLD by the authors' own Lean function (tested against real Go, not proved from fmt's source: count such statements apart). THE CARD IS WHAT COUNTS. Prove the row's statement (the work); the ties are given (YtpmlhdmncbpodabDoorTie.lean); close each card by the builder's one call (the guide's Derived/Test/ToyasCard.lean, 'card_holds'). Laid BY PROGRAM, IN A SANDBOX (cutbox-door.mjs). By AI agents, Wed Nov 11 2026. No macro, syntax, notation, axiom, sorry.
-/
import Derived.Test.YtpmlhdmncbpodabDoorRows
import GoSem.ClaimSeven
namespace Go.Proofs.YtpmlhdmncbpodabDoor
namespace Rows

/-- THE TIED CARD OF 'buttresslaw01.WordsRounds'. -/
def wordsRoundsCard : Claim7 := { stood := { row := wordsRoundsRow, standIns := [], harness := (true, "0b6046c9b4766e8c924dedfc11cf4a3c4379822d3606aa9b545cc9cca5972f5f"), looks := false }, kinds := [], alts := [], laidByText := true, laidKinds := [.data], laidTests := true, laidLooks := .later }
def WordsRoundsCardSaid : Prop := Claim7.holds Tryd.pinned (.plain (OpenSpec.ofChange wordsRoundsSpec)) wordsRoundsCard

/-- THE TIED CARD OF 'buttresslaw01.WordsRefuses'. -/
def wordsRefusesCard : Claim7 := { stood := { row := wordsRefusesRow, standIns := [], harness := (true, "0b6046c9b4766e8c924dedfc11cf4a3c4379822d3606aa9b545cc9cca5972f5f"), looks := false }, kinds := [], alts := [], laidByText := true, laidKinds := [.data], laidTests := true, laidLooks := .later }
def WordsRefusesCardSaid : Prop := Claim7.holds Tryd.pinned (.plain (OpenSpec.ofChange wordsRefusesSpec)) wordsRefusesCard

/-- THE TIED CARD OF 'buttresslaw01.WordsTwice'. -/
def wordsTwiceCard : Claim7 := { stood := { row := wordsTwiceRow, standIns := [], harness := (true, "0b6046c9b4766e8c924dedfc11cf4a3c4379822d3606aa9b545cc9cca5972f5f"), looks := false }, kinds := [], alts := [], laidByText := true, laidKinds := [.data], laidTests := true, laidLooks := .later }
def WordsTwiceCardSaid : Prop := Claim7.holds Tryd.pinned (.plain (OpenSpec.ofChange wordsTwiceSpec)) wordsTwiceCard

/-- THE SECOND FORM's CARD OF 'buttresslaw01.WordsRounds'. -/
def wordsRoundsUptoCard : Claim7 := { stood := { row := wordsRoundsUptoRow, standIns := [], harness := (true, "0b6046c9b4766e8c924dedfc11cf4a3c4379822d3606aa9b545cc9cca5972f5f"), looks := false }, kinds := [], alts := [], laidByText := true, laidKinds := [.data], laidTests := true, laidLooks := .later }
def WordsRoundsUptoCardSaid : Prop := Claim7.holds Tryd.pinned (.plain (OpenSpec.upto wordsRoundsSpec)) wordsRoundsUptoCard

/-- THE SECOND FORM's CARD OF 'buttresslaw01.WordsRefuses'. -/
def wordsRefusesUptoCard : Claim7 := { stood := { row := wordsRefusesUptoRow, standIns := [], harness := (true, "0b6046c9b4766e8c924dedfc11cf4a3c4379822d3606aa9b545cc9cca5972f5f"), looks := false }, kinds := [], alts := [], laidByText := true, laidKinds := [.data], laidTests := true, laidLooks := .later }
def WordsRefusesUptoCardSaid : Prop := Claim7.holds Tryd.pinned (.plain (OpenSpec.upto wordsRefusesSpec)) wordsRefusesUptoCard

/-- THE SECOND FORM's CARD OF 'buttresslaw01.WordsTwice'. -/
def wordsTwiceUptoCard : Claim7 := { stood := { row := wordsTwiceUptoRow, standIns := [], harness := (true, "0b6046c9b4766e8c924dedfc11cf4a3c4379822d3606aa9b545cc9cca5972f5f"), looks := false }, kinds := [], alts := [], laidByText := true, laidKinds := [.data], laidTests := true, laidLooks := .later }
def WordsTwiceUptoCardSaid : Prop := Claim7.holds Tryd.pinned (.plain (OpenSpec.upto wordsTwiceSpec)) wordsTwiceUptoCard
end Rows
end Go.Proofs.YtpmlhdmncbpodabDoor
