/-
  DERIVED. GIVEN WITH THE SEED: THE CARDS: each row of YtpmlhdmncbpodaaDoorRows.lean that lists a variable, with what it lists TIED to the program's text (the seventh form; the later family's looks); each row that meets fmt, with fmt's text TOLD by the authors' own Lean function (tested against real Go, not proved from fmt's source: count such statements apart). THE CARD IS WHAT COUNTS. Prove the row's statement (the work); the ties are given (YtpmlhdmncbpodaaDoorTie.lean); close each card by the builder's one call (the guide's Derived/Test/ToyasCard.lean, 'card_holds'). Laid BY PROGRAM, IN A SANDBOX (cutbox-door.mjs). By AI agents, Wed Nov 11 2026. No macro, syntax, notation, axiom, sorry.
-/
import Derived.Test.YtpmlhdmncbpodaaDoorRows
import GoSem.ClaimSeven
namespace Go.Proofs.YtpmlhdmncbpodaaDoor
namespace Rows

/-- THE TIED CARD OF 'buttresslaw01.WordsFields'. -/
def wordsFieldsCard : Claim7 := { stood := { row := wordsFieldsRow, standIns := [], harness := (true, "005ba4b4adb0883abcf0c6c95496c2f4ce93851c4a916b5615764992c3a17488"), looks := false }, kinds := [], alts := [], laidByText := true, laidKinds := [.data], laidTests := true, laidLooks := .later }
def WordsFieldsCardSaid : Prop := Claim7.holds Tryd.pinned (.plain (OpenSpec.ofChange wordsFieldsSpec)) wordsFieldsCard

/-- THE TIED CARD OF 'buttresslaw01.WordsUps'. -/
def wordsUpsCard : Claim7 := { stood := { row := wordsUpsRow, standIns := [], harness := (true, "005ba4b4adb0883abcf0c6c95496c2f4ce93851c4a916b5615764992c3a17488"), looks := false }, kinds := [], alts := [], laidByText := true, laidKinds := [.data], laidTests := true, laidLooks := .later }
def WordsUpsCardSaid : Prop := Claim7.holds Tryd.pinned (.plain (OpenSpec.ofChange wordsUpsSpec)) wordsUpsCard

/-- THE TIED CARD OF 'buttresslaw01.WordsSets'. -/
def wordsSetsCard : Claim7 := { stood := { row := wordsSetsRow, standIns := [], harness := (true, "005ba4b4adb0883abcf0c6c95496c2f4ce93851c4a916b5615764992c3a17488"), looks := false }, kinds := [], alts := [], laidByText := true, laidKinds := [.data], laidTests := true, laidLooks := .later }
def WordsSetsCardSaid : Prop := Claim7.holds Tryd.pinned (.plain (OpenSpec.ofChange wordsSetsSpec)) wordsSetsCard

/-- THE TIED CARD OF 'buttresslaw01.WordsBack'. -/
def wordsBackCard : Claim7 := { stood := { row := wordsBackRow, standIns := [], harness := (true, "005ba4b4adb0883abcf0c6c95496c2f4ce93851c4a916b5615764992c3a17488"), looks := false }, kinds := [], alts := [], laidByText := true, laidKinds := [.data], laidTests := true, laidLooks := .later }
def WordsBackCardSaid : Prop := Claim7.holds Tryd.pinned (.plain (OpenSpec.ofChange wordsBackSpec)) wordsBackCard

/-- THE TIED CARD OF 'buttresslaw01.WordsTop'. -/
def wordsTopCard : Claim7 := { stood := { row := wordsTopRow, standIns := [], harness := (true, "005ba4b4adb0883abcf0c6c95496c2f4ce93851c4a916b5615764992c3a17488"), looks := false }, kinds := [], alts := [], laidByText := true, laidKinds := [.data], laidTests := true, laidLooks := .later }
def WordsTopCardSaid : Prop := Claim7.holds Tryd.pinned (.plain (OpenSpec.ofChange wordsTopSpec)) wordsTopCard

/-- THE TIED CARD OF 'buttresslaw01.WordsParts'. -/
def wordsPartsCard : Claim7 := { stood := { row := wordsPartsRow, standIns := [], harness := (true, "005ba4b4adb0883abcf0c6c95496c2f4ce93851c4a916b5615764992c3a17488"), looks := false }, kinds := [], alts := [], laidByText := true, laidKinds := [.data], laidTests := true, laidLooks := .later }
def WordsPartsCardSaid : Prop := Claim7.holds Tryd.pinned (.plain (OpenSpec.ofChange wordsPartsSpec)) wordsPartsCard

/-- THE SECOND FORM's CARD OF 'buttresslaw01.WordsFields'. -/
def wordsFieldsUptoCard : Claim7 := { stood := { row := wordsFieldsUptoRow, standIns := [], harness := (true, "005ba4b4adb0883abcf0c6c95496c2f4ce93851c4a916b5615764992c3a17488"), looks := false }, kinds := [], alts := [], laidByText := true, laidKinds := [.data], laidTests := true, laidLooks := .later }
def WordsFieldsUptoCardSaid : Prop := Claim7.holds Tryd.pinned (.plain (OpenSpec.upto wordsFieldsSpec)) wordsFieldsUptoCard

/-- THE SECOND FORM's CARD OF 'buttresslaw01.WordsUps'. -/
def wordsUpsUptoCard : Claim7 := { stood := { row := wordsUpsUptoRow, standIns := [], harness := (true, "005ba4b4adb0883abcf0c6c95496c2f4ce93851c4a916b5615764992c3a17488"), looks := false }, kinds := [], alts := [], laidByText := true, laidKinds := [.data], laidTests := true, laidLooks := .later }
def WordsUpsUptoCardSaid : Prop := Claim7.holds Tryd.pinned (.plain (OpenSpec.upto wordsUpsSpec)) wordsUpsUptoCard

/-- THE SECOND FORM's CARD OF 'buttresslaw01.WordsSets'. -/
def wordsSetsUptoCard : Claim7 := { stood := { row := wordsSetsUptoRow, standIns := [], harness := (true, "005ba4b4adb0883abcf0c6c95496c2f4ce93851c4a916b5615764992c3a17488"), looks := false }, kinds := [], alts := [], laidByText := true, laidKinds := [.data], laidTests := true, laidLooks := .later }
def WordsSetsUptoCardSaid : Prop := Claim7.holds Tryd.pinned (.plain (OpenSpec.upto wordsSetsSpec)) wordsSetsUptoCard

/-- THE SECOND FORM's CARD OF 'buttresslaw01.WordsBack'. -/
def wordsBackUptoCard : Claim7 := { stood := { row := wordsBackUptoRow, standIns := [], harness := (true, "005ba4b4adb0883abcf0c6c95496c2f4ce93851c4a916b5615764992c3a17488"), looks := false }, kinds := [], alts := [], laidByText := true, laidKinds := [.data], laidTests := true, laidLooks := .later }
def WordsBackUptoCardSaid : Prop := Claim7.holds Tryd.pinned (.plain (OpenSpec.upto wordsBackSpec)) wordsBackUptoCard

/-- THE SECOND FORM's CARD OF 'buttresslaw01.WordsTop'. -/
def wordsTopUptoCard : Claim7 := { stood := { row := wordsTopUptoRow, standIns := [], harness := (true, "005ba4b4adb0883abcf0c6c95496c2f4ce93851c4a916b5615764992c3a17488"), looks := false }, kinds := [], alts := [], laidByText := true, laidKinds := [.data], laidTests := true, laidLooks := .later }
def WordsTopUptoCardSaid : Prop := Claim7.holds Tryd.pinned (.plain (OpenSpec.upto wordsTopSpec)) wordsTopUptoCard

/-- THE SECOND FORM's CARD OF 'buttresslaw01.WordsParts'. -/
def wordsPartsUptoCard : Claim7 := { stood := { row := wordsPartsUptoRow, standIns := [], harness := (true, "005ba4b4adb0883abcf0c6c95496c2f4ce93851c4a916b5615764992c3a17488"), looks := false }, kinds := [], alts := [], laidByText := true, laidKinds := [.data], laidTests := true, laidLooks := .later }
def WordsPartsUptoCardSaid : Prop := Claim7.holds Tryd.pinned (.plain (OpenSpec.upto wordsPartsSpec)) wordsPartsUptoCard
end Rows
end Go.Proofs.YtpmlhdmncbpodaaDoor
