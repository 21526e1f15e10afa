/-
  NARROWER THAN 'FOR EVERY INPUT', by the rows' own cells (each row's printed sentence says how): WordsFields: laid · WordsUps: laid · WordsSets: laid · WordsBack: laid · WordsTop: laid · WordsParts: laid.
  DERIVED. THE GIVEN ROWS OF THIS SEAT. 6 by the template 'for every input the law returns true; each argument reads behind the call as it read before'; 0 by the template 'total and deterministic' (their statements: YtpmlhdmncbpodaaDoorTotals.lean).
  GIVEN WITH THE SEED: the statements are not yours to turn. If you find one false, say at which input.
  Laid BY PROGRAM, IN A SANDBOX (cutbox-rows.mjs): the forced cells as the released guide's own fill.sh prints them over the translation 9f697b9771365dff… (all of the seat's roots in one cut). By AI agents, Wed Nov 11 2026. No macro, syntax, notation, axiom, sorry.
-/
import Derived.Test.YtpmlhdmncbpodaaDoorChecked
import GoSem.Claim
import GoSem.ClaimJoined
import GoSem.ClaimMapViews
import Derived.JoinedTies
import Derived.KernelRfl
namespace Go.Proofs.YtpmlhdmncbpodaaDoor
/- THE CELL 'sum', in the pinned program and in every row, IS THE sha256 OF THE DUMP (.gsa) THAT YtpmlhdmncbpodaaDoorProg.lean LOADS. Nothing in Lean hashes anything: it is a label: what it is worth is what the hold of that sum in a sandbox is worth. -/
noncomputable def Tryd.pinned : Pinned := { name := "ytpmlhdmncbpodaadoor", sum := "9f697b9771365dff73c66921ef21e7ad0c8c19a620f58fa26717df536e1a11eb", checked := Tryd.checked }
namespace Rows
def none {H : Type} : Left H := { results := [], args := [] }

/- WHAT THE LISTED PACKAGE-LEVEL VARIABLES READ AS WHEN THE CALL BEGINS. Each datum BY PROGRAM (the guide's laid-datum.mjs) off the statement by which the dump's own 'gosem.cut.vars' lays the variable. In a bare row this is a premise. The card (YtpmlhdmncbpodaaDoorCards.lean) ties it to the program's text. -/
def laid_buttress_words_halves {H : Type} : DataW H := .agg [.lit (.int .u64 32), .lit (.int .u64 16), .lit (.int .u64 8), .lit (.int .u64 4), .lit (.int .u64 2), .lit (.int .u64 1)]

/-- 'buttresslaw01.WordsFields': WHATEVER THE INPUT: true; the input reads as it did. -/
def wordsFieldsSpec : ChangeSpec := { name := "wordsFields", fn := fun _ => fun
  | [d1, d2, d3] => { results := [.lit (.bool true)], args := [d1, d2, d3] }
  | _ => none }
def wordsFieldsRow : OpenClaim := { program := "ytpmlhdmncbpodaadoor", sum := "9f697b9771365dff73c66921ef21e7ad0c8c19a620f58fa26717df536e1a11eb", func := "buttress/buttresslaw01.WordsFields", spec := "wordsFields", named := ["buttress/words.halves"], apart := false, laid := [("buttress/words.halves", laid_buttress_words_halves)] }
def WordsFieldsSaid : Prop := wordsFieldsRow.holds Tryd.pinned (OpenSpec.ofChange wordsFieldsSpec)

/-- ITS FALSE NEIGHBOUR: 'it returns false'. Refute it at one input. -/
def wordsFieldsWrong : ChangeSpec := { name := "wordsFields", fn := fun _ => fun
  | [d1, d2, d3] => { results := [.lit (.bool false)], args := [d1, d2, d3] }
  | _ => none }
def WordsFieldsWrongFalsely : Prop := wordsFieldsRow.holds Tryd.pinned (OpenSpec.ofChange wordsFieldsWrong)

/-- 'buttresslaw01.WordsUps': WHATEVER THE INPUT: true; the input reads as it did. -/
def wordsUpsSpec : ChangeSpec := { name := "wordsUps", fn := fun _ => fun
  | [d1, d2] => { results := [.lit (.bool true)], args := [d1, d2] }
  | _ => none }
def wordsUpsRow : OpenClaim := { program := "ytpmlhdmncbpodaadoor", sum := "9f697b9771365dff73c66921ef21e7ad0c8c19a620f58fa26717df536e1a11eb", func := "buttress/buttresslaw01.WordsUps", spec := "wordsUps", named := ["buttress/words.halves"], apart := false, laid := [("buttress/words.halves", laid_buttress_words_halves)] }
def WordsUpsSaid : Prop := wordsUpsRow.holds Tryd.pinned (OpenSpec.ofChange wordsUpsSpec)

/-- ITS FALSE NEIGHBOUR: 'it returns false'. Refute it at one input. -/
def wordsUpsWrong : ChangeSpec := { name := "wordsUps", fn := fun _ => fun
  | [d1, d2] => { results := [.lit (.bool false)], args := [d1, d2] }
  | _ => none }
def WordsUpsWrongFalsely : Prop := wordsUpsRow.holds Tryd.pinned (OpenSpec.ofChange wordsUpsWrong)

/-- 'buttresslaw01.WordsSets': WHATEVER THE INPUT: true; the input reads as it did. -/
def wordsSetsSpec : ChangeSpec := { name := "wordsSets", fn := fun _ => fun
  | [d1, d2, d3] => { results := [.lit (.bool true)], args := [d1, d2, d3] }
  | _ => none }
def wordsSetsRow : OpenClaim := { program := "ytpmlhdmncbpodaadoor", sum := "9f697b9771365dff73c66921ef21e7ad0c8c19a620f58fa26717df536e1a11eb", func := "buttress/buttresslaw01.WordsSets", spec := "wordsSets", named := ["buttress/words.halves"], apart := false, laid := [("buttress/words.halves", laid_buttress_words_halves)] }
def WordsSetsSaid : Prop := wordsSetsRow.holds Tryd.pinned (OpenSpec.ofChange wordsSetsSpec)

/-- ITS FALSE NEIGHBOUR: 'it returns false'. Refute it at one input. -/
def wordsSetsWrong : ChangeSpec := { name := "wordsSets", fn := fun _ => fun
  | [d1, d2, d3] => { results := [.lit (.bool false)], args := [d1, d2, d3] }
  | _ => none }
def WordsSetsWrongFalsely : Prop := wordsSetsRow.holds Tryd.pinned (OpenSpec.ofChange wordsSetsWrong)

/-- 'buttresslaw01.WordsBack': WHATEVER THE INPUT: true; the input reads as it did. -/
def wordsBackSpec : ChangeSpec := { name := "wordsBack", fn := fun _ => fun
  | [d1, d2, d3] => { results := [.lit (.bool true)], args := [d1, d2, d3] }
  | _ => none }
def wordsBackRow : OpenClaim := { program := "ytpmlhdmncbpodaadoor", sum := "9f697b9771365dff73c66921ef21e7ad0c8c19a620f58fa26717df536e1a11eb", func := "buttress/buttresslaw01.WordsBack", spec := "wordsBack", named := ["buttress/words.halves"], apart := false, laid := [("buttress/words.halves", laid_buttress_words_halves)] }
def WordsBackSaid : Prop := wordsBackRow.holds Tryd.pinned (OpenSpec.ofChange wordsBackSpec)

/-- ITS FALSE NEIGHBOUR: 'it returns false'. Refute it at one input. -/
def wordsBackWrong : ChangeSpec := { name := "wordsBack", fn := fun _ => fun
  | [d1, d2, d3] => { results := [.lit (.bool false)], args := [d1, d2, d3] }
  | _ => none }
def WordsBackWrongFalsely : Prop := wordsBackRow.holds Tryd.pinned (OpenSpec.ofChange wordsBackWrong)

/-- 'buttresslaw01.WordsTop': WHATEVER THE INPUT: true; the input reads as it did. -/
def wordsTopSpec : ChangeSpec := { name := "wordsTop", fn := fun _ => fun
  | [d1, d2] => { results := [.lit (.bool true)], args := [d1, d2] }
  | _ => none }
def wordsTopRow : OpenClaim := { program := "ytpmlhdmncbpodaadoor", sum := "9f697b9771365dff73c66921ef21e7ad0c8c19a620f58fa26717df536e1a11eb", func := "buttress/buttresslaw01.WordsTop", spec := "wordsTop", named := ["buttress/words.halves"], apart := false, laid := [("buttress/words.halves", laid_buttress_words_halves)] }
def WordsTopSaid : Prop := wordsTopRow.holds Tryd.pinned (OpenSpec.ofChange wordsTopSpec)

/-- ITS FALSE NEIGHBOUR: 'it returns false'. Refute it at one input. -/
def wordsTopWrong : ChangeSpec := { name := "wordsTop", fn := fun _ => fun
  | [d1, d2] => { results := [.lit (.bool false)], args := [d1, d2] }
  | _ => none }
def WordsTopWrongFalsely : Prop := wordsTopRow.holds Tryd.pinned (OpenSpec.ofChange wordsTopWrong)

/-- 'buttresslaw01.WordsParts': WHATEVER THE INPUT: true; the input reads as it did. -/
def wordsPartsSpec : ChangeSpec := { name := "wordsParts", fn := fun _ => fun
  | [d1, d2] => { results := [.lit (.bool true)], args := [d1, d2] }
  | _ => none }
def wordsPartsRow : OpenClaim := { program := "ytpmlhdmncbpodaadoor", sum := "9f697b9771365dff73c66921ef21e7ad0c8c19a620f58fa26717df536e1a11eb", func := "buttress/buttresslaw01.WordsParts", spec := "wordsParts", named := ["buttress/words.halves"], apart := false, laid := [("buttress/words.halves", laid_buttress_words_halves)] }
def WordsPartsSaid : Prop := wordsPartsRow.holds Tryd.pinned (OpenSpec.ofChange wordsPartsSpec)

/-- ITS FALSE NEIGHBOUR: 'it returns false'. Refute it at one input. -/
def wordsPartsWrong : ChangeSpec := { name := "wordsParts", fn := fun _ => fun
  | [d1, d2] => { results := [.lit (.bool false)], args := [d1, d2] }
  | _ => none }
def WordsPartsWrongFalsely : Prop := wordsPartsRow.holds Tryd.pinned (OpenSpec.ofChange wordsPartsWrong)

/- THE SECOND FORM. 'bulk': how many values and letters a reading holds, each counted each time it is reached (what is shared counts as often as it is met; a slice's spare places count too). A statement '..UptoSaid' is the law's where the arguments, and the package variables that the reading takes, are together of bulk at most 1048576: NARROWER than '..Said'. Prove '..Said' where nothing that the law and all that it calls make is longer than what came in: it says more and counts as full. Else prove '..UptoSaid'. A law counts once. -/
mutual
def uptoBulk {H : Type} : DataW H → Nat
  | .lit (.string bytes) => bytes.length + 1
  | .lit _ => 1
  | .nil => 1
  | .ptr d => uptoBulk d + 1
  | .slice elems spare => uptoBulkAll elems + uptoBulkAll spare + 1
  | .agg parts => uptoBulkAll parts + 1
  | .iface _ d => uptoBulk d + 1
  | .map entries => uptoBulkEntries entries + 1
  | .held _ => 1
def uptoBulkAll {H : Type} : List (DataW H) → Nat
  | [] => 0
  | d :: r => uptoBulk d + uptoBulkAll r
def uptoBulkEntries {H : Type} : List (Lit × DataW H) → Nat
  | [] => 0
  | x :: r => uptoBulkEntry x + uptoBulkEntries r
def uptoBulkEntry {H : Type} : Lit × DataW H → Nat
  | (.string bytes, d) => bytes.length + uptoBulk d + 1
  | (_, d) => uptoBulk d + 1
 end
def uptoSmall : (H : Type) → List (DataW H) → Bool := fun _ ds => decide (uptoBulkAll ds ≤ 1048576)
def OpenSpec.upto (s : _root_.Go.ChangeSpec) : _root_.Go.OpenSpec := { _root_.Go.OpenSpec.ofChange s with cond := some uptoSmall }

/-- 'buttresslaw01.WordsFields', WHERE WHAT IT READS IS OF BULK AT MOST 1048576: true; the input reads as it did. -/
def wordsFieldsUptoRow : OpenClaim := { program := "ytpmlhdmncbpodaadoor", sum := "9f697b9771365dff73c66921ef21e7ad0c8c19a620f58fa26717df536e1a11eb", func := "buttress/buttresslaw01.WordsFields", spec := "wordsFields", named := ["buttress/words.halves"], apart := false, laid := [("buttress/words.halves", laid_buttress_words_halves)], narrowed := true }
def WordsFieldsUptoSaid : Prop := wordsFieldsUptoRow.holds Tryd.pinned (OpenSpec.upto wordsFieldsSpec)

/-- 'buttresslaw01.WordsUps', WHERE WHAT IT READS IS OF BULK AT MOST 1048576: true; the input reads as it did. -/
def wordsUpsUptoRow : OpenClaim := { program := "ytpmlhdmncbpodaadoor", sum := "9f697b9771365dff73c66921ef21e7ad0c8c19a620f58fa26717df536e1a11eb", func := "buttress/buttresslaw01.WordsUps", spec := "wordsUps", named := ["buttress/words.halves"], apart := false, laid := [("buttress/words.halves", laid_buttress_words_halves)], narrowed := true }
def WordsUpsUptoSaid : Prop := wordsUpsUptoRow.holds Tryd.pinned (OpenSpec.upto wordsUpsSpec)

/-- 'buttresslaw01.WordsSets', WHERE WHAT IT READS IS OF BULK AT MOST 1048576: true; the input reads as it did. -/
def wordsSetsUptoRow : OpenClaim := { program := "ytpmlhdmncbpodaadoor", sum := "9f697b9771365dff73c66921ef21e7ad0c8c19a620f58fa26717df536e1a11eb", func := "buttress/buttresslaw01.WordsSets", spec := "wordsSets", named := ["buttress/words.halves"], apart := false, laid := [("buttress/words.halves", laid_buttress_words_halves)], narrowed := true }
def WordsSetsUptoSaid : Prop := wordsSetsUptoRow.holds Tryd.pinned (OpenSpec.upto wordsSetsSpec)

/-- 'buttresslaw01.WordsBack', WHERE WHAT IT READS IS OF BULK AT MOST 1048576: true; the input reads as it did. -/
def wordsBackUptoRow : OpenClaim := { program := "ytpmlhdmncbpodaadoor", sum := "9f697b9771365dff73c66921ef21e7ad0c8c19a620f58fa26717df536e1a11eb", func := "buttress/buttresslaw01.WordsBack", spec := "wordsBack", named := ["buttress/words.halves"], apart := false, laid := [("buttress/words.halves", laid_buttress_words_halves)], narrowed := true }
def WordsBackUptoSaid : Prop := wordsBackUptoRow.holds Tryd.pinned (OpenSpec.upto wordsBackSpec)

/-- 'buttresslaw01.WordsTop', WHERE WHAT IT READS IS OF BULK AT MOST 1048576: true; the input reads as it did. -/
def wordsTopUptoRow : OpenClaim := { program := "ytpmlhdmncbpodaadoor", sum := "9f697b9771365dff73c66921ef21e7ad0c8c19a620f58fa26717df536e1a11eb", func := "buttress/buttresslaw01.WordsTop", spec := "wordsTop", named := ["buttress/words.halves"], apart := false, laid := [("buttress/words.halves", laid_buttress_words_halves)], narrowed := true }
def WordsTopUptoSaid : Prop := wordsTopUptoRow.holds Tryd.pinned (OpenSpec.upto wordsTopSpec)

/-- 'buttresslaw01.WordsParts', WHERE WHAT IT READS IS OF BULK AT MOST 1048576: true; the input reads as it did. -/
def wordsPartsUptoRow : OpenClaim := { program := "ytpmlhdmncbpodaadoor", sum := "9f697b9771365dff73c66921ef21e7ad0c8c19a620f58fa26717df536e1a11eb", func := "buttress/buttresslaw01.WordsParts", spec := "wordsParts", named := ["buttress/words.halves"], apart := false, laid := [("buttress/words.halves", laid_buttress_words_halves)], narrowed := true }
def WordsPartsUptoSaid : Prop := wordsPartsUptoRow.holds Tryd.pinned (OpenSpec.upto wordsPartsSpec)

end Rows
end Go.Proofs.YtpmlhdmncbpodaaDoor
