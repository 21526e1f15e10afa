/-
  NARROWER THAN 'FOR EVERY INPUT', by the rows' own cells (each row's printed sentence says how): WordsRounds: laid · WordsRefuses: laid · WordsTwice: laid.
  DERIVED. THE GIVEN ROWS OF THIS SEAT. 3 by the template 'for every input the law returns true; each argument reads behind the call as it read before'; 0 by the template 'total and deterministic' (their statements: YtpmlhdmncbpodabDoorTotals.lean).
  GIVEN WITH THE SEED: the statements are not yours to turn. If you find one false, say at which input.
  Laid BY PROGRAM, IN A SANDBOX (cutbox-rows.mjs): the forced cells as the released guide's own fill.sh prints them over the translation fc448c3a7831c84f… (all of the seat's roots in one cut). By AI agents, Wed Nov 11 2026. No macro, syntax, notation, axiom, sorry.
-/
import Derived.Test.YtpmlhdmncbpodabDoorChecked
import GoSem.Claim
import GoSem.ClaimJoined
import GoSem.ClaimMapViews
import Derived.JoinedTies
import Derived.KernelRfl
namespace Go.Proofs.YtpmlhdmncbpodabDoor
/- THE CELL 'sum', in the pinned program and in every row, IS THE sha256 OF THE DUMP (.gsa) THAT YtpmlhdmncbpodabDoorProg.lean LOADS. Nothing in Lean hashes anything: it is a label: what it is worth is what the hold of that sum in a sandbox is worth. -/
noncomputable def Tryd.pinned : Pinned := { name := "ytpmlhdmncbpodabdoor", sum := "fc448c3a7831c84faa35133928a6dec988dd3bb9f069d50f6cf934199418652f", checked := Tryd.checked }
namespace Rows
def none {H : Type} : Left H := { results := [], args := [] }

/- WHAT THE LISTED PACKAGE-LEVEL VARIABLES READ AS WHEN THE CALL BEGINS. Each datum BY PROGRAM (the guide's laid-datum.mjs) off the statement by which the dump's own 'gosem.cut.vars' lays the variable. In a bare row this is a premise. The card (YtpmlhdmncbpodabDoorCards.lean) ties it to the program's text. -/
def laid_buttress_words_halves {H : Type} : DataW H := .agg [.lit (.int .u64 32), .lit (.int .u64 16), .lit (.int .u64 8), .lit (.int .u64 4), .lit (.int .u64 2), .lit (.int .u64 1)]

/-- 'buttresslaw01.WordsRounds': WHATEVER THE INPUT: true; the input reads as it did. -/
def wordsRoundsSpec : ChangeSpec := { name := "wordsRounds", fn := fun _ => fun
  | [d1, d2] => { results := [.lit (.bool true)], args := [d1, d2] }
  | _ => none }
def wordsRoundsRow : OpenClaim := { program := "ytpmlhdmncbpodabdoor", sum := "fc448c3a7831c84faa35133928a6dec988dd3bb9f069d50f6cf934199418652f", func := "buttress/buttresslaw01.WordsRounds", spec := "wordsRounds", named := ["buttress/words.halves"], apart := false, laid := [("buttress/words.halves", laid_buttress_words_halves)] }
def WordsRoundsSaid : Prop := wordsRoundsRow.holds Tryd.pinned (OpenSpec.ofChange wordsRoundsSpec)

/-- ITS FALSE NEIGHBOUR: 'it returns false'. Refute it at one input. -/
def wordsRoundsWrong : ChangeSpec := { name := "wordsRounds", fn := fun _ => fun
  | [d1, d2] => { results := [.lit (.bool false)], args := [d1, d2] }
  | _ => none }
def WordsRoundsWrongFalsely : Prop := wordsRoundsRow.holds Tryd.pinned (OpenSpec.ofChange wordsRoundsWrong)

/-- 'buttresslaw01.WordsRefuses': WHATEVER THE INPUT: true; the input reads as it did. -/
def wordsRefusesSpec : ChangeSpec := { name := "wordsRefuses", fn := fun _ => fun
  | [d1, d2, d3] => { results := [.lit (.bool true)], args := [d1, d2, d3] }
  | _ => none }
def wordsRefusesRow : OpenClaim := { program := "ytpmlhdmncbpodabdoor", sum := "fc448c3a7831c84faa35133928a6dec988dd3bb9f069d50f6cf934199418652f", func := "buttress/buttresslaw01.WordsRefuses", spec := "wordsRefuses", named := ["buttress/words.halves"], apart := false, laid := [("buttress/words.halves", laid_buttress_words_halves)] }
def WordsRefusesSaid : Prop := wordsRefusesRow.holds Tryd.pinned (OpenSpec.ofChange wordsRefusesSpec)

/-- ITS FALSE NEIGHBOUR: 'it returns false'. Refute it at one input. -/
def wordsRefusesWrong : ChangeSpec := { name := "wordsRefuses", fn := fun _ => fun
  | [d1, d2, d3] => { results := [.lit (.bool false)], args := [d1, d2, d3] }
  | _ => none }
def WordsRefusesWrongFalsely : Prop := wordsRefusesRow.holds Tryd.pinned (OpenSpec.ofChange wordsRefusesWrong)

/-- 'buttresslaw01.WordsTwice': WHATEVER THE INPUT: true; the input reads as it did. -/
def wordsTwiceSpec : ChangeSpec := { name := "wordsTwice", fn := fun _ => fun
  | [d1, d2, d3] => { results := [.lit (.bool true)], args := [d1, d2, d3] }
  | _ => none }
def wordsTwiceRow : OpenClaim := { program := "ytpmlhdmncbpodabdoor", sum := "fc448c3a7831c84faa35133928a6dec988dd3bb9f069d50f6cf934199418652f", func := "buttress/buttresslaw01.WordsTwice", spec := "wordsTwice", named := ["buttress/words.halves"], apart := false, laid := [("buttress/words.halves", laid_buttress_words_halves)] }
def WordsTwiceSaid : Prop := wordsTwiceRow.holds Tryd.pinned (OpenSpec.ofChange wordsTwiceSpec)

/-- ITS FALSE NEIGHBOUR: 'it returns false'. Refute it at one input. -/
def wordsTwiceWrong : ChangeSpec := { name := "wordsTwice", fn := fun _ => fun
  | [d1, d2, d3] => { results := [.lit (.bool false)], args := [d1, d2, d3] }
  | _ => none }
def WordsTwiceWrongFalsely : Prop := wordsTwiceRow.holds Tryd.pinned (OpenSpec.ofChange wordsTwiceWrong)

/- THE SECOND FORM. 'bulk': how many values and letters a reading holds, each counted each time it is reached (what is shared counts as often as it is met; a slice's spare places count too). A statement '..UptoSaid' is the law's where the arguments, and the package variables that the reading takes, are together of bulk at most 1048576: NARROWER than '..Said'. Prove '..Said' where nothing that the law and all that it calls make is longer than what came in: it says more and counts as full. Else prove '..UptoSaid'. A law counts once. -/
mutual
def uptoBulk {H : Type} : DataW H → Nat
  | .lit (.string bytes) => bytes.length + 1
  | .lit _ => 1
  | .nil => 1
  | .ptr d => uptoBulk d + 1
  | .slice elems spare => uptoBulkAll elems + uptoBulkAll spare + 1
  | .agg parts => uptoBulkAll parts + 1
  | .iface _ d => uptoBulk d + 1
  | .map entries => uptoBulkEntries entries + 1
  | .held _ => 1
def uptoBulkAll {H : Type} : List (DataW H) → Nat
  | [] => 0
  | d :: r => uptoBulk d + uptoBulkAll r
def uptoBulkEntries {H : Type} : List (Lit × DataW H) → Nat
  | [] => 0
  | x :: r => uptoBulkEntry x + uptoBulkEntries r
def uptoBulkEntry {H : Type} : Lit × DataW H → Nat
  | (.string bytes, d) => bytes.length + uptoBulk d + 1
  | (_, d) => uptoBulk d + 1
 end
def uptoSmall : (H : Type) → List (DataW H) → Bool := fun _ ds => decide (uptoBulkAll ds ≤ 1048576)
def OpenSpec.upto (s : _root_.Go.ChangeSpec) : _root_.Go.OpenSpec := { _root_.Go.OpenSpec.ofChange s with cond := some uptoSmall }

/-- 'buttresslaw01.WordsRounds', WHERE WHAT IT READS IS OF BULK AT MOST 1048576: true; the input reads as it did. -/
def wordsRoundsUptoRow : OpenClaim := { program := "ytpmlhdmncbpodabdoor", sum := "fc448c3a7831c84faa35133928a6dec988dd3bb9f069d50f6cf934199418652f", func := "buttress/buttresslaw01.WordsRounds", spec := "wordsRounds", named := ["buttress/words.halves"], apart := false, laid := [("buttress/words.halves", laid_buttress_words_halves)], narrowed := true }
def WordsRoundsUptoSaid : Prop := wordsRoundsUptoRow.holds Tryd.pinned (OpenSpec.upto wordsRoundsSpec)

/-- 'buttresslaw01.WordsRefuses', WHERE WHAT IT READS IS OF BULK AT MOST 1048576: true; the input reads as it did. -/
def wordsRefusesUptoRow : OpenClaim := { program := "ytpmlhdmncbpodabdoor", sum := "fc448c3a7831c84faa35133928a6dec988dd3bb9f069d50f6cf934199418652f", func := "buttress/buttresslaw01.WordsRefuses", spec := "wordsRefuses", named := ["buttress/words.halves"], apart := false, laid := [("buttress/words.halves", laid_buttress_words_halves)], narrowed := true }
def WordsRefusesUptoSaid : Prop := wordsRefusesUptoRow.holds Tryd.pinned (OpenSpec.upto wordsRefusesSpec)

/-- 'buttresslaw01.WordsTwice', WHERE WHAT IT READS IS OF BULK AT MOST 1048576: true; the input reads as it did. -/
def wordsTwiceUptoRow : OpenClaim := { program := "ytpmlhdmncbpodabdoor", sum := "fc448c3a7831c84faa35133928a6dec988dd3bb9f069d50f6cf934199418652f", func := "buttress/buttresslaw01.WordsTwice", spec := "wordsTwice", named := ["buttress/words.halves"], apart := false, laid := [("buttress/words.halves", laid_buttress_words_halves)], narrowed := true }
def WordsTwiceUptoSaid : Prop := wordsTwiceUptoRow.holds Tryd.pinned (OpenSpec.upto wordsTwiceSpec)

end Rows
end Go.Proofs.YtpmlhdmncbpodabDoor
