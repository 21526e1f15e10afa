/-
  NARROWER THAN 'FOR EVERY INPUT', by the rows' own cells (each row's printed sentence says how): ReadyDoes: laid · ReadyFirst: laid · ReadyTurns: laid · ReadyBits: laid · ReadyTakes: laid · ReadyApart: laid.
  DERIVED. THE GIVEN ROWS OF THIS SEAT. 6 by the template 'for every input the law returns true; each argument reads behind the call as it read before'; 0 by the template 'total and deterministic' (their statements: YtnjmjhmngjodcaaDoorTotals.lean).
  GIVEN WITH THE SEED: the statements are not yours to turn. If you find one false, say at which input.
  Laid BY PROGRAM, IN A SANDBOX (cutbox-rows.mjs): the forced cells as the released guide's own fill.sh prints them over the translation f7d950ebdf88ac31… (all of the seat's roots in one cut). By AI agents, Wed Nov 11 2026. No macro, syntax, notation, axiom, sorry.
-/
import Derived.Test.YtnjmjhmngjodcaaDoorChecked
import GoSem.Claim
import GoSem.ClaimJoined
import GoSem.ClaimMapViews
import Derived.JoinedTies
import Derived.KernelRfl
namespace Go.Proofs.YtnjmjhmngjodcaaDoor
/- THE CELL 'sum', in the pinned program and in every row, IS THE sha256 OF THE DUMP (.gsa) THAT YtnjmjhmngjodcaaDoorProg.lean LOADS. Nothing in Lean hashes anything: it is a label: what it is worth is what the hold of that sum in a sandbox is worth. -/
noncomputable def Tryd.pinned : Pinned := { name := "ytnjmjhmngjodcaadoor", sum := "f7d950ebdf88ac317b7e731807bb7354de404eeeaba5cae188634905f8eeeb01", checked := Tryd.checked }
namespace Rows
def none {H : Type} : Left H := { results := [], args := [] }

/- WHAT THE LISTED PACKAGE-LEVEL VARIABLES READ AS WHEN THE CALL BEGINS. Each datum BY PROGRAM (the guide's laid-datum.mjs) off the statement by which the dump's own 'gosem.cut.vars' lays the variable. In a bare row this is a premise. The card (YtnjmjhmngjodcaaDoorCards.lean) ties it to the program's text. -/
def laid_buttress_words_halves {H : Type} : DataW H := .agg [.lit (.int .u64 32), .lit (.int .u64 16), .lit (.int .u64 8), .lit (.int .u64 4), .lit (.int .u64 2), .lit (.int .u64 1)]

/-- 'buttresslaw09.ReadyDoes': WHATEVER THE INPUT: true; the input reads as it did. -/
def readyDoesSpec : ChangeSpec := { name := "readyDoes", fn := fun _ => fun
  | [d] => { results := [.lit (.bool true)], args := [d] }
  | _ => none }
def readyDoesRow : OpenClaim := { program := "ytnjmjhmngjodcaadoor", sum := "f7d950ebdf88ac317b7e731807bb7354de404eeeaba5cae188634905f8eeeb01", func := "buttress/buttresslaw09.ReadyDoes", spec := "readyDoes", named := ["buttress/words.halves"], apart := false, laid := [("buttress/words.halves", laid_buttress_words_halves)] }
def ReadyDoesSaid : Prop := readyDoesRow.holds Tryd.pinned (OpenSpec.ofChange readyDoesSpec)

/-- ITS FALSE NEIGHBOUR: 'it returns false'. Refute it at one input. -/
def readyDoesWrong : ChangeSpec := { name := "readyDoes", fn := fun _ => fun
  | [d] => { results := [.lit (.bool false)], args := [d] }
  | _ => none }
def ReadyDoesWrongFalsely : Prop := readyDoesRow.holds Tryd.pinned (OpenSpec.ofChange readyDoesWrong)

/-- 'buttresslaw09.ReadyFirst': WHATEVER THE INPUT: true; the input reads as it did. -/
def readyFirstSpec : ChangeSpec := { name := "readyFirst", fn := fun _ => fun
  | [d] => { results := [.lit (.bool true)], args := [d] }
  | _ => none }
def readyFirstRow : OpenClaim := { program := "ytnjmjhmngjodcaadoor", sum := "f7d950ebdf88ac317b7e731807bb7354de404eeeaba5cae188634905f8eeeb01", func := "buttress/buttresslaw09.ReadyFirst", spec := "readyFirst", named := ["buttress/words.halves"], apart := false, laid := [("buttress/words.halves", laid_buttress_words_halves)] }
def ReadyFirstSaid : Prop := readyFirstRow.holds Tryd.pinned (OpenSpec.ofChange readyFirstSpec)

/-- ITS FALSE NEIGHBOUR: 'it returns false'. Refute it at one input. -/
def readyFirstWrong : ChangeSpec := { name := "readyFirst", fn := fun _ => fun
  | [d] => { results := [.lit (.bool false)], args := [d] }
  | _ => none }
def ReadyFirstWrongFalsely : Prop := readyFirstRow.holds Tryd.pinned (OpenSpec.ofChange readyFirstWrong)

/-- 'buttresslaw09.ReadyTurns': WHATEVER THE INPUT: true; the input reads as it did. -/
def readyTurnsSpec : ChangeSpec := { name := "readyTurns", fn := fun _ => fun
  | [d1, d2] => { results := [.lit (.bool true)], args := [d1, d2] }
  | _ => none }
def readyTurnsRow : OpenClaim := { program := "ytnjmjhmngjodcaadoor", sum := "f7d950ebdf88ac317b7e731807bb7354de404eeeaba5cae188634905f8eeeb01", func := "buttress/buttresslaw09.ReadyTurns", spec := "readyTurns", named := ["buttress/words.halves"], apart := false, laid := [("buttress/words.halves", laid_buttress_words_halves)] }
def ReadyTurnsSaid : Prop := readyTurnsRow.holds Tryd.pinned (OpenSpec.ofChange readyTurnsSpec)

/-- ITS FALSE NEIGHBOUR: 'it returns false'. Refute it at one input. -/
def readyTurnsWrong : ChangeSpec := { name := "readyTurns", fn := fun _ => fun
  | [d1, d2] => { results := [.lit (.bool false)], args := [d1, d2] }
  | _ => none }
def ReadyTurnsWrongFalsely : Prop := readyTurnsRow.holds Tryd.pinned (OpenSpec.ofChange readyTurnsWrong)

/-- 'buttresslaw09.ReadyBits': WHATEVER THE INPUT: true; the input reads as it did. -/
def readyBitsSpec : ChangeSpec := { name := "readyBits", fn := fun _ => fun
  | [d] => { results := [.lit (.bool true)], args := [d] }
  | _ => none }
def readyBitsRow : OpenClaim := { program := "ytnjmjhmngjodcaadoor", sum := "f7d950ebdf88ac317b7e731807bb7354de404eeeaba5cae188634905f8eeeb01", func := "buttress/buttresslaw09.ReadyBits", spec := "readyBits", named := ["buttress/words.halves"], apart := false, laid := [("buttress/words.halves", laid_buttress_words_halves)] }
def ReadyBitsSaid : Prop := readyBitsRow.holds Tryd.pinned (OpenSpec.ofChange readyBitsSpec)

/-- ITS FALSE NEIGHBOUR: 'it returns false'. Refute it at one input. -/
def readyBitsWrong : ChangeSpec := { name := "readyBits", fn := fun _ => fun
  | [d] => { results := [.lit (.bool false)], args := [d] }
  | _ => none }
def ReadyBitsWrongFalsely : Prop := readyBitsRow.holds Tryd.pinned (OpenSpec.ofChange readyBitsWrong)

/-- 'buttresslaw09.ReadyTakes': WHATEVER THE INPUT: true; the input reads as it did. -/
def readyTakesSpec : ChangeSpec := { name := "readyTakes", fn := fun _ => fun
  | [d1, d2] => { results := [.lit (.bool true)], args := [d1, d2] }
  | _ => none }
def readyTakesRow : OpenClaim := { program := "ytnjmjhmngjodcaadoor", sum := "f7d950ebdf88ac317b7e731807bb7354de404eeeaba5cae188634905f8eeeb01", func := "buttress/buttresslaw09.ReadyTakes", spec := "readyTakes", named := ["buttress/words.halves"], apart := false, laid := [("buttress/words.halves", laid_buttress_words_halves)] }
def ReadyTakesSaid : Prop := readyTakesRow.holds Tryd.pinned (OpenSpec.ofChange readyTakesSpec)

/-- ITS FALSE NEIGHBOUR: 'it returns false'. Refute it at one input. -/
def readyTakesWrong : ChangeSpec := { name := "readyTakes", fn := fun _ => fun
  | [d1, d2] => { results := [.lit (.bool false)], args := [d1, d2] }
  | _ => none }
def ReadyTakesWrongFalsely : Prop := readyTakesRow.holds Tryd.pinned (OpenSpec.ofChange readyTakesWrong)

/-- 'buttresslaw09.ReadyApart': WHATEVER THE INPUT: true; the input reads as it did. -/
def readyApartSpec : ChangeSpec := { name := "readyApart", fn := fun _ => fun
  | [d1, d2] => { results := [.lit (.bool true)], args := [d1, d2] }
  | _ => none }
def readyApartRow : OpenClaim := { program := "ytnjmjhmngjodcaadoor", sum := "f7d950ebdf88ac317b7e731807bb7354de404eeeaba5cae188634905f8eeeb01", func := "buttress/buttresslaw09.ReadyApart", spec := "readyApart", named := ["buttress/words.halves"], apart := false, laid := [("buttress/words.halves", laid_buttress_words_halves)] }
def ReadyApartSaid : Prop := readyApartRow.holds Tryd.pinned (OpenSpec.ofChange readyApartSpec)

/-- ITS FALSE NEIGHBOUR: 'it returns false'. Refute it at one input. -/
def readyApartWrong : ChangeSpec := { name := "readyApart", fn := fun _ => fun
  | [d1, d2] => { results := [.lit (.bool false)], args := [d1, d2] }
  | _ => none }
def ReadyApartWrongFalsely : Prop := readyApartRow.holds Tryd.pinned (OpenSpec.ofChange readyApartWrong)

/- THE SECOND FORM. 'bulk': how many values and letters a reading holds, each counted each time it is reached (what is shared counts as often as it is met; a slice's spare places count too). A statement '..UptoSaid' is the law's where the arguments, and the package variables that the reading takes, are together of bulk at most 1048576: NARROWER than '..Said'. Prove '..Said' where nothing that the law and all that it calls make is longer than what came in: it says more and counts as full. Else prove '..UptoSaid'. A law counts once. -/
mutual
def uptoBulk {H : Type} : DataW H → Nat
  | .lit (.string bytes) => bytes.length + 1
  | .lit _ => 1
  | .nil => 1
  | .ptr d => uptoBulk d + 1
  | .slice elems spare => uptoBulkAll elems + uptoBulkAll spare + 1
  | .agg parts => uptoBulkAll parts + 1
  | .iface _ d => uptoBulk d + 1
  | .map entries => uptoBulkEntries entries + 1
  | .held _ => 1
def uptoBulkAll {H : Type} : List (DataW H) → Nat
  | [] => 0
  | d :: r => uptoBulk d + uptoBulkAll r
def uptoBulkEntries {H : Type} : List (Lit × DataW H) → Nat
  | [] => 0
  | x :: r => uptoBulkEntry x + uptoBulkEntries r
def uptoBulkEntry {H : Type} : Lit × DataW H → Nat
  | (.string bytes, d) => bytes.length + uptoBulk d + 1
  | (_, d) => uptoBulk d + 1
 end
def uptoSmall : (H : Type) → List (DataW H) → Bool := fun _ ds => decide (uptoBulkAll ds ≤ 1048576)
def OpenSpec.upto (s : _root_.Go.ChangeSpec) : _root_.Go.OpenSpec := { _root_.Go.OpenSpec.ofChange s with cond := some uptoSmall }

/-- 'buttresslaw09.ReadyDoes', WHERE WHAT IT READS IS OF BULK AT MOST 1048576: true; the input reads as it did. -/
def readyDoesUptoRow : OpenClaim := { program := "ytnjmjhmngjodcaadoor", sum := "f7d950ebdf88ac317b7e731807bb7354de404eeeaba5cae188634905f8eeeb01", func := "buttress/buttresslaw09.ReadyDoes", spec := "readyDoes", named := ["buttress/words.halves"], apart := false, laid := [("buttress/words.halves", laid_buttress_words_halves)], narrowed := true }
def ReadyDoesUptoSaid : Prop := readyDoesUptoRow.holds Tryd.pinned (OpenSpec.upto readyDoesSpec)

/-- 'buttresslaw09.ReadyFirst', WHERE WHAT IT READS IS OF BULK AT MOST 1048576: true; the input reads as it did. -/
def readyFirstUptoRow : OpenClaim := { program := "ytnjmjhmngjodcaadoor", sum := "f7d950ebdf88ac317b7e731807bb7354de404eeeaba5cae188634905f8eeeb01", func := "buttress/buttresslaw09.ReadyFirst", spec := "readyFirst", named := ["buttress/words.halves"], apart := false, laid := [("buttress/words.halves", laid_buttress_words_halves)], narrowed := true }
def ReadyFirstUptoSaid : Prop := readyFirstUptoRow.holds Tryd.pinned (OpenSpec.upto readyFirstSpec)

/-- 'buttresslaw09.ReadyTurns', WHERE WHAT IT READS IS OF BULK AT MOST 1048576: true; the input reads as it did. -/
def readyTurnsUptoRow : OpenClaim := { program := "ytnjmjhmngjodcaadoor", sum := "f7d950ebdf88ac317b7e731807bb7354de404eeeaba5cae188634905f8eeeb01", func := "buttress/buttresslaw09.ReadyTurns", spec := "readyTurns", named := ["buttress/words.halves"], apart := false, laid := [("buttress/words.halves", laid_buttress_words_halves)], narrowed := true }
def ReadyTurnsUptoSaid : Prop := readyTurnsUptoRow.holds Tryd.pinned (OpenSpec.upto readyTurnsSpec)

/-- 'buttresslaw09.ReadyBits', WHERE WHAT IT READS IS OF BULK AT MOST 1048576: true; the input reads as it did. -/
def readyBitsUptoRow : OpenClaim := { program := "ytnjmjhmngjodcaadoor", sum := "f7d950ebdf88ac317b7e731807bb7354de404eeeaba5cae188634905f8eeeb01", func := "buttress/buttresslaw09.ReadyBits", spec := "readyBits", named := ["buttress/words.halves"], apart := false, laid := [("buttress/words.halves", laid_buttress_words_halves)], narrowed := true }
def ReadyBitsUptoSaid : Prop := readyBitsUptoRow.holds Tryd.pinned (OpenSpec.upto readyBitsSpec)

/-- 'buttresslaw09.ReadyTakes', WHERE WHAT IT READS IS OF BULK AT MOST 1048576: true; the input reads as it did. -/
def readyTakesUptoRow : OpenClaim := { program := "ytnjmjhmngjodcaadoor", sum := "f7d950ebdf88ac317b7e731807bb7354de404eeeaba5cae188634905f8eeeb01", func := "buttress/buttresslaw09.ReadyTakes", spec := "readyTakes", named := ["buttress/words.halves"], apart := false, laid := [("buttress/words.halves", laid_buttress_words_halves)], narrowed := true }
def ReadyTakesUptoSaid : Prop := readyTakesUptoRow.holds Tryd.pinned (OpenSpec.upto readyTakesSpec)

/-- 'buttresslaw09.ReadyApart', WHERE WHAT IT READS IS OF BULK AT MOST 1048576: true; the input reads as it did. -/
def readyApartUptoRow : OpenClaim := { program := "ytnjmjhmngjodcaadoor", sum := "f7d950ebdf88ac317b7e731807bb7354de404eeeaba5cae188634905f8eeeb01", func := "buttress/buttresslaw09.ReadyApart", spec := "readyApart", named := ["buttress/words.halves"], apart := false, laid := [("buttress/words.halves", laid_buttress_words_halves)], narrowed := true }
def ReadyApartUptoSaid : Prop := readyApartUptoRow.holds Tryd.pinned (OpenSpec.upto readyApartSpec)

end Rows
end Go.Proofs.YtnjmjhmngjodcaaDoor
