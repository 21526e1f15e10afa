/-
  NARROWER THAN 'FOR EVERY INPUT', by the rows' own cells (each row's printed sentence says how): ThreadsFull: laid · ThreadsNone: laid.
  DERIVED. THE GIVEN ROWS OF THIS SEAT. 2 by the template 'for every input the law returns true; each argument reads behind the call as it read before'; 0 by the template 'total and deterministic' (their statements: YtchamgecalfmpabDoorTotals.lean).
  GIVEN WITH THE SEED: the statements are not yours to turn. If you find one false, say at which input.
  Laid BY PROGRAM, IN A SANDBOX (cutbox-rows.mjs): the forced cells as the released guide's own fill.sh prints them over the translation d3a8f940f65b1ceb… (all of the seat's roots in one cut). By AI agents, Wed Nov 11 2026. No macro, syntax, notation, axiom, sorry.
-/
import Derived.Test.YtchamgecalfmpabDoorChecked
import GoSem.Claim
import GoSem.ClaimJoined
import GoSem.ClaimMapViews
import Derived.JoinedTies
import Derived.KernelRfl
namespace Go.Proofs.YtchamgecalfmpabDoor
/- THE CELL 'sum', in the pinned program and in every row, IS THE sha256 OF THE DUMP (.gsa) THAT YtchamgecalfmpabDoorProg.lean LOADS. Nothing in Lean hashes anything: it is a label: what it is worth is what the hold of that sum in a sandbox is worth. -/
noncomputable def Tryd.pinned : Pinned := { name := "ytchamgecalfmpabdoor", sum := "d3a8f940f65b1cebaf5cf441a1040185b81ab08b520c5820c1e26c07a943bbaf", checked := Tryd.checked }
namespace Rows
def none {H : Type} : Left H := { results := [], args := [] }

/- WHAT THE LISTED PACKAGE-LEVEL VARIABLES READ AS WHEN THE CALL BEGINS. Each datum BY PROGRAM (the guide's laid-datum.mjs) off the statement by which the dump's own 'gosem.cut.vars' lays the variable. In a bare row this is a premise. The card (YtchamgecalfmpabDoorCards.lean) ties it to the program's text. -/
def laid_buttress_words_halves {H : Type} : DataW H := .agg [.lit (.int .u64 32), .lit (.int .u64 16), .lit (.int .u64 8), .lit (.int .u64 4), .lit (.int .u64 2), .lit (.int .u64 1)]

/-- 'buttresslaw10.ThreadsFull': WHATEVER THE INPUT: true; the input reads as it did. -/
def threadsFullSpec : ChangeSpec := { name := "threadsFull", fn := fun _ => fun
  | [d1, d2] => { results := [.lit (.bool true)], args := [d1, d2] }
  | _ => none }
def threadsFullRow : OpenClaim := { program := "ytchamgecalfmpabdoor", sum := "d3a8f940f65b1cebaf5cf441a1040185b81ab08b520c5820c1e26c07a943bbaf", func := "buttress/buttresslaw10.ThreadsFull", spec := "threadsFull", unfollowed := true, recurses := true, named := ["buttress/words.halves"], apart := false, laid := [("buttress/words.halves", laid_buttress_words_halves)] }
def ThreadsFullSaid : Prop := threadsFullRow.holds Tryd.pinned (OpenSpec.ofChange threadsFullSpec)

/-- ITS FALSE NEIGHBOUR: 'it returns false'. Refute it at one input. -/
def threadsFullWrong : ChangeSpec := { name := "threadsFull", fn := fun _ => fun
  | [d1, d2] => { results := [.lit (.bool false)], args := [d1, d2] }
  | _ => none }
def ThreadsFullWrongFalsely : Prop := threadsFullRow.holds Tryd.pinned (OpenSpec.ofChange threadsFullWrong)

/-- 'buttresslaw10.ThreadsNone': WHATEVER THE INPUT: true; the input reads as it did. -/
def threadsNoneSpec : ChangeSpec := { name := "threadsNone", fn := fun _ => fun
  | [d1, d2] => { results := [.lit (.bool true)], args := [d1, d2] }
  | _ => none }
def threadsNoneRow : OpenClaim := { program := "ytchamgecalfmpabdoor", sum := "d3a8f940f65b1cebaf5cf441a1040185b81ab08b520c5820c1e26c07a943bbaf", func := "buttress/buttresslaw10.ThreadsNone", spec := "threadsNone", unfollowed := true, recurses := true, named := ["buttress/words.halves"], apart := false, laid := [("buttress/words.halves", laid_buttress_words_halves)] }
def ThreadsNoneSaid : Prop := threadsNoneRow.holds Tryd.pinned (OpenSpec.ofChange threadsNoneSpec)

/-- ITS FALSE NEIGHBOUR: 'it returns false'. Refute it at one input. -/
def threadsNoneWrong : ChangeSpec := { name := "threadsNone", fn := fun _ => fun
  | [d1, d2] => { results := [.lit (.bool false)], args := [d1, d2] }
  | _ => none }
def ThreadsNoneWrongFalsely : Prop := threadsNoneRow.holds Tryd.pinned (OpenSpec.ofChange threadsNoneWrong)

/- THE SECOND FORM. 'bulk': how many values and letters a reading holds, each counted each time it is reached (what is shared counts as often as it is met; a slice's spare places count too). A statement '..UptoSaid' is the law's where the arguments, and the package variables that the reading takes, are together of bulk at most 1048576: NARROWER than '..Said'. Prove '..Said' where nothing that the law and all that it calls make is longer than what came in: it says more and counts as full. Else prove '..UptoSaid'. A law counts once. -/
mutual
def uptoBulk {H : Type} : DataW H → Nat
  | .lit (.string bytes) => bytes.length + 1
  | .lit _ => 1
  | .nil => 1
  | .ptr d => uptoBulk d + 1
  | .slice elems spare => uptoBulkAll elems + uptoBulkAll spare + 1
  | .agg parts => uptoBulkAll parts + 1
  | .iface _ d => uptoBulk d + 1
  | .map entries => uptoBulkEntries entries + 1
  | .held _ => 1
def uptoBulkAll {H : Type} : List (DataW H) → Nat
  | [] => 0
  | d :: r => uptoBulk d + uptoBulkAll r
def uptoBulkEntries {H : Type} : List (Lit × DataW H) → Nat
  | [] => 0
  | x :: r => uptoBulkEntry x + uptoBulkEntries r
def uptoBulkEntry {H : Type} : Lit × DataW H → Nat
  | (.string bytes, d) => bytes.length + uptoBulk d + 1
  | (_, d) => uptoBulk d + 1
 end
def uptoSmall : (H : Type) → List (DataW H) → Bool := fun _ ds => decide (uptoBulkAll ds ≤ 1048576)
def OpenSpec.upto (s : _root_.Go.ChangeSpec) : _root_.Go.OpenSpec := { _root_.Go.OpenSpec.ofChange s with cond := some uptoSmall }

/-- 'buttresslaw10.ThreadsFull', WHERE WHAT IT READS IS OF BULK AT MOST 1048576: true; the input reads as it did. -/
def threadsFullUptoRow : OpenClaim := { program := "ytchamgecalfmpabdoor", sum := "d3a8f940f65b1cebaf5cf441a1040185b81ab08b520c5820c1e26c07a943bbaf", func := "buttress/buttresslaw10.ThreadsFull", spec := "threadsFull", unfollowed := true, recurses := true, named := ["buttress/words.halves"], apart := false, laid := [("buttress/words.halves", laid_buttress_words_halves)], narrowed := true }
def ThreadsFullUptoSaid : Prop := threadsFullUptoRow.holds Tryd.pinned (OpenSpec.upto threadsFullSpec)

/-- 'buttresslaw10.ThreadsNone', WHERE WHAT IT READS IS OF BULK AT MOST 1048576: true; the input reads as it did. -/
def threadsNoneUptoRow : OpenClaim := { program := "ytchamgecalfmpabdoor", sum := "d3a8f940f65b1cebaf5cf441a1040185b81ab08b520c5820c1e26c07a943bbaf", func := "buttress/buttresslaw10.ThreadsNone", spec := "threadsNone", unfollowed := true, recurses := true, named := ["buttress/words.halves"], apart := false, laid := [("buttress/words.halves", laid_buttress_words_halves)], narrowed := true }
def ThreadsNoneUptoSaid : Prop := threadsNoneUptoRow.holds Tryd.pinned (OpenSpec.upto threadsNoneSpec)

end Rows
end Go.Proofs.YtchamgecalfmpabDoor
