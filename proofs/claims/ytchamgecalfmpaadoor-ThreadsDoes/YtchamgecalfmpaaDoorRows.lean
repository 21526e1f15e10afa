/-
  NARROWER THAN 'FOR EVERY INPUT', by the rows' own cells (each row's printed sentence says how): ThreadsDoes: laid · ThreadsPick: laid · ThreadsTurns: laid · ThreadsWaits: laid · ThreadsGreater: laid · ThreadsMoves: laid.
  DERIVED. THE GIVEN ROWS OF THIS SEAT. 6 by the template 'for every input the law returns true; each argument reads behind the call as it read before'; 0 by the template 'total and deterministic' (their statements: YtchamgecalfmpaaDoorTotals.lean).
  GIVEN WITH THE SEED: the statements are not yours to turn. If you find one false, say at which input.
  Laid BY PROGRAM, IN A SANDBOX (cutbox-rows.mjs): the forced cells as the released guide's own fill.sh prints them over the translation ee5b833847ef3bc4… (all of the seat's roots in one cut). By AI agents, Wed Nov 11 2026. No macro, syntax, notation, axiom, sorry.
-/
import Derived.Test.YtchamgecalfmpaaDoorChecked
import GoSem.Claim
import GoSem.ClaimJoined
import GoSem.ClaimMapViews
import Derived.JoinedTies
import Derived.KernelRfl
namespace Go.Proofs.YtchamgecalfmpaaDoor
/- THE CELL 'sum', in the pinned program and in every row, IS THE sha256 OF THE DUMP (.gsa) THAT YtchamgecalfmpaaDoorProg.lean LOADS. Nothing in Lean hashes anything: it is a label: what it is worth is what the hold of that sum in a sandbox is worth. -/
noncomputable def Tryd.pinned : Pinned := { name := "ytchamgecalfmpaadoor", sum := "ee5b833847ef3bc45663667158e7aed6138c85eba7df1b1c5748d18ad2195031", checked := Tryd.checked }
namespace Rows
def none {H : Type} : Left H := { results := [], args := [] }

/- WHAT THE LISTED PACKAGE-LEVEL VARIABLES READ AS WHEN THE CALL BEGINS. Each datum BY PROGRAM (the guide's laid-datum.mjs) off the statement by which the dump's own 'gosem.cut.vars' lays the variable. In a bare row this is a premise. The card (YtchamgecalfmpaaDoorCards.lean) ties it to the program's text. -/
def laid_buttress_words_halves {H : Type} : DataW H := .agg [.lit (.int .u64 32), .lit (.int .u64 16), .lit (.int .u64 8), .lit (.int .u64 4), .lit (.int .u64 2), .lit (.int .u64 1)]

/-- 'buttresslaw10.ThreadsDoes': WHATEVER THE INPUT: true; the input reads as it did. -/
def threadsDoesSpec : ChangeSpec := { name := "threadsDoes", fn := fun _ => fun
  | [d1, d2] => { results := [.lit (.bool true)], args := [d1, d2] }
  | _ => none }
def threadsDoesRow : OpenClaim := { program := "ytchamgecalfmpaadoor", sum := "ee5b833847ef3bc45663667158e7aed6138c85eba7df1b1c5748d18ad2195031", func := "buttress/buttresslaw10.ThreadsDoes", spec := "threadsDoes", unfollowed := true, recurses := true, named := ["buttress/words.halves"], apart := false, laid := [("buttress/words.halves", laid_buttress_words_halves)] }
def ThreadsDoesSaid : Prop := threadsDoesRow.holds Tryd.pinned (OpenSpec.ofChange threadsDoesSpec)

/-- ITS FALSE NEIGHBOUR: 'it returns false'. Refute it at one input. -/
def threadsDoesWrong : ChangeSpec := { name := "threadsDoes", fn := fun _ => fun
  | [d1, d2] => { results := [.lit (.bool false)], args := [d1, d2] }
  | _ => none }
def ThreadsDoesWrongFalsely : Prop := threadsDoesRow.holds Tryd.pinned (OpenSpec.ofChange threadsDoesWrong)

/-- 'buttresslaw10.ThreadsPick': WHATEVER THE INPUT: true; the input reads as it did. -/
def threadsPickSpec : ChangeSpec := { name := "threadsPick", fn := fun _ => fun
  | [d1, d2, d3] => { results := [.lit (.bool true)], args := [d1, d2, d3] }
  | _ => none }
def threadsPickRow : OpenClaim := { program := "ytchamgecalfmpaadoor", sum := "ee5b833847ef3bc45663667158e7aed6138c85eba7df1b1c5748d18ad2195031", func := "buttress/buttresslaw10.ThreadsPick", spec := "threadsPick", unfollowed := true, recurses := true, named := ["buttress/words.halves"], apart := false, laid := [("buttress/words.halves", laid_buttress_words_halves)] }
def ThreadsPickSaid : Prop := threadsPickRow.holds Tryd.pinned (OpenSpec.ofChange threadsPickSpec)

/-- ITS FALSE NEIGHBOUR: 'it returns false'. Refute it at one input. -/
def threadsPickWrong : ChangeSpec := { name := "threadsPick", fn := fun _ => fun
  | [d1, d2, d3] => { results := [.lit (.bool false)], args := [d1, d2, d3] }
  | _ => none }
def ThreadsPickWrongFalsely : Prop := threadsPickRow.holds Tryd.pinned (OpenSpec.ofChange threadsPickWrong)

/-- 'buttresslaw10.ThreadsTurns': WHATEVER THE INPUT: true; the input reads as it did. -/
def threadsTurnsSpec : ChangeSpec := { name := "threadsTurns", fn := fun _ => fun
  | [d1, d2] => { results := [.lit (.bool true)], args := [d1, d2] }
  | _ => none }
def threadsTurnsRow : OpenClaim := { program := "ytchamgecalfmpaadoor", sum := "ee5b833847ef3bc45663667158e7aed6138c85eba7df1b1c5748d18ad2195031", func := "buttress/buttresslaw10.ThreadsTurns", spec := "threadsTurns", unfollowed := true, recurses := true, named := ["buttress/words.halves"], apart := false, laid := [("buttress/words.halves", laid_buttress_words_halves)] }
def ThreadsTurnsSaid : Prop := threadsTurnsRow.holds Tryd.pinned (OpenSpec.ofChange threadsTurnsSpec)

/-- ITS FALSE NEIGHBOUR: 'it returns false'. Refute it at one input. -/
def threadsTurnsWrong : ChangeSpec := { name := "threadsTurns", fn := fun _ => fun
  | [d1, d2] => { results := [.lit (.bool false)], args := [d1, d2] }
  | _ => none }
def ThreadsTurnsWrongFalsely : Prop := threadsTurnsRow.holds Tryd.pinned (OpenSpec.ofChange threadsTurnsWrong)

/-- 'buttresslaw10.ThreadsWaits': WHATEVER THE INPUT: true; the input reads as it did. -/
def threadsWaitsSpec : ChangeSpec := { name := "threadsWaits", fn := fun _ => fun
  | [d1, d2] => { results := [.lit (.bool true)], args := [d1, d2] }
  | _ => none }
def threadsWaitsRow : OpenClaim := { program := "ytchamgecalfmpaadoor", sum := "ee5b833847ef3bc45663667158e7aed6138c85eba7df1b1c5748d18ad2195031", func := "buttress/buttresslaw10.ThreadsWaits", spec := "threadsWaits", unfollowed := true, recurses := true, named := ["buttress/words.halves"], apart := false, laid := [("buttress/words.halves", laid_buttress_words_halves)] }
def ThreadsWaitsSaid : Prop := threadsWaitsRow.holds Tryd.pinned (OpenSpec.ofChange threadsWaitsSpec)

/-- ITS FALSE NEIGHBOUR: 'it returns false'. Refute it at one input. -/
def threadsWaitsWrong : ChangeSpec := { name := "threadsWaits", fn := fun _ => fun
  | [d1, d2] => { results := [.lit (.bool false)], args := [d1, d2] }
  | _ => none }
def ThreadsWaitsWrongFalsely : Prop := threadsWaitsRow.holds Tryd.pinned (OpenSpec.ofChange threadsWaitsWrong)

/-- 'buttresslaw10.ThreadsGreater': WHATEVER THE INPUT: true; the input reads as it did. -/
def threadsGreaterSpec : ChangeSpec := { name := "threadsGreater", fn := fun _ => fun
  | [d1, d2] => { results := [.lit (.bool true)], args := [d1, d2] }
  | _ => none }
def threadsGreaterRow : OpenClaim := { program := "ytchamgecalfmpaadoor", sum := "ee5b833847ef3bc45663667158e7aed6138c85eba7df1b1c5748d18ad2195031", func := "buttress/buttresslaw10.ThreadsGreater", spec := "threadsGreater", unfollowed := true, recurses := true, named := ["buttress/words.halves"], apart := false, laid := [("buttress/words.halves", laid_buttress_words_halves)] }
def ThreadsGreaterSaid : Prop := threadsGreaterRow.holds Tryd.pinned (OpenSpec.ofChange threadsGreaterSpec)

/-- ITS FALSE NEIGHBOUR: 'it returns false'. Refute it at one input. -/
def threadsGreaterWrong : ChangeSpec := { name := "threadsGreater", fn := fun _ => fun
  | [d1, d2] => { results := [.lit (.bool false)], args := [d1, d2] }
  | _ => none }
def ThreadsGreaterWrongFalsely : Prop := threadsGreaterRow.holds Tryd.pinned (OpenSpec.ofChange threadsGreaterWrong)

/-- 'buttresslaw10.ThreadsMoves': WHATEVER THE INPUT: true; the input reads as it did. -/
def threadsMovesSpec : ChangeSpec := { name := "threadsMoves", fn := fun _ => fun
  | [d1, d2, d3] => { results := [.lit (.bool true)], args := [d1, d2, d3] }
  | _ => none }
def threadsMovesRow : OpenClaim := { program := "ytchamgecalfmpaadoor", sum := "ee5b833847ef3bc45663667158e7aed6138c85eba7df1b1c5748d18ad2195031", func := "buttress/buttresslaw10.ThreadsMoves", spec := "threadsMoves", unfollowed := true, recurses := true, named := ["buttress/words.halves"], apart := false, laid := [("buttress/words.halves", laid_buttress_words_halves)] }
def ThreadsMovesSaid : Prop := threadsMovesRow.holds Tryd.pinned (OpenSpec.ofChange threadsMovesSpec)

/-- ITS FALSE NEIGHBOUR: 'it returns false'. Refute it at one input. -/
def threadsMovesWrong : ChangeSpec := { name := "threadsMoves", fn := fun _ => fun
  | [d1, d2, d3] => { results := [.lit (.bool false)], args := [d1, d2, d3] }
  | _ => none }
def ThreadsMovesWrongFalsely : Prop := threadsMovesRow.holds Tryd.pinned (OpenSpec.ofChange threadsMovesWrong)

/- THE SECOND FORM. 'bulk': how many values and letters a reading holds, each counted each time it is reached (what is shared counts as often as it is met; a slice's spare places count too). A statement '..UptoSaid' is the law's where the arguments, and the package variables that the reading takes, are together of bulk at most 1048576: NARROWER than '..Said'. Prove '..Said' where nothing that the law and all that it calls make is longer than what came in: it says more and counts as full. Else prove '..UptoSaid'. A law counts once. -/
mutual
def uptoBulk {H : Type} : DataW H → Nat
  | .lit (.string bytes) => bytes.length + 1
  | .lit _ => 1
  | .nil => 1
  | .ptr d => uptoBulk d + 1
  | .slice elems spare => uptoBulkAll elems + uptoBulkAll spare + 1
  | .agg parts => uptoBulkAll parts + 1
  | .iface _ d => uptoBulk d + 1
  | .map entries => uptoBulkEntries entries + 1
  | .held _ => 1
def uptoBulkAll {H : Type} : List (DataW H) → Nat
  | [] => 0
  | d :: r => uptoBulk d + uptoBulkAll r
def uptoBulkEntries {H : Type} : List (Lit × DataW H) → Nat
  | [] => 0
  | x :: r => uptoBulkEntry x + uptoBulkEntries r
def uptoBulkEntry {H : Type} : Lit × DataW H → Nat
  | (.string bytes, d) => bytes.length + uptoBulk d + 1
  | (_, d) => uptoBulk d + 1
 end
def uptoSmall : (H : Type) → List (DataW H) → Bool := fun _ ds => decide (uptoBulkAll ds ≤ 1048576)
def OpenSpec.upto (s : _root_.Go.ChangeSpec) : _root_.Go.OpenSpec := { _root_.Go.OpenSpec.ofChange s with cond := some uptoSmall }

/-- 'buttresslaw10.ThreadsDoes', WHERE WHAT IT READS IS OF BULK AT MOST 1048576: true; the input reads as it did. -/
def threadsDoesUptoRow : OpenClaim := { program := "ytchamgecalfmpaadoor", sum := "ee5b833847ef3bc45663667158e7aed6138c85eba7df1b1c5748d18ad2195031", func := "buttress/buttresslaw10.ThreadsDoes", spec := "threadsDoes", unfollowed := true, recurses := true, named := ["buttress/words.halves"], apart := false, laid := [("buttress/words.halves", laid_buttress_words_halves)], narrowed := true }
def ThreadsDoesUptoSaid : Prop := threadsDoesUptoRow.holds Tryd.pinned (OpenSpec.upto threadsDoesSpec)

/-- 'buttresslaw10.ThreadsPick', WHERE WHAT IT READS IS OF BULK AT MOST 1048576: true; the input reads as it did. -/
def threadsPickUptoRow : OpenClaim := { program := "ytchamgecalfmpaadoor", sum := "ee5b833847ef3bc45663667158e7aed6138c85eba7df1b1c5748d18ad2195031", func := "buttress/buttresslaw10.ThreadsPick", spec := "threadsPick", unfollowed := true, recurses := true, named := ["buttress/words.halves"], apart := false, laid := [("buttress/words.halves", laid_buttress_words_halves)], narrowed := true }
def ThreadsPickUptoSaid : Prop := threadsPickUptoRow.holds Tryd.pinned (OpenSpec.upto threadsPickSpec)

/-- 'buttresslaw10.ThreadsTurns', WHERE WHAT IT READS IS OF BULK AT MOST 1048576: true; the input reads as it did. -/
def threadsTurnsUptoRow : OpenClaim := { program := "ytchamgecalfmpaadoor", sum := "ee5b833847ef3bc45663667158e7aed6138c85eba7df1b1c5748d18ad2195031", func := "buttress/buttresslaw10.ThreadsTurns", spec := "threadsTurns", unfollowed := true, recurses := true, named := ["buttress/words.halves"], apart := false, laid := [("buttress/words.halves", laid_buttress_words_halves)], narrowed := true }
def ThreadsTurnsUptoSaid : Prop := threadsTurnsUptoRow.holds Tryd.pinned (OpenSpec.upto threadsTurnsSpec)

/-- 'buttresslaw10.ThreadsWaits', WHERE WHAT IT READS IS OF BULK AT MOST 1048576: true; the input reads as it did. -/
def threadsWaitsUptoRow : OpenClaim := { program := "ytchamgecalfmpaadoor", sum := "ee5b833847ef3bc45663667158e7aed6138c85eba7df1b1c5748d18ad2195031", func := "buttress/buttresslaw10.ThreadsWaits", spec := "threadsWaits", unfollowed := true, recurses := true, named := ["buttress/words.halves"], apart := false, laid := [("buttress/words.halves", laid_buttress_words_halves)], narrowed := true }
def ThreadsWaitsUptoSaid : Prop := threadsWaitsUptoRow.holds Tryd.pinned (OpenSpec.upto threadsWaitsSpec)

/-- 'buttresslaw10.ThreadsGreater', WHERE WHAT IT READS IS OF BULK AT MOST 1048576: true; the input reads as it did. -/
def threadsGreaterUptoRow : OpenClaim := { program := "ytchamgecalfmpaadoor", sum := "ee5b833847ef3bc45663667158e7aed6138c85eba7df1b1c5748d18ad2195031", func := "buttress/buttresslaw10.ThreadsGreater", spec := "threadsGreater", unfollowed := true, recurses := true, named := ["buttress/words.halves"], apart := false, laid := [("buttress/words.halves", laid_buttress_words_halves)], narrowed := true }
def ThreadsGreaterUptoSaid : Prop := threadsGreaterUptoRow.holds Tryd.pinned (OpenSpec.upto threadsGreaterSpec)

/-- 'buttresslaw10.ThreadsMoves', WHERE WHAT IT READS IS OF BULK AT MOST 1048576: true; the input reads as it did. -/
def threadsMovesUptoRow : OpenClaim := { program := "ytchamgecalfmpaadoor", sum := "ee5b833847ef3bc45663667158e7aed6138c85eba7df1b1c5748d18ad2195031", func := "buttress/buttresslaw10.ThreadsMoves", spec := "threadsMoves", unfollowed := true, recurses := true, named := ["buttress/words.halves"], apart := false, laid := [("buttress/words.halves", laid_buttress_words_halves)], narrowed := true }
def ThreadsMovesUptoSaid : Prop := threadsMovesUptoRow.holds Tryd.pinned (OpenSpec.upto threadsMovesSpec)

end Rows
end Go.Proofs.YtchamgecalfmpaaDoor
