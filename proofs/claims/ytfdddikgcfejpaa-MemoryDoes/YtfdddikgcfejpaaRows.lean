/-
  No cell of these rows narrows 'for every input' (looked for: loops, veiled, ifaces, maps, wideKeys, modest, calm, conditions, laid).
  DERIVED. THE GIVEN ROWS OF THIS SEAT. 6 by the template 'for every input the law returns true; each argument reads behind the call as it read before'; 0 by the template 'total and deterministic' (their statements: YtfdddikgcfejpaaTotals.lean).
  GIVEN WITH THE SEED: the statements are not yours to turn. If you find one false, say at which input.
  Laid BY PROGRAM, IN A SANDBOX (cutbox-rows.mjs): the forced cells as the released guide's own fill.sh prints them over the translation 75ffd7f93e8776f6… (all of the seat's roots in one cut). By AI agents, Wed Nov 11 2026. No macro, syntax, notation, axiom, sorry.
-/
import Derived.Test.YtfdddikgcfejpaaChecked
import GoSem.Claim
import GoSem.ClaimJoined
import GoSem.ClaimMapViews
import Derived.JoinedTies
import Derived.KernelRfl
namespace Go.Proofs.Ytfdddikgcfejpaa
/- THE CELL 'sum', in the pinned program and in every row, IS THE sha256 OF THE DUMP (.gsa) THAT YtfdddikgcfejpaaProg.lean LOADS. Nothing in Lean hashes anything: it is a label: what it is worth is what the hold of that sum in a sandbox is worth. -/
noncomputable def Try.pinned : Pinned := { name := "ytfdddikgcfejpaa", sum := "75ffd7f93e8776f6837a37ee3abbb38cceb04c94d19579ee45f46deae3ebc4da", checked := Try.checked }
namespace Rows
def none {H : Type} : Left H := { results := [], args := [] }

/-- 'buttresslaw02.MemoryDoes': WHATEVER THE INPUT: true; the input reads as it did. -/
def memoryDoesSpec : ChangeSpec := { name := "memoryDoes", fn := fun _ => fun
  | [d1, d2] => { results := [.lit (.bool true)], args := [d1, d2] }
  | _ => none }
def memoryDoesRow : OpenClaim := { program := "ytfdddikgcfejpaa", sum := "75ffd7f93e8776f6837a37ee3abbb38cceb04c94d19579ee45f46deae3ebc4da", func := "buttress/buttresslaw02.MemoryDoes", spec := "memoryDoes", apart := false }
def MemoryDoesSaid : Prop := memoryDoesRow.holds Try.pinned (OpenSpec.ofChange memoryDoesSpec)

/-- ITS FALSE NEIGHBOUR: 'it returns false'. Refute it at one input. -/
def memoryDoesWrong : ChangeSpec := { name := "memoryDoes", fn := fun _ => fun
  | [d1, d2] => { results := [.lit (.bool false)], args := [d1, d2] }
  | _ => none }
def MemoryDoesWrongFalsely : Prop := memoryDoesRow.holds Try.pinned (OpenSpec.ofChange memoryDoesWrong)

/-- 'buttresslaw02.MemoryNews': WHATEVER THE INPUT: true; the input reads as it did. -/
def memoryNewsSpec : ChangeSpec := { name := "memoryNews", fn := fun _ => fun
  | [d] => { results := [.lit (.bool true)], args := [d] }
  | _ => none }
def memoryNewsRow : OpenClaim := { program := "ytfdddikgcfejpaa", sum := "75ffd7f93e8776f6837a37ee3abbb38cceb04c94d19579ee45f46deae3ebc4da", func := "buttress/buttresslaw02.MemoryNews", spec := "memoryNews", apart := false }
def MemoryNewsSaid : Prop := memoryNewsRow.holds Try.pinned (OpenSpec.ofChange memoryNewsSpec)

/-- ITS FALSE NEIGHBOUR: 'it returns false'. Refute it at one input. -/
def memoryNewsWrong : ChangeSpec := { name := "memoryNews", fn := fun _ => fun
  | [d] => { results := [.lit (.bool false)], args := [d] }
  | _ => none }
def MemoryNewsWrongFalsely : Prop := memoryNewsRow.holds Try.pinned (OpenSpec.ofChange memoryNewsWrong)

/-- 'buttresslaw02.MemoryKeeps': WHATEVER THE INPUT: true; the input reads as it did. -/
def memoryKeepsSpec : ChangeSpec := { name := "memoryKeeps", fn := fun _ => fun
  | [d1, d2] => { results := [.lit (.bool true)], args := [d1, d2] }
  | _ => none }
def memoryKeepsRow : OpenClaim := { program := "ytfdddikgcfejpaa", sum := "75ffd7f93e8776f6837a37ee3abbb38cceb04c94d19579ee45f46deae3ebc4da", func := "buttress/buttresslaw02.MemoryKeeps", spec := "memoryKeeps", apart := false }
def MemoryKeepsSaid : Prop := memoryKeepsRow.holds Try.pinned (OpenSpec.ofChange memoryKeepsSpec)

/-- ITS FALSE NEIGHBOUR: 'it returns false'. Refute it at one input. -/
def memoryKeepsWrong : ChangeSpec := { name := "memoryKeeps", fn := fun _ => fun
  | [d1, d2] => { results := [.lit (.bool false)], args := [d1, d2] }
  | _ => none }
def MemoryKeepsWrongFalsely : Prop := memoryKeepsRow.holds Try.pinned (OpenSpec.ofChange memoryKeepsWrong)

/-- 'buttresslaw02.MemoryFills': WHATEVER THE INPUT: true; the input reads as it did. -/
def memoryFillsSpec : ChangeSpec := { name := "memoryFills", fn := fun _ => fun
  | [d1, d2] => { results := [.lit (.bool true)], args := [d1, d2] }
  | _ => none }
def memoryFillsRow : OpenClaim := { program := "ytfdddikgcfejpaa", sum := "75ffd7f93e8776f6837a37ee3abbb38cceb04c94d19579ee45f46deae3ebc4da", func := "buttress/buttresslaw02.MemoryFills", spec := "memoryFills", apart := false }
def MemoryFillsSaid : Prop := memoryFillsRow.holds Try.pinned (OpenSpec.ofChange memoryFillsSpec)

/-- ITS FALSE NEIGHBOUR: 'it returns false'. Refute it at one input. -/
def memoryFillsWrong : ChangeSpec := { name := "memoryFills", fn := fun _ => fun
  | [d1, d2] => { results := [.lit (.bool false)], args := [d1, d2] }
  | _ => none }
def MemoryFillsWrongFalsely : Prop := memoryFillsRow.holds Try.pinned (OpenSpec.ofChange memoryFillsWrong)

/-- 'buttresslaw02.MemoryParts': WHATEVER THE INPUT: true; the input reads as it did. -/
def memoryPartsSpec : ChangeSpec := { name := "memoryParts", fn := fun _ => fun
  | [d1, d2] => { results := [.lit (.bool true)], args := [d1, d2] }
  | _ => none }
def memoryPartsRow : OpenClaim := { program := "ytfdddikgcfejpaa", sum := "75ffd7f93e8776f6837a37ee3abbb38cceb04c94d19579ee45f46deae3ebc4da", func := "buttress/buttresslaw02.MemoryParts", spec := "memoryParts", apart := false }
def MemoryPartsSaid : Prop := memoryPartsRow.holds Try.pinned (OpenSpec.ofChange memoryPartsSpec)

/-- ITS FALSE NEIGHBOUR: 'it returns false'. Refute it at one input. -/
def memoryPartsWrong : ChangeSpec := { name := "memoryParts", fn := fun _ => fun
  | [d1, d2] => { results := [.lit (.bool false)], args := [d1, d2] }
  | _ => none }
def MemoryPartsWrongFalsely : Prop := memoryPartsRow.holds Try.pinned (OpenSpec.ofChange memoryPartsWrong)

/-- 'buttresslaw02.MemoryMoves': WHATEVER THE INPUT: true; the input reads as it did. -/
def memoryMovesSpec : ChangeSpec := { name := "memoryMoves", fn := fun _ => fun
  | [d1, d2, d3] => { results := [.lit (.bool true)], args := [d1, d2, d3] }
  | _ => none }
def memoryMovesRow : OpenClaim := { program := "ytfdddikgcfejpaa", sum := "75ffd7f93e8776f6837a37ee3abbb38cceb04c94d19579ee45f46deae3ebc4da", func := "buttress/buttresslaw02.MemoryMoves", spec := "memoryMoves", apart := false }
def MemoryMovesSaid : Prop := memoryMovesRow.holds Try.pinned (OpenSpec.ofChange memoryMovesSpec)

/-- ITS FALSE NEIGHBOUR: 'it returns false'. Refute it at one input. -/
def memoryMovesWrong : ChangeSpec := { name := "memoryMoves", fn := fun _ => fun
  | [d1, d2, d3] => { results := [.lit (.bool false)], args := [d1, d2, d3] }
  | _ => none }
def MemoryMovesWrongFalsely : Prop := memoryMovesRow.holds Try.pinned (OpenSpec.ofChange memoryMovesWrong)

/- THE SECOND FORM. 'bulk': how many values and letters a reading holds, each counted each time it is reached (what is shared counts as often as it is met; a slice's spare places count too). A statement '..UptoSaid' is the law's where the arguments, and the package variables that the reading takes, are together of bulk at most 1048576: NARROWER than '..Said'. Prove '..Said' where nothing that the law and all that it calls make is longer than what came in: it says more and counts as full. Else prove '..UptoSaid'. A law counts once. -/
mutual
def uptoBulk {H : Type} : DataW H → Nat
  | .lit (.string bytes) => bytes.length + 1
  | .lit _ => 1
  | .nil => 1
  | .ptr d => uptoBulk d + 1
  | .slice elems spare => uptoBulkAll elems + uptoBulkAll spare + 1
  | .agg parts => uptoBulkAll parts + 1
  | .iface _ d => uptoBulk d + 1
  | .map entries => uptoBulkEntries entries + 1
  | .held _ => 1
def uptoBulkAll {H : Type} : List (DataW H) → Nat
  | [] => 0
  | d :: r => uptoBulk d + uptoBulkAll r
def uptoBulkEntries {H : Type} : List (Lit × DataW H) → Nat
  | [] => 0
  | x :: r => uptoBulkEntry x + uptoBulkEntries r
def uptoBulkEntry {H : Type} : Lit × DataW H → Nat
  | (.string bytes, d) => bytes.length + uptoBulk d + 1
  | (_, d) => uptoBulk d + 1
 end
def uptoSmall : (H : Type) → List (DataW H) → Bool := fun _ ds => decide (uptoBulkAll ds ≤ 1048576)
def OpenSpec.upto (s : _root_.Go.ChangeSpec) : _root_.Go.OpenSpec := { _root_.Go.OpenSpec.ofChange s with cond := some uptoSmall }

/-- 'buttresslaw02.MemoryDoes', WHERE WHAT IT READS IS OF BULK AT MOST 1048576: true; the input reads as it did. -/
def memoryDoesUptoRow : OpenClaim := { program := "ytfdddikgcfejpaa", sum := "75ffd7f93e8776f6837a37ee3abbb38cceb04c94d19579ee45f46deae3ebc4da", func := "buttress/buttresslaw02.MemoryDoes", spec := "memoryDoes", apart := false, narrowed := true }
def MemoryDoesUptoSaid : Prop := memoryDoesUptoRow.holds Try.pinned (OpenSpec.upto memoryDoesSpec)

/-- 'buttresslaw02.MemoryNews', WHERE WHAT IT READS IS OF BULK AT MOST 1048576: true; the input reads as it did. -/
def memoryNewsUptoRow : OpenClaim := { program := "ytfdddikgcfejpaa", sum := "75ffd7f93e8776f6837a37ee3abbb38cceb04c94d19579ee45f46deae3ebc4da", func := "buttress/buttresslaw02.MemoryNews", spec := "memoryNews", apart := false, narrowed := true }
def MemoryNewsUptoSaid : Prop := memoryNewsUptoRow.holds Try.pinned (OpenSpec.upto memoryNewsSpec)

/-- 'buttresslaw02.MemoryKeeps', WHERE WHAT IT READS IS OF BULK AT MOST 1048576: true; the input reads as it did. -/
def memoryKeepsUptoRow : OpenClaim := { program := "ytfdddikgcfejpaa", sum := "75ffd7f93e8776f6837a37ee3abbb38cceb04c94d19579ee45f46deae3ebc4da", func := "buttress/buttresslaw02.MemoryKeeps", spec := "memoryKeeps", apart := false, narrowed := true }
def MemoryKeepsUptoSaid : Prop := memoryKeepsUptoRow.holds Try.pinned (OpenSpec.upto memoryKeepsSpec)

/-- 'buttresslaw02.MemoryFills', WHERE WHAT IT READS IS OF BULK AT MOST 1048576: true; the input reads as it did. -/
def memoryFillsUptoRow : OpenClaim := { program := "ytfdddikgcfejpaa", sum := "75ffd7f93e8776f6837a37ee3abbb38cceb04c94d19579ee45f46deae3ebc4da", func := "buttress/buttresslaw02.MemoryFills", spec := "memoryFills", apart := false, narrowed := true }
def MemoryFillsUptoSaid : Prop := memoryFillsUptoRow.holds Try.pinned (OpenSpec.upto memoryFillsSpec)

/-- 'buttresslaw02.MemoryParts', WHERE WHAT IT READS IS OF BULK AT MOST 1048576: true; the input reads as it did. -/
def memoryPartsUptoRow : OpenClaim := { program := "ytfdddikgcfejpaa", sum := "75ffd7f93e8776f6837a37ee3abbb38cceb04c94d19579ee45f46deae3ebc4da", func := "buttress/buttresslaw02.MemoryParts", spec := "memoryParts", apart := false, narrowed := true }
def MemoryPartsUptoSaid : Prop := memoryPartsUptoRow.holds Try.pinned (OpenSpec.upto memoryPartsSpec)

/-- 'buttresslaw02.MemoryMoves', WHERE WHAT IT READS IS OF BULK AT MOST 1048576: true; the input reads as it did. -/
def memoryMovesUptoRow : OpenClaim := { program := "ytfdddikgcfejpaa", sum := "75ffd7f93e8776f6837a37ee3abbb38cceb04c94d19579ee45f46deae3ebc4da", func := "buttress/buttresslaw02.MemoryMoves", spec := "memoryMoves", apart := false, narrowed := true }
def MemoryMovesUptoSaid : Prop := memoryMovesUptoRow.holds Try.pinned (OpenSpec.upto memoryMovesSpec)

end Rows
end Go.Proofs.Ytfdddikgcfejpaa
