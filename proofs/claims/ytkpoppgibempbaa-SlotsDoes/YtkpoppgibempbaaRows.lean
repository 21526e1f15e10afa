/-
  No cell of these rows narrows 'for every input' (looked for: loops, veiled, ifaces, maps, wideKeys, modest, calm, conditions, laid).
  DERIVED. THE GIVEN ROWS OF THIS SEAT. 6 by the template 'for every input the law returns true; each argument reads behind the call as it read before'; 0 by the template 'total and deterministic' (their statements: YtkpoppgibempbaaTotals.lean).
  GIVEN WITH THE SEED: the statements are not yours to turn. If you find one false, say at which input.
  Laid BY PROGRAM, IN A SANDBOX (cutbox-rows.mjs): the forced cells as the released guide's own fill.sh prints them over the translation 4376a115f444095b… (all of the seat's roots in one cut). By AI agents, Wed Nov 11 2026. No macro, syntax, notation, axiom, sorry.
-/
import Derived.Test.YtkpoppgibempbaaChecked
import GoSem.Claim
import GoSem.ClaimJoined
import GoSem.ClaimMapViews
import Derived.JoinedTies
import Derived.KernelRfl
namespace Go.Proofs.Ytkpoppgibempbaa
/- THE CELL 'sum', in the pinned program and in every row, IS THE sha256 OF THE DUMP (.gsa) THAT YtkpoppgibempbaaProg.lean LOADS. Nothing in Lean hashes anything: it is a label: what it is worth is what the hold of that sum in a sandbox is worth. -/
noncomputable def Try.pinned : Pinned := { name := "ytkpoppgibempbaa", sum := "4376a115f444095b5e785db282eb0516c99cd6d47112d08a82b761ce5caafa88", checked := Try.checked }
namespace Rows
def none {H : Type} : Left H := { results := [], args := [] }

/-- 'buttresslaw05.SlotsDoes': WHATEVER THE INPUT: true; the input reads as it did. -/
def slotsDoesSpec : ChangeSpec := { name := "slotsDoes", fn := fun _ => fun
  | [d] => { results := [.lit (.bool true)], args := [d] }
  | _ => none }
def slotsDoesRow : OpenClaim := { program := "ytkpoppgibempbaa", sum := "4376a115f444095b5e785db282eb0516c99cd6d47112d08a82b761ce5caafa88", func := "buttress/buttresslaw05.SlotsDoes", spec := "slotsDoes", inPlace := ["maps.clone"], unfollowed := true, recurses := true, plainKeys := false, apart := false }
def SlotsDoesSaid : Prop := slotsDoesRow.holds Try.pinned (OpenSpec.ofChange slotsDoesSpec)

/-- ITS FALSE NEIGHBOUR: 'it returns false'. Refute it at one input. -/
def slotsDoesWrong : ChangeSpec := { name := "slotsDoes", fn := fun _ => fun
  | [d] => { results := [.lit (.bool false)], args := [d] }
  | _ => none }
def SlotsDoesWrongFalsely : Prop := slotsDoesRow.holds Try.pinned (OpenSpec.ofChange slotsDoesWrong)

/-- 'buttresslaw05.SlotsFull': WHATEVER THE INPUT: true; the input reads as it did. -/
def slotsFullSpec : ChangeSpec := { name := "slotsFull", fn := fun _ => fun
  | [d1, d2] => { results := [.lit (.bool true)], args := [d1, d2] }
  | _ => none }
def slotsFullRow : OpenClaim := { program := "ytkpoppgibempbaa", sum := "4376a115f444095b5e785db282eb0516c99cd6d47112d08a82b761ce5caafa88", func := "buttress/buttresslaw05.SlotsFull", spec := "slotsFull", plainKeys := false, apart := false }
def SlotsFullSaid : Prop := slotsFullRow.holds Try.pinned (OpenSpec.ofChange slotsFullSpec)

/-- ITS FALSE NEIGHBOUR: 'it returns false'. Refute it at one input. -/
def slotsFullWrong : ChangeSpec := { name := "slotsFull", fn := fun _ => fun
  | [d1, d2] => { results := [.lit (.bool false)], args := [d1, d2] }
  | _ => none }
def SlotsFullWrongFalsely : Prop := slotsFullRow.holds Try.pinned (OpenSpec.ofChange slotsFullWrong)

/-- 'buttresslaw05.SlotsKeeps': WHATEVER THE INPUT: true; the input reads as it did. -/
def slotsKeepsSpec : ChangeSpec := { name := "slotsKeeps", fn := fun _ => fun
  | [d] => { results := [.lit (.bool true)], args := [d] }
  | _ => none }
def slotsKeepsRow : OpenClaim := { program := "ytkpoppgibempbaa", sum := "4376a115f444095b5e785db282eb0516c99cd6d47112d08a82b761ce5caafa88", func := "buttress/buttresslaw05.SlotsKeeps", spec := "slotsKeeps", unfollowed := true, recurses := true, plainKeys := false, apart := false }
def SlotsKeepsSaid : Prop := slotsKeepsRow.holds Try.pinned (OpenSpec.ofChange slotsKeepsSpec)

/-- ITS FALSE NEIGHBOUR: 'it returns false'. Refute it at one input. -/
def slotsKeepsWrong : ChangeSpec := { name := "slotsKeeps", fn := fun _ => fun
  | [d] => { results := [.lit (.bool false)], args := [d] }
  | _ => none }
def SlotsKeepsWrongFalsely : Prop := slotsKeepsRow.holds Try.pinned (OpenSpec.ofChange slotsKeepsWrong)

/-- 'buttresslaw05.SlotsSwaps': WHATEVER THE INPUT: true; the input reads as it did. -/
def slotsSwapsSpec : ChangeSpec := { name := "slotsSwaps", fn := fun _ => fun
  | [d1, d2, d3] => { results := [.lit (.bool true)], args := [d1, d2, d3] }
  | _ => none }
def slotsSwapsRow : OpenClaim := { program := "ytkpoppgibempbaa", sum := "4376a115f444095b5e785db282eb0516c99cd6d47112d08a82b761ce5caafa88", func := "buttress/buttresslaw05.SlotsSwaps", spec := "slotsSwaps", unfollowed := true, recurses := true, plainKeys := false, apart := false }
def SlotsSwapsSaid : Prop := slotsSwapsRow.holds Try.pinned (OpenSpec.ofChange slotsSwapsSpec)

/-- ITS FALSE NEIGHBOUR: 'it returns false'. Refute it at one input. -/
def slotsSwapsWrong : ChangeSpec := { name := "slotsSwaps", fn := fun _ => fun
  | [d1, d2, d3] => { results := [.lit (.bool false)], args := [d1, d2, d3] }
  | _ => none }
def SlotsSwapsWrongFalsely : Prop := slotsSwapsRow.holds Try.pinned (OpenSpec.ofChange slotsSwapsWrong)

/-- 'buttresslaw05.SlotsMoves': WHATEVER THE INPUT: true; the input reads as it did. -/
def slotsMovesSpec : ChangeSpec := { name := "slotsMoves", fn := fun _ => fun
  | [d1, d2, d3] => { results := [.lit (.bool true)], args := [d1, d2, d3] }
  | _ => none }
def slotsMovesRow : OpenClaim := { program := "ytkpoppgibempbaa", sum := "4376a115f444095b5e785db282eb0516c99cd6d47112d08a82b761ce5caafa88", func := "buttress/buttresslaw05.SlotsMoves", spec := "slotsMoves", unfollowed := true, recurses := true, plainKeys := false, apart := false }
def SlotsMovesSaid : Prop := slotsMovesRow.holds Try.pinned (OpenSpec.ofChange slotsMovesSpec)

/-- ITS FALSE NEIGHBOUR: 'it returns false'. Refute it at one input. -/
def slotsMovesWrong : ChangeSpec := { name := "slotsMoves", fn := fun _ => fun
  | [d1, d2, d3] => { results := [.lit (.bool false)], args := [d1, d2, d3] }
  | _ => none }
def SlotsMovesWrongFalsely : Prop := slotsMovesRow.holds Try.pinned (OpenSpec.ofChange slotsMovesWrong)

/-- 'buttresslaw05.SlotsDrops': WHATEVER THE INPUT: true; the input reads as it did. -/
def slotsDropsSpec : ChangeSpec := { name := "slotsDrops", fn := fun _ => fun
  | [d1, d2] => { results := [.lit (.bool true)], args := [d1, d2] }
  | _ => none }
def slotsDropsRow : OpenClaim := { program := "ytkpoppgibempbaa", sum := "4376a115f444095b5e785db282eb0516c99cd6d47112d08a82b761ce5caafa88", func := "buttress/buttresslaw05.SlotsDrops", spec := "slotsDrops", unfollowed := true, recurses := true, plainKeys := false, apart := false }
def SlotsDropsSaid : Prop := slotsDropsRow.holds Try.pinned (OpenSpec.ofChange slotsDropsSpec)

/-- ITS FALSE NEIGHBOUR: 'it returns false'. Refute it at one input. -/
def slotsDropsWrong : ChangeSpec := { name := "slotsDrops", fn := fun _ => fun
  | [d1, d2] => { results := [.lit (.bool false)], args := [d1, d2] }
  | _ => none }
def SlotsDropsWrongFalsely : Prop := slotsDropsRow.holds Try.pinned (OpenSpec.ofChange slotsDropsWrong)

/- THE SECOND FORM. 'bulk': how many values and letters a reading holds, each counted each time it is reached (what is shared counts as often as it is met; a slice's spare places count too). A statement '..UptoSaid' is the law's where the arguments, and the package variables that the reading takes, are together of bulk at most 1048576: NARROWER than '..Said'. Prove '..Said' where nothing that the law and all that it calls make is longer than what came in: it says more and counts as full. Else prove '..UptoSaid'. A law counts once. -/
mutual
def uptoBulk {H : Type} : DataW H → Nat
  | .lit (.string bytes) => bytes.length + 1
  | .lit _ => 1
  | .nil => 1
  | .ptr d => uptoBulk d + 1
  | .slice elems spare => uptoBulkAll elems + uptoBulkAll spare + 1
  | .agg parts => uptoBulkAll parts + 1
  | .iface _ d => uptoBulk d + 1
  | .map entries => uptoBulkEntries entries + 1
  | .held _ => 1
def uptoBulkAll {H : Type} : List (DataW H) → Nat
  | [] => 0
  | d :: r => uptoBulk d + uptoBulkAll r
def uptoBulkEntries {H : Type} : List (Lit × DataW H) → Nat
  | [] => 0
  | x :: r => uptoBulkEntry x + uptoBulkEntries r
def uptoBulkEntry {H : Type} : Lit × DataW H → Nat
  | (.string bytes, d) => bytes.length + uptoBulk d + 1
  | (_, d) => uptoBulk d + 1
 end
def uptoSmall : (H : Type) → List (DataW H) → Bool := fun _ ds => decide (uptoBulkAll ds ≤ 1048576)
def OpenSpec.upto (s : _root_.Go.ChangeSpec) : _root_.Go.OpenSpec := { _root_.Go.OpenSpec.ofChange s with cond := some uptoSmall }

/-- 'buttresslaw05.SlotsDoes', WHERE WHAT IT READS IS OF BULK AT MOST 1048576: true; the input reads as it did. -/
def slotsDoesUptoRow : OpenClaim := { program := "ytkpoppgibempbaa", sum := "4376a115f444095b5e785db282eb0516c99cd6d47112d08a82b761ce5caafa88", func := "buttress/buttresslaw05.SlotsDoes", spec := "slotsDoes", inPlace := ["maps.clone"], unfollowed := true, recurses := true, plainKeys := false, apart := false, narrowed := true }
def SlotsDoesUptoSaid : Prop := slotsDoesUptoRow.holds Try.pinned (OpenSpec.upto slotsDoesSpec)

/-- 'buttresslaw05.SlotsFull', WHERE WHAT IT READS IS OF BULK AT MOST 1048576: true; the input reads as it did. -/
def slotsFullUptoRow : OpenClaim := { program := "ytkpoppgibempbaa", sum := "4376a115f444095b5e785db282eb0516c99cd6d47112d08a82b761ce5caafa88", func := "buttress/buttresslaw05.SlotsFull", spec := "slotsFull", plainKeys := false, apart := false, narrowed := true }
def SlotsFullUptoSaid : Prop := slotsFullUptoRow.holds Try.pinned (OpenSpec.upto slotsFullSpec)

/-- 'buttresslaw05.SlotsKeeps', WHERE WHAT IT READS IS OF BULK AT MOST 1048576: true; the input reads as it did. -/
def slotsKeepsUptoRow : OpenClaim := { program := "ytkpoppgibempbaa", sum := "4376a115f444095b5e785db282eb0516c99cd6d47112d08a82b761ce5caafa88", func := "buttress/buttresslaw05.SlotsKeeps", spec := "slotsKeeps", unfollowed := true, recurses := true, plainKeys := false, apart := false, narrowed := true }
def SlotsKeepsUptoSaid : Prop := slotsKeepsUptoRow.holds Try.pinned (OpenSpec.upto slotsKeepsSpec)

/-- 'buttresslaw05.SlotsSwaps', WHERE WHAT IT READS IS OF BULK AT MOST 1048576: true; the input reads as it did. -/
def slotsSwapsUptoRow : OpenClaim := { program := "ytkpoppgibempbaa", sum := "4376a115f444095b5e785db282eb0516c99cd6d47112d08a82b761ce5caafa88", func := "buttress/buttresslaw05.SlotsSwaps", spec := "slotsSwaps", unfollowed := true, recurses := true, plainKeys := false, apart := false, narrowed := true }
def SlotsSwapsUptoSaid : Prop := slotsSwapsUptoRow.holds Try.pinned (OpenSpec.upto slotsSwapsSpec)

/-- 'buttresslaw05.SlotsMoves', WHERE WHAT IT READS IS OF BULK AT MOST 1048576: true; the input reads as it did. -/
def slotsMovesUptoRow : OpenClaim := { program := "ytkpoppgibempbaa", sum := "4376a115f444095b5e785db282eb0516c99cd6d47112d08a82b761ce5caafa88", func := "buttress/buttresslaw05.SlotsMoves", spec := "slotsMoves", unfollowed := true, recurses := true, plainKeys := false, apart := false, narrowed := true }
def SlotsMovesUptoSaid : Prop := slotsMovesUptoRow.holds Try.pinned (OpenSpec.upto slotsMovesSpec)

/-- 'buttresslaw05.SlotsDrops', WHERE WHAT IT READS IS OF BULK AT MOST 1048576: true; the input reads as it did. -/
def slotsDropsUptoRow : OpenClaim := { program := "ytkpoppgibempbaa", sum := "4376a115f444095b5e785db282eb0516c99cd6d47112d08a82b761ce5caafa88", func := "buttress/buttresslaw05.SlotsDrops", spec := "slotsDrops", unfollowed := true, recurses := true, plainKeys := false, apart := false, narrowed := true }
def SlotsDropsUptoSaid : Prop := slotsDropsUptoRow.holds Try.pinned (OpenSpec.upto slotsDropsSpec)

end Rows
end Go.Proofs.Ytkpoppgibempbaa
