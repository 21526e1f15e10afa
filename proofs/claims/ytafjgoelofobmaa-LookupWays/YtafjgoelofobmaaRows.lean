/-
  No cell of these rows narrows 'for every input' (looked for: loops, veiled, ifaces, maps, wideKeys, modest, calm, conditions, laid).
  DERIVED. THE GIVEN ROWS OF THIS SEAT. 6 by the template 'for every input the law returns true; each argument reads behind the call as it read before'; 0 by the template 'total and deterministic' (their statements: YtafjgoelofobmaaTotals.lean).
  GIVEN WITH THE SEED: the statements are not yours to turn. If you find one false, say at which input.
  Laid BY PROGRAM, IN A SANDBOX (cutbox-rows.mjs): the forced cells as the released guide's own fill.sh prints them over the translation 018265281a7a7699… (all of the seat's roots in one cut). By AI agents, Wed Nov 11 2026. No macro, syntax, notation, axiom, sorry.
-/
import Derived.Test.YtafjgoelofobmaaChecked
import GoSem.Claim
import GoSem.ClaimJoined
import GoSem.ClaimMapViews
import Derived.JoinedTies
import Derived.KernelRfl
namespace Go.Proofs.Ytafjgoelofobmaa
/- THE CELL 'sum', in the pinned program and in every row, IS THE sha256 OF THE DUMP (.gsa) THAT YtafjgoelofobmaaProg.lean LOADS. Nothing in Lean hashes anything: it is a label: what it is worth is what the hold of that sum in a sandbox is worth. -/
noncomputable def Try.pinned : Pinned := { name := "ytafjgoelofobmaa", sum := "018265281a7a7699925f78f5066a1ecf9a9443207e6d54134e10a700e490659b", checked := Try.checked }
namespace Rows
def none {H : Type} : Left H := { results := [], args := [] }

/-- 'buttresslaw06.LookupSlots': WHATEVER THE INPUT: true; the input reads as it did. -/
def lookupSlotsSpec : ChangeSpec := { name := "lookupSlots", fn := fun _ => fun
  | [d1, d2] => { results := [.lit (.bool true)], args := [d1, d2] }
  | _ => none }
def lookupSlotsRow : OpenClaim := { program := "ytafjgoelofobmaa", sum := "018265281a7a7699925f78f5066a1ecf9a9443207e6d54134e10a700e490659b", func := "buttress/buttresslaw06.LookupSlots", spec := "lookupSlots", unfollowed := true, recurses := true, plainKeys := false, apart := false }
def LookupSlotsSaid : Prop := lookupSlotsRow.holds Try.pinned (OpenSpec.ofChange lookupSlotsSpec)

/-- ITS FALSE NEIGHBOUR: 'it returns false'. Refute it at one input. -/
def lookupSlotsWrong : ChangeSpec := { name := "lookupSlots", fn := fun _ => fun
  | [d1, d2] => { results := [.lit (.bool false)], args := [d1, d2] }
  | _ => none }
def LookupSlotsWrongFalsely : Prop := lookupSlotsRow.holds Try.pinned (OpenSpec.ofChange lookupSlotsWrong)

/-- 'buttresslaw06.LookupWays': WHATEVER THE INPUT: true; the input reads as it did. -/
def lookupWaysSpec : ChangeSpec := { name := "lookupWays", fn := fun _ => fun
  | [d1, d2, d3] => { results := [.lit (.bool true)], args := [d1, d2, d3] }
  | _ => none }
def lookupWaysRow : OpenClaim := { program := "ytafjgoelofobmaa", sum := "018265281a7a7699925f78f5066a1ecf9a9443207e6d54134e10a700e490659b", func := "buttress/buttresslaw06.LookupWays", spec := "lookupWays", unfollowed := true, recurses := true, plainKeys := false, apart := false }
def LookupWaysSaid : Prop := lookupWaysRow.holds Try.pinned (OpenSpec.ofChange lookupWaysSpec)

/-- ITS FALSE NEIGHBOUR: 'it returns false'. Refute it at one input. -/
def lookupWaysWrong : ChangeSpec := { name := "lookupWays", fn := fun _ => fun
  | [d1, d2, d3] => { results := [.lit (.bool false)], args := [d1, d2, d3] }
  | _ => none }
def LookupWaysWrongFalsely : Prop := lookupWaysRow.holds Try.pinned (OpenSpec.ofChange lookupWaysWrong)

/-- 'buttresslaw06.LookupOnly': WHATEVER THE INPUT: true; the input reads as it did. -/
def lookupOnlySpec : ChangeSpec := { name := "lookupOnly", fn := fun _ => fun
  | [d1, d2] => { results := [.lit (.bool true)], args := [d1, d2] }
  | _ => none }
def lookupOnlyRow : OpenClaim := { program := "ytafjgoelofobmaa", sum := "018265281a7a7699925f78f5066a1ecf9a9443207e6d54134e10a700e490659b", func := "buttress/buttresslaw06.LookupOnly", spec := "lookupOnly", unfollowed := true, recurses := true, plainKeys := false, apart := false }
def LookupOnlySaid : Prop := lookupOnlyRow.holds Try.pinned (OpenSpec.ofChange lookupOnlySpec)

/-- ITS FALSE NEIGHBOUR: 'it returns false'. Refute it at one input. -/
def lookupOnlyWrong : ChangeSpec := { name := "lookupOnly", fn := fun _ => fun
  | [d1, d2] => { results := [.lit (.bool false)], args := [d1, d2] }
  | _ => none }
def LookupOnlyWrongFalsely : Prop := lookupOnlyRow.holds Try.pinned (OpenSpec.ofChange lookupOnlyWrong)

/-- 'buttresslaw06.LookupSame': WHATEVER THE INPUT: true; the input reads as it did. -/
def lookupSameSpec : ChangeSpec := { name := "lookupSame", fn := fun _ => fun
  | [d1, d2, d3] => { results := [.lit (.bool true)], args := [d1, d2, d3] }
  | _ => none }
def lookupSameRow : OpenClaim := { program := "ytafjgoelofobmaa", sum := "018265281a7a7699925f78f5066a1ecf9a9443207e6d54134e10a700e490659b", func := "buttress/buttresslaw06.LookupSame", spec := "lookupSame", unfollowed := true, recurses := true, plainKeys := false, apart := false }
def LookupSameSaid : Prop := lookupSameRow.holds Try.pinned (OpenSpec.ofChange lookupSameSpec)

/-- ITS FALSE NEIGHBOUR: 'it returns false'. Refute it at one input. -/
def lookupSameWrong : ChangeSpec := { name := "lookupSame", fn := fun _ => fun
  | [d1, d2, d3] => { results := [.lit (.bool false)], args := [d1, d2, d3] }
  | _ => none }
def LookupSameWrongFalsely : Prop := lookupSameRow.holds Try.pinned (OpenSpec.ofChange lookupSameWrong)

/-- 'buttresslaw06.LookupHigh': WHATEVER THE INPUT: true; the input reads as it did. -/
def lookupHighSpec : ChangeSpec := { name := "lookupHigh", fn := fun _ => fun
  | [d1, d2, d3] => { results := [.lit (.bool true)], args := [d1, d2, d3] }
  | _ => none }
def lookupHighRow : OpenClaim := { program := "ytafjgoelofobmaa", sum := "018265281a7a7699925f78f5066a1ecf9a9443207e6d54134e10a700e490659b", func := "buttress/buttresslaw06.LookupHigh", spec := "lookupHigh", unfollowed := true, recurses := true, plainKeys := false, apart := false }
def LookupHighSaid : Prop := lookupHighRow.holds Try.pinned (OpenSpec.ofChange lookupHighSpec)

/-- ITS FALSE NEIGHBOUR: 'it returns false'. Refute it at one input. -/
def lookupHighWrong : ChangeSpec := { name := "lookupHigh", fn := fun _ => fun
  | [d1, d2, d3] => { results := [.lit (.bool false)], args := [d1, d2, d3] }
  | _ => none }
def LookupHighWrongFalsely : Prop := lookupHighRow.holds Try.pinned (OpenSpec.ofChange lookupHighWrong)

/-- 'buttresslaw06.LookupFree': WHATEVER THE INPUT: true; the input reads as it did. -/
def lookupFreeSpec : ChangeSpec := { name := "lookupFree", fn := fun _ => fun
  | [d1, d2, d3] => { results := [.lit (.bool true)], args := [d1, d2, d3] }
  | _ => none }
def lookupFreeRow : OpenClaim := { program := "ytafjgoelofobmaa", sum := "018265281a7a7699925f78f5066a1ecf9a9443207e6d54134e10a700e490659b", func := "buttress/buttresslaw06.LookupFree", spec := "lookupFree", unfollowed := true, recurses := true, plainKeys := false, apart := false }
def LookupFreeSaid : Prop := lookupFreeRow.holds Try.pinned (OpenSpec.ofChange lookupFreeSpec)

/-- ITS FALSE NEIGHBOUR: 'it returns false'. Refute it at one input. -/
def lookupFreeWrong : ChangeSpec := { name := "lookupFree", fn := fun _ => fun
  | [d1, d2, d3] => { results := [.lit (.bool false)], args := [d1, d2, d3] }
  | _ => none }
def LookupFreeWrongFalsely : Prop := lookupFreeRow.holds Try.pinned (OpenSpec.ofChange lookupFreeWrong)

/- THE SECOND FORM. 'bulk': how many values and letters a reading holds, each counted each time it is reached (what is shared counts as often as it is met; a slice's spare places count too). A statement '..UptoSaid' is the law's where the arguments, and the package variables that the reading takes, are together of bulk at most 1048576: NARROWER than '..Said'. Prove '..Said' where nothing that the law and all that it calls make is longer than what came in: it says more and counts as full. Else prove '..UptoSaid'. A law counts once. -/
mutual
def uptoBulk {H : Type} : DataW H → Nat
  | .lit (.string bytes) => bytes.length + 1
  | .lit _ => 1
  | .nil => 1
  | .ptr d => uptoBulk d + 1
  | .slice elems spare => uptoBulkAll elems + uptoBulkAll spare + 1
  | .agg parts => uptoBulkAll parts + 1
  | .iface _ d => uptoBulk d + 1
  | .map entries => uptoBulkEntries entries + 1
  | .held _ => 1
def uptoBulkAll {H : Type} : List (DataW H) → Nat
  | [] => 0
  | d :: r => uptoBulk d + uptoBulkAll r
def uptoBulkEntries {H : Type} : List (Lit × DataW H) → Nat
  | [] => 0
  | x :: r => uptoBulkEntry x + uptoBulkEntries r
def uptoBulkEntry {H : Type} : Lit × DataW H → Nat
  | (.string bytes, d) => bytes.length + uptoBulk d + 1
  | (_, d) => uptoBulk d + 1
 end
def uptoSmall : (H : Type) → List (DataW H) → Bool := fun _ ds => decide (uptoBulkAll ds ≤ 1048576)
def OpenSpec.upto (s : _root_.Go.ChangeSpec) : _root_.Go.OpenSpec := { _root_.Go.OpenSpec.ofChange s with cond := some uptoSmall }

/-- 'buttresslaw06.LookupSlots', WHERE WHAT IT READS IS OF BULK AT MOST 1048576: true; the input reads as it did. -/
def lookupSlotsUptoRow : OpenClaim := { program := "ytafjgoelofobmaa", sum := "018265281a7a7699925f78f5066a1ecf9a9443207e6d54134e10a700e490659b", func := "buttress/buttresslaw06.LookupSlots", spec := "lookupSlots", unfollowed := true, recurses := true, plainKeys := false, apart := false, narrowed := true }
def LookupSlotsUptoSaid : Prop := lookupSlotsUptoRow.holds Try.pinned (OpenSpec.upto lookupSlotsSpec)

/-- 'buttresslaw06.LookupWays', WHERE WHAT IT READS IS OF BULK AT MOST 1048576: true; the input reads as it did. -/
def lookupWaysUptoRow : OpenClaim := { program := "ytafjgoelofobmaa", sum := "018265281a7a7699925f78f5066a1ecf9a9443207e6d54134e10a700e490659b", func := "buttress/buttresslaw06.LookupWays", spec := "lookupWays", unfollowed := true, recurses := true, plainKeys := false, apart := false, narrowed := true }
def LookupWaysUptoSaid : Prop := lookupWaysUptoRow.holds Try.pinned (OpenSpec.upto lookupWaysSpec)

/-- 'buttresslaw06.LookupOnly', WHERE WHAT IT READS IS OF BULK AT MOST 1048576: true; the input reads as it did. -/
def lookupOnlyUptoRow : OpenClaim := { program := "ytafjgoelofobmaa", sum := "018265281a7a7699925f78f5066a1ecf9a9443207e6d54134e10a700e490659b", func := "buttress/buttresslaw06.LookupOnly", spec := "lookupOnly", unfollowed := true, recurses := true, plainKeys := false, apart := false, narrowed := true }
def LookupOnlyUptoSaid : Prop := lookupOnlyUptoRow.holds Try.pinned (OpenSpec.upto lookupOnlySpec)

/-- 'buttresslaw06.LookupSame', WHERE WHAT IT READS IS OF BULK AT MOST 1048576: true; the input reads as it did. -/
def lookupSameUptoRow : OpenClaim := { program := "ytafjgoelofobmaa", sum := "018265281a7a7699925f78f5066a1ecf9a9443207e6d54134e10a700e490659b", func := "buttress/buttresslaw06.LookupSame", spec := "lookupSame", unfollowed := true, recurses := true, plainKeys := false, apart := false, narrowed := true }
def LookupSameUptoSaid : Prop := lookupSameUptoRow.holds Try.pinned (OpenSpec.upto lookupSameSpec)

/-- 'buttresslaw06.LookupHigh', WHERE WHAT IT READS IS OF BULK AT MOST 1048576: true; the input reads as it did. -/
def lookupHighUptoRow : OpenClaim := { program := "ytafjgoelofobmaa", sum := "018265281a7a7699925f78f5066a1ecf9a9443207e6d54134e10a700e490659b", func := "buttress/buttresslaw06.LookupHigh", spec := "lookupHigh", unfollowed := true, recurses := true, plainKeys := false, apart := false, narrowed := true }
def LookupHighUptoSaid : Prop := lookupHighUptoRow.holds Try.pinned (OpenSpec.upto lookupHighSpec)

/-- 'buttresslaw06.LookupFree', WHERE WHAT IT READS IS OF BULK AT MOST 1048576: true; the input reads as it did. -/
def lookupFreeUptoRow : OpenClaim := { program := "ytafjgoelofobmaa", sum := "018265281a7a7699925f78f5066a1ecf9a9443207e6d54134e10a700e490659b", func := "buttress/buttresslaw06.LookupFree", spec := "lookupFree", unfollowed := true, recurses := true, plainKeys := false, apart := false, narrowed := true }
def LookupFreeUptoSaid : Prop := lookupFreeUptoRow.holds Try.pinned (OpenSpec.upto lookupFreeSpec)

end Rows
end Go.Proofs.Ytafjgoelofobmaa
