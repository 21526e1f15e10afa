/-
  NARROWER THAN 'FOR EVERY INPUT', by the rows' own cells (each row's printed sentence says how): KernelSends: laid · KernelPages: laid · KernelIrqs: laid · KernelYields: laid · KernelMints: laid.
  DERIVED. THE GIVEN ROWS OF THIS SEAT. 5 by the template 'for every input the law returns true; each argument reads behind the call as it read before'; 0 by the template 'total and deterministic' (their statements: YtilnjnblpeeigaaGreatDoorTotals.lean).
  GIVEN WITH THE SEED: the statements are not yours to turn. If you find one false, say at which input.
  Laid BY PROGRAM, IN A SANDBOX (cutbox-rows.mjs): the forced cells as the released guide's own fill.sh prints them over the translation 135ab22051644801… (all of the seat's roots in one cut). By AI agents, Wed Nov 11 2026. No macro, syntax, notation, axiom, sorry.
-/
import Derived.Test.YtilnjnblpeeigaaGreatDoorChecked
import GoSem.Claim
import GoSem.ClaimJoined
import GoSem.ClaimMapViews
import Derived.JoinedTies
import Derived.KernelRfl
namespace Go.Proofs.YtilnjnblpeeigaaGreatDoor
/- THE CELL 'sum', in the pinned program and in every row, IS THE sha256 OF THE DUMP (.gsa) THAT YtilnjnblpeeigaaGreatDoorProg.lean LOADS. Nothing in Lean hashes anything: it is a label: what it is worth is what the hold of that sum in a sandbox is worth. -/
noncomputable def Tryz.pinned : Pinned := { name := "ytilnjnblpeeigaagreatdoor", sum := "135ab22051644801a0bd0492daa45d72e12f520713d9e6536287a49bd98b2644", checked := Tryz.checked }
namespace Rows
def none {H : Type} : Left H := { results := [], args := [] }

/- WHAT THE LISTED PACKAGE-LEVEL VARIABLES READ AS WHEN THE CALL BEGINS. Each datum BY PROGRAM (the guide's laid-datum.mjs) off the statement by which the dump's own 'gosem.cut.vars' lays the variable. In a bare row this is a premise. The card (YtilnjnblpeeigaaGreatDoorCards.lean) ties it to the program's text. -/
def laid_buttress_words_halves {H : Type} : DataW H := .agg [.lit (.int .u64 32), .lit (.int .u64 16), .lit (.int .u64 8), .lit (.int .u64 4), .lit (.int .u64 2), .lit (.int .u64 1)]
def laid_buttress_untyped_sizes {H : Type} : DataW H := .agg [.agg [.lit (.int .i64 0), .lit (.int .i64 0), .lit (.int .i64 0)], .agg [.lit (.int .i64 0), .lit (.int .i64 4), .lit (.int .i64 20)], .agg [.lit (.int .i64 2), .lit (.int .i64 1), .lit (.int .i64 8)], .agg [.lit (.int .i64 5), .lit (.int .i64 0), .lit (.int .i64 0)], .agg [.lit (.int .i64 2), .lit (.int .i64 0), .lit (.int .i64 0)], .agg [.lit (.int .i64 2), .lit (.int .i64 0), .lit (.int .i64 0)], .agg [.lit (.int .i64 6), .lit (.int .i64 0), .lit (.int .i64 0)], .agg [.lit (.int .i64 6), .lit (.int .i64 0), .lit (.int .i64 0)], .agg [.lit (.int .i64 6), .lit (.int .i64 0), .lit (.int .i64 0)], .agg [.lit (.int .i64 0), .lit (.int .i64 0), .lit (.int .i64 0)]]
def laid_buttress_kernel_needs {H : Type} : DataW H := .agg [.agg [.lit (.int .i64 1), .lit (.int .i64 0), .lit (.int .i64 0)], .agg [.lit (.int .i64 0), .lit (.int .i64 0), .lit (.int .i64 0)], .agg [.lit (.int .i64 0), .lit (.int .i64 0), .lit (.int .i64 0)], .agg [.lit (.int .i64 0), .lit (.int .i64 0), .lit (.int .i64 0)], .agg [.lit (.int .i64 0), .lit (.int .i64 0), .lit (.int .i64 0)], .agg [.lit (.int .i64 3), .lit (.int .i64 0), .lit (.int .i64 0)], .agg [.lit (.int .i64 3), .lit (.int .i64 0), .lit (.int .i64 0)], .agg [.lit (.int .i64 3), .lit (.int .i64 0), .lit (.int .i64 0)], .agg [.lit (.int .i64 4), .lit (.int .i64 2), .lit (.int .i64 0)], .agg [.lit (.int .i64 4), .lit (.int .i64 1), .lit (.int .i64 0)], .agg [.lit (.int .i64 5), .lit (.int .i64 2), .lit (.int .i64 0)], .agg [.lit (.int .i64 5), .lit (.int .i64 1), .lit (.int .i64 0)], .agg [.lit (.int .i64 7), .lit (.int .i64 0), .lit (.int .i64 8)], .agg [.lit (.int .i64 6), .lit (.int .i64 0), .lit (.int .i64 8)], .agg [.lit (.int .i64 8), .lit (.int .i64 0), .lit (.int .i64 0)], .agg [.lit (.int .i64 9), .lit (.int .i64 0), .lit (.int .i64 5)], .agg [.lit (.int .i64 9), .lit (.int .i64 0), .lit (.int .i64 0)], .agg [.lit (.int .i64 0), .lit (.int .i64 0), .lit (.int .i64 0)]]

/-- 'buttresslaw18.KernelSends': WHATEVER THE INPUT: true; the input reads as it did. -/
def kernelSendsSpec : ChangeSpec := { name := "kernelSends", fn := fun _ => fun
  | [d1, d2, d3] => { results := [.lit (.bool true)], args := [d1, d2, d3] }
  | _ => none }
def kernelSendsRow : OpenClaim := { program := "ytilnjnblpeeigaagreatdoor", sum := "135ab22051644801a0bd0492daa45d72e12f520713d9e6536287a49bd98b2644", func := "buttress/buttresslaw18.KernelSends", spec := "kernelSends", inPlace := ["slices.overlaps[buttress/tree.entry]"], unfollowed := true, recurses := true, named := ["buttress/words.halves", "buttress/untyped.sizes", "buttress/kernel.needs"], plainKeys := false, apart := false, laid := [("buttress/words.halves", laid_buttress_words_halves), ("buttress/untyped.sizes", laid_buttress_untyped_sizes), ("buttress/kernel.needs", laid_buttress_kernel_needs)] }
def KernelSendsSaid : Prop := kernelSendsRow.holds Tryz.pinned (OpenSpec.ofChange kernelSendsSpec)

/-- ITS FALSE NEIGHBOUR: 'it returns false'. Refute it at one input. -/
def kernelSendsWrong : ChangeSpec := { name := "kernelSends", fn := fun _ => fun
  | [d1, d2, d3] => { results := [.lit (.bool false)], args := [d1, d2, d3] }
  | _ => none }
def KernelSendsWrongFalsely : Prop := kernelSendsRow.holds Tryz.pinned (OpenSpec.ofChange kernelSendsWrong)

/-- 'buttresslaw18.KernelPages': WHATEVER THE INPUT: true; the input reads as it did. -/
def kernelPagesSpec : ChangeSpec := { name := "kernelPages", fn := fun _ => fun
  | [d1, d2, d3] => { results := [.lit (.bool true)], args := [d1, d2, d3] }
  | _ => none }
def kernelPagesRow : OpenClaim := { program := "ytilnjnblpeeigaagreatdoor", sum := "135ab22051644801a0bd0492daa45d72e12f520713d9e6536287a49bd98b2644", func := "buttress/buttresslaw18.KernelPages", spec := "kernelPages", inPlace := ["slices.overlaps[buttress/tree.entry]"], unfollowed := true, recurses := true, named := ["buttress/words.halves", "buttress/untyped.sizes", "buttress/kernel.needs"], plainKeys := false, apart := false, laid := [("buttress/words.halves", laid_buttress_words_halves), ("buttress/untyped.sizes", laid_buttress_untyped_sizes), ("buttress/kernel.needs", laid_buttress_kernel_needs)] }
def KernelPagesSaid : Prop := kernelPagesRow.holds Tryz.pinned (OpenSpec.ofChange kernelPagesSpec)

/-- ITS FALSE NEIGHBOUR: 'it returns false'. Refute it at one input. -/
def kernelPagesWrong : ChangeSpec := { name := "kernelPages", fn := fun _ => fun
  | [d1, d2, d3] => { results := [.lit (.bool false)], args := [d1, d2, d3] }
  | _ => none }
def KernelPagesWrongFalsely : Prop := kernelPagesRow.holds Tryz.pinned (OpenSpec.ofChange kernelPagesWrong)

/-- 'buttresslaw18.KernelIrqs': WHATEVER THE INPUT: true; the input reads as it did. -/
def kernelIrqsSpec : ChangeSpec := { name := "kernelIrqs", fn := fun _ => fun
  | [d1, d2] => { results := [.lit (.bool true)], args := [d1, d2] }
  | _ => none }
def kernelIrqsRow : OpenClaim := { program := "ytilnjnblpeeigaagreatdoor", sum := "135ab22051644801a0bd0492daa45d72e12f520713d9e6536287a49bd98b2644", func := "buttress/buttresslaw18.KernelIrqs", spec := "kernelIrqs", inPlace := ["slices.overlaps[buttress/tree.entry]"], unfollowed := true, recurses := true, named := ["buttress/words.halves", "buttress/untyped.sizes", "buttress/kernel.needs"], plainKeys := false, apart := false, laid := [("buttress/words.halves", laid_buttress_words_halves), ("buttress/untyped.sizes", laid_buttress_untyped_sizes), ("buttress/kernel.needs", laid_buttress_kernel_needs)] }
def KernelIrqsSaid : Prop := kernelIrqsRow.holds Tryz.pinned (OpenSpec.ofChange kernelIrqsSpec)

/-- ITS FALSE NEIGHBOUR: 'it returns false'. Refute it at one input. -/
def kernelIrqsWrong : ChangeSpec := { name := "kernelIrqs", fn := fun _ => fun
  | [d1, d2] => { results := [.lit (.bool false)], args := [d1, d2] }
  | _ => none }
def KernelIrqsWrongFalsely : Prop := kernelIrqsRow.holds Tryz.pinned (OpenSpec.ofChange kernelIrqsWrong)

/-- 'buttresslaw18.KernelYields': WHATEVER THE INPUT: true; the input reads as it did. -/
def kernelYieldsSpec : ChangeSpec := { name := "kernelYields", fn := fun _ => fun
  | [d1, d2] => { results := [.lit (.bool true)], args := [d1, d2] }
  | _ => none }
def kernelYieldsRow : OpenClaim := { program := "ytilnjnblpeeigaagreatdoor", sum := "135ab22051644801a0bd0492daa45d72e12f520713d9e6536287a49bd98b2644", func := "buttress/buttresslaw18.KernelYields", spec := "kernelYields", inPlace := ["slices.overlaps[buttress/tree.entry]"], unfollowed := true, recurses := true, named := ["buttress/words.halves", "buttress/untyped.sizes", "buttress/kernel.needs"], plainKeys := false, apart := false, laid := [("buttress/words.halves", laid_buttress_words_halves), ("buttress/untyped.sizes", laid_buttress_untyped_sizes), ("buttress/kernel.needs", laid_buttress_kernel_needs)] }
def KernelYieldsSaid : Prop := kernelYieldsRow.holds Tryz.pinned (OpenSpec.ofChange kernelYieldsSpec)

/-- ITS FALSE NEIGHBOUR: 'it returns false'. Refute it at one input. -/
def kernelYieldsWrong : ChangeSpec := { name := "kernelYields", fn := fun _ => fun
  | [d1, d2] => { results := [.lit (.bool false)], args := [d1, d2] }
  | _ => none }
def KernelYieldsWrongFalsely : Prop := kernelYieldsRow.holds Tryz.pinned (OpenSpec.ofChange kernelYieldsWrong)

/-- 'buttresslaw18.KernelMints': WHATEVER THE INPUT: true; the input reads as it did. -/
def kernelMintsSpec : ChangeSpec := { name := "kernelMints", fn := fun _ => fun
  | [d1, d2] => { results := [.lit (.bool true)], args := [d1, d2] }
  | _ => none }
def kernelMintsRow : OpenClaim := { program := "ytilnjnblpeeigaagreatdoor", sum := "135ab22051644801a0bd0492daa45d72e12f520713d9e6536287a49bd98b2644", func := "buttress/buttresslaw18.KernelMints", spec := "kernelMints", inPlace := ["slices.overlaps[buttress/tree.entry]"], unfollowed := true, recurses := true, named := ["buttress/words.halves", "buttress/untyped.sizes", "buttress/kernel.needs"], plainKeys := false, apart := false, laid := [("buttress/words.halves", laid_buttress_words_halves), ("buttress/untyped.sizes", laid_buttress_untyped_sizes), ("buttress/kernel.needs", laid_buttress_kernel_needs)] }
def KernelMintsSaid : Prop := kernelMintsRow.holds Tryz.pinned (OpenSpec.ofChange kernelMintsSpec)

/-- ITS FALSE NEIGHBOUR: 'it returns false'. Refute it at one input. -/
def kernelMintsWrong : ChangeSpec := { name := "kernelMints", fn := fun _ => fun
  | [d1, d2] => { results := [.lit (.bool false)], args := [d1, d2] }
  | _ => none }
def KernelMintsWrongFalsely : Prop := kernelMintsRow.holds Tryz.pinned (OpenSpec.ofChange kernelMintsWrong)

/- THE SECOND FORM. 'bulk': how many values and letters a reading holds, each counted each time it is reached (what is shared counts as often as it is met; a slice's spare places count too). A statement '..UptoSaid' is the law's where the arguments, and the package variables that the reading takes, are together of bulk at most 1048576: NARROWER than '..Said'. Prove '..Said' where nothing that the law and all that it calls make is longer than what came in: it says more and counts as full. Else prove '..UptoSaid'. A law counts once. -/
mutual
def uptoBulk {H : Type} : DataW H → Nat
  | .lit (.string bytes) => bytes.length + 1
  | .lit _ => 1
  | .nil => 1
  | .ptr d => uptoBulk d + 1
  | .slice elems spare => uptoBulkAll elems + uptoBulkAll spare + 1
  | .agg parts => uptoBulkAll parts + 1
  | .iface _ d => uptoBulk d + 1
  | .map entries => uptoBulkEntries entries + 1
  | .held _ => 1
def uptoBulkAll {H : Type} : List (DataW H) → Nat
  | [] => 0
  | d :: r => uptoBulk d + uptoBulkAll r
def uptoBulkEntries {H : Type} : List (Lit × DataW H) → Nat
  | [] => 0
  | x :: r => uptoBulkEntry x + uptoBulkEntries r
def uptoBulkEntry {H : Type} : Lit × DataW H → Nat
  | (.string bytes, d) => bytes.length + uptoBulk d + 1
  | (_, d) => uptoBulk d + 1
 end
def uptoSmall : (H : Type) → List (DataW H) → Bool := fun _ ds => decide (uptoBulkAll ds ≤ 1048576)
def OpenSpec.upto (s : _root_.Go.ChangeSpec) : _root_.Go.OpenSpec := { _root_.Go.OpenSpec.ofChange s with cond := some uptoSmall }

/-- 'buttresslaw18.KernelSends', WHERE WHAT IT READS IS OF BULK AT MOST 1048576: true; the input reads as it did. -/
def kernelSendsUptoRow : OpenClaim := { program := "ytilnjnblpeeigaagreatdoor", sum := "135ab22051644801a0bd0492daa45d72e12f520713d9e6536287a49bd98b2644", func := "buttress/buttresslaw18.KernelSends", spec := "kernelSends", inPlace := ["slices.overlaps[buttress/tree.entry]"], unfollowed := true, recurses := true, named := ["buttress/words.halves", "buttress/untyped.sizes", "buttress/kernel.needs"], plainKeys := false, apart := false, laid := [("buttress/words.halves", laid_buttress_words_halves), ("buttress/untyped.sizes", laid_buttress_untyped_sizes), ("buttress/kernel.needs", laid_buttress_kernel_needs)], narrowed := true }
def KernelSendsUptoSaid : Prop := kernelSendsUptoRow.holds Tryz.pinned (OpenSpec.upto kernelSendsSpec)

/-- 'buttresslaw18.KernelPages', WHERE WHAT IT READS IS OF BULK AT MOST 1048576: true; the input reads as it did. -/
def kernelPagesUptoRow : OpenClaim := { program := "ytilnjnblpeeigaagreatdoor", sum := "135ab22051644801a0bd0492daa45d72e12f520713d9e6536287a49bd98b2644", func := "buttress/buttresslaw18.KernelPages", spec := "kernelPages", inPlace := ["slices.overlaps[buttress/tree.entry]"], unfollowed := true, recurses := true, named := ["buttress/words.halves", "buttress/untyped.sizes", "buttress/kernel.needs"], plainKeys := false, apart := false, laid := [("buttress/words.halves", laid_buttress_words_halves), ("buttress/untyped.sizes", laid_buttress_untyped_sizes), ("buttress/kernel.needs", laid_buttress_kernel_needs)], narrowed := true }
def KernelPagesUptoSaid : Prop := kernelPagesUptoRow.holds Tryz.pinned (OpenSpec.upto kernelPagesSpec)

/-- 'buttresslaw18.KernelIrqs', WHERE WHAT IT READS IS OF BULK AT MOST 1048576: true; the input reads as it did. -/
def kernelIrqsUptoRow : OpenClaim := { program := "ytilnjnblpeeigaagreatdoor", sum := "135ab22051644801a0bd0492daa45d72e12f520713d9e6536287a49bd98b2644", func := "buttress/buttresslaw18.KernelIrqs", spec := "kernelIrqs", inPlace := ["slices.overlaps[buttress/tree.entry]"], unfollowed := true, recurses := true, named := ["buttress/words.halves", "buttress/untyped.sizes", "buttress/kernel.needs"], plainKeys := false, apart := false, laid := [("buttress/words.halves", laid_buttress_words_halves), ("buttress/untyped.sizes", laid_buttress_untyped_sizes), ("buttress/kernel.needs", laid_buttress_kernel_needs)], narrowed := true }
def KernelIrqsUptoSaid : Prop := kernelIrqsUptoRow.holds Tryz.pinned (OpenSpec.upto kernelIrqsSpec)

/-- 'buttresslaw18.KernelYields', WHERE WHAT IT READS IS OF BULK AT MOST 1048576: true; the input reads as it did. -/
def kernelYieldsUptoRow : OpenClaim := { program := "ytilnjnblpeeigaagreatdoor", sum := "135ab22051644801a0bd0492daa45d72e12f520713d9e6536287a49bd98b2644", func := "buttress/buttresslaw18.KernelYields", spec := "kernelYields", inPlace := ["slices.overlaps[buttress/tree.entry]"], unfollowed := true, recurses := true, named := ["buttress/words.halves", "buttress/untyped.sizes", "buttress/kernel.needs"], plainKeys := false, apart := false, laid := [("buttress/words.halves", laid_buttress_words_halves), ("buttress/untyped.sizes", laid_buttress_untyped_sizes), ("buttress/kernel.needs", laid_buttress_kernel_needs)], narrowed := true }
def KernelYieldsUptoSaid : Prop := kernelYieldsUptoRow.holds Tryz.pinned (OpenSpec.upto kernelYieldsSpec)

/-- 'buttresslaw18.KernelMints', WHERE WHAT IT READS IS OF BULK AT MOST 1048576: true; the input reads as it did. -/
def kernelMintsUptoRow : OpenClaim := { program := "ytilnjnblpeeigaagreatdoor", sum := "135ab22051644801a0bd0492daa45d72e12f520713d9e6536287a49bd98b2644", func := "buttress/buttresslaw18.KernelMints", spec := "kernelMints", inPlace := ["slices.overlaps[buttress/tree.entry]"], unfollowed := true, recurses := true, named := ["buttress/words.halves", "buttress/untyped.sizes", "buttress/kernel.needs"], plainKeys := false, apart := false, laid := [("buttress/words.halves", laid_buttress_words_halves), ("buttress/untyped.sizes", laid_buttress_untyped_sizes), ("buttress/kernel.needs", laid_buttress_kernel_needs)], narrowed := true }
def KernelMintsUptoSaid : Prop := kernelMintsUptoRow.holds Tryz.pinned (OpenSpec.upto kernelMintsSpec)

end Rows
end Go.Proofs.YtilnjnblpeeigaaGreatDoor
