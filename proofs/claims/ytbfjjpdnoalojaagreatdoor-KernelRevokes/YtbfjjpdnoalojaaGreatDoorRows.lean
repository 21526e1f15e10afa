/-
  NARROWER THAN 'FOR EVERY INPUT', by the rows' own cells (each row's printed sentence says how): KernelDoes: laid · KernelBoots: laid · KernelErrors: laid · KernelRevokes: laid · KernelTree: laid · KernelMakes: laid.
  DERIVED. THE GIVEN ROWS OF THIS SEAT. 6 by the template 'for every input the law returns true; each argument reads behind the call as it read before'; 0 by the template 'total and deterministic' (their statements: YtbfjjpdnoalojaaGreatDoorTotals.lean).
  GIVEN WITH THE SEED: the statements are not yours to turn. If you find one false, say at which input.
  Laid BY PROGRAM, IN A SANDBOX (cutbox-rows.mjs): the forced cells as the released guide's own fill.sh prints them over the translation 97ce12d790137c38… (all of the seat's roots in one cut). By AI agents, Wed Nov 11 2026. No macro, syntax, notation, axiom, sorry.
-/
import Derived.Test.YtbfjjpdnoalojaaGreatDoorChecked
import GoSem.Claim
import GoSem.ClaimJoined
import GoSem.ClaimMapViews
import Derived.JoinedTies
import Derived.KernelRfl
namespace Go.Proofs.YtbfjjpdnoalojaaGreatDoor
/- THE CELL 'sum', in the pinned program and in every row, IS THE sha256 OF THE DUMP (.gsa) THAT YtbfjjpdnoalojaaGreatDoorProg.lean LOADS. Nothing in Lean hashes anything: it is a label: what it is worth is what the hold of that sum in a sandbox is worth. -/
noncomputable def Tryz.pinned : Pinned := { name := "ytbfjjpdnoalojaagreatdoor", sum := "97ce12d790137c38a89b35a9cf4f0fd6e41b489719aa2f60426ed78faf076f77", checked := Tryz.checked }
namespace Rows
def none {H : Type} : Left H := { results := [], args := [] }

/- WHAT THE LISTED PACKAGE-LEVEL VARIABLES READ AS WHEN THE CALL BEGINS. Each datum BY PROGRAM (the guide's laid-datum.mjs) off the statement by which the dump's own 'gosem.cut.vars' lays the variable. In a bare row this is a premise. The card (YtbfjjpdnoalojaaGreatDoorCards.lean) ties it to the program's text. -/
def laid_buttress_words_halves {H : Type} : DataW H := .agg [.lit (.int .u64 32), .lit (.int .u64 16), .lit (.int .u64 8), .lit (.int .u64 4), .lit (.int .u64 2), .lit (.int .u64 1)]
def laid_buttress_untyped_sizes {H : Type} : DataW H := .agg [.agg [.lit (.int .i64 0), .lit (.int .i64 0), .lit (.int .i64 0)], .agg [.lit (.int .i64 0), .lit (.int .i64 4), .lit (.int .i64 20)], .agg [.lit (.int .i64 2), .lit (.int .i64 1), .lit (.int .i64 8)], .agg [.lit (.int .i64 5), .lit (.int .i64 0), .lit (.int .i64 0)], .agg [.lit (.int .i64 2), .lit (.int .i64 0), .lit (.int .i64 0)], .agg [.lit (.int .i64 2), .lit (.int .i64 0), .lit (.int .i64 0)], .agg [.lit (.int .i64 6), .lit (.int .i64 0), .lit (.int .i64 0)], .agg [.lit (.int .i64 6), .lit (.int .i64 0), .lit (.int .i64 0)], .agg [.lit (.int .i64 6), .lit (.int .i64 0), .lit (.int .i64 0)], .agg [.lit (.int .i64 0), .lit (.int .i64 0), .lit (.int .i64 0)]]
def laid_buttress_kernel_needs {H : Type} : DataW H := .agg [.agg [.lit (.int .i64 1), .lit (.int .i64 0), .lit (.int .i64 0)], .agg [.lit (.int .i64 0), .lit (.int .i64 0), .lit (.int .i64 0)], .agg [.lit (.int .i64 0), .lit (.int .i64 0), .lit (.int .i64 0)], .agg [.lit (.int .i64 0), .lit (.int .i64 0), .lit (.int .i64 0)], .agg [.lit (.int .i64 0), .lit (.int .i64 0), .lit (.int .i64 0)], .agg [.lit (.int .i64 3), .lit (.int .i64 0), .lit (.int .i64 0)], .agg [.lit (.int .i64 3), .lit (.int .i64 0), .lit (.int .i64 0)], .agg [.lit (.int .i64 3), .lit (.int .i64 0), .lit (.int .i64 0)], .agg [.lit (.int .i64 4), .lit (.int .i64 2), .lit (.int .i64 0)], .agg [.lit (.int .i64 4), .lit (.int .i64 1), .lit (.int .i64 0)], .agg [.lit (.int .i64 5), .lit (.int .i64 2), .lit (.int .i64 0)], .agg [.lit (.int .i64 5), .lit (.int .i64 1), .lit (.int .i64 0)], .agg [.lit (.int .i64 7), .lit (.int .i64 0), .lit (.int .i64 8)], .agg [.lit (.int .i64 6), .lit (.int .i64 0), .lit (.int .i64 8)], .agg [.lit (.int .i64 8), .lit (.int .i64 0), .lit (.int .i64 0)], .agg [.lit (.int .i64 9), .lit (.int .i64 0), .lit (.int .i64 5)], .agg [.lit (.int .i64 9), .lit (.int .i64 0), .lit (.int .i64 0)], .agg [.lit (.int .i64 0), .lit (.int .i64 0), .lit (.int .i64 0)]]

/-- 'buttresslaw18.KernelDoes': WHATEVER THE INPUT: true; the input reads as it did. -/
def kernelDoesSpec : ChangeSpec := { name := "kernelDoes", fn := fun _ => fun
  | [d1, d2] => { results := [.lit (.bool true)], args := [d1, d2] }
  | _ => none }
def kernelDoesRow : OpenClaim := { program := "ytbfjjpdnoalojaagreatdoor", sum := "97ce12d790137c38a89b35a9cf4f0fd6e41b489719aa2f60426ed78faf076f77", func := "buttress/buttresslaw18.KernelDoes", spec := "kernelDoes", inPlace := ["slices.overlaps[buttress/tree.entry]", "maps.clone"], unfollowed := true, recurses := true, named := ["buttress/words.halves", "buttress/untyped.sizes", "buttress/kernel.needs"], plainKeys := false, apart := false, laid := [("buttress/words.halves", laid_buttress_words_halves), ("buttress/untyped.sizes", laid_buttress_untyped_sizes), ("buttress/kernel.needs", laid_buttress_kernel_needs)] }
def KernelDoesSaid : Prop := kernelDoesRow.holds Tryz.pinned (OpenSpec.ofChange kernelDoesSpec)

/-- ITS FALSE NEIGHBOUR: 'it returns false'. Refute it at one input. -/
def kernelDoesWrong : ChangeSpec := { name := "kernelDoes", fn := fun _ => fun
  | [d1, d2] => { results := [.lit (.bool false)], args := [d1, d2] }
  | _ => none }
def KernelDoesWrongFalsely : Prop := kernelDoesRow.holds Tryz.pinned (OpenSpec.ofChange kernelDoesWrong)

/-- 'buttresslaw18.KernelBoots': WHATEVER THE INPUT: true; the input reads as it did. -/
def kernelBootsSpec : ChangeSpec := { name := "kernelBoots", fn := fun _ => fun
  | [d] => { results := [.lit (.bool true)], args := [d] }
  | _ => none }
def kernelBootsRow : OpenClaim := { program := "ytbfjjpdnoalojaagreatdoor", sum := "97ce12d790137c38a89b35a9cf4f0fd6e41b489719aa2f60426ed78faf076f77", func := "buttress/buttresslaw18.KernelBoots", spec := "kernelBoots", inPlace := ["slices.overlaps[buttress/tree.entry]"], unfollowed := true, recurses := true, named := ["buttress/words.halves", "buttress/untyped.sizes", "buttress/kernel.needs"], plainKeys := false, apart := false, laid := [("buttress/words.halves", laid_buttress_words_halves), ("buttress/untyped.sizes", laid_buttress_untyped_sizes), ("buttress/kernel.needs", laid_buttress_kernel_needs)] }
def KernelBootsSaid : Prop := kernelBootsRow.holds Tryz.pinned (OpenSpec.ofChange kernelBootsSpec)

/-- ITS FALSE NEIGHBOUR: 'it returns false'. Refute it at one input. -/
def kernelBootsWrong : ChangeSpec := { name := "kernelBoots", fn := fun _ => fun
  | [d] => { results := [.lit (.bool false)], args := [d] }
  | _ => none }
def KernelBootsWrongFalsely : Prop := kernelBootsRow.holds Tryz.pinned (OpenSpec.ofChange kernelBootsWrong)

/-- 'buttresslaw18.KernelErrors': WHATEVER THE INPUT: true; the input reads as it did. -/
def kernelErrorsSpec : ChangeSpec := { name := "kernelErrors", fn := fun _ => fun
  | [d1, d2, d3] => { results := [.lit (.bool true)], args := [d1, d2, d3] }
  | _ => none }
def kernelErrorsRow : OpenClaim := { program := "ytbfjjpdnoalojaagreatdoor", sum := "97ce12d790137c38a89b35a9cf4f0fd6e41b489719aa2f60426ed78faf076f77", func := "buttress/buttresslaw18.KernelErrors", spec := "kernelErrors", inPlace := ["slices.overlaps[buttress/tree.entry]"], unfollowed := true, recurses := true, named := ["buttress/words.halves", "buttress/untyped.sizes", "buttress/kernel.needs"], plainKeys := false, apart := false, laid := [("buttress/words.halves", laid_buttress_words_halves), ("buttress/untyped.sizes", laid_buttress_untyped_sizes), ("buttress/kernel.needs", laid_buttress_kernel_needs)] }
def KernelErrorsSaid : Prop := kernelErrorsRow.holds Tryz.pinned (OpenSpec.ofChange kernelErrorsSpec)

/-- ITS FALSE NEIGHBOUR: 'it returns false'. Refute it at one input. -/
def kernelErrorsWrong : ChangeSpec := { name := "kernelErrors", fn := fun _ => fun
  | [d1, d2, d3] => { results := [.lit (.bool false)], args := [d1, d2, d3] }
  | _ => none }
def KernelErrorsWrongFalsely : Prop := kernelErrorsRow.holds Tryz.pinned (OpenSpec.ofChange kernelErrorsWrong)

/-- 'buttresslaw18.KernelRevokes': WHATEVER THE INPUT: true; the input reads as it did. -/
def kernelRevokesSpec : ChangeSpec := { name := "kernelRevokes", fn := fun _ => fun
  | [d1, d2, d3] => { results := [.lit (.bool true)], args := [d1, d2, d3] }
  | _ => none }
def kernelRevokesRow : OpenClaim := { program := "ytbfjjpdnoalojaagreatdoor", sum := "97ce12d790137c38a89b35a9cf4f0fd6e41b489719aa2f60426ed78faf076f77", func := "buttress/buttresslaw18.KernelRevokes", spec := "kernelRevokes", inPlace := ["slices.overlaps[buttress/tree.entry]"], unfollowed := true, recurses := true, named := ["buttress/words.halves", "buttress/untyped.sizes", "buttress/kernel.needs"], plainKeys := false, apart := false, laid := [("buttress/words.halves", laid_buttress_words_halves), ("buttress/untyped.sizes", laid_buttress_untyped_sizes), ("buttress/kernel.needs", laid_buttress_kernel_needs)] }
def KernelRevokesSaid : Prop := kernelRevokesRow.holds Tryz.pinned (OpenSpec.ofChange kernelRevokesSpec)

/-- ITS FALSE NEIGHBOUR: 'it returns false'. Refute it at one input. -/
def kernelRevokesWrong : ChangeSpec := { name := "kernelRevokes", fn := fun _ => fun
  | [d1, d2, d3] => { results := [.lit (.bool false)], args := [d1, d2, d3] }
  | _ => none }
def KernelRevokesWrongFalsely : Prop := kernelRevokesRow.holds Tryz.pinned (OpenSpec.ofChange kernelRevokesWrong)

/-- 'buttresslaw18.KernelTree': WHATEVER THE INPUT: true; the input reads as it did. -/
def kernelTreeSpec : ChangeSpec := { name := "kernelTree", fn := fun _ => fun
  | [d1, d2] => { results := [.lit (.bool true)], args := [d1, d2] }
  | _ => none }
def kernelTreeRow : OpenClaim := { program := "ytbfjjpdnoalojaagreatdoor", sum := "97ce12d790137c38a89b35a9cf4f0fd6e41b489719aa2f60426ed78faf076f77", func := "buttress/buttresslaw18.KernelTree", spec := "kernelTree", inPlace := ["slices.overlaps[buttress/tree.entry]"], unfollowed := true, recurses := true, named := ["buttress/words.halves", "buttress/untyped.sizes", "buttress/kernel.needs"], plainKeys := false, apart := false, laid := [("buttress/words.halves", laid_buttress_words_halves), ("buttress/untyped.sizes", laid_buttress_untyped_sizes), ("buttress/kernel.needs", laid_buttress_kernel_needs)] }
def KernelTreeSaid : Prop := kernelTreeRow.holds Tryz.pinned (OpenSpec.ofChange kernelTreeSpec)

/-- ITS FALSE NEIGHBOUR: 'it returns false'. Refute it at one input. -/
def kernelTreeWrong : ChangeSpec := { name := "kernelTree", fn := fun _ => fun
  | [d1, d2] => { results := [.lit (.bool false)], args := [d1, d2] }
  | _ => none }
def KernelTreeWrongFalsely : Prop := kernelTreeRow.holds Tryz.pinned (OpenSpec.ofChange kernelTreeWrong)

/-- 'buttresslaw18.KernelMakes': WHATEVER THE INPUT: true; the input reads as it did. -/
def kernelMakesSpec : ChangeSpec := { name := "kernelMakes", fn := fun _ => fun
  | [d1, d2, d3] => { results := [.lit (.bool true)], args := [d1, d2, d3] }
  | _ => none }
def kernelMakesRow : OpenClaim := { program := "ytbfjjpdnoalojaagreatdoor", sum := "97ce12d790137c38a89b35a9cf4f0fd6e41b489719aa2f60426ed78faf076f77", func := "buttress/buttresslaw18.KernelMakes", spec := "kernelMakes", inPlace := ["slices.overlaps[buttress/tree.entry]"], unfollowed := true, recurses := true, named := ["buttress/words.halves", "buttress/untyped.sizes", "buttress/kernel.needs"], plainKeys := false, apart := false, laid := [("buttress/words.halves", laid_buttress_words_halves), ("buttress/untyped.sizes", laid_buttress_untyped_sizes), ("buttress/kernel.needs", laid_buttress_kernel_needs)] }
def KernelMakesSaid : Prop := kernelMakesRow.holds Tryz.pinned (OpenSpec.ofChange kernelMakesSpec)

/-- ITS FALSE NEIGHBOUR: 'it returns false'. Refute it at one input. -/
def kernelMakesWrong : ChangeSpec := { name := "kernelMakes", fn := fun _ => fun
  | [d1, d2, d3] => { results := [.lit (.bool false)], args := [d1, d2, d3] }
  | _ => none }
def KernelMakesWrongFalsely : Prop := kernelMakesRow.holds Tryz.pinned (OpenSpec.ofChange kernelMakesWrong)

/- THE SECOND FORM. 'bulk': how many values and letters a reading holds, each counted each time it is reached (what is shared counts as often as it is met; a slice's spare places count too). A statement '..UptoSaid' is the law's where the arguments, and the package variables that the reading takes, are together of bulk at most 1048576: NARROWER than '..Said'. Prove '..Said' where nothing that the law and all that it calls make is longer than what came in: it says more and counts as full. Else prove '..UptoSaid'. A law counts once. -/
mutual
def uptoBulk {H : Type} : DataW H → Nat
  | .lit (.string bytes) => bytes.length + 1
  | .lit _ => 1
  | .nil => 1
  | .ptr d => uptoBulk d + 1
  | .slice elems spare => uptoBulkAll elems + uptoBulkAll spare + 1
  | .agg parts => uptoBulkAll parts + 1
  | .iface _ d => uptoBulk d + 1
  | .map entries => uptoBulkEntries entries + 1
  | .held _ => 1
def uptoBulkAll {H : Type} : List (DataW H) → Nat
  | [] => 0
  | d :: r => uptoBulk d + uptoBulkAll r
def uptoBulkEntries {H : Type} : List (Lit × DataW H) → Nat
  | [] => 0
  | x :: r => uptoBulkEntry x + uptoBulkEntries r
def uptoBulkEntry {H : Type} : Lit × DataW H → Nat
  | (.string bytes, d) => bytes.length + uptoBulk d + 1
  | (_, d) => uptoBulk d + 1
 end
def uptoSmall : (H : Type) → List (DataW H) → Bool := fun _ ds => decide (uptoBulkAll ds ≤ 1048576)
def OpenSpec.upto (s : _root_.Go.ChangeSpec) : _root_.Go.OpenSpec := { _root_.Go.OpenSpec.ofChange s with cond := some uptoSmall }

/-- 'buttresslaw18.KernelDoes', WHERE WHAT IT READS IS OF BULK AT MOST 1048576: true; the input reads as it did. -/
def kernelDoesUptoRow : OpenClaim := { program := "ytbfjjpdnoalojaagreatdoor", sum := "97ce12d790137c38a89b35a9cf4f0fd6e41b489719aa2f60426ed78faf076f77", func := "buttress/buttresslaw18.KernelDoes", spec := "kernelDoes", inPlace := ["slices.overlaps[buttress/tree.entry]", "maps.clone"], unfollowed := true, recurses := true, named := ["buttress/words.halves", "buttress/untyped.sizes", "buttress/kernel.needs"], plainKeys := false, apart := false, laid := [("buttress/words.halves", laid_buttress_words_halves), ("buttress/untyped.sizes", laid_buttress_untyped_sizes), ("buttress/kernel.needs", laid_buttress_kernel_needs)], narrowed := true }
def KernelDoesUptoSaid : Prop := kernelDoesUptoRow.holds Tryz.pinned (OpenSpec.upto kernelDoesSpec)

/-- 'buttresslaw18.KernelBoots', WHERE WHAT IT READS IS OF BULK AT MOST 1048576: true; the input reads as it did. -/
def kernelBootsUptoRow : OpenClaim := { program := "ytbfjjpdnoalojaagreatdoor", sum := "97ce12d790137c38a89b35a9cf4f0fd6e41b489719aa2f60426ed78faf076f77", func := "buttress/buttresslaw18.KernelBoots", spec := "kernelBoots", inPlace := ["slices.overlaps[buttress/tree.entry]"], unfollowed := true, recurses := true, named := ["buttress/words.halves", "buttress/untyped.sizes", "buttress/kernel.needs"], plainKeys := false, apart := false, laid := [("buttress/words.halves", laid_buttress_words_halves), ("buttress/untyped.sizes", laid_buttress_untyped_sizes), ("buttress/kernel.needs", laid_buttress_kernel_needs)], narrowed := true }
def KernelBootsUptoSaid : Prop := kernelBootsUptoRow.holds Tryz.pinned (OpenSpec.upto kernelBootsSpec)

/-- 'buttresslaw18.KernelErrors', WHERE WHAT IT READS IS OF BULK AT MOST 1048576: true; the input reads as it did. -/
def kernelErrorsUptoRow : OpenClaim := { program := "ytbfjjpdnoalojaagreatdoor", sum := "97ce12d790137c38a89b35a9cf4f0fd6e41b489719aa2f60426ed78faf076f77", func := "buttress/buttresslaw18.KernelErrors", spec := "kernelErrors", inPlace := ["slices.overlaps[buttress/tree.entry]"], unfollowed := true, recurses := true, named := ["buttress/words.halves", "buttress/untyped.sizes", "buttress/kernel.needs"], plainKeys := false, apart := false, laid := [("buttress/words.halves", laid_buttress_words_halves), ("buttress/untyped.sizes", laid_buttress_untyped_sizes), ("buttress/kernel.needs", laid_buttress_kernel_needs)], narrowed := true }
def KernelErrorsUptoSaid : Prop := kernelErrorsUptoRow.holds Tryz.pinned (OpenSpec.upto kernelErrorsSpec)

/-- 'buttresslaw18.KernelRevokes', WHERE WHAT IT READS IS OF BULK AT MOST 1048576: true; the input reads as it did. -/
def kernelRevokesUptoRow : OpenClaim := { program := "ytbfjjpdnoalojaagreatdoor", sum := "97ce12d790137c38a89b35a9cf4f0fd6e41b489719aa2f60426ed78faf076f77", func := "buttress/buttresslaw18.KernelRevokes", spec := "kernelRevokes", inPlace := ["slices.overlaps[buttress/tree.entry]"], unfollowed := true, recurses := true, named := ["buttress/words.halves", "buttress/untyped.sizes", "buttress/kernel.needs"], plainKeys := false, apart := false, laid := [("buttress/words.halves", laid_buttress_words_halves), ("buttress/untyped.sizes", laid_buttress_untyped_sizes), ("buttress/kernel.needs", laid_buttress_kernel_needs)], narrowed := true }
def KernelRevokesUptoSaid : Prop := kernelRevokesUptoRow.holds Tryz.pinned (OpenSpec.upto kernelRevokesSpec)

/-- 'buttresslaw18.KernelTree', WHERE WHAT IT READS IS OF BULK AT MOST 1048576: true; the input reads as it did. -/
def kernelTreeUptoRow : OpenClaim := { program := "ytbfjjpdnoalojaagreatdoor", sum := "97ce12d790137c38a89b35a9cf4f0fd6e41b489719aa2f60426ed78faf076f77", func := "buttress/buttresslaw18.KernelTree", spec := "kernelTree", inPlace := ["slices.overlaps[buttress/tree.entry]"], unfollowed := true, recurses := true, named := ["buttress/words.halves", "buttress/untyped.sizes", "buttress/kernel.needs"], plainKeys := false, apart := false, laid := [("buttress/words.halves", laid_buttress_words_halves), ("buttress/untyped.sizes", laid_buttress_untyped_sizes), ("buttress/kernel.needs", laid_buttress_kernel_needs)], narrowed := true }
def KernelTreeUptoSaid : Prop := kernelTreeUptoRow.holds Tryz.pinned (OpenSpec.upto kernelTreeSpec)

/-- 'buttresslaw18.KernelMakes', WHERE WHAT IT READS IS OF BULK AT MOST 1048576: true; the input reads as it did. -/
def kernelMakesUptoRow : OpenClaim := { program := "ytbfjjpdnoalojaagreatdoor", sum := "97ce12d790137c38a89b35a9cf4f0fd6e41b489719aa2f60426ed78faf076f77", func := "buttress/buttresslaw18.KernelMakes", spec := "kernelMakes", inPlace := ["slices.overlaps[buttress/tree.entry]"], unfollowed := true, recurses := true, named := ["buttress/words.halves", "buttress/untyped.sizes", "buttress/kernel.needs"], plainKeys := false, apart := false, laid := [("buttress/words.halves", laid_buttress_words_halves), ("buttress/untyped.sizes", laid_buttress_untyped_sizes), ("buttress/kernel.needs", laid_buttress_kernel_needs)], narrowed := true }
def KernelMakesUptoSaid : Prop := kernelMakesUptoRow.holds Tryz.pinned (OpenSpec.upto kernelMakesSpec)

end Rows
end Go.Proofs.YtbfjjpdnoalojaaGreatDoor
