/-
  NARROWER THAN 'FOR EVERY INPUT', by the rows' own cells (each row's printed sentence says how): UntypedPlaces: laid · UntypedApart: laid · UntypedOnes: laid · UntypedSizes: laid · UntypedResets: laid · UntypedFull: laid.
  DERIVED. THE GIVEN ROWS OF THIS SEAT. 6 by the template 'for every input the law returns true; each argument reads behind the call as it read before'; 0 by the template 'total and deterministic' (their statements: YtkelblkegpmlpaaDoorTotals.lean).
  GIVEN WITH THE SEED: the statements are not yours to turn. If you find one false, say at which input.
  Laid BY PROGRAM, IN A SANDBOX (cutbox-rows.mjs): the forced cells as the released guide's own fill.sh prints them over the translation b8e7fdd5d134c604… (all of the seat's roots in one cut). By AI agents, Wed Nov 11 2026. No macro, syntax, notation, axiom, sorry.
-/
import Derived.Test.YtkelblkegpmlpaaDoorChecked
import GoSem.Claim
import GoSem.ClaimJoined
import GoSem.ClaimMapViews
import Derived.JoinedTies
import Derived.KernelRfl
namespace Go.Proofs.YtkelblkegpmlpaaDoor
/- THE CELL 'sum', in the pinned program and in every row, IS THE sha256 OF THE DUMP (.gsa) THAT YtkelblkegpmlpaaDoorProg.lean LOADS. Nothing in Lean hashes anything: it is a label: what it is worth is what the hold of that sum in a sandbox is worth. -/
noncomputable def Tryd.pinned : Pinned := { name := "ytkelblkegpmlpaadoor", sum := "b8e7fdd5d134c6044d3d3e5b1c25c764888511ab1ea4a6f82d87ffc04c5e9736", checked := Tryd.checked }
namespace Rows
def none {H : Type} : Left H := { results := [], args := [] }

/- WHAT THE LISTED PACKAGE-LEVEL VARIABLES READ AS WHEN THE CALL BEGINS. Each datum BY PROGRAM (the guide's laid-datum.mjs) off the statement by which the dump's own 'gosem.cut.vars' lays the variable. In a bare row this is a premise. The card (YtkelblkegpmlpaaDoorCards.lean) ties it to the program's text. -/
def laid_buttress_untyped_sizes {H : Type} : DataW H := .agg [.agg [.lit (.int .i64 0), .lit (.int .i64 0), .lit (.int .i64 0)], .agg [.lit (.int .i64 0), .lit (.int .i64 4), .lit (.int .i64 20)], .agg [.lit (.int .i64 2), .lit (.int .i64 1), .lit (.int .i64 8)], .agg [.lit (.int .i64 5), .lit (.int .i64 0), .lit (.int .i64 0)], .agg [.lit (.int .i64 2), .lit (.int .i64 0), .lit (.int .i64 0)], .agg [.lit (.int .i64 2), .lit (.int .i64 0), .lit (.int .i64 0)], .agg [.lit (.int .i64 6), .lit (.int .i64 0), .lit (.int .i64 0)], .agg [.lit (.int .i64 6), .lit (.int .i64 0), .lit (.int .i64 0)], .agg [.lit (.int .i64 6), .lit (.int .i64 0), .lit (.int .i64 0)], .agg [.lit (.int .i64 0), .lit (.int .i64 0), .lit (.int .i64 0)]]

/-- 'buttresslaw08.UntypedPlaces': WHATEVER THE INPUT: true; the input reads as it did. -/
def untypedPlacesSpec : ChangeSpec := { name := "untypedPlaces", fn := fun _ => fun
  | [d1, d2] => { results := [.lit (.bool true)], args := [d1, d2] }
  | _ => none }
def untypedPlacesRow : OpenClaim := { program := "ytkelblkegpmlpaadoor", sum := "b8e7fdd5d134c6044d3d3e5b1c25c764888511ab1ea4a6f82d87ffc04c5e9736", func := "buttress/buttresslaw08.UntypedPlaces", spec := "untypedPlaces", named := ["buttress/untyped.sizes"], apart := false, laid := [("buttress/untyped.sizes", laid_buttress_untyped_sizes)] }
def UntypedPlacesSaid : Prop := untypedPlacesRow.holds Tryd.pinned (OpenSpec.ofChange untypedPlacesSpec)

/-- ITS FALSE NEIGHBOUR: 'it returns false'. Refute it at one input. -/
def untypedPlacesWrong : ChangeSpec := { name := "untypedPlaces", fn := fun _ => fun
  | [d1, d2] => { results := [.lit (.bool false)], args := [d1, d2] }
  | _ => none }
def UntypedPlacesWrongFalsely : Prop := untypedPlacesRow.holds Tryd.pinned (OpenSpec.ofChange untypedPlacesWrong)

/-- 'buttresslaw08.UntypedApart': WHATEVER THE INPUT: true; the input reads as it did. -/
def untypedApartSpec : ChangeSpec := { name := "untypedApart", fn := fun _ => fun
  | [d1, d2] => { results := [.lit (.bool true)], args := [d1, d2] }
  | _ => none }
def untypedApartRow : OpenClaim := { program := "ytkelblkegpmlpaadoor", sum := "b8e7fdd5d134c6044d3d3e5b1c25c764888511ab1ea4a6f82d87ffc04c5e9736", func := "buttress/buttresslaw08.UntypedApart", spec := "untypedApart", named := ["buttress/untyped.sizes"], apart := false, laid := [("buttress/untyped.sizes", laid_buttress_untyped_sizes)] }
def UntypedApartSaid : Prop := untypedApartRow.holds Tryd.pinned (OpenSpec.ofChange untypedApartSpec)

/-- ITS FALSE NEIGHBOUR: 'it returns false'. Refute it at one input. -/
def untypedApartWrong : ChangeSpec := { name := "untypedApart", fn := fun _ => fun
  | [d1, d2] => { results := [.lit (.bool false)], args := [d1, d2] }
  | _ => none }
def UntypedApartWrongFalsely : Prop := untypedApartRow.holds Tryd.pinned (OpenSpec.ofChange untypedApartWrong)

/-- 'buttresslaw08.UntypedOnes': WHATEVER THE INPUT: true; the input reads as it did. -/
def untypedOnesSpec : ChangeSpec := { name := "untypedOnes", fn := fun _ => fun
  | [d1, d2] => { results := [.lit (.bool true)], args := [d1, d2] }
  | _ => none }
def untypedOnesRow : OpenClaim := { program := "ytkelblkegpmlpaadoor", sum := "b8e7fdd5d134c6044d3d3e5b1c25c764888511ab1ea4a6f82d87ffc04c5e9736", func := "buttress/buttresslaw08.UntypedOnes", spec := "untypedOnes", named := ["buttress/untyped.sizes"], apart := false, laid := [("buttress/untyped.sizes", laid_buttress_untyped_sizes)] }
def UntypedOnesSaid : Prop := untypedOnesRow.holds Tryd.pinned (OpenSpec.ofChange untypedOnesSpec)

/-- ITS FALSE NEIGHBOUR: 'it returns false'. Refute it at one input. -/
def untypedOnesWrong : ChangeSpec := { name := "untypedOnes", fn := fun _ => fun
  | [d1, d2] => { results := [.lit (.bool false)], args := [d1, d2] }
  | _ => none }
def UntypedOnesWrongFalsely : Prop := untypedOnesRow.holds Tryd.pinned (OpenSpec.ofChange untypedOnesWrong)

/-- 'buttresslaw08.UntypedSizes': WHATEVER THE INPUT: true; the input reads as it did. -/
def untypedSizesSpec : ChangeSpec := { name := "untypedSizes", fn := fun _ => fun
  | [d1, d2, d3] => { results := [.lit (.bool true)], args := [d1, d2, d3] }
  | _ => none }
def untypedSizesRow : OpenClaim := { program := "ytkelblkegpmlpaadoor", sum := "b8e7fdd5d134c6044d3d3e5b1c25c764888511ab1ea4a6f82d87ffc04c5e9736", func := "buttress/buttresslaw08.UntypedSizes", spec := "untypedSizes", named := ["buttress/untyped.sizes"], apart := false, laid := [("buttress/untyped.sizes", laid_buttress_untyped_sizes)] }
def UntypedSizesSaid : Prop := untypedSizesRow.holds Tryd.pinned (OpenSpec.ofChange untypedSizesSpec)

/-- ITS FALSE NEIGHBOUR: 'it returns false'. Refute it at one input. -/
def untypedSizesWrong : ChangeSpec := { name := "untypedSizes", fn := fun _ => fun
  | [d1, d2, d3] => { results := [.lit (.bool false)], args := [d1, d2, d3] }
  | _ => none }
def UntypedSizesWrongFalsely : Prop := untypedSizesRow.holds Tryd.pinned (OpenSpec.ofChange untypedSizesWrong)

/-- 'buttresslaw08.UntypedResets': WHATEVER THE INPUT: true; the input reads as it did. -/
def untypedResetsSpec : ChangeSpec := { name := "untypedResets", fn := fun _ => fun
  | [d1, d2] => { results := [.lit (.bool true)], args := [d1, d2] }
  | _ => none }
def untypedResetsRow : OpenClaim := { program := "ytkelblkegpmlpaadoor", sum := "b8e7fdd5d134c6044d3d3e5b1c25c764888511ab1ea4a6f82d87ffc04c5e9736", func := "buttress/buttresslaw08.UntypedResets", spec := "untypedResets", named := ["buttress/untyped.sizes"], apart := false, laid := [("buttress/untyped.sizes", laid_buttress_untyped_sizes)] }
def UntypedResetsSaid : Prop := untypedResetsRow.holds Tryd.pinned (OpenSpec.ofChange untypedResetsSpec)

/-- ITS FALSE NEIGHBOUR: 'it returns false'. Refute it at one input. -/
def untypedResetsWrong : ChangeSpec := { name := "untypedResets", fn := fun _ => fun
  | [d1, d2] => { results := [.lit (.bool false)], args := [d1, d2] }
  | _ => none }
def UntypedResetsWrongFalsely : Prop := untypedResetsRow.holds Tryd.pinned (OpenSpec.ofChange untypedResetsWrong)

/-- 'buttresslaw08.UntypedFull': WHATEVER THE INPUT: true; the input reads as it did. -/
def untypedFullSpec : ChangeSpec := { name := "untypedFull", fn := fun _ => fun
  | [d1, d2] => { results := [.lit (.bool true)], args := [d1, d2] }
  | _ => none }
def untypedFullRow : OpenClaim := { program := "ytkelblkegpmlpaadoor", sum := "b8e7fdd5d134c6044d3d3e5b1c25c764888511ab1ea4a6f82d87ffc04c5e9736", func := "buttress/buttresslaw08.UntypedFull", spec := "untypedFull", named := ["buttress/untyped.sizes"], apart := false, laid := [("buttress/untyped.sizes", laid_buttress_untyped_sizes)] }
def UntypedFullSaid : Prop := untypedFullRow.holds Tryd.pinned (OpenSpec.ofChange untypedFullSpec)

/-- ITS FALSE NEIGHBOUR: 'it returns false'. Refute it at one input. -/
def untypedFullWrong : ChangeSpec := { name := "untypedFull", fn := fun _ => fun
  | [d1, d2] => { results := [.lit (.bool false)], args := [d1, d2] }
  | _ => none }
def UntypedFullWrongFalsely : Prop := untypedFullRow.holds Tryd.pinned (OpenSpec.ofChange untypedFullWrong)

/- THE SECOND FORM. 'bulk': how many values and letters a reading holds, each counted each time it is reached (what is shared counts as often as it is met; a slice's spare places count too). A statement '..UptoSaid' is the law's where the arguments, and the package variables that the reading takes, are together of bulk at most 1048576: NARROWER than '..Said'. Prove '..Said' where nothing that the law and all that it calls make is longer than what came in: it says more and counts as full. Else prove '..UptoSaid'. A law counts once. -/
mutual
def uptoBulk {H : Type} : DataW H → Nat
  | .lit (.string bytes) => bytes.length + 1
  | .lit _ => 1
  | .nil => 1
  | .ptr d => uptoBulk d + 1
  | .slice elems spare => uptoBulkAll elems + uptoBulkAll spare + 1
  | .agg parts => uptoBulkAll parts + 1
  | .iface _ d => uptoBulk d + 1
  | .map entries => uptoBulkEntries entries + 1
  | .held _ => 1
def uptoBulkAll {H : Type} : List (DataW H) → Nat
  | [] => 0
  | d :: r => uptoBulk d + uptoBulkAll r
def uptoBulkEntries {H : Type} : List (Lit × DataW H) → Nat
  | [] => 0
  | x :: r => uptoBulkEntry x + uptoBulkEntries r
def uptoBulkEntry {H : Type} : Lit × DataW H → Nat
  | (.string bytes, d) => bytes.length + uptoBulk d + 1
  | (_, d) => uptoBulk d + 1
 end
def uptoSmall : (H : Type) → List (DataW H) → Bool := fun _ ds => decide (uptoBulkAll ds ≤ 1048576)
def OpenSpec.upto (s : _root_.Go.ChangeSpec) : _root_.Go.OpenSpec := { _root_.Go.OpenSpec.ofChange s with cond := some uptoSmall }

/-- 'buttresslaw08.UntypedPlaces', WHERE WHAT IT READS IS OF BULK AT MOST 1048576: true; the input reads as it did. -/
def untypedPlacesUptoRow : OpenClaim := { program := "ytkelblkegpmlpaadoor", sum := "b8e7fdd5d134c6044d3d3e5b1c25c764888511ab1ea4a6f82d87ffc04c5e9736", func := "buttress/buttresslaw08.UntypedPlaces", spec := "untypedPlaces", named := ["buttress/untyped.sizes"], apart := false, laid := [("buttress/untyped.sizes", laid_buttress_untyped_sizes)], narrowed := true }
def UntypedPlacesUptoSaid : Prop := untypedPlacesUptoRow.holds Tryd.pinned (OpenSpec.upto untypedPlacesSpec)

/-- 'buttresslaw08.UntypedApart', WHERE WHAT IT READS IS OF BULK AT MOST 1048576: true; the input reads as it did. -/
def untypedApartUptoRow : OpenClaim := { program := "ytkelblkegpmlpaadoor", sum := "b8e7fdd5d134c6044d3d3e5b1c25c764888511ab1ea4a6f82d87ffc04c5e9736", func := "buttress/buttresslaw08.UntypedApart", spec := "untypedApart", named := ["buttress/untyped.sizes"], apart := false, laid := [("buttress/untyped.sizes", laid_buttress_untyped_sizes)], narrowed := true }
def UntypedApartUptoSaid : Prop := untypedApartUptoRow.holds Tryd.pinned (OpenSpec.upto untypedApartSpec)

/-- 'buttresslaw08.UntypedOnes', WHERE WHAT IT READS IS OF BULK AT MOST 1048576: true; the input reads as it did. -/
def untypedOnesUptoRow : OpenClaim := { program := "ytkelblkegpmlpaadoor", sum := "b8e7fdd5d134c6044d3d3e5b1c25c764888511ab1ea4a6f82d87ffc04c5e9736", func := "buttress/buttresslaw08.UntypedOnes", spec := "untypedOnes", named := ["buttress/untyped.sizes"], apart := false, laid := [("buttress/untyped.sizes", laid_buttress_untyped_sizes)], narrowed := true }
def UntypedOnesUptoSaid : Prop := untypedOnesUptoRow.holds Tryd.pinned (OpenSpec.upto untypedOnesSpec)

/-- 'buttresslaw08.UntypedSizes', WHERE WHAT IT READS IS OF BULK AT MOST 1048576: true; the input reads as it did. -/
def untypedSizesUptoRow : OpenClaim := { program := "ytkelblkegpmlpaadoor", sum := "b8e7fdd5d134c6044d3d3e5b1c25c764888511ab1ea4a6f82d87ffc04c5e9736", func := "buttress/buttresslaw08.UntypedSizes", spec := "untypedSizes", named := ["buttress/untyped.sizes"], apart := false, laid := [("buttress/untyped.sizes", laid_buttress_untyped_sizes)], narrowed := true }
def UntypedSizesUptoSaid : Prop := untypedSizesUptoRow.holds Tryd.pinned (OpenSpec.upto untypedSizesSpec)

/-- 'buttresslaw08.UntypedResets', WHERE WHAT IT READS IS OF BULK AT MOST 1048576: true; the input reads as it did. -/
def untypedResetsUptoRow : OpenClaim := { program := "ytkelblkegpmlpaadoor", sum := "b8e7fdd5d134c6044d3d3e5b1c25c764888511ab1ea4a6f82d87ffc04c5e9736", func := "buttress/buttresslaw08.UntypedResets", spec := "untypedResets", named := ["buttress/untyped.sizes"], apart := false, laid := [("buttress/untyped.sizes", laid_buttress_untyped_sizes)], narrowed := true }
def UntypedResetsUptoSaid : Prop := untypedResetsUptoRow.holds Tryd.pinned (OpenSpec.upto untypedResetsSpec)

/-- 'buttresslaw08.UntypedFull', WHERE WHAT IT READS IS OF BULK AT MOST 1048576: true; the input reads as it did. -/
def untypedFullUptoRow : OpenClaim := { program := "ytkelblkegpmlpaadoor", sum := "b8e7fdd5d134c6044d3d3e5b1c25c764888511ab1ea4a6f82d87ffc04c5e9736", func := "buttress/buttresslaw08.UntypedFull", spec := "untypedFull", named := ["buttress/untyped.sizes"], apart := false, laid := [("buttress/untyped.sizes", laid_buttress_untyped_sizes)], narrowed := true }
def UntypedFullUptoSaid : Prop := untypedFullUptoRow.holds Tryd.pinned (OpenSpec.upto untypedFullSpec)

end Rows
end Go.Proofs.YtkelblkegpmlpaaDoor
