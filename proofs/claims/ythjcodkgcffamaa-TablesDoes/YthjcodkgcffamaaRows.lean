/-
  No cell of these rows narrows 'for every input' (looked for: loops, veiled, ifaces, maps, wideKeys, modest, calm, conditions, laid).
  DERIVED. THE GIVEN ROWS OF THIS SEAT. 6 by the template 'for every input the law returns true; each argument reads behind the call as it read before'; 0 by the template 'total and deterministic' (their statements: YthjcodkgcffamaaTotals.lean).
  GIVEN WITH THE SEED: the statements are not yours to turn. If you find one false, say at which input.
  Laid BY PROGRAM, IN A SANDBOX (cutbox-rows.mjs): the forced cells as the released guide's own fill.sh prints them over the translation 79b0b81bf41a8928… (all of the seat's roots in one cut). By AI agents, Wed Nov 11 2026. No macro, syntax, notation, axiom, sorry.
-/
import Derived.Test.YthjcodkgcffamaaChecked
import GoSem.Claim
import GoSem.ClaimJoined
import GoSem.ClaimMapViews
import Derived.JoinedTies
import Derived.KernelRfl
namespace Go.Proofs.Ythjcodkgcffamaa
/- THE CELL 'sum', in the pinned program and in every row, IS THE sha256 OF THE DUMP (.gsa) THAT YthjcodkgcffamaaProg.lean LOADS. Nothing in Lean hashes anything: it is a label: what it is worth is what the hold of that sum in a sandbox is worth. -/
noncomputable def Try.pinned : Pinned := { name := "ythjcodkgcffamaa", sum := "79b0b81bf41a8928be601caf8baca10d0ebaa61b7f616330bebc911e1d7a9424", checked := Try.checked }
namespace Rows
def none {H : Type} : Left H := { results := [], args := [] }

/-- 'buttresslaw14.TablesDoes': WHATEVER THE INPUT: true; the input reads as it did. -/
def tablesDoesSpec : ChangeSpec := { name := "tablesDoes", fn := fun _ => fun
  | [d] => { results := [.lit (.bool true)], args := [d] }
  | _ => none }
def tablesDoesRow : OpenClaim := { program := "ythjcodkgcffamaa", sum := "79b0b81bf41a8928be601caf8baca10d0ebaa61b7f616330bebc911e1d7a9424", func := "buttress/buttresslaw14.TablesDoes", spec := "tablesDoes", inPlace := ["maps.clone"], unfollowed := true, recurses := true, apart := false }
def TablesDoesSaid : Prop := tablesDoesRow.holds Try.pinned (OpenSpec.ofChange tablesDoesSpec)

/-- ITS FALSE NEIGHBOUR: 'it returns false'. Refute it at one input. -/
def tablesDoesWrong : ChangeSpec := { name := "tablesDoes", fn := fun _ => fun
  | [d] => { results := [.lit (.bool false)], args := [d] }
  | _ => none }
def TablesDoesWrongFalsely : Prop := tablesDoesRow.holds Try.pinned (OpenSpec.ofChange tablesDoesWrong)

/-- 'buttresslaw14.TablesOnly': WHATEVER THE INPUT: true; the input reads as it did. -/
def tablesOnlySpec : ChangeSpec := { name := "tablesOnly", fn := fun _ => fun
  | [d1, d2, d3] => { results := [.lit (.bool true)], args := [d1, d2, d3] }
  | _ => none }
def tablesOnlyRow : OpenClaim := { program := "ythjcodkgcffamaa", sum := "79b0b81bf41a8928be601caf8baca10d0ebaa61b7f616330bebc911e1d7a9424", func := "buttress/buttresslaw14.TablesOnly", spec := "tablesOnly", unfollowed := true, recurses := true, apart := false }
def TablesOnlySaid : Prop := tablesOnlyRow.holds Try.pinned (OpenSpec.ofChange tablesOnlySpec)

/-- ITS FALSE NEIGHBOUR: 'it returns false'. Refute it at one input. -/
def tablesOnlyWrong : ChangeSpec := { name := "tablesOnly", fn := fun _ => fun
  | [d1, d2, d3] => { results := [.lit (.bool false)], args := [d1, d2, d3] }
  | _ => none }
def TablesOnlyWrongFalsely : Prop := tablesOnlyRow.holds Try.pinned (OpenSpec.ofChange tablesOnlyWrong)

/-- 'buttresslaw14.TablesApart': WHATEVER THE INPUT: true; the input reads as it did. -/
def tablesApartSpec : ChangeSpec := { name := "tablesApart", fn := fun _ => fun
  | [d1, d2] => { results := [.lit (.bool true)], args := [d1, d2] }
  | _ => none }
def tablesApartRow : OpenClaim := { program := "ythjcodkgcffamaa", sum := "79b0b81bf41a8928be601caf8baca10d0ebaa61b7f616330bebc911e1d7a9424", func := "buttress/buttresslaw14.TablesApart", spec := "tablesApart", unfollowed := true, recurses := true, apart := false }
def TablesApartSaid : Prop := tablesApartRow.holds Try.pinned (OpenSpec.ofChange tablesApartSpec)

/-- ITS FALSE NEIGHBOUR: 'it returns false'. Refute it at one input. -/
def tablesApartWrong : ChangeSpec := { name := "tablesApart", fn := fun _ => fun
  | [d1, d2] => { results := [.lit (.bool false)], args := [d1, d2] }
  | _ => none }
def TablesApartWrongFalsely : Prop := tablesApartRow.holds Try.pinned (OpenSpec.ofChange tablesApartWrong)

/-- 'buttresslaw14.TablesDrops': WHATEVER THE INPUT: true; the input reads as it did. -/
def tablesDropsSpec : ChangeSpec := { name := "tablesDrops", fn := fun _ => fun
  | [d1, d2] => { results := [.lit (.bool true)], args := [d1, d2] }
  | _ => none }
def tablesDropsRow : OpenClaim := { program := "ythjcodkgcffamaa", sum := "79b0b81bf41a8928be601caf8baca10d0ebaa61b7f616330bebc911e1d7a9424", func := "buttress/buttresslaw14.TablesDrops", spec := "tablesDrops", unfollowed := true, recurses := true, apart := false }
def TablesDropsSaid : Prop := tablesDropsRow.holds Try.pinned (OpenSpec.ofChange tablesDropsSpec)

/-- ITS FALSE NEIGHBOUR: 'it returns false'. Refute it at one input. -/
def tablesDropsWrong : ChangeSpec := { name := "tablesDrops", fn := fun _ => fun
  | [d1, d2] => { results := [.lit (.bool false)], args := [d1, d2] }
  | _ => none }
def TablesDropsWrongFalsely : Prop := tablesDropsRow.holds Try.pinned (OpenSpec.ofChange tablesDropsWrong)

/-- 'buttresslaw14.TablesFrames': WHATEVER THE INPUT: true; the input reads as it did. -/
def tablesFramesSpec : ChangeSpec := { name := "tablesFrames", fn := fun _ => fun
  | [d1, d2] => { results := [.lit (.bool true)], args := [d1, d2] }
  | _ => none }
def tablesFramesRow : OpenClaim := { program := "ythjcodkgcffamaa", sum := "79b0b81bf41a8928be601caf8baca10d0ebaa61b7f616330bebc911e1d7a9424", func := "buttress/buttresslaw14.TablesFrames", spec := "tablesFrames", unfollowed := true, recurses := true, apart := false }
def TablesFramesSaid : Prop := tablesFramesRow.holds Try.pinned (OpenSpec.ofChange tablesFramesSpec)

/-- ITS FALSE NEIGHBOUR: 'it returns false'. Refute it at one input. -/
def tablesFramesWrong : ChangeSpec := { name := "tablesFrames", fn := fun _ => fun
  | [d1, d2] => { results := [.lit (.bool false)], args := [d1, d2] }
  | _ => none }
def TablesFramesWrongFalsely : Prop := tablesFramesRow.holds Try.pinned (OpenSpec.ofChange tablesFramesWrong)

/-- 'buttresslaw14.TablesRights': WHATEVER THE INPUT: true; the input reads as it did. -/
def tablesRightsSpec : ChangeSpec := { name := "tablesRights", fn := fun _ => fun
  | [d1, d2, d3] => { results := [.lit (.bool true)], args := [d1, d2, d3] }
  | _ => none }
def tablesRightsRow : OpenClaim := { program := "ythjcodkgcffamaa", sum := "79b0b81bf41a8928be601caf8baca10d0ebaa61b7f616330bebc911e1d7a9424", func := "buttress/buttresslaw14.TablesRights", spec := "tablesRights", unfollowed := true, recurses := true, apart := false }
def TablesRightsSaid : Prop := tablesRightsRow.holds Try.pinned (OpenSpec.ofChange tablesRightsSpec)

/-- ITS FALSE NEIGHBOUR: 'it returns false'. Refute it at one input. -/
def tablesRightsWrong : ChangeSpec := { name := "tablesRights", fn := fun _ => fun
  | [d1, d2, d3] => { results := [.lit (.bool false)], args := [d1, d2, d3] }
  | _ => none }
def TablesRightsWrongFalsely : Prop := tablesRightsRow.holds Try.pinned (OpenSpec.ofChange tablesRightsWrong)

/- THE SECOND FORM. 'bulk': how many values and letters a reading holds, each counted each time it is reached (what is shared counts as often as it is met; a slice's spare places count too). A statement '..UptoSaid' is the law's where the arguments, and the package variables that the reading takes, are together of bulk at most 1048576: NARROWER than '..Said'. Prove '..Said' where nothing that the law and all that it calls make is longer than what came in: it says more and counts as full. Else prove '..UptoSaid'. A law counts once. -/
mutual
def uptoBulk {H : Type} : DataW H → Nat
  | .lit (.string bytes) => bytes.length + 1
  | .lit _ => 1
  | .nil => 1
  | .ptr d => uptoBulk d + 1
  | .slice elems spare => uptoBulkAll elems + uptoBulkAll spare + 1
  | .agg parts => uptoBulkAll parts + 1
  | .iface _ d => uptoBulk d + 1
  | .map entries => uptoBulkEntries entries + 1
  | .held _ => 1
def uptoBulkAll {H : Type} : List (DataW H) → Nat
  | [] => 0
  | d :: r => uptoBulk d + uptoBulkAll r
def uptoBulkEntries {H : Type} : List (Lit × DataW H) → Nat
  | [] => 0
  | x :: r => uptoBulkEntry x + uptoBulkEntries r
def uptoBulkEntry {H : Type} : Lit × DataW H → Nat
  | (.string bytes, d) => bytes.length + uptoBulk d + 1
  | (_, d) => uptoBulk d + 1
 end
def uptoSmall : (H : Type) → List (DataW H) → Bool := fun _ ds => decide (uptoBulkAll ds ≤ 1048576)
def OpenSpec.upto (s : _root_.Go.ChangeSpec) : _root_.Go.OpenSpec := { _root_.Go.OpenSpec.ofChange s with cond := some uptoSmall }

/-- 'buttresslaw14.TablesDoes', WHERE WHAT IT READS IS OF BULK AT MOST 1048576: true; the input reads as it did. -/
def tablesDoesUptoRow : OpenClaim := { program := "ythjcodkgcffamaa", sum := "79b0b81bf41a8928be601caf8baca10d0ebaa61b7f616330bebc911e1d7a9424", func := "buttress/buttresslaw14.TablesDoes", spec := "tablesDoes", inPlace := ["maps.clone"], unfollowed := true, recurses := true, apart := false, narrowed := true }
def TablesDoesUptoSaid : Prop := tablesDoesUptoRow.holds Try.pinned (OpenSpec.upto tablesDoesSpec)

/-- 'buttresslaw14.TablesOnly', WHERE WHAT IT READS IS OF BULK AT MOST 1048576: true; the input reads as it did. -/
def tablesOnlyUptoRow : OpenClaim := { program := "ythjcodkgcffamaa", sum := "79b0b81bf41a8928be601caf8baca10d0ebaa61b7f616330bebc911e1d7a9424", func := "buttress/buttresslaw14.TablesOnly", spec := "tablesOnly", unfollowed := true, recurses := true, apart := false, narrowed := true }
def TablesOnlyUptoSaid : Prop := tablesOnlyUptoRow.holds Try.pinned (OpenSpec.upto tablesOnlySpec)

/-- 'buttresslaw14.TablesApart', WHERE WHAT IT READS IS OF BULK AT MOST 1048576: true; the input reads as it did. -/
def tablesApartUptoRow : OpenClaim := { program := "ythjcodkgcffamaa", sum := "79b0b81bf41a8928be601caf8baca10d0ebaa61b7f616330bebc911e1d7a9424", func := "buttress/buttresslaw14.TablesApart", spec := "tablesApart", unfollowed := true, recurses := true, apart := false, narrowed := true }
def TablesApartUptoSaid : Prop := tablesApartUptoRow.holds Try.pinned (OpenSpec.upto tablesApartSpec)

/-- 'buttresslaw14.TablesDrops', WHERE WHAT IT READS IS OF BULK AT MOST 1048576: true; the input reads as it did. -/
def tablesDropsUptoRow : OpenClaim := { program := "ythjcodkgcffamaa", sum := "79b0b81bf41a8928be601caf8baca10d0ebaa61b7f616330bebc911e1d7a9424", func := "buttress/buttresslaw14.TablesDrops", spec := "tablesDrops", unfollowed := true, recurses := true, apart := false, narrowed := true }
def TablesDropsUptoSaid : Prop := tablesDropsUptoRow.holds Try.pinned (OpenSpec.upto tablesDropsSpec)

/-- 'buttresslaw14.TablesFrames', WHERE WHAT IT READS IS OF BULK AT MOST 1048576: true; the input reads as it did. -/
def tablesFramesUptoRow : OpenClaim := { program := "ythjcodkgcffamaa", sum := "79b0b81bf41a8928be601caf8baca10d0ebaa61b7f616330bebc911e1d7a9424", func := "buttress/buttresslaw14.TablesFrames", spec := "tablesFrames", unfollowed := true, recurses := true, apart := false, narrowed := true }
def TablesFramesUptoSaid : Prop := tablesFramesUptoRow.holds Try.pinned (OpenSpec.upto tablesFramesSpec)

/-- 'buttresslaw14.TablesRights', WHERE WHAT IT READS IS OF BULK AT MOST 1048576: true; the input reads as it did. -/
def tablesRightsUptoRow : OpenClaim := { program := "ythjcodkgcffamaa", sum := "79b0b81bf41a8928be601caf8baca10d0ebaa61b7f616330bebc911e1d7a9424", func := "buttress/buttresslaw14.TablesRights", spec := "tablesRights", unfollowed := true, recurses := true, apart := false, narrowed := true }
def TablesRightsUptoSaid : Prop := tablesRightsUptoRow.holds Try.pinned (OpenSpec.upto tablesRightsSpec)

end Rows
end Go.Proofs.Ythjcodkgcffamaa
