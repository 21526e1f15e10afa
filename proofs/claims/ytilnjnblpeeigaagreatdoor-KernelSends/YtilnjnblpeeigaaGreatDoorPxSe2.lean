/-
  What stands below: KTa; no condition but what each says.
-/
import Derived.Test.YtilnjnblpeeigaaGreatDoorPb1
import Derived.Test.YtilnjnblpeeigaaGreatDoorPb4
import Derived.Test.YtilnjnblpeeigaaGreatDoorPb13
import Derived.Below
import Derived.BigQuiet
import Derived.Deep.OwnRows
import Derived.Deep.QuietTactic
import Derived.Deep.RegionHeld3
import Derived.Deep.RegionLaw
import Derived.Deep.RegionWith
import Derived.Laws.AppendOwnNone
import Derived.Laws.CopyOwn
import Derived.Laws.StructEq
import Derived.Lib.SliceRun
import Derived.Lib.Walk
import Derived.Maps.AppendAt
import Derived.Shelf.Abstract
import Derived.Shelf.RegionOpenPlain
import Derived.Test.YtilnjnblpeeigaaGreatDoorRows
import Derived.WalkKit
import Derived.WalkLawsBesides
import Derived.Maps.Range
import Derived.Maps.RangeWalk
import Derived.Test.YtilnjnblpeeigaaGreatDoorProg
import Derived.Shelf.SlIterI.Nil
import Derived.Shelf.SortM.Plain
import Derived.Shelf.SortM.SortNone
import Derived.Shelf.SlMaps.Clone
import Derived.Laws.BitsAllLaws
import Derived.ProofKit
import Derived.OpenShut
import Derived.LaidMore
import Derived.Deep.DeepHandedRow
import Derived.Lib.SmallJoins
import Derived.Laws.IdiomArrays
import Derived.Deep.Slices
set_option maxRecDepth 100000
namespace Go.Proofs.YtilnjnblpeeigaaGreatDoor.Ta
open Go.RowKit Go.Deep Go.Shelf
def SeeI (w:World) (ao:Option Addr) (A:List Int):Prop:=∀ i x,A[i]? = some x->∃ b o,ao=some ⟨b,o,none⟩/\b<w.heap.size/\w.cell? ⟨b,o+i,none⟩=some (.int .i64 x)
theorem SeeI.below {w w':World} {ao:Option Addr} {A:List Int} (h:SeeI w ao A) (k:Below w.heap.size w w'):SeeI w' ao A:=fun i x hx=>by
 obtain ⟨b,o,e,hb,hc⟩:=h i x hx
 exact ⟨b,o,e,Nat.lt_of_lt_of_le hb k.size,(k.cell (p:=⟨b,o+i,none⟩) hb).trans hc⟩
end Go.Proofs.YtilnjnblpeeigaaGreatDoor.Ta
namespace Go.Proofs.YtilnjnblpeeigaaGreatDoor.Ta
open Go.ChangeShapes Go.WideShapes Go.ChangeAt Go.RowKit Go.Joins Go.Deep
def SeeK {α:Type} (k:Nat) (enc:α->List Value) (P:α->Prop) (W:World) (ao:Option Addr) (X:List α):Prop:=
 ∀ i x,X[i]? = some x->P x/\∃ b o,ao=some ⟨b,o,none⟩/\b<W.heap.size/\∀ j v,(enc x)[j]? = some v->W.cell? ⟨b,o+i*k+j,none⟩=some v
theorem SeeK.below {α:Type} {k:Nat} {enc:α->List Value} {P:α->Prop} {W W':World} {ao:Option Addr} {X:List α} {r:Nat} (h:SeeK k enc P W ao X) (hb:Below r W W') (hr:W.heap.size<=r):SeeK k enc P W' ao X:=fun i x hx=>by
 obtain ⟨h1,b,o,e,hlt,hc⟩:=h i x hx
 exact ⟨h1,b,o,e,Nat.lt_of_lt_of_le hlt hb.size,fun j v hj=>(hb.cell (p:=⟨b,o+i*k+j,none⟩) (by simp only;omega)).trans (hc j v hj)⟩
end Go.Proofs.YtilnjnblpeeigaaGreatDoor.Ta
