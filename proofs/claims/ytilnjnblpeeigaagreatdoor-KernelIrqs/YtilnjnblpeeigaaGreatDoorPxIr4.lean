/- Below: KTa; no condition. -/
import Derived.Test.YtilnjnblpeeigaaGreatDoorPb13
set_option maxRecDepth 100000
namespace Go.Proofs.YtilnjnblpeeigaaGreatDoor
namespace Ta
open Go.RowKit Go.Deep Go.Shelf
def SeeI (w:World) (ao:Option Addr) (A:List Int):Prop:=∀ i x,A[i]? = some x->∃ b o,ao=some ⟨b,o,none⟩/\b<w.heap.size/\w.cell? ⟨b,o+i,none⟩=some (.int .i64 x)
theorem SeeI.below {w w':World} {ao:Option Addr} {A:List Int} (h:SeeI w ao A) (k:Below w.heap.size w w'):SeeI w' ao A:=fun i x hx=>by
 obtain⟨b,o,e,hb,hc⟩:=h i x hx
 exact⟨b,o,e,Nat.lt_of_lt_of_le hb k.size,(k.cell (p:=⟨b,o+i,none⟩) hb).trans hc⟩
open Go.ChangeShapes Go.WideShapes Go.ChangeAt Go.Joins
def SeeK {α:Type} (k:Nat) (enc:α->List Value) (P:α->Prop) (W:World) (ao:Option Addr) (X:List α):Prop:=
 ∀ i x,X[i]? = some x->P x/\∃ b o,ao=some ⟨b,o,none⟩/\b<W.heap.size/\∀ j v,(enc x)[j]? = some v->W.cell? ⟨b,o+i*k+j,none⟩=some v
theorem SeeK.below {α:Type} {k:Nat} {enc:α->List Value} {P:α->Prop} {W W':World} {ao:Option Addr} {X:List α} {r:Nat} (h:SeeK k enc P W ao X) (hb:Below r W W') (hr:W.heap.size<=r):SeeK k enc P W' ao X:=fun i x hx=>by
 obtain⟨h1,b,o,e,hlt,hc⟩:=h i x hx
 exact⟨h1,b,o,e,Nat.lt_of_lt_of_le hlt hb.size,fun j v hj=>(hb.cell (p:=⟨b,o+i*k+j,none⟩) (by simp only;omega)).trans (hc j v hj)⟩
end Ta
end Go.Proofs.YtilnjnblpeeigaaGreatDoor
