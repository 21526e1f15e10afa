/- Below: KTa; no condition. -/
import Derived.Test.YtbfjjpdnoalojaaGreatDoorPa13
import Derived.Test.YtbfjjpdnoalojaaGreatDoorPxMk1
set_option maxRecDepth 100000
namespace Go.Proofs.YtbfjjpdnoalojaaGreatDoor
namespace Ta
open Go.RowKit Go.Deep Go.Shelf
def SeeI (w:World) (ao:Option Addr) (A:List Int):Prop:=∀ i x,A[i]? = some x->∃ b o,ao=some ⟨b,o,none⟩/\b<w.heap.size/\w.cell? ⟨b,o+i,none⟩=some (.int .i64 x)
theorem SeeI.below {w w':World} {ao:Option Addr} {A:List Int} (h:SeeI w ao A) (k:Below w.heap.size w w'):SeeI w' ao A:=fun i x hx=>by
 obtain⟨b,o,e,hb,hc⟩:=h i x hx
 exact⟨b,o,e,Jrb hb k.size,(k.cell (p:=⟨b,o+i,none⟩) hb).trans hc⟩
open Go.MapKept Go.Maps
open Go.ChangeMaps (heap_setBlock_same heap_setBlock_other modify_eq_set)
theorem Jag {c d:Pg} (h:Jg c=Jg d):c=d:=by
 obtain⟨a,b⟩:=c
 obtain⟨a',b'⟩:=d
 simpa [Jg] using h
section
variable {w:World} {b r:Nat} {f:Int->Option Pg} {A:List (Int×Pg)} {cnt:Nat}
theorem Ranges.mem (h:Ranges w b r f A cnt):∀ p∈A,f p.1=some p.2:=by
 obtain⟨es,clock,since,seen,c0,hb,st,F,hr,_,_,_,_,hA,_⟩:=h
 intro p hp
 obtain⟨e,he,_,k,v⟩:=(hA p).1 hp
 obtain⟨s,c,_,k',v',hf⟩:=F.is e he
 rw[ZC (k.symm.trans k'),Jag (v.symm.trans v')]
 exact hf
theorem Ranges.all (h:Ranges w b r f A 0) (p:Int×Pg):p∈A↔f p.1=some p.2:=by
 refine⟨h.mem p,fun hf=>?_⟩
 obtain⟨es,clock,since,seen,c0,hb,st,F,hr,_,_,_,h0,hA,_⟩:=h
 obtain⟨e,he,k,v⟩:=F.all p.1 p.2 hf
 exact(hA p).2 ⟨e,he,all_seen es seen h0 e he,k,v⟩
theorem MapIs.range (h:MapIs w b f):∃ w' cnt,(Instr.range 194 (.map (some b))).run Tryz.prog w=.ok (.pointer (some ⟨w.heap.size,0,none⟩)) w'/\Ranges w' b w.heap.size f [] cnt/\w.grownBy w' none/\w'.heap.size=w.heap.size+1:=by
 have hlt:=h.lt
 obtain⟨es,clock,hb,st,F⟩:=h
 exact⟨_,_,run_range_map w _ _ _ b es clock Tryz.underlying194 hb,⟨es,clock,clock,#[],clock,(blk_alloc_lt _ _ _ hlt).trans hb,st,F,blk_alloc_new _ _,st.1,Jqd _,Jqd _,rfl,by simp,by simp⟩,World.grownBy_alloc w _ none,by simp⟩
end
end Ta
namespace Ta
open Go.ChangeShapes Go.WideShapes Go.ChangeAt Go.RowKit Go.Joins Go.Deep
def SeeK {α:Type} (k:Nat) (enc:α->List Value) (P:α->Prop) (W:World) (ao:Option Addr) (X:List α):Prop:=
 ∀ i x,X[i]? = some x->P x/\∃ b o,ao=some ⟨b,o,none⟩/\b<W.heap.size/\∀ j v,(enc x)[j]? = some v->W.cell? ⟨b,o+i*k+j,none⟩=some v
theorem SeeK.below {α:Type} {k:Nat} {enc:α->List Value} {P:α->Prop} {W W':World} {ao:Option Addr} {X:List α} {r:Nat} (h:SeeK k enc P W ao X) (hb:Below r W W') (hr:W.heap.size<=r):SeeK k enc P W' ao X:=fun i x hx=>by
 obtain⟨h1,b,o,e,hlt,hc⟩:=h i x hx
 exact⟨h1,b,o,e,Jrb hlt hb.size,fun j v hj=>(hb.cell (p:=⟨b,o+i*k+j,none⟩) (by simp only;omega)).trans (hc j v hj)⟩
end Ta
end Go.Proofs.YtbfjjpdnoalojaaGreatDoor
