/- Below: KSlT; no condition. -/
import Derived.Test.YtbfjjpdnoalojaaGreatDoorPa5
namespace Go.Proofs.YtbfjjpdnoalojaaGreatDoor
section
open Go.RowKit Go.Deep Go.Shelf
open Classical in
def nT (p:Nat) (F:Nat->Prop) (S:Sl.St):Th where
 F:=F
 H:=fun w=>Sl.Nds w p F S
 lt:=fun _ h=>h.lt
 keep:=fun w w' h k=>by
  obtain⟨m,v,h⟩:=h
  exact⟨m,v,{
   head:=(k _ h.fp).trans h.head
   row:=Sl.Jw h.row fun g hg=>k _ (h.fv g hg).1
   map:=h.map.of_block (k _ h.fm)
   fp:=h.fp
   fm:=h.fm
   fv:=h.fv
   pm:=h.pm
   lt:=fun x hx=>by
    have h1:=k x hx
    rw[Array.getElem?_eq_getElem (h.lt x hx)] at h1
    exact(Jqf.1 h1).1
   ok:=h.ok }⟩
theorem Jph (r:Nat) (w:World) (F:Nat->Prop):∃ L:List (Nat×Obj),∀ b,b∈L↔(r<=b.1/\¬ F b.1)/\w.heap[b.1]? = some b.2:=by
 classical
 refine⟨(List.range w.heap.size).filterMap fun b=>if r<=b/\¬ F b then (w.heap[b]?).map fun o=>(b,o) else none,fun b=>?_⟩
 rw[List.mem_filterMap]
 constructor
 ·rintro⟨x,_,h⟩
  split at h
  ·rename_i hx
   obtain⟨o,ho,e⟩:=Jqt.1 h
   subst e
   exact⟨hx,ho⟩
  ·cases h
 ·rintro⟨h1,h2⟩
  refine⟨b.1,List.mem_range.2 (Jqf.1 h2).1,?_⟩
  rw[if_pos h1,h2]
  rfl
open Classical in
theorem Sep.inSl {w0 w:World} {r p:Nat} {F:Nat->Prop} {S:Sl.St} {R:List Th} (s:Sep w0 r w (nT p F S::R)) :
  ∃ L,Sl.Has w r w p F S L []/\∀ w' F' T,Sl.Has w r w' p F' T L []->Sep w0 r w' (nT p F' T::R):=by
 obtain⟨L,hL⟩:=Jph r w F
 refine⟨L,⟨(s.each _ (Jms)).1,Below.refl _ _,(s.each _ (Jms)).2,s.size,fun b hb=>⟨((hL b).1 hb).2,((hL b).1 hb).1.2⟩,fun b hb=>by cases hb⟩,fun w' F' T h=>?_⟩
 have ha:=Jqq.1 s.apart
 have hk:∀ t∈R,∀ x,t.F x->w'.heap[x]? = w.heap[x]? /\ ¬ F' x:=fun t ht x hx=>by
  obtain⟨e1,e2⟩:=s.each t (Jmc ht)
  have hlt:=t.lt w e1 x hx
  have hg:w.heap[x]? = some w.heap[x]:=Array.getElem?_eq_getElem hlt
  have hm:(x,w.heap[x])∈L:=(hL _).2 ⟨⟨e2 x hx,fun hF=>ha.1 t ht x hF hx⟩,hg⟩
  obtain⟨k1,k2⟩:=h.blk _ hm
  exact⟨k1.trans hg.symm,k2⟩
 refine⟨s.low.trans h.low,h.size,fun u hu=>?_,Jqq.2 ⟨fun t ht x hx hx2=>(hk t ht x hx2).2 hx,ha.2⟩⟩
 rcases List.mem_cons.1 hu with rfl|hu
 ·exact⟨h.nds,h.own⟩
 ·obtain⟨e1,e2⟩:=s.each u (Jmc hu)
  exact⟨u.keep w w' e1 fun x hx=>(hk u hu x hx).1,e2⟩
end
end Go.Proofs.YtbfjjpdnoalojaaGreatDoor
