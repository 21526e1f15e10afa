/- Below: KThA; no condition. -/
import Derived.Test.YtbfjjpdnoalojaaGreatDoorPa1
import Derived.Test.YtbfjjpdnoalojaaGreatDoorPa3
import Derived.Test.YtbfjjpdnoalojaaGreatDoorProg
import Derived.Maps.Range
import Derived.Maps.RangeWalk
import Derived.Lib.AppendZerosOnto
import Derived.Deep.Cut
import Derived.Deep.CutRange
set_option maxHeartbeats 16000000
set_option maxRecDepth 100000
namespace Go.Proofs.YtbfjjpdnoalojaaGreatDoor
namespace Th
theorem Jdz {h:Hs} (v:Inv h) {i:Nat} (hi:i<h.L.length) (hs:(thr h i).st≠1) {c:Nat} (hc:c<h.Q.length):O8 (ZO h c) i=false:=by
 cases hb:O8 (ZO h c) i with
 | false=>rfl
 | true =>
  obtain⟨y,hy,hn⟩:=Jcl hb
  exact absurd (v.nums hc (M1 hi) hy hn).2.1 hs
theorem Xx {Q:List St} {c:Nat} (hc:c<Q.length):Q.set c (Q.getD c [])=Q:=by
 rw[List.getD_eq_getElem?_getD,List.getElem?_eq_getElem hc]
 simp
theorem Jaq {h:Hs} (v:Inv h) {i:Nat} (hi:i<h.L.length) (hs:(thr h i).st≠1) (x:Td) (hx:x.c<h.Q.length) (hp:x.p<256) :
  Xc h i x=⟨h.L.set i x,if x.st=1 then h.Q.set x.c (ZL (ZO h x.c) x.p i) else h.Q⟩:=by
 have hc:=(JL v hi).c
 have e1:takeS (h.Q.getD (thr h i).c []) i=h.Q.getD (thr h i).c []:=OE (Jdz v hi hs hc)
 unfold Xc Ge
 simp only
 rw[e1,Xx hc]
 split
 ·have e2:ZL (ZO h x.c) x.p i=ZO h x.c++[⟨x.p,(i:Int)⟩]:=by
   have:VX (ZO h x.c) x.p i=0:=by
    unfold VX
    rw[if_pos (by omega),Jdz v hi hs hx]
    rfl
   simp[ZL,this]
  rw[e2]
  rfl
 ·rfl
theorem Jn1 {h:Hs} {i:Nat} (x:Td) (hs:x.st≠1):Xc h i x=⟨h.L.set i x,h.Q.set (thr h i).c (takeS (ZO h (thr h i).c) i)⟩:=by
 unfold Xc Ge
 simp only[hs,if_false]
 rfl
def z8:List Int:=List.replicate 8 0
open Go.RowKit
theorem Zr (n:Int) (w:World) (h0:0<=n) (h1:n<256) :
  Calls Tryz.prog 345 #[.int .i64 n] w fun e w'=>e=.returned (.bool true)/\w'=w:=by
 go_enter Tryz.func345,Tryz.ntmps345
 go_wp2
 go_ret
 exact⟨rfl,rfl⟩
theorem V5 (n:Int) (w:World) (h0:0<=n) (h1:n<256) :
  Calls Tryz.prog 346 #[.int .i64 n] w fun e w'=>e=.returned (.int .u64 (VP n))/\w'=w:=by
 go_enter Tryz.func346,Tryz.ntmps346
 go_wp2
 go_ret
 exact⟨Jm (Jjl n),rfl⟩
open Go.Deep
def cI (n:Int):List Value:=[.int .i64 n]
theorem U2 (n:Int):(cI n).length=1:=rfl
theorem Jjo (n:Int):∀ v∈cI n,v.oneCell'=true:=by simp[cI,Value.oneCell']
theorem Jx5 (L:List Int):Jc cI L=L.map fun n=>.int .i64 n:=by
 unfold Jc cI
 induction L with
 | nil=>rfl
 | cons a L ih=>simp[ih]
def RowI (w:World) (v:Value) (L:List Int):Prop:=w.ownsRow 0 3 1 v L.length (Jc cI L)
section
variable {w w':World} {v:Value} {L:List Int}
theorem RowI.slice (h:RowI w v L):∃ ao cap,v=.slice ao L.length cap/\L.length<=cap/\cap<=9223372036854775807/\(∀ i,i<L.length->∃ g,ao=some ⟨g,0,none⟩)/\(ao=none->L=[]):=by
 rcases h.2 with ⟨rfl,h0⟩|⟨g,cap,cur,rfl,_,_,h1,h2,_⟩
 ·exact⟨none,0,by rw[h0],by omega,by omega,fun i hi=>by omega,fun _=>List.length_eq_zero_iff.1 h0⟩
 ·exact⟨some ⟨g,0,none⟩,cap,rfl,h1,by unfold maxLen at h2;omega,fun _ _=>⟨g,rfl⟩,fun e=>by cases e⟩
theorem RowI.cell {g cap n:Nat} (h:RowI w (.slice (some ⟨g,0,none⟩) n cap) L) {i:Nat} {x:Int} (hi:L[i]? = some x):w.cell? ⟨g,i,none⟩=some (.int .i64 x):=by
 have hc:=World.ownsRow.cells h (g:=g) rfl
 have e0:=hc i (.int .i64 x) (by rw[Jx5,List.getElem?_map,hi];rfl)
 rw[JG,Nat.zero_add] at e0
 exact e0
theorem RowI.lt (h:RowI w v L) {x:Nat} (hx:v.ownBlock=some x):x<w.heap.size:=(World.ownsRow.lt h x hx).2
theorem RowI.keep (h:RowI w v L) (k:∀ x,v.ownBlock=some x->w'.heap[x]? = w.heap[x]?):RowI w' v L:=Jw h k
theorem RowI.below (h:RowI w v L) (k:Below w.heap.size w w'):RowI w' v L:=h.keep fun x hx=>k.block x (h.lt hx)
theorem Jl3 (w:World):RowI w (.slice none 0 0) []:=⟨rfl,.inl ⟨rfl,rfl⟩⟩
end
end Th
namespace Th
open Go.RowKit Go.Deep Go.MapKept Go.Maps
open Go.ChangeMaps (setBlock heap_setBlock_same heap_setBlock_other modify_eq_set)
abbrev Jh (s:Int):Value:=.int .i64 s
abbrev Jg (s:Int):Value:=.int .i64 s
theorem ZC {s t:Int} (h:Jh s=Jh t):s=t:=by simpa [Jh] using h
theorem Zy:Keyed Tryz.prog 3:=int_keyed Tryz.underlying3
theorem OI {x:Int} (h:VC x):(Lit.int .i64 x).wf=true:=by
 unfold VC at h
 simp[Lit.wf,IntKind.min,IntKind.max,IntKind.bits,IntKind.signed]
 omega
theorem XX {s:Int} (h:VC s):∃ l,keyOf Tryz.prog 3 (Jh s)=some l:=by
 refine⟨.int .i64 s,?_⟩
 simp[keyOf,mapKey,Tryz.underlying3,OI h]
theorem MR {l:List MapEntry} (hp:l.Pairwise (fun x y=>x.key≠y.key)) {i j:Nat} {x y:MapEntry} (hi:l[i]? = some x) (hj:l[j]? = some y) (hne:i≠j):x.key≠y.key:=by
 obtain⟨hi1,rfl⟩:=Jqb.1 hi
 obtain⟨hj1,rfl⟩:=Jqb.1 hj
 rcases Nat.lt_or_gt_of_ne hne with h|h
 ·exact List.pairwise_iff_getElem.1 hp i j hi1 hj1 h
 ·exact(List.pairwise_iff_getElem.1 hp j i hj1 hi1 h).symm
structure Full (es:Array MapEntry) (f:Int->Option Int):Prop where
 is:∀ e∈es.toList,∃ s c,VC s/\e.key=Jh s/\e.val=Jg c/\f s=some c
 all:∀ s c,f s=some c->∃ e∈es.toList,e.key=Jh s/\e.val=Jg c
def MapIs (w:World) (b:Nat) (f:Int->Option Int):Prop:=∃ es clock,w.heap[b]? = some (.map es clock)/\Stamped es clock/\Full es f
theorem MapIs.lt {w:World} {b:Nat} {f:Int->Option Int} (h:MapIs w b f):b<w.heap.size:=by
 obtain⟨es,clock,hb,_⟩:=h
 exact(Jqf.1 hb).1
theorem MapIs.of_block {w w':World} {b:Nat} {f:Int->Option Int} (h:MapIs w b f) (e:w'.heap[b]? = w.heap[b]?):MapIs w' b f:=by
 obtain⟨es,clock,hb,r⟩:=h
 exact⟨es,clock,e.trans hb,r⟩
theorem MapIs.new (w:World):MapIs (w.alloc (.map #[] 0)) w.heap.size fun _=>none:=
 ⟨#[],0,blk_alloc_new _ _,stamped_empty 0,⟨by simp,fun _ _ h=>by cases h⟩⟩
theorem MapIs.congr {w:World} {b:Nat} {f g:Int->Option Int} (h:MapIs w b f) (e:∀ s,g s=f s):MapIs w b g:=by
 obtain rfl:g=f:=funext e
 exact h
theorem Full.keys {es:Array MapEntry} {f:Int->Option Int} (h:Full es f):∀ e∈es.toList,∃ l,keyOf Tryz.prog 3 e.key=some l:=fun e he=>by
 obtain⟨s,c,hs,e1,_,_⟩:=h.is e he
 rw[e1]
 exact XX hs
theorem Jni (w:World):(zeroValue 3).run Tryz.prog w=.ok (Jg 0) w:=by kernel_rfl
section
variable {w:World} {b:Nat} {f:Int->Option Int}
theorem MapIs.look (h:MapIs w b f) {s:Int} (hs:VC s) (ok:Bool):(Instr.lookup 325 (.map (some b)) (Jh s) ok).run Tryz.prog w=.ok (if ok then .tuple #[Jg ((f s).getD 0),.bool (f s).isSome] else Jg ((f s).getD 0)) w:=by
 obtain⟨es,clock,hb,st,F⟩:=h
 obtain⟨l,hl⟩:=XX hs
 rcases Zy.find w hl es.toList F.keys with ⟨h1,h2⟩|⟨j,e0,h1,h2,h3⟩
 ·have hn:f s=none:=by
   cases hf:f s with
   | none=>rfl
   | some c =>
    obtain⟨e,he,ek,_⟩:=F.all s c hf
    exact absurd ek (h2 e he)
  simp[Instr.lookup,run_underlying Tryz.underlying325,MapKept.run_getObj_map hb,Zy.check w _ hl,h1,Jni w,Result.andThen,hn]
 ·obtain⟨t,c,_,ek,ev,ft⟩:=F.is e0 (Jqi h2)
  obtain rfl:t=s:=ZC (ek.symm.trans h3)
  simp[Instr.lookup,run_underlying Tryz.underlying325,MapKept.run_getObj_map hb,Zy.check w _ hl,h1,Result.andThen,ft,ev]
def UF (f:Int->Option Int) (s:Int) (c:Int):Int->Option Int:=fun t=>if t=s then some c else f t
def Mb (f:Int->Option Int) (s:Int):Int->Option Int:=fun t=>if t=s then none else f t
theorem MapIs.store (h:MapIs w b f) {s:Int} (hs:VC s) (c:Int) :
  ∃ w',(Instr.mapUpdate 325 (.map (some b)) (Jh s) (Jg c)).run Tryz.prog w=.ok () w'/\MapIs w' b (UF f s c)/\w.grownBy w' (some b)/\w'.heap.size=w.heap.size:=by
 obtain⟨es,clock,hb,st,F⟩:=h
 obtain⟨l,hl⟩:=XX hs
 have gb:∀ o,w.grownBy (ChangeMaps.setBlock w b o) (some b):=fun o=>⟨rfl,rfl,rfl,by simp[ChangeMaps.setBlock],fun i _ hi=>heap_setBlock_other hb _ (fun e=>hi (by rw[e]))⟩
 rcases Zy.find w hl es.toList F.keys with ⟨h1,h2⟩|⟨j,e0,h1,h2,h3⟩
 ·refine⟨_,by simp[Instr.mapUpdate,run_underlying Tryz.underlying325,MapKept.run_getObj_map hb,Zy.check w false hl,h1,MapKept.run_setObj_map _ hb,Result.andThen];rfl,⟨es.push ⟨Jh s,Jg c,clock⟩,clock+1,heap_setBlock_same hb _,stamped_push st h2,?_,?_⟩,gb _,by simp[ChangeMaps.setBlock]⟩
  ·intro e he
   simp only[Array.toList_push,List.mem_append,List.mem_singleton] at he
   rcases he with he|rfl
   ·obtain⟨t,d,ht,e1,e2,e3⟩:=F.is e he
    refine⟨t,d,ht,e1,e2,?_⟩
    have:¬ t=s:=fun q=>h2 e he (by rw[e1,q])
    simp[UF,this,e3]
   ·exact⟨s,c,hs,rfl,rfl,by simp[UF]⟩
  ·intro t d ht
   simp only[Array.toList_push,List.mem_append,List.mem_singleton]
   unfold UF at ht
   split at ht
   ·rename_i q
    cases ht
    exact⟨_,.inr rfl,by rw[q],rfl⟩
   ·obtain⟨e,he,r⟩:=F.all t d ht
    exact⟨e,.inl he,r⟩
 ·have hj:es[j]? = some e0:=by simpa using h2
  have hjl:j<es.toList.length:=(Jqb.1 h2).1
  have hkeyf:∀ e',es[j]? = some e'->({ e' with key:=Jh s,val:=Jg c }:MapEntry).key=e'.key:=fun e' he'=>by rw[hj] at he';cases he';exact h3.symm
  have hlist:(es.modify j (fun e'=>{ e' with key:=Jh s,val:=Jg c })).toList=es.toList.set j { e0 with key:=Jh s,val:=Jg c }:=by rw[Array.toList_modify,modify_eq_set _ _ _ _ h2]
  have hap:=((stamped_iff es clock).1 st).2.2
  refine⟨_,by simp[Instr.mapUpdate,run_underlying Tryz.underlying325,MapKept.run_getObj_map hb,Zy.check w false hl,h1,hj,h3,Zy.stays w hl,MapKept.run_setObj_map _ hb,Result.andThen];rfl,
   ⟨es.modify j (fun e'=>{ e' with key:=Jh s,val:=Jg c }),clock,heap_setBlock_same hb _,stamped_modify st _ _ (fun _ _=>rfl) (fun e' _ he'=>hkeyf e' he'),?_,?_⟩,gb _,by simp[ChangeMaps.setBlock]⟩
  ·intro e he
   rw[hlist] at he
   obtain⟨i,hi,ex⟩:=List.getElem_of_mem he
   rw[List.getElem_set] at ex
   split at ex
   ·subst ex
    exact⟨s,c,hs,rfl,rfl,by simp[UF]⟩
   ·rename_i hne
    have hi':i<es.toList.length:=by simpa using hi
    obtain⟨t,d,ht,e1,e2,e3⟩:=F.is e (ex ▸ List.getElem_mem hi')
    refine⟨t,d,ht,e1,e2,?_⟩
    have:¬ t=s:=fun q=>by
     have a1:es.toList[i]? = some e:=by rw[List.getElem?_eq_getElem hi',ex]
     exact MR hap a1 h2 (fun h=>hne h.symm) (by rw[e1,q,h3])
    simp[UF,this,e3]
  ·intro t d ht
   rw[hlist]
   unfold UF at ht
   split at ht
   ·rename_i q
    cases ht
    exact⟨{ e0 with key:=Jh s,val:=Jg c },List.mem_iff_getElem.2 ⟨j,by simpa using hjl,by simp⟩,by rw[q],rfl⟩
   ·rename_i q
    obtain⟨e,he,r1,r2⟩:=F.all t d ht
    obtain⟨i,hi⟩:=List.getElem?_of_mem he
    refine⟨e,List.mem_iff_getElem?.2 ⟨i,?_⟩,r1,r2⟩
    rw[List.getElem?_set]
    by_cases hij:j=i
    ·subst hij
     rw[h2] at hi
     cases hi
     exact absurd (ZC (r1.symm.trans h3)) q
    ·simp[hij,hi]
theorem MapIs.drop (h:MapIs w b f) {s:Int} (hs:VC s) (ty:TypeId) :
  ∃ w',(Builtin.delete_ #[325,3] ty #[.map (some b),Jh s]).run Tryz.prog w=.ok (.tuple #[]) w'/\MapIs w' b (Mb f s)/\w.grownBy w' (some b)/\w'.heap.size=w.heap.size:=by
 obtain⟨es,clock,hb,st,F⟩:=h
 obtain⟨l,hl⟩:=XX hs
 have gb:∀ o,w.grownBy (ChangeMaps.setBlock w b o) (some b):=fun o=>⟨rfl,rfl,rfl,by simp[ChangeMaps.setBlock],fun i _ hi=>heap_setBlock_other hb _ (fun e=>hi (by rw[e]))⟩
 rcases Zy.find w hl es.toList F.keys with ⟨h1,h2⟩|⟨j,e0,h1,h2,h3⟩
 ·refine⟨_,by simp[Builtin.delete_,run_underlying Tryz.underlying325,MapKept.run_getObj_map hb,Zy.check w _ hl,h1,MapKept.run_setObj_map _ hb,Result.andThen];rfl,⟨es,clock,heap_setBlock_same hb _,st,?_,?_⟩,gb _,by simp[ChangeMaps.setBlock]⟩
  ·intro e he
   obtain⟨t,d,ht,e1,e2,e3⟩:=F.is e he
   have:¬ t=s:=fun q=>h2 e he (by rw[e1,q])
   exact⟨t,d,ht,e1,e2,by simp[Mb,this,e3]⟩
  ·intro t d ht
   unfold Mb at ht
   split at ht
   ·cases ht
   ·exact F.all t d ht
 ·have hjl:j<es.toList.length:=(Jqb.1 h2).1
  have hjs:j<es.size:=by simpa using hjl
  have hsub:(es.eraseIdxIfInBounds j).toList=es.toList.eraseIdx j:=by
   unfold Array.eraseIdxIfInBounds
   rw[dif_pos hjs]
   simp
  have hap:=((stamped_iff es clock).1 st).2.2
  refine⟨_,by simp[Builtin.delete_,run_underlying Tryz.underlying325,MapKept.run_getObj_map hb,Zy.check w _ hl,h1,MapKept.run_setObj_map _ hb,Result.andThen];rfl,⟨es.eraseIdxIfInBounds j,clock,heap_setBlock_same hb _,stamped_erase st j,?_,?_⟩,gb _,by simp[ChangeMaps.setBlock]⟩
  ·intro e he
   rw[hsub,List.mem_eraseIdx_iff_getElem?] at he
   obtain⟨i,hne,hi⟩:=he
   obtain⟨t,d,ht,e1,e2,e3⟩:=F.is e (Jqi hi)
   refine⟨t,d,ht,e1,e2,?_⟩
   have:¬ t=s:=fun q=>by
    exact MR hap hi h2 hne (by rw[e1,q,h3])
   simp[Mb,this,e3]
  ·intro t d ht
   unfold Mb at ht
   split at ht
   ·cases ht
   ·rename_i q
    obtain⟨e,he,r1,r2⟩:=F.all t d ht
    obtain⟨i,hi⟩:=List.getElem?_of_mem he
    refine⟨e,?_,r1,r2⟩
    rw[hsub,List.mem_eraseIdx_iff_getElem?]
    refine⟨i,fun hij=>q ?_,hi⟩
    subst hij
    rw[h2] at hi
    cases hi
    exact ZC (r1.symm.trans h3)
end
def Ranges (w:World) (b r:Nat) (f:Int->Option Int) (A:List (Int×Int)) (cnt:Nat):Prop:=
 ∃ es clock since seen c0,w.heap[b]? = some (.map es clock)/\Stamped es clock/\Full es f/\w.heap[r]? = some (.mapIter (some b) since seen c0)/\(∀ x∈es.toList,x.born<since)/\since<=c0/\since<=clock /\
  (leftOf es seen).size=cnt/\(∀ p,p∈A↔∃ e∈es.toList,seen.contains e.born=true/\e.key=Jh p.1/\e.val=Jg p.2)/\A.Pairwise (fun p q=>p.1≠q.1)
section
variable {w:World} {b r:Nat} {f:Int->Option Int} {A:List (Int×Int)} {cnt:Nat}
theorem Ranges.map (h:Ranges w b r f A cnt):MapIs w b f:=by
 obtain⟨es,clock,_,_,_,hb,st,F,_⟩:=h
 exact⟨es,clock,hb,st,F⟩
end
end Th
namespace Th
open Go.RowKit Go.Deep Go.Shelf
def ZH (L:List Value) (o:Nat) (cs:List Value):List Value:=L.take o++cs++L.drop (o+cs.length)
theorem IR (L:List Value) (o:Nat) (cs:List Value) (h:o+cs.length<=L.length):(ZH L o cs).length=L.length:=by
 unfold ZH
 simp
 omega
theorem VH (A Z cs:List Value) (o:Nat) (h:A.length=o):ZH (A++Z) o cs=A++cs++Z.drop cs.length:=by
 subst h
 unfold ZH
 rw[List.take_left,List.drop_append]
 have e1:A.length+cs.length - A.length=cs.length:=by omega
 have e2:List.drop (A.length+cs.length) A=[]:=List.drop_of_length_le (by omega)
 rw[e1,e2,List.nil_append]
theorem OP:(Tryz.prog.info? 3).map (fun i=>(i.zero,i.size,i.bytes))=some (some (.int .i64 0),1,8):=by kernel_rfl
theorem XU (w:World) (ty:TypeId) (v:Value) (L:List Int) (n:Int) (q:Nat) (hown:RowI w v L) (hq:w.cell? ⟨q,0,none⟩=some (.int .i64 n)) (hl:L.length<=1000000) :
  ∃ v' w',(Builtin.append_ #[22,22] ty #[v,.slice (some ⟨q,0,none⟩) 1 1]).run Tryz.prog w=.ok v' w'/\RowI w' v' (L++[n])/\w.grownBy w' v.ownBlock/\(v'.ownBlock=v.ownBlock\/v'.ownBlock=some w.heap.size):=by
 obtain⟨i,hi,hz⟩:=Jqt.1 OP
 simp only[Prod.mk.injEq] at hz
 obtain⟨v',w',r1,r2,r3,_,r5⟩:=run_append_own_at (P:=Tryz.prog) (w:=w) 0 22 ty 3 i _ 1 8 Tryz.underlying22 hi hz.1 hz.2.1 hz.2.2 rfl (by decide) v L.length (Jc cI L) hown ⟨q,0,none⟩ 1 1 (cI n) rfl
  (fun j u hj=>by
   rw[JG]
   have h1:j=0:=by have:=(Jqb.1 hj).1;simp[cI] at this;omega
   subst h1
   simp only[cI,List.getElem?_cons_zero,Option.some.injEq] at hj
   rw[<- hj]
   exact hq) (Jjo n) (by unfold maxLen;omega) (by omega) (by omega)
 refine⟨v',w',r1,?_,r3,r5⟩
 unfold RowI
 rw[List.length_append,Jt,JE]
 simpa [Jc] using r2
theorem XW (g cap:Nat) (L:List Int) (i:Nat) (n:Int) (w:World) (h:RowI w (.slice (some ⟨g,0,none⟩) L.length cap) L) (hi:L[i]? = some n) (ha:∀ j,j<i->L[j]? ≠ some n) (hl:L.length<=1000) :
  Calls Tryz.prog 341 #[.slice (some ⟨g,0,none⟩) L.length cap,.int .i64 n] w fun e w'=>e=.returned (.int .i64 (i:Nat))/\w'=w:=by
 have hil:=(Jqb.1 hi).1
 have HC:Hid (∀ j,j<L.length->∃ x,w.cell? ⟨g,j,none⟩=some (.int .i64 x)/\(j<i->x≠n)/\(j=i->x=n)):=fun j hj=>by
  refine⟨L[j],h.cell (Jqc hj),fun hji e=>ha j hji (by rw[List.getElem?_eq_getElem hj,e]),fun e=>?_⟩
  subst e
  rw[List.getElem?_eq_getElem hj] at hi
  simpa using hi
 clear h hi ha
 generalize L.length=m at *
 go_enter Tryz.func341,Tryz.ntmps341
 go_wp2
 go_loop [5,8] (fun _ s8=>∃ k:Nat,k<=i/\s8=.int .i64 k) (fun _ s8=>i - (intOf s8).toNat)
 case atStart=>exact⟨0,Jqp _,rfl⟩
 case round =>
  obtain⟨k,hk,rfl⟩:=hrel
  obtain⟨x,hx,h1,h2⟩:=HC.out k (by omega)
  have hlt:k<m:=by omega
  have hltz:(k:Int)<(m:Int):=by omega
  by_cases hki:k=i
  ·obtain rfl:=h2 hki
   subst hki
   clear h1 h2
   go_wp2
   go_ret
   exact⟨rfl,rfl⟩
  ·have hne:(n == x)=false:=by simpa using fun e=>h1 (by omega) e.symm
   clear h1 h2
   go_wp2
   go_round
   case rel=>exact⟨k+1,by omega,by go_num⟩
   case measure=>simp[intOf];omega
theorem X5 {w:World} {g cap n:Nat} {L:List Int} (h:RowI w (.slice (some ⟨g,0,none⟩) n cap) L):∃ Z:List Value,w.heap[g]? = some (.cells (Jc cI L++Z).toArray 3 (0,0))/\Z.length=cap - L.length/\n=L.length:=by
 obtain⟨h0,⟨e,_⟩|⟨g',cap',cur,e,_,hg,h1,h2,h3,h4⟩⟩:=h
 ·cases e
 ·cases e
  refine⟨cur.toList.drop (L.length*1),?_,?_,rfl⟩
  ·rw[<- h4,List.take_append_drop,Array.toArray_toList]
   exact hg
  ·rw[List.length_drop,Array.length_toList,h3]
   omega
theorem Mv {w:World} {g cap:Nat} {L:List Int} {Z:List Value} (hg:w.heap[g]? = some (.cells (Jc cI L++Z).toArray 3 (0,0))) (hz:Z.length=cap - L.length) (hc:L.length<=cap) (hm:cap<=9223372036854775807):RowI w (.slice (some ⟨g,0,none⟩) L.length cap) L:=by
 have hl:=Jj U2 L
 refine⟨hl,.inr ⟨g,cap,_,rfl,Jqp _,hg,hc,by unfold maxLen;omega,?_,?_⟩⟩
 ·rw[List.size_toArray,List.length_append,hl,hz]
  omega
 ·show List.take (L.length*1) (Jc cI L++Z)=Jc cI L
  rw[<- hl,List.take_left]
theorem Mk {w:World} {g:Nat} {A B Z:List Value} {o:Nat} (hg:w.heap[g]? = some (.cells (A++(B++Z)).toArray 3 (0,0))) (ho:A.length=o):∀ j v,B[j]? = some v->w.cell? ((⟨g,o,none⟩:Addr).add j)=some v:=by
 intro j v hj
 subst ho
 have hl:=(Jqb.1 hj).1
 rw[JG]
 simp only[World.cell?,hg,List.getElem?_toArray]
 rw[List.getElem?_append_right (by omega),List.getElem?_append_left (by omega),Nat.add_sub_cancel_left]
 exact hj
def z1:List Value:=[.int .i64 0]
theorem Oc (w:World) (ty:TypeId) (g o c:Nat) (cur:Array Value) (hg:w.heap[g]? = some (.cells cur 3 (0,0))) (hfit:o+1<=cur.size) :
  (Builtin.clear_ #[22] ty #[.slice (some ⟨g,o,none⟩) 1 c]).run Tryz.prog w=.ok (.tuple #[]) (w.setRow g (ZH cur.toList o z1).toArray):=by
 have hst:=run_storeCells_at Tryz.prog g o 3 z1 0 cur w hg (by simp[z1];omega) (by simp[z1,Value.oneCell'])
 simp only[Nat.add_zero] at hst
 have hzc:(Builtin.zeroCells (Value.int .i64 0).cells 1).toList=z1:=by
  simp[Builtin.zeroCells,Value.cells,z1]
 have hv:=Tryz.zeroValue3
 unfold ZH
 simp[Builtin.clear_,run_underlying Tryz.underlying22,hv,hzc,hst]
theorem U4 (g cap:Nat) (S:List Int) (i:Nat) (w:World) (h:RowI w (.slice (some ⟨g,0,none⟩) S.length cap) S) (hi:i<S.length) (hl:S.length<=1000) :
  Calls Tryz.prog 347 #[.slice (some ⟨g,0,none⟩) S.length cap,.int .i64 i,.int .i64 ((i:Int)+1)] w fun e w'=>e=.returned (.slice (some ⟨g,0,none⟩) (S.length - 1) cap)/\RowI w' (.slice (some ⟨g,0,none⟩) (S.length - 1) cap) (S.eraseIdx i)/\w.grownBy w' (some g):=by
 obtain⟨_,_,e0,hcn,hc63,-⟩:=h.slice
 cases e0
 obtain⟨Z,hg,hzl,-⟩:=X5 h
 have fl:(Jc cI S).length=S.length:=by rw[Jj U2,Nat.mul_one]
 have flt:(Jc cI (S.take i)).length=i:=by rw[Jj U2,List.length_take];omega
 have flt1:(Jc cI (S.take (i+1))).length=i+1:=by rw[Jj U2,List.length_take];omega
 have fld:(Jc cI (S.drop (i+1))).length=S.length - (i+1):=by rw[Jj U2,List.length_drop,Nat.mul_one]
 have fsp:Jc cI S=Jc cI (S.take (i+1))++Jc cI (S.drop (i+1)):=by rw[<- Jt,List.take_append_drop]
 have fsp0:Jc cI S=Jc cI (S.take i)++Jc cI (S.drop i):=by rw[<- Jt,List.take_append_drop]
 have hcells:∀ j v,(Jc cI (S.drop (i+1)))[j]? = some v->w.cell? ((⟨g,i+1,none⟩:Addr).add j)=some v:=Mk (A:=Jc cI (S.take (i+1))) (Z:=Z) (by rw[fsp,List.append_assoc] at hg;exact hg) flt1
 obtain⟨ti,hti,hz⟩:=Jqt.1 OP
 simp only[Prod.mk.injEq] at hz
 obtain⟨L1,hL1⟩:∃ L1,L1=ZH (Jc cI S++Z) i (Jc cI (S.drop (i+1))):=⟨_,rfl⟩
 obtain⟨ad,had,hsrc⟩:∃ A:Addr,(if cap=i+1 then some (⟨g,0,none⟩:Addr) else some ⟨g,i+1,none⟩)=some A/\(∀ t u,(Jc cI (S.drop (i+1)))[t]? = some u->w.drew.cell? (A.add t)=some u):=by
  by_cases hc:cap=i+1
  ·refine⟨⟨g,0,none⟩,by simp[hc],fun t u hu=>?_⟩
   have h0:(Jc cI (S.drop (i+1))).length=0:=by rw[fld];omega
   rw[List.length_eq_zero_iff.1 h0] at hu
   simp at hu
  ·exact⟨⟨g,i+1,none⟩,by simp[hc],hcells⟩
 have run1:Hid (∀ ty sc,(Builtin.append_ #[22,22] ty #[.slice (some ⟨g,0,none⟩) i cap,.slice (some ad) (S.length - (i+1)) sc]).run Tryz.prog w.drew=.ok (.slice (some ⟨g,0,none⟩) (i+(S.length - (i+1))) cap) (w.drew.setRow g L1.toArray)):=fun ty sc=>by
  have r:=run_append_room (P:=Tryz.prog) w.drew 22 ty 3 ti Tryz.underlying22 hti g i cap (Jc cI S++Z).toArray hg ad (S.length - (i+1)) sc (Jc cI (S.drop (i+1))) (by rw[hz.2.1,fld,Nat.mul_one]) hsrc (VL Jjo _) (by omega) (by rw[hz.2.1,List.size_toArray,List.length_append,fl,fld];omega)
  rw[hz.2.1,Nat.mul_one] at r
  rw[hL1]
  exact r
 have e1:i+(S.length - (i+1))=S.length - 1:=by omega
 rw[e1] at run1
 have l1:L1.length=S.length+Z.length:=by rw[hL1,IR _ _ _ (by rw[List.length_append,fl,fld];omega),List.length_append,fl]
 have hg1:(w.drew.setRow g L1.toArray).heap[g]? = some (.cells L1.toArray 3 (0,0)):=setRow_heap w.drew g _ _ _ _ hg
 have run2:Hid (∀ ty c,(Builtin.clear_ #[22] ty #[.slice (some ⟨g,S.length - 1,none⟩) 1 c]).run Tryz.prog (w.drew.setRow g L1.toArray)=.ok (.tuple #[]) ((w.drew.setRow g L1.toArray).setRow g (ZH L1 (S.length - 1) z1).toArray)):=fun ty c =>
  Oc _ ty g _ c L1.toArray hg1 (by rw[List.size_toArray,l1];omega)
 have fin:ZH L1 (S.length - 1) z1=Jc cI (S.eraseIdx i)++(z1++((Jc cI (S.drop i)++Z).drop (Jc cI (S.drop (i+1))).length).drop z1.length):=by
  have e2:L1=Jc cI (S.eraseIdx i)++(Jc cI (S.drop i)++Z).drop (Jc cI (S.drop (i+1))).length:=by
   rw[hL1,fsp0,List.append_assoc,VH _ _ _ _ flt,List.eraseIdx_eq_take_drop_succ,Jt]
  have e3:(Jc cI (S.eraseIdx i)).length=S.length - 1:=by rw[Jj U2,List.length_eraseIdx,if_pos hi,Nat.mul_one]
  rw[e2,VH _ _ _ _ e3,List.append_assoc]
 have HK:Hid (RowI ((w.drew.setRow g L1.toArray).setRow g (ZH L1 (S.length - 1) z1).toArray) (.slice (some ⟨g,0,none⟩) (S.length - 1) cap) (S.eraseIdx i)/\w.grownBy ((w.drew.setRow g L1.toArray).setRow g (ZH L1 (S.length - 1) z1).toArray) (some g)):=by
  have hh:=setRow_heap _ g _ (ZH L1 (S.length - 1) z1).toArray _ _ hg1
  refine⟨?_,⟨rfl,rfl,rfl,by simp,fun k _ hk=>?_⟩⟩
  ·have el:(S.eraseIdx i).length=S.length - 1:=by rw[List.length_eraseIdx,if_pos hi]
   rw[fin] at hh
   have:=Mv (cap:=cap) hh (by
    rw[List.length_append,List.length_drop,List.length_drop,List.length_append,fld,Jj U2,List.length_drop,hzl,el]
    simp only[z1,List.length_cons,List.length_nil]
    omega) (by rw[el];omega) hc63
   rw[el] at this
   rw[fin]
   exact this
  ·have hne:k≠g:=fun e=>hk (by rw[e])
   rw[setRow_other _ _ _ _ hne,setRow_other _ _ _ _ hne]
   rfl
 have mixed:Tryz.prog.follows Departure.mixedOrders=true:=by kernel_rfl
 have hb1:(i:Int)<=(i:Int)+1:=by omega
 have hb2:(i:Int)+1<=(S.length:Int):=by omega
 have htn:((i:Int)+1).toNat=i+1:=by omega
 have hb3:¬ (cap=S.length - 1):=by omega
 have hb6:S.length - (S.length - 1)=1:=by omega
 have hb7:¬ ((i:Int)=(i:Int)+1):=by omega
 have hb8:(0:Int)<=(i:Int)+1:=by omega
 have hb9:i<=cap:=by omega
 have hb10:i+1<=cap:=by omega
 clear fin hL1 l1 hcells fsp fsp0 fld flt flt1 fl hzl hg h hg1 hsrc hti hz e1
 generalize ZH L1 (S.length - 1) z1=L2 at *
 generalize hn:S.length=n at *
 generalize hm:n - 1=m at *
 go_enter Tryz.func347,Tryz.ntmps347
 go_wp2_with fail
 go_region_law_o (refine Jy rfl (.tmp 22) (.tmp 25) 22 22 rfl (.slice (some ⟨g,0,none⟩) i cap) (.slice (some ad) (n - (i+1)) (cap - (i+1))) _ _ (by simp[Act.eval,Act.put]) (by simp[Act.eval,Act.put]) (run1.out _ _) ?_)
 have run2':=run2.out
 go_wp2
 go_ret
 exact⟨rfl,HK.out⟩
theorem J0b (b0 b1 b2 b3 n:Int) (w:World) (h0:0<=n) (h1:n<64) :
  Calls Tryz.prog 289 #[.agg #[.int .u64 b0,.int .u64 b1,.int .u64 b2,.int .u64 b3],.int .i64 n,.bool true] w fun e w'=>e=.returned (.tuple #[.agg #[.int .u64 (bits .or .u64 b0 (VP n)),.int .u64 b1,.int .u64 b2,.int .u64 b3],.int .i64 0])/\Below w.heap.size w w':=by
 have hq:n / 64=0:=by omega
 have ht:n.tdiv 64=0:=by rw[Int.tdiv_eq_ediv_of_nonneg (by omega)];exact hq
 go_enter Tryz.func289,Tryz.ntmps289
 go_wp2_with (go_at_call 345;refine(Zr _ _ (by omega) (by omega)).mono ?_;rintro e w' ⟨rfl,rfl⟩)
 go_region_with (go_at_call 346;refine(V5 _ _ (by omega) (by omega)).mono ?_;rintro e w' ⟨rfl,rfl⟩)
 all_goals go_wp2
 all_goals exact bodyPost_ret (v:=.tuple #[.agg #[.int .u64 (bits .or .u64 b0 (VP n)),.int .u64 b1,.int .u64 b2,.int .u64 b3],.int .i64 0]) (by simp[results,Tryz.results289,go_sem]) rfl ⟨rfl,(((Below.refl _ _).alloc (Jqd _) _).alloc (by simp) _).drew⟩
theorem J0c (b0 b1 b2 b3 n:Int) (w:World) (h0:64<=n) (h1:n<128) :
  Calls Tryz.prog 289 #[.agg #[.int .u64 b0,.int .u64 b1,.int .u64 b2,.int .u64 b3],.int .i64 n,.bool true] w fun e w'=>e=.returned (.tuple #[.agg #[.int .u64 b0,.int .u64 (bits .or .u64 b1 (VP n)),.int .u64 b2,.int .u64 b3],.int .i64 0])/\Below w.heap.size w w':=by
 have hq:n / 64=1:=by omega
 have ht:n.tdiv 64=1:=by rw[Int.tdiv_eq_ediv_of_nonneg (by omega)];exact hq
 go_enter Tryz.func289,Tryz.ntmps289
 go_wp2_with (go_at_call 345;refine(Zr _ _ (by omega) (by omega)).mono ?_;rintro e w' ⟨rfl,rfl⟩)
 go_region_with (go_at_call 346;refine(V5 _ _ (by omega) (by omega)).mono ?_;rintro e w' ⟨rfl,rfl⟩)
 all_goals go_wp2
 all_goals exact bodyPost_ret (v:=.tuple #[.agg #[.int .u64 b0,.int .u64 (bits .or .u64 b1 (VP n)),.int .u64 b2,.int .u64 b3],.int .i64 0]) (by simp[results,Tryz.results289,go_sem]) rfl ⟨rfl,(((Below.refl _ _).alloc (Jqd _) _).alloc (by simp) _).drew⟩
theorem J0d (b0 b1 b2 b3 n:Int) (w:World) (h0:128<=n) (h1:n<192) :
  Calls Tryz.prog 289 #[.agg #[.int .u64 b0,.int .u64 b1,.int .u64 b2,.int .u64 b3],.int .i64 n,.bool true] w fun e w'=>e=.returned (.tuple #[.agg #[.int .u64 b0,.int .u64 b1,.int .u64 (bits .or .u64 b2 (VP n)),.int .u64 b3],.int .i64 0])/\Below w.heap.size w w':=by
 have hq:n / 64=2:=by omega
 have ht:n.tdiv 64=2:=by rw[Int.tdiv_eq_ediv_of_nonneg (by omega)];exact hq
 go_enter Tryz.func289,Tryz.ntmps289
 go_wp2_with (go_at_call 345;refine(Zr _ _ (by omega) (by omega)).mono ?_;rintro e w' ⟨rfl,rfl⟩)
 go_region_with (go_at_call 346;refine(V5 _ _ (by omega) (by omega)).mono ?_;rintro e w' ⟨rfl,rfl⟩)
 all_goals go_wp2
 all_goals exact bodyPost_ret (v:=.tuple #[.agg #[.int .u64 b0,.int .u64 b1,.int .u64 (bits .or .u64 b2 (VP n)),.int .u64 b3],.int .i64 0]) (by simp[results,Tryz.results289,go_sem]) rfl ⟨rfl,(((Below.refl _ _).alloc (Jqd _) _).alloc (by simp) _).drew⟩
theorem J0e (b0 b1 b2 b3 n:Int) (w:World) (h0:192<=n) (h1:n<256) :
  Calls Tryz.prog 289 #[.agg #[.int .u64 b0,.int .u64 b1,.int .u64 b2,.int .u64 b3],.int .i64 n,.bool true] w fun e w'=>e=.returned (.tuple #[.agg #[.int .u64 b0,.int .u64 b1,.int .u64 b2,.int .u64 (bits .or .u64 b3 (VP n))],.int .i64 0])/\Below w.heap.size w w':=by
 have hq:n / 64=3:=by omega
 have ht:n.tdiv 64=3:=by rw[Int.tdiv_eq_ediv_of_nonneg (by omega)];exact hq
 go_enter Tryz.func289,Tryz.ntmps289
 go_wp2_with (go_at_call 345;refine(Zr _ _ (by omega) (by omega)).mono ?_;rintro e w' ⟨rfl,rfl⟩)
 go_region_with (go_at_call 346;refine(V5 _ _ (by omega) (by omega)).mono ?_;rintro e w' ⟨rfl,rfl⟩)
 all_goals go_wp2
 all_goals exact bodyPost_ret (v:=.tuple #[.agg #[.int .u64 b0,.int .u64 b1,.int .u64 b2,.int .u64 (bits .or .u64 b3 (VP n))],.int .i64 0]) (by simp[results,Tryz.results289,go_sem]) rfl ⟨rfl,(((Below.refl _ _).alloc (Jqd _) _).alloc (by simp) _).drew⟩
theorem Jw6 (b0 b1 b2 b3 n:Int) (w:World) (h0:0<=n) (h1:n<64) :
  Calls Tryz.prog 289 #[.agg #[.int .u64 b0,.int .u64 b1,.int .u64 b2,.int .u64 b3],.int .i64 n,.bool false] w fun e w'=>e=.returned (.tuple #[.agg #[.int .u64 (bits .andNot .u64 b0 (VP n)),.int .u64 b1,.int .u64 b2,.int .u64 b3],.int .i64 0])/\Below w.heap.size w w':=by
 have hq:n / 64=0:=by omega
 have ht:n.tdiv 64=0:=by rw[Int.tdiv_eq_ediv_of_nonneg (by omega)];exact hq
 go_enter Tryz.func289,Tryz.ntmps289
 go_wp2_with (go_at_call 345;refine(Zr _ _ (by omega) (by omega)).mono ?_;rintro e w' ⟨rfl,rfl⟩)
 go_region_with (go_at_call 346;refine(V5 _ _ (by omega) (by omega)).mono ?_;rintro e w' ⟨rfl,rfl⟩)
 all_goals go_wp2
 all_goals exact bodyPost_ret (v:=.tuple #[.agg #[.int .u64 (bits .andNot .u64 b0 (VP n)),.int .u64 b1,.int .u64 b2,.int .u64 b3],.int .i64 0]) (by simp[results,Tryz.results289,go_sem]) rfl ⟨rfl,(((Below.refl _ _).alloc (Jqd _) _).alloc (by simp) _).drew⟩
theorem Jw7 (b0 b1 b2 b3 n:Int) (w:World) (h0:64<=n) (h1:n<128) :
  Calls Tryz.prog 289 #[.agg #[.int .u64 b0,.int .u64 b1,.int .u64 b2,.int .u64 b3],.int .i64 n,.bool false] w fun e w'=>e=.returned (.tuple #[.agg #[.int .u64 b0,.int .u64 (bits .andNot .u64 b1 (VP n)),.int .u64 b2,.int .u64 b3],.int .i64 0])/\Below w.heap.size w w':=by
 have hq:n / 64=1:=by omega
 have ht:n.tdiv 64=1:=by rw[Int.tdiv_eq_ediv_of_nonneg (by omega)];exact hq
 go_enter Tryz.func289,Tryz.ntmps289
 go_wp2_with (go_at_call 345;refine(Zr _ _ (by omega) (by omega)).mono ?_;rintro e w' ⟨rfl,rfl⟩)
 go_region_with (go_at_call 346;refine(V5 _ _ (by omega) (by omega)).mono ?_;rintro e w' ⟨rfl,rfl⟩)
 all_goals go_wp2
 all_goals exact bodyPost_ret (v:=.tuple #[.agg #[.int .u64 b0,.int .u64 (bits .andNot .u64 b1 (VP n)),.int .u64 b2,.int .u64 b3],.int .i64 0]) (by simp[results,Tryz.results289,go_sem]) rfl ⟨rfl,(((Below.refl _ _).alloc (Jqd _) _).alloc (by simp) _).drew⟩
theorem Jw8 (b0 b1 b2 b3 n:Int) (w:World) (h0:128<=n) (h1:n<192) :
  Calls Tryz.prog 289 #[.agg #[.int .u64 b0,.int .u64 b1,.int .u64 b2,.int .u64 b3],.int .i64 n,.bool false] w fun e w'=>e=.returned (.tuple #[.agg #[.int .u64 b0,.int .u64 b1,.int .u64 (bits .andNot .u64 b2 (VP n)),.int .u64 b3],.int .i64 0])/\Below w.heap.size w w':=by
 have hq:n / 64=2:=by omega
 have ht:n.tdiv 64=2:=by rw[Int.tdiv_eq_ediv_of_nonneg (by omega)];exact hq
 go_enter Tryz.func289,Tryz.ntmps289
 go_wp2_with (go_at_call 345;refine(Zr _ _ (by omega) (by omega)).mono ?_;rintro e w' ⟨rfl,rfl⟩)
 go_region_with (go_at_call 346;refine(V5 _ _ (by omega) (by omega)).mono ?_;rintro e w' ⟨rfl,rfl⟩)
 all_goals go_wp2
 all_goals exact bodyPost_ret (v:=.tuple #[.agg #[.int .u64 b0,.int .u64 b1,.int .u64 (bits .andNot .u64 b2 (VP n)),.int .u64 b3],.int .i64 0]) (by simp[results,Tryz.results289,go_sem]) rfl ⟨rfl,(((Below.refl _ _).alloc (Jqd _) _).alloc (by simp) _).drew⟩
theorem Jw9 (b0 b1 b2 b3 n:Int) (w:World) (h0:192<=n) (h1:n<256) :
  Calls Tryz.prog 289 #[.agg #[.int .u64 b0,.int .u64 b1,.int .u64 b2,.int .u64 b3],.int .i64 n,.bool false] w fun e w'=>e=.returned (.tuple #[.agg #[.int .u64 b0,.int .u64 b1,.int .u64 b2,.int .u64 (bits .andNot .u64 b3 (VP n))],.int .i64 0])/\Below w.heap.size w w':=by
 have hq:n / 64=3:=by omega
 have ht:n.tdiv 64=3:=by rw[Int.tdiv_eq_ediv_of_nonneg (by omega)];exact hq
 go_enter Tryz.func289,Tryz.ntmps289
 go_wp2_with (go_at_call 345;refine(Zr _ _ (by omega) (by omega)).mono ?_;rintro e w' ⟨rfl,rfl⟩)
 go_region_with (go_at_call 346;refine(V5 _ _ (by omega) (by omega)).mono ?_;rintro e w' ⟨rfl,rfl⟩)
 all_goals go_wp2
 all_goals exact bodyPost_ret (v:=.tuple #[.agg #[.int .u64 b0,.int .u64 b1,.int .u64 b2,.int .u64 (bits .andNot .u64 b3 (VP n))],.int .i64 0]) (by simp[results,Tryz.results289,go_sem]) rfl ⟨rfl,(((Below.refl _ _).alloc (Jqd _) _).alloc (by simp) _).drew⟩
def Uo (k:Nat):Nat:=32 / 2 ^ k
theorem Gi:∀ k,k<6->64 / 2 ^ k=Uo k+Uo k/\64 / 2 ^ (k+1)=Uo k/\1<=Uo k/\Uo k<=32:=by decide
def Tab (w:World):Prop:=1 < w.heap.size/\∀ k,k<6->w.cell? ⟨1,k,none⟩=some (.int .u64 (Uo k:Nat))
theorem Tab.below {w w':World} (h:Tab w) (hb:Below w.heap.size w w'):Tab w':=
 ⟨Jrb h.1 hb.size,fun k hk=>by rw[hb.cell (p:=⟨1,k,none⟩) h.1];exact h.2 k hk⟩
structure HighAt (V k a:Nat):Prop where
 pos:0<V / 2 ^ a
 lt:V / 2 ^ a<2 ^ (64 / 2 ^ k)
 le:a+64 / 2 ^ k<=64
theorem Jb5 (V a h:Nat):(V:Int) / 2 ^ a / 2 ^ h=((V / 2 ^ a / 2 ^ h:Nat):Int):=by simp
theorem Jka {V k a:Nat} (h:HighAt V k a) (hk:k<6) (t:((V:Int) / 2 ^ a / 2 ^ Uo k != 0)=true) :
  (V:Int) / 2 ^ a / 2 ^ Uo k=((V / 2 ^ (a+Uo k):Nat):Int)/\HighAt V (k+1) (a+Uo k):=by
 obtain⟨e1,e2,e3,e4⟩:=Gi k hk
 rw[Jb5] at t ⊢
 have e5:V / 2 ^ a / 2 ^ Uo k=V / 2 ^ (a+Uo k):=by rw[Nat.div_div_eq_div_mul,<- Nat.pow_add]
 rw[e5] at t ⊢
 have hne:V / 2 ^ (a+Uo k)≠0:=by
  intro z
  rw[z] at t
  simp at t
 refine⟨rfl,⟨Nat.pos_of_ne_zero hne,?_,?_⟩⟩
 ·rw[<- e5,e2]
  have:=h.lt
  rw[e1,Nat.pow_add] at this
  exact Nat.div_lt_of_lt_mul this
 ·have:=h.le
  omega
theorem Joa {V k a:Nat} (h:HighAt V k a) (hk:k<6) (t:((V:Int) / 2 ^ a / 2 ^ Uo k != 0)=false):HighAt V (k+1) a:=by
 obtain⟨e1,e2,e3,e4⟩:=Gi k hk
 rw[Jb5] at t
 have hz:V / 2 ^ a / 2 ^ Uo k=0:=by
  rw[bne_eq_false_iff_eq] at t
  exact Int.ofNat.inj t
 refine⟨h.pos,?_,?_⟩
 ·rw[e2]
  exact(Nat.div_eq_zero_iff_lt (Nat.pow_pos (by omega))).1 hz
 ·have:=h.le
  omega
theorem Jj9 {V a:Nat} (h:HighAt V 6 a):V.log2=a:=by
 have hl:=h.lt
 have hp:=h.pos
 have e:64 / 2 ^ 6=1:=by decide
 rw[e] at hl
 have h1:V / 2 ^ a=1:=by omega
 have hp2:0<2 ^ a:=Nat.pow_pos (by omega)
 have hd:=Nat.div_add_mod V (2 ^ a)
 have hm:=Nat.mod_lt V hp2
 rw[h1] at hd
 have h2:V≠0:=by intro z;subst z;simp at hp
 rw[Nat.log2_eq_iff h2,Nat.pow_succ]
 omega
theorem Ja0 (V:Nat) (w:World) (ht:Tab w) (v0:0<V) (v1:(V:Int)<=18446744073709551615) :
  Calls Tryz.prog 288 #[.int .u64 V] w fun e w'=>e=.returned (.int .i64 (V.log2:Nat))/\w'=w:=by
 go_enter Tryz.func288,Tryz.ntmps288
 go_wp2
 go_loop [0,3,6] (fun x t i=>∃ k a:Nat,k<=6/\i=.int .i64 k/\a<=64/\t=.int .i64 a/\x=.int .u64 (V / 2 ^ a:Nat)/\Hid (HighAt V k a)) (fun _ _ i=>6 - (intOf i).toNat)
 case atStart=>exact⟨0,0,by omega,rfl,by omega,rfl,by simp,⟨by simpa using v0,by simp;omega,by simp⟩⟩
 case round =>
  obtain⟨k,a,hk,rfl,ha,rfl,rfl,HA⟩:=hrel
  by_cases hlt:k<6
  ·have hc:=ht.2 k hlt
   have hh:=(Gi k hlt).2.2
   go_wp2
   ·go_round
    case rel =>
     obtain⟨e1,e2⟩:=Jka HA.out hlt ‹_›
     exact⟨k+1,a+Uo k,by omega,by go_num,Jql (Nat.le_add_right _ _) e2.le,by go_num,by rw[e1],e2⟩
    case measure=>simp[intOf];omega
   ·go_round
    case rel=>exact⟨k+1,a,by omega,by go_num,by omega,rfl,rfl,Joa HA.out hlt ‹_›⟩
    case measure=>simp[intOf];omega
  ·obtain rfl:k=6:=by omega
   go_wp2
   go_ret
   exact⟨Jm (by rw[Jj9 HA.out]),rfl⟩
theorem V7 (v:Int) (w:World) (ht:Tab w) (v0:0<v) (v1:v<=18446744073709551615) :
  Calls Tryz.prog 288 #[.int .u64 v] w fun e w'=>e=.returned (.int .i64 (v.toNat.log2:Nat))/\w'=w:=by
 obtain⟨V,rfl⟩:=Jqg (Int.le_of_lt v0)
 rw[Int.toNat_natCast]
 exact Ja0 V w ht (by omega) v1
structure Word (b:Int):Prop where
 lo:0<=b
 hi:b<=18446744073709551615
theorem Jmf (z:Bool) (b n k:Int) (h:Word b):Word (XJ z b n k):=by
 unfold XJ
 by_cases e:n / 64=k
 ·rw[if_pos e]
  have:=Jlv z b (n % 64).toNat h.lo h.hi (Gw n)
  exact⟨this.1,this.2⟩
 ·rw[if_neg e]
  exact h
theorem Je6 (b0 b1 b2 b3 n:Int) (k:Nat) (b:Int) (h0:64*(k:Int)<=n) (h1:n<64*(k:Int)+64) (hk:k<4) (hb:OJ b0 b1 b2 b3 k=b):EJ b0 b1 b2 b3 n=b.toNat.testBit (n % 64).toNat:=by
 have e1:n.toNat / 64=k:=by omega
 have e2:n.toNat % 64=(n % 64).toNat:=by omega
 have e3:0<=n:=by omega
 have e4:n<256:=by omega
 unfold EJ Zw
 rw[e1,e2,hb]
 simp[e3,e4]
theorem IQ (z:Bool) (b n k:Int) (h:n / 64=k):XJ z b n k=Md z b (n % 64).toNat:=if_pos h
theorem Xi (z:Bool) (b n k:Int) (h:¬ n / 64=k):XJ z b n k=b:=if_neg h
theorem Jpr (z:Bool) (b0 b1 b2 b3 n:Int) (w:World) (w0:Word b0) (w1:Word b1) (w2:Word b2) (w3:Word b3) (n0:0<=n) (n1:n<256) :
  Calls Tryz.prog 289 #[.agg #[.int .u64 b0,.int .u64 b1,.int .u64 b2,.int .u64 b3],.int .i64 n,.bool z] w fun e w'=>e=.returned (.tuple #[.agg #[.int .u64 (XJ z b0 n 0),.int .u64 (XJ z b1 n 1),.int .u64 (XJ z b2 n 2),.int .u64 (XJ z b3 n 3)],.int .i64 0])/\Below w.heap.size w w':=by
 have:n<64\/(64<=n/\n<128)\/(128<=n/\n<192)\/192<=n:=by omega
 rcases this with c|c|c|c
 ·rw[IQ z b0 n 0 (by omega),Xi z b1 n 1 (by omega),Xi z b2 n 2 (by omega),Xi z b3 n 3 (by omega)]
  cases z
  ·rw[<- O9 b0 n w0.lo w0.hi]
   exact Jw6 b0 b1 b2 b3 n w n0 c
  ·rw[<- GD b0 n w0.lo w0.hi]
   exact J0b b0 b1 b2 b3 n w n0 c
 ·rw[Xi z b0 n 0 (by omega),IQ z b1 n 1 (by omega),Xi z b2 n 2 (by omega),Xi z b3 n 3 (by omega)]
  cases z
  ·rw[<- O9 b1 n w1.lo w1.hi]
   exact Jw7 b0 b1 b2 b3 n w c.1 c.2
  ·rw[<- GD b1 n w1.lo w1.hi]
   exact J0c b0 b1 b2 b3 n w c.1 c.2
 ·rw[Xi z b0 n 0 (by omega),Xi z b1 n 1 (by omega),IQ z b2 n 2 (by omega),Xi z b3 n 3 (by omega)]
  cases z
  ·rw[<- O9 b2 n w2.lo w2.hi]
   exact Jw8 b0 b1 b2 b3 n w c.1 c.2
  ·rw[<- GD b2 n w2.lo w2.hi]
   exact J0d b0 b1 b2 b3 n w c.1 c.2
 ·rw[Xi z b0 n 0 (by omega),Xi z b1 n 1 (by omega),Xi z b2 n 2 (by omega),IQ z b3 n 3 (by omega)]
  cases z
  ·rw[<- O9 b3 n w3.lo w3.hi]
   exact Jw9 b0 b1 b2 b3 n w c n1
  ·rw[<- GD b3 n w3.lo w3.hi]
   exact J0e b0 b1 b2 b3 n w c n1
theorem XB (V:Nat) (h0:0<V) (h1:V<=18446744073709551615):V.log2<64/\V.testBit V.log2=true/\∀ j,V.log2<j->V.testBit j=false:=by
 have hne:V≠0:=by omega
 refine⟨(Nat.log2_lt hne).2 (by omega),Nat.testBit_log2 hne,fun j hj=>?_⟩
 exact Nat.testBit_lt_two_pow ((Nat.log2_lt hne).1 hj)
theorem Mn (j:Nat):(0:Int).toNat.testBit j=false:=by simp
theorem Ju4 (b0 b1 b2 b3:Int) (v0:0<b3) (v1:b3<=18446744073709551615):O7 b0 b1 b2 b3=192+(b3.toNat.log2:Nat):=by
 obtain⟨l1,l2,l3⟩:=XB b3.toNat (by omega) (by omega)
 have e:=UD (Zw b0 b1 b2 b3) (192+b3.toNat.log2) (by
  unfold Zw
  rw[show(192+b3.toNat.log2) / 64=3 by omega,show(192+b3.toNat.log2) % 64=b3.toNat.log2 by omega]
  exact l2) 256 (by omega) (fun k h1 h2=>by
  unfold Zw
  have hk:k / 64=3:=by omega
  rw[hk];exact l3 _ (by omega))
 unfold O7
 rw[e]
 omega
theorem J0m (b0 b1 b2 b3:Int) (w:World) (ht:Tab w) (v0:0<b3) (v1:b3<=18446744073709551615) :
  Calls Tryz.prog 215 #[.agg #[.int .u64 b0,.int .u64 b1,.int .u64 b2,.int .u64 b3]] w fun e w'=>e=.returned (.int .i64 (192+(b3.toNat.log2:Nat)))/\Below w.heap.size w w':=by
 have hz:(b3 != 0)=true:=by rw[bne_iff_ne];omega
 have hl:=(XB b3.toNat (by omega) (by omega)).1
 go_enter Tryz.func215,Tryz.ntmps215
 go_wp2_with fail
 refine wp_loop_rounds 1 ?_
 rw[rounds_succ]
 go_wp2_with (go_at_call 288;refine(V7 _ _ (ht.below ((Below.refl _ _).alloc (Jqd _) _)) (by omega) (by omega)).mono ?_;rintro e w' ⟨rfl,rfl⟩)
 go_ret
 exact⟨rfl,(Below.refl _ _).alloc (Jqd _) _⟩
theorem Ju3 (b0 b1 b2:Int) (v0:0<b2) (v1:b2<=18446744073709551615):O7 b0 b1 b2 0=128+(b2.toNat.log2:Nat):=by
 obtain⟨l1,l2,l3⟩:=XB b2.toNat (by omega) (by omega)
 have e:=UD (Zw b0 b1 b2 0) (128+b2.toNat.log2) (by
  unfold Zw
  rw[show(128+b2.toNat.log2) / 64=2 by omega,show(128+b2.toNat.log2) % 64=b2.toNat.log2 by omega]
  exact l2) 256 (by omega) (fun k h1 h2=>by
  unfold Zw
  have hk:k / 64=2\/k / 64=3:=by omega
  rcases hk with hk|hk
  ·rw[hk];exact l3 _ (by omega)
  ·rw[hk];exact Mn _)
 unfold O7
 rw[e]
 omega
theorem J0l (b0 b1 b2:Int) (w:World) (ht:Tab w) (v0:0<b2) (v1:b2<=18446744073709551615) :
  Calls Tryz.prog 215 #[.agg #[.int .u64 b0,.int .u64 b1,.int .u64 b2,.int .u64 0]] w fun e w'=>e=.returned (.int .i64 (128+(b2.toNat.log2:Nat)))/\Below w.heap.size w w':=by
 have hz:(b2 != 0)=true:=by rw[bne_iff_ne];omega
 have hl:=(XB b2.toNat (by omega) (by omega)).1
 go_enter Tryz.func215,Tryz.ntmps215
 go_wp2_with fail
 refine wp_loop_rounds 2 ?_
 rw[rounds_succ]
 go_wp2_with fail
 rw[rounds_succ]
 go_wp2_with (go_at_call 288;refine(V7 _ _ (ht.below ((Below.refl _ _).alloc (Jqd _) _)) (by omega) (by omega)).mono ?_;rintro e w' ⟨rfl,rfl⟩)
 go_ret
 exact⟨rfl,(Below.refl _ _).alloc (Jqd _) _⟩
theorem Ju2 (b0 b1:Int) (v0:0<b1) (v1:b1<=18446744073709551615):O7 b0 b1 0 0=64+(b1.toNat.log2:Nat):=by
 obtain⟨l1,l2,l3⟩:=XB b1.toNat (by omega) (by omega)
 have e:=UD (Zw b0 b1 0 0) (64+b1.toNat.log2) (by
  unfold Zw
  rw[show(64+b1.toNat.log2) / 64=1 by omega,show(64+b1.toNat.log2) % 64=b1.toNat.log2 by omega]
  exact l2) 256 (by omega) (fun k h1 h2=>by
  unfold Zw
  have hk:k / 64=1\/k / 64=2\/k / 64=3:=by omega
  rcases hk with hk|hk|hk
  ·rw[hk];exact l3 _ (by omega)
  ·rw[hk];exact Mn _
  ·rw[hk];exact Mn _)
 unfold O7
 rw[e]
 omega
theorem J0k (b0 b1:Int) (w:World) (ht:Tab w) (v0:0<b1) (v1:b1<=18446744073709551615) :
  Calls Tryz.prog 215 #[.agg #[.int .u64 b0,.int .u64 b1,.int .u64 0,.int .u64 0]] w fun e w'=>e=.returned (.int .i64 (64+(b1.toNat.log2:Nat)))/\Below w.heap.size w w':=by
 have hz:(b1 != 0)=true:=by rw[bne_iff_ne];omega
 have hl:=(XB b1.toNat (by omega) (by omega)).1
 go_enter Tryz.func215,Tryz.ntmps215
 go_wp2_with fail
 refine wp_loop_rounds 3 ?_
 rw[rounds_succ]
 go_wp2_with fail
 rw[rounds_succ]
 go_wp2_with fail
 rw[rounds_succ]
 go_wp2_with (go_at_call 288;refine(V7 _ _ (ht.below ((Below.refl _ _).alloc (Jqd _) _)) (by omega) (by omega)).mono ?_;rintro e w' ⟨rfl,rfl⟩)
 go_ret
 exact⟨rfl,(Below.refl _ _).alloc (Jqd _) _⟩
theorem Ju1 (b0:Int) (v0:0<b0) (v1:b0<=18446744073709551615):O7 b0 0 0 0=0+(b0.toNat.log2:Nat):=by
 obtain⟨l1,l2,l3⟩:=XB b0.toNat (by omega) (by omega)
 have e:=UD (Zw b0 0 0 0) (0+b0.toNat.log2) (by
  unfold Zw
  rw[show(0+b0.toNat.log2) / 64=0 by omega,show(0+b0.toNat.log2) % 64=b0.toNat.log2 by omega]
  exact l2) 256 (by omega) (fun k h1 h2=>by
  unfold Zw
  have hk:k / 64=0\/k / 64=1\/k / 64=2\/k / 64=3:=by omega
  rcases hk with hk|hk|hk|hk
  ·rw[hk];exact l3 _ (by omega)
  ·rw[hk];exact Mn _
  ·rw[hk];exact Mn _
  ·rw[hk];exact Mn _)
 unfold O7
 rw[e]
 omega
theorem J0j (b0:Int) (w:World) (ht:Tab w) (v0:0<b0) (v1:b0<=18446744073709551615) :
  Calls Tryz.prog 215 #[.agg #[.int .u64 b0,.int .u64 0,.int .u64 0,.int .u64 0]] w fun e w'=>e=.returned (.int .i64 (0+(b0.toNat.log2:Nat)))/\Below w.heap.size w w':=by
 have hz:(b0 != 0)=true:=by rw[bne_iff_ne];omega
 have hl:=(XB b0.toNat (by omega) (by omega)).1
 go_enter Tryz.func215,Tryz.ntmps215
 go_wp2_with fail
 refine wp_loop_rounds 4 ?_
 rw[rounds_succ]
 go_wp2_with fail
 rw[rounds_succ]
 go_wp2_with fail
 rw[rounds_succ]
 go_wp2_with fail
 rw[rounds_succ]
 go_wp2_with (go_at_call 288;refine(V7 _ _ (ht.below ((Below.refl _ _).alloc (Jqd _) _)) (by omega) (by omega)).mono ?_;rintro e w' ⟨rfl,rfl⟩)
 go_ret
 exact⟨Jm (by omega),(Below.refl _ _).alloc (Jqd _) _⟩
theorem Jij:O7 0 0 0 0 = -1:=by decide +kernel
theorem Jm2 (w:World) :
  Calls Tryz.prog 215 #[.agg #[.int .u64 0,.int .u64 0,.int .u64 0,.int .u64 0]] w fun e w'=>e=.returned (.int .i64 (-1))/\Below w.heap.size w w':=by
 go_enter Tryz.func215,Tryz.ntmps215
 go_wp2_with fail
 refine wp_loop_rounds 5 ?_
 rw[rounds_succ]
 go_wp2_with fail
 rw[rounds_succ]
 go_wp2_with fail
 rw[rounds_succ]
 go_wp2_with fail
 rw[rounds_succ]
 go_wp2_with fail
 rw[rounds_succ]
 go_wp2_with fail
 go_ret
 exact⟨rfl,(Below.refl _ _).alloc (Jqd _) _⟩
theorem Jp3 (b0 b1 b2 b3:Int) (w:World) (ht:Tab w) (w0:Word b0) (w1:Word b1) (w2:Word b2) (w3:Word b3) :
  Calls Tryz.prog 215 #[.agg #[.int .u64 b0,.int .u64 b1,.int .u64 b2,.int .u64 b3]] w fun e w'=>e=.returned (.int .i64 (O7 b0 b1 b2 b3))/\Below w.heap.size w w':=by
 by_cases c3:0<b3
 ·rw[Ju4 b0 b1 b2 b3 c3 w3.hi]
  exact J0m b0 b1 b2 b3 w ht c3 w3.hi
 obtain rfl:b3=0:=by have:=w3.lo;omega
 by_cases c2:0<b2
 ·rw[Ju3 b0 b1 b2 c2 w2.hi]
  exact J0l b0 b1 b2 w ht c2 w2.hi
 obtain rfl:b2=0:=by have:=w2.lo;omega
 by_cases c1:0<b1
 ·rw[Ju2 b0 b1 c1 w1.hi]
  exact J0k b0 b1 w ht c1 w1.hi
 obtain rfl:b1=0:=by have:=w1.lo;omega
 by_cases c0:0<b0
 ·rw[Ju1 b0 c0 w0.hi]
  exact J0j b0 w ht c0 w0.hi
 obtain rfl:b0=0:=by have:=w0.lo;omega
 rw[Jij]
 exact Jm2 w
theorem Jn6 (z:Bool) (b0 b1 b2 b3 k i:Int) (w0:Word b0) (w1:Word b1) (w2:Word b2) (w3:Word b3) (k0:0<=k) (k1:k<256) (i0:0<=i) (i1:i<256) :
  EJ (XJ z b0 k 0) (XJ z b1 k 1) (XJ z b2 k 2) (XJ z b3 k 3) i=if i=k then z else EJ b0 b1 b2 b3 i:=by
 have key:∀ (j:Nat) (b c:Int),j<4->0<=b->OJ b0 b1 b2 b3 j=b->OJ (XJ z b0 k 0) (XJ z b1 k 1) (XJ z b2 k 2) (XJ z b3 k 3) j=c->c=XJ z b k j ->
   64*(j:Int)<=i->i<64*(j:Int)+64->EJ (XJ z b0 k 0) (XJ z b1 k 1) (XJ z b2 k 2) (XJ z b3 k 3) i=if i=k then z else EJ b0 b1 b2 b3 i:=by
  intro j b c hj hb e1 e2 e3 l1 l2
  rw[Je6 _ _ _ _ i j c l1 l2 hj e2,Je6 _ _ _ _ i j b l1 l2 hj e1,e3]
  by_cases h:k / 64=(j:Int)
  ·rw[IQ z b k j h,GI z b _ _ hb]
   by_cases e:i=k
   ·rw[if_pos (by rw[e]),if_pos e]
   ·have:¬ (i % 64).toNat=(k % 64).toNat:=by omega
    rw[if_neg this,if_neg e]
  ·rw[Xi z b k j h,if_neg (by omega)]
 have:i<64\/(64<=i/\i<128)\/(128<=i/\i<192)\/192<=i:=by omega
 rcases this with c|c|c|c
 ·exact key 0 b0 _ (by omega) w0.lo rfl rfl rfl (by omega) (by omega)
 ·exact key 1 b1 _ (by omega) w1.lo rfl rfl rfl (by omega) (by omega)
 ·exact key 2 b2 _ (by omega) w2.lo rfl rfl rfl (by omega) (by omega)
 ·exact key 3 b3 _ (by omega) w3.lo rfl rfl rfl (by omega) (by omega)
def VJ {α:Type} (f:Nat->α) (p:Nat) (v:α):Nat->α:=fun i=>if i=p then v else f i
theorem Zv {α:Type} (f:Nat->α) (p:Nat) (v:α):VJ f p v p=v:=if_pos rfl
theorem J1 {α:Type} (f:Nat->α) {p i:Nat} (v:α) (h:i≠p):VJ f p v i=f i:=if_neg h
structure QuP (q b:Nat) (vs:Nat->Value) (M:Nat->List Int) (f:Int->Option Int) (w:World):Prop where
 head:∃ C:Array Value,w.heap[q]? = some (.cells C 327 (0,0))/\C.size=257/\(∀ p,p<256->C[p]? = some (vs p))/\C[256]? = some (.map (some b))
 rows:∀ p,p<256->RowI w (vs p) (M p)
 map:MapIs w b f
 one:∀ p p' x,p<256->p'<256->(vs p).ownBlock=some x->(vs p').ownBlock=some x->p=p'
 ne:∀ p,p<256->(vs p).ownBlock≠some q/\(vs p).ownBlock≠some b
 qb:q≠b
def Gc (q b:Nat) (vs:Nat->Value):Nat->Prop:=fun x=>x=q\/x=b\/∃ p,p<256/\(vs p).ownBlock=some x
section
variable {q b:Nat} {vs:Nat->Value} {M:Nat->List Int} {f:Int->Option Int} {w w':World}
theorem QuP.lt (h:QuP q b vs M f w):q<w.heap.size:=by
 obtain⟨C,hC,_⟩:=h.head
 exact(Jqf.1 hC).1
theorem QuP.fp_lt (h:QuP q b vs M f w):∀ x,Gc q b vs x->x<w.heap.size:=by
 rintro x (rfl|rfl|⟨p,hp,hx⟩)
 ·exact h.lt
 ·exact h.map.lt
 ·exact(h.rows p hp).lt hx
theorem QuP.keep (h:QuP q b vs M f w) (k:∀ x,Gc q b vs x->w'.heap[x]? = w.heap[x]?):QuP q b vs M f w':=by
 obtain⟨C,hC,r⟩:=h.head
 exact⟨⟨C,(k q (.inl rfl)).trans hC,r⟩,fun p hp=>(h.rows p hp).keep fun x hx=>k x (.inr (.inr ⟨p,hp,hx⟩)),h.map.of_block (k b (.inr (.inl rfl))),h.one,h.ne,h.qb⟩
theorem QuP.below (h:QuP q b vs M f w) (k:Below w.heap.size w w'):QuP q b vs M f w':=h.keep fun x hx=>k.block x (h.fp_lt x hx)
theorem QuP.cell (h:QuP q b vs M f w) {p:Nat} (hp:p<256):w.cell? ⟨q,p,none⟩=some (vs p):=by
 obtain⟨C,hC,h0,h1,_⟩:=h.head
 simp[World.cell?,hC,h1 p hp]
theorem QuP.cellM (h:QuP q b vs M f w):w.cell? ⟨q,256,none⟩=some (.map (some b)):=by
 obtain⟨C,hC,h0,_,h1⟩:=h.head
 simp[World.cell?,hC,h1]
theorem QuP.frozen (h:QuP q b vs M f w) (j:Nat):w.frozen? ⟨q,j,none⟩=false:=by
 obtain⟨C,hC,_⟩:=h.head
 simp[World.frozen?,hC]
theorem QuP.congr {M':Nat->List Int} {f':Int->Option Int} (h:QuP q b vs M f w) (e:∀ p,p<256->M' p=M p) (e':∀ n,f' n=f n):QuP q b vs M' f' w:=
 ⟨h.head,fun p hp=>by rw[e p hp];exact h.rows p hp,h.map.congr e',h.one,h.ne,h.qb⟩
def GQ (w:World) (q b:Nat) (vs:Nat->Value) (M:Nat->List Int) (f:Int->Option Int) (w':World):Prop:=∃ vs',QuP q b vs' M f w'/\Turn (Gc q b vs) w w'/\Out (Gc q b vs) (Gc q b vs') w
theorem QuP.hang (h:QuP q b vs M f w) {w5:World} {p:Nat} (hp:p<256) {v':Value} {L:List Int} (row:RowI w5 v' L) (g5:w.grownBy w5 (vs p).ownBlock) (loc:v'.ownBlock=(vs p).ownBlock\/∃ g,v'.ownBlock=some g/\w.heap.size<=g) :
  QuP q b (VJ vs p v') (VJ M p L) f (w5.setCell ⟨q,p,none⟩ v')/\Turn (Gc q b vs) w (w5.setCell ⟨q,p,none⟩ v')/\Out (Gc q b vs) (Gc q b (VJ vs p v')) w:=by
 have hq:=h.lt
 have hb:=h.map.lt
 have own':∀ x,v'.ownBlock=some x->(vs p).ownBlock=some x\/w.heap.size<=x:=fun x hx=>by
  rcases loc with l|⟨g,l,hg⟩
  ·exact .inl (l ▸ hx)
  ·rw[l] at hx
   cases hx
   exact .inr hg
 have hvq:v'.ownBlock≠some q:=fun e=>(own' q e).elim (h.ne p hp).1 fun h1=>by omega
 have hvb:v'.ownBlock≠some b:=fun e=>(own' b e).elim (h.ne p hp).2 fun h1=>by omega
 have blk:∀ x,x<w.heap.size->some x≠(vs p).ownBlock->x≠q->(w5.setCell ⟨q,p,none⟩ v').heap[x]? = w.heap[x]?:=fun x hx h1 h2=>(blk_setCell_other _ _ _ _ h2).trans (g5.block x hx h1)
 obtain⟨C,hC,h0,h1,h2⟩:=h.head
 have hC5:w5.heap[q]? = some (.cells C 327 (0,0)):=(g5.block q hq fun e=>(h.ne p hp).1 e.symm).trans hC
 refine⟨⟨⟨C.set! p v',?_,by simpa using h0,fun i hi=>?_,?_⟩,fun i hi=>?_,h.map.of_block (blk b hb (fun e=>(h.ne p hp).2 e.symm) fun e=>h.qb e.symm),fun i j x hi hj hx hy=>?_,fun i hi=>?_,h.qb⟩,?_,?_⟩
 ·simp only[World.setCell,Array.getElem?_modify,hC5,Option.map_some]
  simp
 ·by_cases e:i=p
  ·subst e
   rw[Zv]
   simp[h0,show i<257 by omega]
  ·rw[J1 _ _ e]
   have e':¬ p=i:=fun x=>e x.symm
   simp[e',h1 i hi]
 ·have e':¬ p=256:=by omega
  simp[e',h2]
 ·by_cases e:i=p
  ·subst e
   rw[Zv,Zv]
   exact row.keep fun x hx=>blk_setCell_other _ _ _ _ fun ex=>hvq (by rw[hx];exact congrArg some ex)
  ·rw[J1 _ _ e,J1 _ _ e]
   refine(h.rows i hi).keep fun x hx=>blk x ((h.rows i hi).lt hx) (fun ex=>e (h.one i p x hi hp hx ex.symm)) fun ex=>(h.ne i hi).1 (by rw[hx,ex])
 ·by_cases e:i=p<;>by_cases e2:j=p
  ·rw[e,e2]
  ·rw[e,Zv] at hx
   rw[J1 _ _ e2] at hy
   rcases own' x hx with h3|h3
   ·exact absurd (h.one j p x hj hp hy h3) e2
   ·have:=(h.rows j hj).lt hy
    omega
  ·rw[e2,Zv] at hy
   rw[J1 _ _ e] at hx
   rcases own' x hy with h3|h3
   ·exact absurd (h.one i p x hi hp hx h3) e
   ·have:=(h.rows i hi).lt hx
    omega
  ·rw[J1 _ _ e] at hx
   rw[J1 _ _ e2] at hy
   exact h.one i j x hi hj hx hy
 ·by_cases e:i=p
  ·rw[e,Zv]
   exact⟨hvq,hvb⟩
  ·rw[J1 _ _ e]
   exact h.ne i hi
 ·exact(Turn.grown (F:=Gc q b vs) g5 fun k hk=>.inl (.inr (.inr ⟨p,hp,hk⟩))).trans (Turn.setCell (Gc q b vs) w5 ⟨q,p,none⟩ v' (.inl rfl)) fun x hx=>.inl hx
 ·rintro x (rfl|rfl|⟨i,hi,hx⟩)
  ·exact .inl (.inl rfl)
  ·exact .inl (.inr (.inl rfl))
  ·by_cases e:i=p
   ·rw[e,Zv] at hx
    exact(own' x hx).imp (fun h3=>.inr (.inr ⟨p,hp,h3⟩)) id
   ·rw[J1 _ _ e] at hx
    exact .inl (.inr (.inr ⟨i,hi,hx⟩))
theorem QuP.mapped (h:QuP q b vs M f w) {f':Int->Option Int} (hm:MapIs w' b f') (g:w.grownBy w' (some b)):QuP q b vs M f' w'/\Turn (Gc q b vs) w w':=by
 obtain⟨C,hC,r⟩:=h.head
 have blk:∀ x,x<w.heap.size->x≠b->w'.heap[x]? = w.heap[x]?:=fun x hx hne=>g.block x hx fun e=>hne (Jqz e)
 exact⟨⟨⟨C,(blk q h.lt h.qb).trans hC,r⟩,fun p hp=>(h.rows p hp).keep fun x hx=>blk x ((h.rows p hp).lt hx) fun e=>(h.ne p hp).2 (by rw[hx,e]),hm,h.one,h.ne,h.qb⟩,Turn.grown g fun k hk=>.inl (.inr (.inl (Jqz hk).symm))⟩
end
theorem UU (n:Int) (w:World) (h0:0<=n) (h1:n<256) :
  Calls Tryz.prog 290 #[.int .i64 n] w fun e w'=>e=.returned (.bool true)/\w'=w:=by
 go_enter Tryz.func290,Tryz.ntmps290
 go_wp2
 go_ret
 exact⟨rfl,rfl⟩
theorem Gy (n:Int) (w:World) (h:¬ (0<=n/\n<256)) :
  Calls Tryz.prog 290 #[.int .i64 n] w fun e w'=>e=.returned (.bool false)/\w'=w:=by
 by_cases c:0<=n
 ·have c2:¬ n<256:=fun x=>h ⟨c,x⟩
  have c3:decide (n<256)=false:=by simpa using c2
  clear h
  go_enter Tryz.func290,Tryz.ntmps290
  go_wp2
  go_ret
  exact⟨rfl,rfl⟩
 ·have c3:decide (0<=n)=false:=by simpa using c
  clear h
  go_enter Tryz.func290,Tryz.ntmps290
  go_wp2
  go_ret
  exact⟨rfl,rfl⟩
theorem Jgh (q b:Nat) (vs:Nat->Value) (M:Nat->List Int) (f:Int->Option Int) (p:Nat) (n:Int) (L:List Int) (w:World) (h:QuP q b vs M f w) (hp:p<256) (hM:M p=n::L) :
  Calls Tryz.prog 217 #[.pointer (some ⟨q,0,none⟩),.int .i64 p] w fun e w'=>e=.returned (.int .i64 n)/\w'=w:=by
 have hc:=h.cell hp
 have hr:=h.rows p hp
 rw[hM] at hr
 obtain⟨ao,cap,ev,_,_,hg,_⟩:=hr.slice
 obtain⟨g,rfl⟩:=hg 0 (by simp)
 have hx:=(ev ▸ hr:RowI w _ _).cell (i:=0) (x:=n) rfl
 rw[ev] at hc
 simp only[List.length_cons] at hc
 clear h hr ev hM hg
 go_enter Tryz.func217,Tryz.ntmps217
 go_wp2
 go_ret
 exact⟨rfl,rfl⟩
theorem Aw {w w':World} {q:Nat} (h:w'.heap[q]? = w.heap[q]?) (j:Nat):w'.cell? ⟨q,j,none⟩=w.cell? ⟨q,j,none⟩:=by simp[World.cell?,h]
theorem IB {w w':World} {q:Nat} (h:w'.heap[q]? = w.heap[q]?) (j:Nat):w'.frozen? ⟨q,j,none⟩=w.frozen? ⟨q,j,none⟩:=by simp[World.frozen?,h]
def Jhj (n:Int):Obj:=.cells #[.int .i64 n] 3
theorem Jgf (q b:Nat) (vs:Nat->Value) (M:Nat->List Int) (f:Int->Option Int) (p:Nat) (n:Int) (w:World) (h:QuP q b vs M f w) (hp:p<256) (hl:(M p).length<=1000) :
  Calls Tryz.prog 291 #[.pointer (some ⟨q,0,none⟩),.int .i64 p,.int .i64 n] w fun e w'=>e=.returned (.tuple #[])/\GQ w q b vs (VJ M p (M p++[n])) f w':=by
 have hc:=h.cell hp
 have h1:RowI (w.drew.alloc (Jhj n)) (vs p) (M p):=((h.rows p hp).below ((Below.refl _ _).drew)).below (Jb _ _)
 obtain⟨v',w',r1,r2,r3,r4⟩:=XU (w.drew.alloc (Jhj n)) 22 (vs p) (M p) n w.heap.size h1 (by have:=blk_alloc_new w.drew (Jhj n);simp only[World.cell?];rw[show w.heap.size=w.drew.heap.size from rfl,this];rfl) (by omega)
 have g5':=(World.grownBy_alloc w.drew (Jhj n) _).trans r3
 have g5:w.grownBy w' (vs p).ownBlock:=⟨g5'.os,g5'.tape,g5'.output,g5'.size,g5'.block⟩
 have hq:w'.heap[q]? = w.heap[q]?:=g5.block q h.lt fun e=>(h.ne p hp).1 e.symm
 have hc':w'.cell? ⟨q,p,none⟩=some (vs p):=by rw[Aw hq];exact hc
 have hf':w'.frozen? ⟨q,p,none⟩=false:=by rw[IB hq];exact h.frozen p
 have HK:Hid (GQ w q b vs (VJ M p (M p++[n])) f (w'.setCell ⟨q,p,none⟩ v')):=
  ⟨_,h.hang hp r2 g5 (r4.imp id fun e=>⟨_,e,by simp⟩)⟩
 obtain⟨ao,cap,ev,_⟩:=r2.slice
 subst ev
 have HRun:Hid _:=r1
 have hca:=Jx hc (Jhj n)
 unfold Jhj at HRun hca
 clear h1 r1 r2 r3 r4 g5 g5' hq h hl
 generalize vs p=v at *
 generalize(M p++[n]).length=k at *
 have hpz:(p:Int)<256:=by omega
 go_enter Tryz.func291,Tryz.ntmps291
 go_region_law (refine Jy rfl (.tmp 12) (.tmp 14) 22 22 rfl v (.slice (some ⟨w.heap.size,0,none⟩) 1 1) _ _ (by simp[Act.eval]) (by simp[Act.eval]) HRun.out ?_)
 all_goals exact bodyPost_end (v:=.tuple #[]) (by simp[results,Tryz.results291,go_sem]) rfl ⟨rfl,HK.out⟩
theorem Jg1 (q b:Nat) (vs:Nat->Value) (M:Nat->List Int) (f:Int->Option Int) (p:Nat) (n:Int) (i:Nat) (w:World) (h:QuP q b vs M f w) (hp:p<256) (hl:(M p).length<=1000) (hi:(M p)[i]? = some n) (ha:∀ j,j<i->(M p)[j]? ≠ some n) :
  Calls Tryz.prog 292 #[.pointer (some ⟨q,0,none⟩),.int .i64 p,.int .i64 n] w fun e w'=>e=.returned (.tuple #[])/\GQ w q b vs (VJ M p ((M p).eraseIdx i)) f w':=by
 have hil:=(Jqb.1 hi).1
 have hc:=h.cell hp
 have hr:=h.rows p hp
 obtain⟨ao,cap,ev,_,_,hg,_⟩:=hr.slice
 obtain⟨g,rfl⟩:=hg 0 (by omega)
 rw[ev] at hr hc
 have HI:Hid _:=XW g cap (M p) i n w hr hi ha hl
 have HD:Hid _:=fun u (hu:RowI u _ _)=>U4 g cap (M p) i u hu hil hl
 have HR:Hid (RowI w (.slice (some ⟨g,0,none⟩) (M p).length cap) (M p)):=hr
 have HQ:Hid (QuP q b vs M f w):=h
 have HV:Hid (vs p=_):=ev
 have hw1:IntKind.i64.wrap ((i:Int)+1)=(i:Int)+1:=by rw[IntKind.wrap_i64];omega
 clear h hi ha hr ev hg
 generalize hm:(M p).length=m at *
 have hpz:(p:Int)<256:=by omega
 go_enter Tryz.func292,Tryz.ntmps292
 go_wp2_with (go_at_call 341;refine Jqa HI.out ?_;rintro e w' ⟨rfl,rfl⟩)
 go_region_with (go_at_call 347;refine Jqa (HD.out _ (RowI.below HR.out ((Below.refl _ _).drew))) ?_;rintro e w2 ⟨rfl,r2,g2⟩;have hq:w2.heap[q]? = w'.heap[q]?:=g2.block q HQ.out.lt (fun e=>(HQ.out.ne p hp).1 (by rw[HV.out];exact e.symm));have hc2:w2.cell? ⟨q,p,none⟩=some (.slice (some ⟨g,0,none⟩) m cap):=(by rw[Aw hq];exact hc);have hf2:w2.frozen? ⟨q,p,none⟩=false:=(by rw[IB hq];exact HQ.out.frozen p);have HK:Hid (GQ w' q b vs (VJ M p ((M p).eraseIdx i)) f (w2.setCell ⟨q,p,none⟩ (.slice (some ⟨g,0,none⟩) (m - 1) cap))):=⟨_,HQ.out.hang hp r2 (by rw[HV.out];exact⟨g2.os,g2.tape,g2.output,g2.size,g2.block⟩) (.inl (by rw[HV.out];rfl))⟩;clear r2 g2 hq)
 exact bodyPost_end (v:=.tuple #[]) (by simp[results,Tryz.results292,go_sem]) rfl ⟨rfl,HK.out⟩
def wd (f:Nat->Bool):Nat->Int->Int
 | 0,_=>0
 | m+1,k=>XJ (f m) (wd f m k) m k
theorem Xk (f:Nat->Bool) (k:Int):∀ m,Word (wd f m k)
 | 0=>⟨by simp[wd],by simp[wd]⟩
 | m+1=>Jmf _ _ _ _ (Xk f k m)
theorem Jgt (n:Int):EJ 0 0 0 0 n=false:=by
 have:∀ k,OJ 0 0 0 0 k=0:=fun k=>by unfold OJ;split<;>(try split)<;>(try split)<;>rfl
 unfold EJ Zw
 rw[this]
 simp
theorem Jnb (f:Nat->Bool) (i:Nat) (hi:i<256):∀ m,m<=256->EJ (wd f m 0) (wd f m 1) (wd f m 2) (wd f m 3) (i:Int)=(decide (i<m) && f i)
 | 0,_=>by
  unfold wd
  rw[Jgt]
  simp
 | m+1,hm=>by
  have ih:=Jnb f i hi m (by omega)
  unfold wd
  rw[Jn6 (f m) _ _ _ _ (m:Int) (i:Int) (Xk f 0 m) (Xk f 1 m) (Xk f 2 m) (Xk f 3 m) (by omega) (by omega) (by omega) (by omega),ih]
  by_cases e:i=m
  ·subst e
   simp
  ·have e2:¬ ((i:Int)=(m:Int)):=by omega
   rw[if_neg e2]
   by_cases h:i<m
   ·have h2:i<m+1:=by omega
    simp[h,h2]
   ·have h2:¬ i<m+1:=by omega
    simp[h,h2]
theorem O2 {f g:Nat->Bool}:∀ m,(∀ k,k<m->f k=g k)->XQ f m=XQ g m
 | 0,_=>rfl
 | m+1,h=>by
  unfold XQ
  rw[h m (by omega),O2 m fun k hk=>h k (by omega)]
def Jna (f:Nat->Bool):Value:=.agg #[.int .u64 (wd f 256 0),.int .u64 (wd f 256 1),.int .u64 (wd f 256 2),.int .u64 (wd f 256 3)]
theorem Ju5 (f:Nat->Bool):O7 (wd f 256 0) (wd f 256 1) (wd f 256 2) (wd f 256 3)=XQ f 256:=by
 unfold O7
 refine O2 256 fun k hk=>?_
 have:=Jnb f k hk 256 (by omega)
 unfold EJ at this
 have h1:(0:Int)<=(k:Int):=by omega
 have h2:(k:Int)<256:=by omega
 simpa [h1,h2,hk] using this
def Zs (x0 x1 x2 x3:Int):Obj:=.cells #[.int .u64 x0,.int .u64 x1,.int .u64 x2,.int .u64 x3] 321
theorem If {w:World} {g:Nat} {x0 x1 x2 x3:Int} (h:w.heap[g]? = some (Zs x0 x1 x2 x3)):w.cell? ⟨g,0,none⟩=some (.int .u64 x0)/\w.cell? ⟨g,1,none⟩=some (.int .u64 x1)/\w.cell? ⟨g,2,none⟩=some (.int .u64 x2)/\w.cell? ⟨g,3,none⟩=some (.int .u64 x3)/\w.frozen? ⟨g,0,none⟩=false/\w.frozen? ⟨g,1,none⟩=false/\w.frozen? ⟨g,2,none⟩=false/\w.frozen? ⟨g,3,none⟩=false:=by
 unfold Zs at h
 refine⟨?_,?_,?_,?_,?_,?_,?_,?_⟩<;>simp[World.cell?,World.frozen?,h]
def Ua (w:World) (g:Nat) (y0 y1 y2 y3:Int):World:=(((w.setCell ⟨g,0,none⟩ (.int .u64 y0)).setCell ⟨g,1,none⟩ (.int .u64 y1)).setCell ⟨g,2,none⟩ (.int .u64 y2)).setCell ⟨g,3,none⟩ (.int .u64 y3)
theorem Jmg {w:World} {g:Nat} {x0 x1 x2 x3:Int} (h:w.heap[g]? = some (Zs x0 x1 x2 x3)) (y0 y1 y2 y3:Int):(Ua w g y0 y1 y2 y3).heap[g]? = some (Zs y0 y1 y2 y3):=by
 unfold Zs at h ⊢
 simp only[Ua,World.setCell,Array.getElem?_modify,h,Option.map_some,if_true]
 simp
theorem Eo (F:Nat->Prop) (w:World) (g:Nat) (y0 y1 y2 y3:Int) (h:F g):Turn F w (Ua w g y0 y1 y2 y3):=
 (((Turn.setCell F _ ⟨g,0,none⟩ _ h).trans (Turn.setCell F _ ⟨g,1,none⟩ _ h) fun _ h=>.inl h).trans (Turn.setCell F _ ⟨g,2,none⟩ _ h) fun _ h=>.inl h).trans (Turn.setCell F _ ⟨g,3,none⟩ _ h) fun _ h=>.inl h
theorem Jei {F:Nat->Bool} {m r:Nat} {w u:World} {x0 x1 x2 x3 y0 y1 y2 y3 z0 z1 z2 z3:Int} (bel:Below r w u) (hb:u.heap[r+1]? = some (Zs x0 x1 x2 x3)) (hz:u.heap[r]? = some (Zs z0 z1 z2 z3))
  (he:wd F (m+1) 0=y0/\wd F (m+1) 1=y1/\wd F (m+1) 2=y2/\wd F (m+1) 3=y3) :
  Below r w (Ua u (r+1) y0 y1 y2 y3)/\(Ua u (r+1) y0 y1 y2 y3).heap[r+1]? = some (Zs (wd F (m+1) 0) (wd F (m+1) 1) (wd F (m+1) 2) (wd F (m+1) 3))/\∃ z0 z1 z2 z3,(Ua u (r+1) y0 y1 y2 y3).heap[r]? = some (Zs z0 z1 z2 z3):=by
 obtain⟨rfl,rfl,rfl,rfl⟩:=he
 have t:=Eo (fun x=>x=r+1) u (r+1) (wd F (m+1) 0) (wd F (m+1) 1) (wd F (m+1) 2) (wd F (m+1) 3) rfl
 have hr:=(Jqf.1 hz).1
 exact⟨t.below bel (fun x hx=>by omega) (by omega),Jmg hb _ _ _ _,z0,z1,z2,z3,(t.block r hr (by omega)).trans hz⟩
theorem OF (q b:Nat) (vs:Nat->Value) (M:Nat->List Int) (f:Int->Option Int) (w:World) (h:QuP q b vs M f w) :
  Calls Tryz.prog 216 #[.pointer (some ⟨q,0,none⟩)] w fun e w'=>e=.returned (Jna fun p=>decide (0<(M p).length))/\Below w.heap.size w w':=by
 have HQ:Hid (QuP q b vs M f w):=h
 generalize hF:(fun p=>decide (0<(M p).length))=F
 have HF:Hid (∀ p,F p=decide (0<(M p).length)):=fun p=>by rw[<- hF]
 clear h hF
 have H0:Hid (Below w.heap.size w ((w.alloc (Zs 0 0 0 0)).alloc (Zs 0 0 0 0))/\((w.alloc (Zs 0 0 0 0)).alloc (Zs 0 0 0 0)).heap[w.heap.size+1]? = some (Zs 0 0 0 0)/\∃ z0 z1 z2 z3,((w.alloc (Zs 0 0 0 0)).alloc (Zs 0 0 0 0)).heap[w.heap.size]? = some (Zs z0 z1 z2 z3)):=
  ⟨Below.then (Jb w _) (Jb _ _) (by simp),by have:=blk_alloc_new (w.alloc (Zs 0 0 0 0)) (Zs 0 0 0 0);simpa using this,0,0,0,0,(blk_alloc_lt _ _ _ (by simp)).trans (blk_alloc_new _ _)⟩
 go_enter Tryz.func216,Tryz.ntmps216
 go_wp2_with fail
 generalize hr:w.heap.size=r at *
 go_loopw [4,5] (fun _ s5 wr=>∃ m:Nat,m<=256/\s5=.int .i64 m/\Below r w wr/\wr.heap[r+1]? = some (Zs (wd F m 0) (wd F m 1) (wd F m 2) (wd F m 3))/\∃ z0 z1 z2 z3,wr.heap[r]? = some (Zs z0 z1 z2 z3)) (fun _ s5 _=>256 - (intOf s5).toNat)
 case atStart=>exact⟨0,Jqp _,rfl,H0.out⟩
 case round =>
  obtain⟨m,hm,rfl,bel,hb,z0,z1,z2,z3,hz⟩:=hrel
  obtain⟨c0,c1,c2,c3,f0,f1,f2,f3⟩:=If hb
  by_cases hlt:m<256
  ·have hQ:=HQ.out.below (hr ▸ bel)
   obtain⟨ao,cap,ev,_⟩:=(hQ.rows m hlt).slice
   have hc:=hQ.cell hlt
   rw[ev] at hc
   have hFm:=HF.out m
   generalize hl:(M m).length=l at *
   have hd:decide (0<l)=F m:=by rw[hFm]
   have hmz:(m:Int)<256:=by omega
   have w0:=Xk F 0 m
   have w1:=Xk F 1 m
   have w2:=Xk F 2 m
   have w3:=Xk F 3 m
   have HS:=fun u=>Jpr (F m) (wd F m 0) (wd F m 1) (wd F m 2) (wd F m 3) m u w0 w1 w2 w3 (by omega) hmz
   have HB:Hid (Below r w wr):=bel
   have HH:Hid (wr.heap[r+1]? = some (Zs (wd F m 0) (wd F m 1) (wd F m 2) (wd F m 3))):=hb
   have HZ:Hid (wr.heap[r]? = some (Zs z0 z1 z2 z3)):=hz
   have HE:Hid (wd F (m+1) 0=XJ (F m) (wd F m 0) m 0/\wd F (m+1) 1=XJ (F m) (wd F m 1) m 1/\wd F (m+1) 2=XJ (F m) (wd F m 2) m 2/\wd F (m+1) 3=XJ (F m) (wd F m 3) m 3):=⟨rfl,rfl,rfl,rfl⟩
   have HS':=Ja HS
   clear HS w0 w1 w2 w3 bel hb hz hQ ev hFm hl
   generalize XJ (F m) (wd F m 0) m 0=y0 at *
   generalize XJ (F m) (wd F m 1) m 1=y1 at *
   generalize XJ (F m) (wd F m 2) m 2=y2 at *
   generalize XJ (F m) (wd F m 3) m 3=y3 at *
   generalize wd F m 0=x0 at *
   generalize wd F m 1=x1 at *
   generalize wd F m 2=x2 at *
   generalize wd F m 3=x3 at *
   generalize F m=z at *
   go_wp2_with fail
   go_region_with (go_at_call 289;(with_reducible refine Jqa (HS'.out _) ?_);rintro e u ⟨rfl,bu⟩;have hb2:u.heap[r+1]? = some (Zs x0 x1 x2 x3):=(bu.block (r+1) (Jqf.1 HH.out).1).trans HH.out;have hz2:Hid (u.heap[r]? = some (Zs z0 z1 z2 z3)):=(bu.block r (Jqf.1 HZ.out).1).trans HZ.out;have HB2:Hid (Below r w u):=Below.then HB.out ⟨bu.os,bu.tape,bu.output,bu.size,bu.block⟩ (Nat.le_of_lt (Jqf.1 HZ.out).1);obtain⟨d0,d1,d2,d3,g0,g1,g2,g3⟩:=If hb2;have HN:Hid (Below r w (Ua u (r+1) y0 y1 y2 y3)/\(Ua u (r+1) y0 y1 y2 y3).heap[r+1]? = some (Zs (wd F (m+1) 0) (wd F (m+1) 1) (wd F (m+1) 2) (wd F (m+1) 3))/\∃ z0 z1 z2 z3,(Ua u (r+1) y0 y1 y2 y3).heap[r]? = some (Zs z0 z1 z2 z3)):=Jei HB2.out hb2 hz2.out HE.out;unfold Ua at HN;clear hb2 bu)
   all_goals
    go_wp2
    go_round
    case rel=>exact⟨m+1,by omega,by go_num,HN.out⟩
    case measure=>simp[intOf];omega
  ·obtain rfl:m=256:=by omega
   obtain⟨e0,e1,e2,e3,g0,g1,g2,g3⟩:=If hz
   have HB:Hid (Below r w wr):=bel
   have HL:Hid (∀ a b c d,Below r w (Ua wr r a b c d)):=fun a b c d=>(Eo (fun x=>x=r) wr r a b c d rfl).below bel (fun x hx=>by rw[hx];exact Jqd _) (Nat.le_of_lt (Jqf.1 hz).1)
   unfold Ua at HL
   have HE:Hid (Jna F=.agg #[.int .u64 (wd F 256 0),.int .u64 (wd F 256 1),.int .u64 (wd F 256 2),.int .u64 (wd F 256 3)]):=rfl
   clear bel hb hz
   generalize wd F 256 0=x0 at *
   generalize wd F 256 1=x1 at *
   generalize wd F 256 2=x2 at *
   generalize wd F 256 3=x3 at *
   go_wp2
   rw[HE.out,hr]
   exact bodyPost_ret (v:=.agg #[.int .u64 x0,.int .u64 x1,.int .u64 x2,.int .u64 x3]) (by simp[results,Tryz.results216,go_sem,e0,e1,e2,e3]) rfl ⟨rfl,HL.out _ _ _ _⟩
def QuH (q:Nat) (F:Nat->Prop) (S:St) (w:World):Prop:=∃ b vs,QuP q b vs (JC S) (I8 S) w/\Good S/\∀ x,F x↔Gc q b vs x
def quT (q:Nat) (F:Nat->Prop) (S:St):Th where
 F:=F
 H:=QuH q F S
 lt:=fun _ ⟨_,_,h,_,e⟩ x hx=>h.fp_lt x ((e x).1 hx)
 keep:=fun _ _ ⟨b,vs,h,g,e⟩ k=>⟨b,vs,h.keep fun x hx=>k x ((e x).2 hx),g,e⟩
theorem QuH.below {q:Nat} {F:Nat->Prop} {S:St} {w w':World} (h:QuH q F S w) (k:Below w.heap.size w w'):QuH q F S w':=(quT q F S).below h k
def Goes (w:World) (q:Nat) (F:Nat->Prop) (S:St) (w':World):Prop:=∃ F',QuH q F' S w'/\Turn F w w'/\Out F F' w
theorem Goes.same {w w':World} {q:Nat} {F:Nat->Prop} {S:St} (h:QuH q F S w) (b:Below w.heap.size w w'):Goes w q F S w':=⟨F,h.below b,Turn.of b F,Out.refl _ _⟩
theorem Je4 {w w':World} {q b:Nat} {F:Nat->Prop} {vs:Nat->Value} {S:St} {M:Nat->List Int} {f:Int->Option Int} (e:∀ x,F x↔Gc q b vs x) (h:GQ w q b vs M f w') (g:Good S) (eM:∀ p,p<256->JC S p=M p) (ef:∀ n,I8 S n=f n):Goes w q F S w':=by
 obtain⟨vs',h1,h2,h3⟩:=h
 obtain rfl:F=Gc q b vs:=funext fun x=>propext (e x)
 exact⟨Gc q b vs',⟨b,vs',h1.congr eM ef,g,fun _=>Iff.rfl⟩,h2,h3⟩
theorem Jep:∃ zs:Array Value,zs.size=257/\(∀ p,p<256->zs[p]? = some (.slice none 0 0))/\∀ w,(zeroValue 327).run Tryz.prog w=.ok (.agg zs) w:=by
 refine⟨(List.replicate 256 (Value.slice none 0 0)++[Value.map none]).toArray,by simp,fun p hp=>?_,fun w=>by kernel_rfl⟩
 rw[List.getElem?_toArray,List.getElem?_append_left (by simpa using hp),List.getElem?_replicate,if_pos hp]
theorem Jhe (w:World) (zs:Array Value) (h0:zs.size=257) (h1:∀ p,p<256->zs[p]? = some (.slice none 0 0)) :
  QuP (w.heap.size+1) w.heap.size (fun _=>.slice none 0 0) (JC []) (I8 []) ((w.alloc (.map #[] 0)).alloc (.cells (zs.setIfInBounds 256 (.map (some w.heap.size))) 327)):=by
 have hs:(w.alloc (.map #[] 0)).heap.size=w.heap.size+1:=by simp
 refine⟨⟨zs.setIfInBounds 256 (.map (some w.heap.size)),?_,by simpa using h0,fun p hp=>?_,?_⟩,fun p hp=>Jl3 _,?_,fun p p' x _ _ hx=>by simp[Value.ownBlock] at hx,fun p _=>by simp[Value.ownBlock],by omega⟩
 ·rw[<- hs]
  exact blk_alloc_new _ _
 ·have e:¬ 256=p:=by omega
  rw[Array.getElem?_setIfInBounds,if_neg e]
  exact h1 p hp
 ·rw[Array.getElem?_setIfInBounds,if_pos rfl,if_pos (by omega)]
 ·exact(MapIs.new w).of_block (blk_alloc_lt _ _ _ (by simp))
theorem Jz0 (w:World):Calls Tryz.prog 194 #[] w fun e w'=>e=.returned (.pointer (some ⟨w.heap.size+1,0,none⟩))/\QuP (w.heap.size+1) w.heap.size (fun _=>.slice none 0 0) (JC []) (I8 []) w'/\Below w.heap.size w w':=by
 have hmm:=@run_makeMap Tryz.prog
 obtain⟨zs,h0,h1,hz⟩:=Jep
 have hlt:¬ zs.size<257:=by omega
 have HK:Hid (QuP (w.heap.size+1) w.heap.size (fun _=>.slice none 0 0) (JC []) (I8 []) ((w.alloc (.map #[] 0)).alloc (.cells (zs.setIfInBounds 256 (.map (some w.heap.size))) 327))/\Below w.heap.size w ((w.alloc (.map #[] 0)).alloc (.cells (zs.setIfInBounds 256 (.map (some w.heap.size))) 327))):=
  ⟨Jhe w zs h0 h1,Below.then (Jb _ _) (Jb _ _) (by simp)⟩
 clear h1
 go_enter Tryz.func194,Tryz.ntmps194
 go_wp2
 go_ret
 exact⟨rfl,HK.out⟩
theorem IM (w:World):Calls Tryz.prog 194 #[] w fun e w'=>∃ F,e=.returned (.pointer (some ⟨w.heap.size+1,0,none⟩))/\QuH (w.heap.size+1) F [] w'/\Below w.heap.size w w'/\∀ x,F x->w.heap.size<=x:=by
 refine Jqa (Jz0 w) ?_
 rintro e w' ⟨rfl,h,b⟩
 refine⟨_,rfl,⟨_,_,h,Vg,fun _=>Iff.rfl⟩,b,?_⟩
 rintro x (rfl|rfl|⟨p,_,hx⟩)
 ·omega
 ·exact Jqd _
 ·simp[Value.ownBlock] at hx
theorem GH (q:Nat) (F:Nat->Prop) (S:St) (p n:Int) (w:World) (h:QuH q F S w) (hn:VC n) (hl:S.length<=1000) :
  Calls Tryz.prog 218 #[.pointer (some ⟨q,0,none⟩),.int .i64 p,.int .i64 n] w fun e w'=>e=.returned (.int .i64 (VX S p n))/\Goes w q F (ZL S p n) w':=by
 have HQ:Hid (QuH q F S w):=h
 obtain⟨b,vs,h,good,hF⟩:=h
 have hc:=h.cellM
 have hlk:=h.map.look hn true
 rcases Jd9 S p n with ⟨e1,e2,h0,h1,h2⟩|⟨e1,e2,h0,h1,h2⟩|⟨e1,e2,h0⟩<;>rw[e1,e2]
 ·have hs:(I8 S n).isSome=false:=h2
  obtain⟨w1,hst,m1,g1,_⟩:=h.map.store hn p
  obtain⟨x1,x2⟩:=h.mapped m1 g1
  obtain⟨P,rfl⟩:=Jqg h0
  have HE:=Ja (Jgf q b vs (JC S) _ P n w1 x1 (by omega) (Jql (Jbb S P) hl))
  have HT:Hid (Turn (Gc q b vs) w w1):=x2
  have HG:Hid (Good S/\(∀ y∈S,y.n≠n)/\∀ x,F x↔Gc q b vs x):=⟨good,Jck h2,hF⟩
  rw[hs] at hlk
  clear h good hF m1 g1 x1 x2 h2 hs
  go_enter Tryz.func218,Tryz.ntmps218
  go_wp2_with (first|(go_at_call 290;refine Jqa (UU _ _ (by omega) (by omega)) ?_;rintro e w' ⟨rfl,rfl⟩)|(go_at_call 291;refine Jqa HE.out ?_;rintro e w2 ⟨rfl,G2⟩))
  go_ret
  obtain⟨good,hno,hF⟩:=HG.out
  have hp:P<256:=by omega
  obtain⟨vs',y1,y2,y3⟩:=G2
  refine⟨rfl,Je4 hF ⟨vs',y1,HT.out.trans y2 fun x hx=>.inl hx,fun x hx=>(y3 x hx).imp id fun h1=>Jql HT.out.size h1⟩ (VS (x:=⟨P,n⟩) good hp hn hno) (fun i hi=>?_) (fun m=>?_)⟩
  ·rw[Jkw]
   unfold VJ
   by_cases e:i=P
   ·simp[e]
   ·simp[e]
  ·rw[Jq1 hno]
   rfl
 ·have hs:(I8 S n).isSome=true:=h2
  rw[hs] at hlk
  clear h good hF h2 hs
  go_enter Tryz.func218,Tryz.ntmps218
  go_wp2_with (go_at_call 290;refine Jqa (UU _ _ (by omega) (by omega)) ?_;rintro e w' ⟨rfl,rfl⟩)
  go_ret
  exact⟨rfl,Goes.same HQ.out (Below.refl _ _)⟩
 ·have H0:Hid (¬ (0<=p/\p<256)):=h0
  clear h good hF h0 hlk
  go_enter Tryz.func218,Tryz.ntmps218
  go_wp2_with (go_at_call 290;refine Jqa (Gy _ _ H0.out) ?_;rintro e w' ⟨rfl,rfl⟩)
  go_ret
  exact⟨rfl,Goes.same HQ.out (Below.refl _ _)⟩
theorem Joo {S:St} (g:Good S) {x:In} (hx:x∈S):∃ i,(JC S x.p)[i]? = some x.n/\(∀ j,j<i->(JC S x.p)[j]? ≠ some x.n)/\JC (takeS S x.n) x.p=(JC S x.p).eraseIdx i:=by
 have hm:x.n∈JC S x.p:=Jbc.2 ⟨x,hx,rfl,rfl⟩
 obtain⟨i,hi,e⟩:=List.mem_iff_getElem.1 hm
 have h1:(JC S x.p)[i]? = some x.n:=by rw[List.getElem?_eq_getElem hi,e]
 refine⟨i,h1,fun j hj hj2=>?_,Gr g h1⟩
 obtain⟨hjl,ej⟩:=Jqb.1 hj2
 exact List.pairwise_iff_getElem.1 (Jbd g x.p) j i hjl hi hj (by rw[ej,e])
theorem UC (q:Nat) (F:Nat->Prop) (S:St) (n:Int) (w:World) (h:QuH q F S w) (hn:VC n) (hl:S.length<=1000) :
  Calls Tryz.prog 219 #[.pointer (some ⟨q,0,none⟩),.int .i64 n] w fun e w'=>e=.returned (.int .i64 (ZS S n))/\Goes w q F (takeS S n) w':=by
 have HQ:Hid (QuH q F S w):=h
 obtain⟨b,vs,h,good,hF⟩:=h
 have hc:=h.cellM
 have hlk:=h.map.look hn true
 unfold ZS
 rcases Jne S n with ⟨e1,e2,e3⟩|⟨x,hx,rfl,e1,e2,e3⟩<;>rw[e1]
 ·rw[OE e1,if_neg (by simp)]
  rw[e2] at hlk
  simp only[Option.getD_none,Option.isSome_none] at hlk
  clear h good hF e1 e2 e3
  go_enter Tryz.func219,Tryz.ntmps219
  go_wp2
  go_ret
  exact⟨rfl,Goes.same HQ.out (Below.refl _ _)⟩
 ·rw[if_pos rfl]
  rw[e2] at hlk
  simp only[Option.getD_some,Option.isSome_some] at hlk
  obtain⟨i,i1,i2,i3⟩:=Joo good hx
  obtain⟨w1,hst,m1,g1,_⟩:=h.map.drop hn 0
  obtain⟨x1,x2⟩:=h.mapped m1 g1
  have hp:=(good.fit x hx).1
  have HE:=Ja (Jg1 q b vs (JC S) _ x.p x.n i w1 x1 hp (Jql (Jbb S x.p) hl) i1 i2)
  have HT:Hid (Turn (Gc q b vs) w w1):=x2
  have HG:Hid (Good S/\x∈S/\(∀ x,F x↔Gc q b vs x)/\JC (takeS S x.n) x.p=(JC S x.p).eraseIdx i):=⟨good,hx,hF,i3⟩
  clear h good hF m1 g1 x1 x2 e1 e2 e3 hx i1 i2 i3
  go_enter Tryz.func219,Tryz.ntmps219
  go_wp2_with (go_at_call 292;refine Jqa HE.out ?_;rintro e w2 ⟨rfl,G2⟩)
  go_ret
  obtain⟨good,hx,hF,i3⟩:=HG.out
  obtain⟨vs',y1,y2,y3⟩:=G2
  refine⟨rfl,Je4 hF ⟨vs',y1,HT.out.trans y2 fun x hx=>.inl hx,fun x hx=>(y3 x hx).imp id fun h1=>Jql HT.out.size h1⟩ (UL good x.n) (fun j hj=>?_) (fun m=>?_)⟩
  ·unfold VJ
   by_cases e:j=x.p
   ·rw[if_pos e,e,i3]
   ·rw[if_neg e,O5 good hx e]
  ·rw[Jnd good]
   rfl
theorem Jo6 (S:St):(fun p=>decide (0<(JC S p).length))=FB S:=funext fun p=>(Jlg S p).symm
theorem Jld (q:Nat) (F:Nat->Prop) (S:St) (w:World) (ht:Tab w) (h:QuH q F S w) :
  Calls Tryz.prog 122 #[.pointer (some ⟨q,0,none⟩)] w fun e w'=>e=.returned (.tuple #[.int .i64 (Vz S),.bool (Vy S)])/\Below w.heap.size w w':=by
 obtain⟨b,vs,h,good,hF⟩:=h
 have HT:=Ja (OF q b vs _ _ w h)
 rw[Jo6] at HT
 have HP:=Ja (fun u (b1:Below w.heap.size w u)=>Jp3 (wd (FB S) 256 0) (wd (FB S) 256 1) (wd (FB S) 256 2) (wd (FB S) 256 3) u (ht.below b1) (Xk _ _ _) (Xk _ _ _) (Xk _ _ _) (Xk _ _ _))
 rw[Ju5] at HP
 have HQ:Hid (QuP q b vs (JC S) (I8 S) w):=h
 have HG:Hid (Good S):=good
 unfold Jna at HT
 have hts:XQ (FB S) 256=Jm1 S:=rfl
 rw[hts] at HP
 clear h ht hF hts
 rcases Eb good with ⟨_,e1,_,e2,e3,_⟩|⟨x,L,hx,e1,_,e2,e3,_,e4,_⟩<;>rw[e2,e3]<;>rw[e1] at HP
 ·clear e1 e2 e3 good
  generalize wd (FB S) 256 0=x0 at *
  generalize wd (FB S) 256 1=x1 at *
  generalize wd (FB S) 256 2=x2 at *
  generalize wd (FB S) 256 3=x3 at *
  go_enter Tryz.func122,Tryz.ntmps122
  go_wp2_with (first|(go_at_call 216;refine Jqa HT.out ?_;rintro e w1 ⟨rfl,b1⟩;have B1:=Ja b1;clear b1)|(go_at_call 215;refine Jqa (HP.out _ B1.out) ?_;rintro e w2 ⟨rfl,b2⟩;have B2:=Ja b2;clear b2))
  go_ret2
  exact⟨rfl,Below.then B1.out B2.out B1.out.size⟩
 ·have HX:Hid (x.p<256/\JC S x.p=x.n::L):=⟨(good.fit x hx).1,e4⟩
  clear e1 e2 e3 e4 good hx
  generalize wd (FB S) 256 0=x0 at *
  generalize wd (FB S) 256 1=x1 at *
  generalize wd (FB S) 256 2=x2 at *
  generalize wd (FB S) 256 3=x3 at *
  have hneg:¬ ((x.p:Int)<0):=by omega
  go_enter Tryz.func122,Tryz.ntmps122
  go_wp2_with (first|(go_at_call 216;refine Jqa HT.out ?_;rintro e w1 ⟨rfl,b1⟩;have B1:=Ja b1;clear b1)|(go_at_call 215;refine Jqa (HP.out _ B1.out) ?_;rintro e w2 ⟨rfl,b2⟩;have B2:=Ja (Below.then B1.out b2 B1.out.size);clear b2)|(go_at_call 217;refine Jqa (Jgh q b vs (JC S) (I8 S) x.p x.n L _ (HQ.out.below B2.out) HX.out.1 HX.out.2) ?_;rintro e w3 ⟨rfl,rfl⟩))
  go_ret2
  exact⟨rfl,B2.out⟩
end Th
end Go.Proofs.YtbfjjpdnoalojaaGreatDoor
