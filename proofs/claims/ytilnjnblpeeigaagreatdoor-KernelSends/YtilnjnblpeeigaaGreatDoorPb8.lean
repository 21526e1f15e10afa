/-
  What stands below: KThA; no condition but what each says.
-/
import Derived.Test.YtilnjnblpeeigaaGreatDoorPb1
import Derived.Test.YtilnjnblpeeigaaGreatDoorPb3
import Derived.Laws.BitsAllLaws
import Derived.Test.YtilnjnblpeeigaaGreatDoorProg
import Derived.WalkKit
import Derived.WalkLawsBesides
import Derived.Deep.QuietTactic
import Derived.BigQuiet
import Derived.Test.YtilnjnblpeeigaaGreatDoorRows
import Derived.Laws.StructEq
import Derived.Below
import Derived.Deep.OwnRows
import Derived.Deep.RegionWith
import Derived.Deep.RegionHeld3
import Derived.Maps.AppendAt
import Derived.Laws.CopyOwn
import Derived.Lib.SliceRun
import Derived.Maps.Range
import Derived.Maps.RangeWalk
import Derived.Lib.AppendZerosOnto
import Derived.Laws.AppendOwnNone
import Derived.Shelf.RegionOpenPlain
import Derived.Deep.RegionLaw
import Derived.Shelf.Abstract
import Derived.Lib.Walk
import Derived.Deep.Cut
import Derived.Deep.CutRange
set_option maxRecDepth 100000
namespace Go.Proofs.YtilnjnblpeeigaaGreatDoor.Th
theorem not_in {h:Hs} (v:Inv h) {i:Nat} (hi:i<h.L.length) (hs:(thr h i).st≠1) {c:Nat} (hc:c<h.Q.length):whB (que h c) i=false:=by
 cases hb:whB (que h c) i with
 | false=>rfl
 | true =>
  obtain ⟨y,hy,hn⟩:=whB_some hb
  exact absurd (v.nums hc (thr_at hi) hy hn).2.1 hs
theorem set_same {Q:List St} {c:Nat} (hc:c<Q.length):Q.set c (Q.getD c [])=Q:=by
 rw [List.getD_eq_getElem?_getD,List.getElem?_eq_getElem hc]
 simp
theorem gen_free {h:Hs} (v:Inv h) {i:Nat} (hi:i<h.L.length) (hs:(thr h i).st≠1) (x:Td) (hx:x.c<h.Q.length) (hp:x.p<256) :
  genH h i x=⟨h.L.set i x,if x.st=1 then h.Q.set x.c (putS (que h x.c) x.p i) else h.Q⟩:=by
 have hc:=(okay_at v hi).c
 have e1:takeS (h.Q.getD (thr h i).c []) i=h.Q.getD (thr h i).c []:=take_none (not_in v hi hs hc)
 unfold genH genQ
 simp only
 rw [e1,set_same hc]
 split
 ·have e2:putS (que h x.c) x.p i=que h x.c++[⟨x.p,(i:Int)⟩]:=by
   have:putE (que h x.c) x.p i=0:=by
    unfold putE
    rw [if_pos (by omega),not_in v hi hs hx]
    rfl
   simp [putS,this]
  rw [e2]
  rfl
 ·rfl
theorem gen_out {h:Hs} {i:Nat} (x:Td) (hs:x.st≠1):genH h i x=⟨h.L.set i x,h.Q.set (thr h i).c (takeS (que h (thr h i).c) i)⟩:=by
 unfold genH genQ
 simp only [hs,if_false]
 rfl
def z8:List Int:=List.replicate 8 0
end Go.Proofs.YtilnjnblpeeigaaGreatDoor.Th
namespace Go.Proofs.YtilnjnblpeeigaaGreatDoor.Th
open Go.RowKit
theorem numbered_yes (n:Int) (w:World) (h0:0<=n) (h1:n<256) :
  Calls Tryz.prog 209 #[.int .i64 n] w fun e w'=>e = .returned (.bool true)/\w'=w:=by
 go_enter Tryz.func209,Tryz.ntmps209
 go_wp2
 go_ret
 exact ⟨rfl,rfl⟩
theorem bit_any (n:Int) (w:World) (h0:0<=n) (h1:n<256) :
  Calls Tryz.prog 210 #[.int .i64 n] w fun e w'=>e = .returned (.int .u64 (bitI n))/\w'=w:=by
 go_enter Tryz.func210,Tryz.ntmps210
 go_wp2
 go_ret
 exact ⟨ret_int (bit_wrap n),rfl⟩
end Go.Proofs.YtilnjnblpeeigaaGreatDoor.Th
namespace Go.Proofs.YtilnjnblpeeigaaGreatDoor.Th
open Go.RowKit Go.Deep
def cI (n:Int):List Value:=[.int .i64 n]
theorem cI_len (n:Int):(cI n).length=1:=rfl
theorem cI_one (n:Int):∀ v∈cI n,v.oneCell'=true:=by simp [cI,Value.oneCell']
theorem flatI (L:List Int):flatK cI L=L.map fun n=>.int .i64 n:=by
 unfold flatK cI
 induction L with
 | nil=>rfl
 | cons a L ih=>simp [ih]
def RowI (w:World) (v:Value) (L:List Int):Prop:=w.ownsRow 0 3 1 v L.length (flatK cI L)
section
variable {w w':World} {v:Value} {L:List Int}
theorem RowI.slice (h:RowI w v L):∃ ao cap,v = .slice ao L.length cap/\L.length<=cap/\cap<=9223372036854775807/\(∀ i,i<L.length->∃ g,ao=some ⟨g,0,none⟩)/\(ao=none->L=[]):=by
 rcases h.2 with ⟨rfl,h0⟩ | ⟨g,cap,cur,rfl,_,_,h1,h2,_⟩
 ·exact ⟨none,0,by rw [h0],by omega,by omega,fun i hi=>by omega,fun _=>List.length_eq_zero_iff.1 h0⟩
 ·exact ⟨some ⟨g,0,none⟩,cap,rfl,h1,by unfold maxLen at h2;omega,fun _ _=>⟨g,rfl⟩,fun e=>by cases e⟩
theorem RowI.cell {g cap n:Nat} (h:RowI w (.slice (some ⟨g,0,none⟩) n cap) L) {i:Nat} {x:Int} (hi:L[i]? = some x):w.cell? ⟨g,i,none⟩=some (.int .i64 x):=by
 have hc:=World.ownsRow.cells h (g:=g) rfl
 have e0:=hc i (.int .i64 x) (by rw [flatI,List.getElem?_map,hi];rfl)
 rw [add_none,Nat.zero_add] at e0
 exact e0
theorem RowI.lt (h:RowI w v L) {x:Nat} (hx:v.ownBlock=some x):x<w.heap.size:=(World.ownsRow.lt h x hx).2
theorem RowI.keep (h:RowI w v L) (k:∀ x,v.ownBlock=some x->w'.heap[x]? = w.heap[x]?):RowI w' v L:=own_of_block h k
theorem RowI.below (h:RowI w v L) (k:Below w.heap.size w w'):RowI w' v L:=h.keep fun x hx=>k.block x (h.lt hx)
theorem rowI_nil (w:World):RowI w (.slice none 0 0) []:=⟨rfl,.inl ⟨rfl,rfl⟩⟩
end
end Go.Proofs.YtilnjnblpeeigaaGreatDoor.Th
namespace Go.Proofs.YtilnjnblpeeigaaGreatDoor.Th
open Go.RowKit Go.Deep Go.MapKept Go.Maps
open Go.ChangeMaps (setBlock heap_setBlock_same heap_setBlock_other modify_eq_set)
abbrev encS (s:Int):Value:=.int .i64 s
abbrev encC (s:Int):Value:=.int .i64 s
theorem encS_inj {s t:Int} (h:encS s=encS t):s=t:=by simpa [encS] using h
theorem keyed:Keyed Tryz.prog 3:=int_keyed Tryz.underlying3
theorem wf_i64 {x:Int} (h:I64 x):(Lit.int .i64 x).wf=true:=by
 unfold I64 at h
 simp [Lit.wf,IntKind.min,IntKind.max,IntKind.bits,IntKind.signed]
 omega
theorem key_of {s:Int} (h:I64 s):∃ l,keyOf Tryz.prog 3 (encS s)=some l:=by
 refine ⟨.int .i64 s,?_⟩
 simp [keyOf,mapKey,Tryz.underlying3,wf_i64 h]
theorem idx_key {l:List MapEntry} (hp:l.Pairwise (fun x y=>x.key≠y.key)) {i j:Nat} {x y:MapEntry} (hi:l[i]? = some x) (hj:l[j]? = some y) (hne:i≠j):x.key≠y.key:=by
 obtain ⟨hi1,rfl⟩:=List.getElem?_eq_some_iff.1 hi
 obtain ⟨hj1,rfl⟩:=List.getElem?_eq_some_iff.1 hj
 rcases Nat.lt_or_gt_of_ne hne with h | h
 ·exact List.pairwise_iff_getElem.1 hp i j hi1 hj1 h
 ·exact (List.pairwise_iff_getElem.1 hp j i hj1 hi1 h).symm
structure Full (es:Array MapEntry) (f:Int->Option Int):Prop where
 is:∀ e∈es.toList,∃ s c,I64 s/\e.key=encS s/\e.val=encC c/\f s=some c
 all:∀ s c,f s=some c->∃ e∈es.toList,e.key=encS s/\e.val=encC c
def MapIs (w:World) (b:Nat) (f:Int->Option Int):Prop:=∃ es clock,w.heap[b]? = some (.map es clock)/\Stamped es clock/\Full es f
theorem MapIs.lt {w:World} {b:Nat} {f:Int->Option Int} (h:MapIs w b f):b<w.heap.size:=by
 obtain ⟨es,clock,hb,_⟩:=h
 exact (Array.getElem?_eq_some_iff.1 hb).1
theorem MapIs.of_block {w w':World} {b:Nat} {f:Int->Option Int} (h:MapIs w b f) (e:w'.heap[b]? = w.heap[b]?):MapIs w' b f:=by
 obtain ⟨es,clock,hb,r⟩:=h
 exact ⟨es,clock,e.trans hb,r⟩
theorem MapIs.new (w:World):MapIs (w.alloc (.map #[] 0)) w.heap.size fun _=>none:=
 ⟨#[],0,blk_alloc_new _ _,stamped_empty 0,⟨by simp,fun _ _ h=>by cases h⟩⟩
theorem MapIs.congr {w:World} {b:Nat} {f g:Int->Option Int} (h:MapIs w b f) (e:∀ s,g s=f s):MapIs w b g:=by
 obtain rfl:g=f:=funext e
 exact h
theorem Full.keys {es:Array MapEntry} {f:Int->Option Int} (h:Full es f):∀ e∈es.toList,∃ l,keyOf Tryz.prog 3 e.key=some l:=fun e he=>by
 obtain ⟨s,c,hs,e1,_,_⟩:=h.is e he
 rw [e1]
 exact key_of hs
theorem zero_int (w:World):(zeroValue 3).run Tryz.prog w = .ok (encC 0) w:=by kernel_rfl
section
variable {w:World} {b:Nat} {f:Int->Option Int}
theorem MapIs.look (h:MapIs w b f) {s:Int} (hs:I64 s) (ok:Bool):(Instr.lookup 205 (.map (some b)) (encS s) ok).run Tryz.prog w = .ok (if ok then .tuple #[encC ((f s).getD 0),.bool (f s).isSome] else encC ((f s).getD 0)) w:=by
 obtain ⟨es,clock,hb,st,F⟩:=h
 obtain ⟨l,hl⟩:=key_of hs
 rcases keyed.find w hl es.toList F.keys with ⟨h1,h2⟩ | ⟨j,e0,h1,h2,h3⟩
 ·have hn:f s=none:=by
   cases hf:f s with
   | none=>rfl
   | some c =>
    obtain ⟨e,he,ek,_⟩:=F.all s c hf
    exact absurd ek (h2 e he)
  simp [Instr.lookup,run_underlying Tryz.underlying205,MapKept.run_getObj_map hb,keyed.check w _ hl,h1,zero_int w,Result.andThen,hn]
 ·obtain ⟨t,c,_,ek,ev,ft⟩:=F.is e0 (List.mem_of_getElem? h2)
  obtain rfl:t=s:=encS_inj (ek.symm.trans h3)
  simp [Instr.lookup,run_underlying Tryz.underlying205,MapKept.run_getObj_map hb,keyed.check w _ hl,h1,Result.andThen,ft,ev]
def updF (f:Int->Option Int) (s:Int) (c:Int):Int->Option Int:=fun t=>if t=s then some c else f t
def delF (f:Int->Option Int) (s:Int):Int->Option Int:=fun t=>if t=s then none else f t
theorem MapIs.store (h:MapIs w b f) {s:Int} (hs:I64 s) (c:Int) :
  ∃ w',(Instr.mapUpdate 205 (.map (some b)) (encS s) (encC c)).run Tryz.prog w = .ok () w'/\MapIs w' b (updF f s c)/\w.grownBy w' (some b)/\w'.heap.size=w.heap.size:=by
 obtain ⟨es,clock,hb,st,F⟩:=h
 obtain ⟨l,hl⟩:=key_of hs
 have gb:∀ o,w.grownBy (ChangeMaps.setBlock w b o) (some b):=fun o=>⟨rfl,rfl,rfl,by simp [ChangeMaps.setBlock],fun i _ hi=>heap_setBlock_other hb _ (fun e=>hi (by rw [e]))⟩
 rcases keyed.find w hl es.toList F.keys with ⟨h1,h2⟩ | ⟨j,e0,h1,h2,h3⟩
 ·refine ⟨_,by simp [Instr.mapUpdate,run_underlying Tryz.underlying205,MapKept.run_getObj_map hb,keyed.check w false hl,h1,MapKept.run_setObj_map _ hb,Result.andThen];rfl,⟨es.push ⟨encS s,encC c,clock⟩,clock+1,heap_setBlock_same hb _,stamped_push st h2,?_,?_⟩,gb _,by simp [ChangeMaps.setBlock]⟩
  ·intro e he
   simp only [Array.toList_push,List.mem_append,List.mem_singleton] at he
   rcases he with he | rfl
   ·obtain ⟨t,d,ht,e1,e2,e3⟩:=F.is e he
    refine ⟨t,d,ht,e1,e2,?_⟩
    have:¬ t=s:=fun q=>h2 e he (by rw [e1,q])
    simp [updF,this,e3]
   ·exact ⟨s,c,hs,rfl,rfl,by simp [updF]⟩
  ·intro t d ht
   simp only [Array.toList_push,List.mem_append,List.mem_singleton]
   unfold updF at ht
   split at ht
   ·rename_i q
    cases ht
    exact ⟨_,.inr rfl,by rw [q],rfl⟩
   ·obtain ⟨e,he,r⟩:=F.all t d ht
    exact ⟨e,.inl he,r⟩
 ·have hj:es[j]? = some e0:=by simpa using h2
  have hjl:j<es.toList.length:=(List.getElem?_eq_some_iff.1 h2).1
  have hkeyf:∀ e',es[j]? = some e'->({ e' with key:=encS s,val:=encC c }:MapEntry).key=e'.key:=fun e' he'=>by rw [hj] at he';cases he';exact h3.symm
  have hlist:(es.modify j (fun e'=>{ e' with key:=encS s,val:=encC c })).toList=es.toList.set j { e0 with key:=encS s,val:=encC c }:=by rw [Array.toList_modify,modify_eq_set _ _ _ _ h2]
  have hap:=((stamped_iff es clock).1 st).2.2
  refine ⟨_,by simp [Instr.mapUpdate,run_underlying Tryz.underlying205,MapKept.run_getObj_map hb,keyed.check w false hl,h1,hj,h3,keyed.stays w hl,MapKept.run_setObj_map _ hb,Result.andThen];rfl,
   ⟨es.modify j (fun e'=>{ e' with key:=encS s,val:=encC c }),clock,heap_setBlock_same hb _,stamped_modify st _ _ (fun _ _=>rfl) (fun e' _ he'=>hkeyf e' he'),?_,?_⟩,gb _,by simp [ChangeMaps.setBlock]⟩
  ·intro e he
   rw [hlist] at he
   obtain ⟨i,hi,ex⟩:=List.getElem_of_mem he
   rw [List.getElem_set] at ex
   split at ex
   ·subst ex
    exact ⟨s,c,hs,rfl,rfl,by simp [updF]⟩
   ·rename_i hne
    have hi':i<es.toList.length:=by simpa using hi
    obtain ⟨t,d,ht,e1,e2,e3⟩:=F.is e (ex ▸ List.getElem_mem hi')
    refine ⟨t,d,ht,e1,e2,?_⟩
    have:¬ t=s:=fun q=>by
     have a1:es.toList[i]? = some e:=by rw [List.getElem?_eq_getElem hi',ex]
     exact idx_key hap a1 h2 (fun h=>hne h.symm) (by rw [e1,q,h3])
    simp [updF,this,e3]
  ·intro t d ht
   rw [hlist]
   unfold updF at ht
   split at ht
   ·rename_i q
    cases ht
    exact ⟨{ e0 with key:=encS s,val:=encC c },List.mem_iff_getElem.2 ⟨j,by simpa using hjl,by simp⟩,by rw [q],rfl⟩
   ·rename_i q
    obtain ⟨e,he,r1,r2⟩:=F.all t d ht
    obtain ⟨i,hi⟩:=List.getElem?_of_mem he
    refine ⟨e,List.mem_iff_getElem?.2 ⟨i,?_⟩,r1,r2⟩
    rw [List.getElem?_set]
    by_cases hij:j=i
    ·subst hij
     rw [h2] at hi
     cases hi
     exact absurd (encS_inj (r1.symm.trans h3)) q
    ·simp [hij,hi]
theorem MapIs.drop (h:MapIs w b f) {s:Int} (hs:I64 s) (ty:TypeId) :
  ∃ w',(Builtin.delete_ #[205,3] ty #[.map (some b),encS s]).run Tryz.prog w = .ok (.tuple #[]) w'/\MapIs w' b (delF f s)/\w.grownBy w' (some b)/\w'.heap.size=w.heap.size:=by
 obtain ⟨es,clock,hb,st,F⟩:=h
 obtain ⟨l,hl⟩:=key_of hs
 have gb:∀ o,w.grownBy (ChangeMaps.setBlock w b o) (some b):=fun o=>⟨rfl,rfl,rfl,by simp [ChangeMaps.setBlock],fun i _ hi=>heap_setBlock_other hb _ (fun e=>hi (by rw [e]))⟩
 rcases keyed.find w hl es.toList F.keys with ⟨h1,h2⟩ | ⟨j,e0,h1,h2,h3⟩
 ·refine ⟨_,by simp [Builtin.delete_,run_underlying Tryz.underlying205,MapKept.run_getObj_map hb,keyed.check w _ hl,h1,MapKept.run_setObj_map _ hb,Result.andThen];rfl,⟨es,clock,heap_setBlock_same hb _,st,?_,?_⟩,gb _,by simp [ChangeMaps.setBlock]⟩
  ·intro e he
   obtain ⟨t,d,ht,e1,e2,e3⟩:=F.is e he
   have:¬ t=s:=fun q=>h2 e he (by rw [e1,q])
   exact ⟨t,d,ht,e1,e2,by simp [delF,this,e3]⟩
  ·intro t d ht
   unfold delF at ht
   split at ht
   ·cases ht
   ·exact F.all t d ht
 ·have hjl:j<es.toList.length:=(List.getElem?_eq_some_iff.1 h2).1
  have hjs:j<es.size:=by simpa using hjl
  have hsub:(es.eraseIdxIfInBounds j).toList=es.toList.eraseIdx j:=by
   unfold Array.eraseIdxIfInBounds
   rw [dif_pos hjs]
   simp
  have hap:=((stamped_iff es clock).1 st).2.2
  refine ⟨_,by simp [Builtin.delete_,run_underlying Tryz.underlying205,MapKept.run_getObj_map hb,keyed.check w _ hl,h1,MapKept.run_setObj_map _ hb,Result.andThen];rfl,⟨es.eraseIdxIfInBounds j,clock,heap_setBlock_same hb _,stamped_erase st j,?_,?_⟩,gb _,by simp [ChangeMaps.setBlock]⟩
  ·intro e he
   rw [hsub,List.mem_eraseIdx_iff_getElem?] at he
   obtain ⟨i,hne,hi⟩:=he
   obtain ⟨t,d,ht,e1,e2,e3⟩:=F.is e (List.mem_of_getElem? hi)
   refine ⟨t,d,ht,e1,e2,?_⟩
   have:¬ t=s:=fun q=>by
    exact idx_key hap hi h2 hne (by rw [e1,q,h3])
   simp [delF,this,e3]
  ·intro t d ht
   unfold delF at ht
   split at ht
   ·cases ht
   ·rename_i q
    obtain ⟨e,he,r1,r2⟩:=F.all t d ht
    obtain ⟨i,hi⟩:=List.getElem?_of_mem he
    refine ⟨e,?_,r1,r2⟩
    rw [hsub,List.mem_eraseIdx_iff_getElem?]
    refine ⟨i,fun hij=>q ?_,hi⟩
    subst hij
    rw [h2] at hi
    cases hi
    exact encS_inj (r1.symm.trans h3)
end
def Ranges (w:World) (b r:Nat) (f:Int->Option Int) (A:List (Int×Int)) (cnt:Nat):Prop:=
 ∃ es clock since seen c0,w.heap[b]? = some (.map es clock)/\Stamped es clock/\Full es f/\w.heap[r]? = some (.mapIter (some b) since seen c0)/\(∀ x∈es.toList,x.born<since)/\since<=c0/\since<=clock /\
  (leftOf es seen).size=cnt/\(∀ p,p∈A↔∃ e∈es.toList,seen.contains e.born=true/\e.key=encS p.1/\e.val=encC p.2)/\A.Pairwise (fun p q=>p.1≠q.1)
section
variable {w:World} {b r:Nat} {f:Int->Option Int} {A:List (Int×Int)} {cnt:Nat}
theorem Ranges.map (h:Ranges w b r f A cnt):MapIs w b f:=by
 obtain ⟨es,clock,_,_,_,hb,st,F,_⟩:=h
 exact ⟨es,clock,hb,st,F⟩
end
end Go.Proofs.YtilnjnblpeeigaaGreatDoor.Th
namespace Go.Proofs.YtilnjnblpeeigaaGreatDoor.Th
open Go.RowKit Go.Deep Go.Shelf
def splL (L:List Value) (o:Nat) (cs:List Value):List Value:=L.take o++cs++L.drop (o+cs.length)
theorem splL_len (L:List Value) (o:Nat) (cs:List Value) (h:o+cs.length<=L.length):(splL L o cs).length=L.length:=by
 unfold splL
 simp
 omega
theorem splL_at (A Z cs:List Value) (o:Nat) (h:A.length=o):splL (A++Z) o cs=A++cs++Z.drop cs.length:=by
 subst h
 unfold splL
 rw [List.take_left,List.drop_append]
 have e1:A.length+cs.length - A.length=cs.length:=by omega
 have e2:List.drop (A.length+cs.length) A=[]:=List.drop_of_length_le (by omega)
 rw [e1,e2,List.nil_append]
theorem infoI:(Tryz.prog.info? 3).map (fun i=>(i.zero,i.size,i.bytes))=some (some (.int .i64 0),1,8):=by kernel_rfl
theorem append_one (w:World) (ty:TypeId) (v:Value) (L:List Int) (n:Int) (q:Nat) (hown:RowI w v L) (hq:w.cell? ⟨q,0,none⟩=some (.int .i64 n)) (hl:L.length<=1000000) :
  ∃ v' w',(Builtin.append_ #[26,26] ty #[v,.slice (some ⟨q,0,none⟩) 1 1]).run Tryz.prog w = .ok v' w'/\RowI w' v' (L++[n])/\w.grownBy w' v.ownBlock/\(v'.ownBlock=v.ownBlock\/v'.ownBlock=some w.heap.size):=by
 obtain ⟨i,hi,hz⟩:=Option.map_eq_some_iff.1 infoI
 simp only [Prod.mk.injEq] at hz
 obtain ⟨v',w',r1,r2,r3,_,r5⟩:=run_append_own_at (P:=Tryz.prog) (w:=w) 0 26 ty 3 i _ 1 8 Tryz.underlying26 hi hz.1 hz.2.1 hz.2.2 rfl (by decide) v L.length (flatK cI L) hown ⟨q,0,none⟩ 1 1 (cI n) rfl
  (fun j u hj=>by
   rw [add_none]
   have h1:j=0:=by have:=(List.getElem?_eq_some_iff.1 hj).1;simp [cI] at this;omega
   subst h1
   simp only [cI,List.getElem?_cons_zero,Option.some.injEq] at hj
   rw [<- hj]
   exact hq) (cI_one n) (by unfold maxLen;omega) (by omega) (by omega)
 refine ⟨v',w',r1,?_,r3,r5⟩
 unfold RowI
 rw [List.length_append,flatK_app,flatK_cons]
 simpa [flatK] using r2
theorem index_any (g cap:Nat) (L:List Int) (i:Nat) (n:Int) (w:World) (h:RowI w (.slice (some ⟨g,0,none⟩) L.length cap) L) (hi:L[i]? = some n) (ha:∀ j,j<i->L[j]? ≠ some n) (hl:L.length<=1000) :
  Calls Tryz.prog 205 #[.slice (some ⟨g,0,none⟩) L.length cap,.int .i64 n] w fun e w'=>e = .returned (.int .i64 (i:Nat))/\w'=w:=by
 have hil:=(List.getElem?_eq_some_iff.1 hi).1
 have HC:Hid (∀ j,j<L.length->∃ x,w.cell? ⟨g,j,none⟩=some (.int .i64 x)/\(j<i->x≠n)/\(j=i->x=n)):=fun j hj=>by
  refine ⟨L[j],h.cell (List.getElem?_eq_getElem hj),fun hji e=>ha j hji (by rw [List.getElem?_eq_getElem hj,e]),fun e=>?_⟩
  subst e
  rw [List.getElem?_eq_getElem hj] at hi
  simpa using hi
 clear h hi ha
 generalize L.length=m at *
 go_enter Tryz.func205,Tryz.ntmps205
 go_wp2
 go_loop [5,8] (fun _ s8=>∃ k:Nat,k<=i/\s8 = .int .i64 k) (fun _ s8=>i - (intOf s8).toNat)
 case atStart=>exact ⟨0,Nat.zero_le _,rfl⟩
 case round =>
  obtain ⟨k,hk,rfl⟩:=hrel
  obtain ⟨x,hx,h1,h2⟩:=HC.out k (by omega)
  have hlt:k<m:=by omega
  have hltz:(k:Int)<(m:Int):=by omega
  by_cases hki:k=i
  ·obtain rfl:=h2 hki
   subst hki
   clear h1 h2
   go_wp2
   go_ret
   exact ⟨rfl,rfl⟩
  ·have hne:(n == x)=false:=by simpa using fun e=>h1 (by omega) e.symm
   clear h1 h2
   go_wp2
   go_round
   case rel=>exact ⟨k+1,by omega,by go_num⟩
   case measure=>simp [intOf];omega
theorem row_parts {w:World} {g cap n:Nat} {L:List Int} (h:RowI w (.slice (some ⟨g,0,none⟩) n cap) L):∃ Z:List Value,w.heap[g]? = some (.cells (flatK cI L++Z).toArray 3 (0,0))/\Z.length=cap - L.length/\n=L.length:=by
 obtain ⟨h0,⟨e,_⟩ | ⟨g',cap',cur,e,_,hg,h1,h2,h3,h4⟩⟩:=h
 ·cases e
 ·cases e
  refine ⟨cur.toList.drop (L.length*1),?_,?_,rfl⟩
  ·rw [<- h4,List.take_append_drop,Array.toArray_toList]
   exact hg
  ·rw [List.length_drop,Array.length_toList,h3]
   omega
theorem own_parts {w:World} {g cap:Nat} {L:List Int} {Z:List Value} (hg:w.heap[g]? = some (.cells (flatK cI L++Z).toArray 3 (0,0))) (hz:Z.length=cap - L.length) (hc:L.length<=cap) (hm:cap<=9223372036854775807):RowI w (.slice (some ⟨g,0,none⟩) L.length cap) L:=by
 have hl:=flatK_len cI_len L
 refine ⟨hl,.inr ⟨g,cap,_,rfl,Nat.zero_le _,hg,hc,by unfold maxLen;omega,?_,?_⟩⟩
 ·rw [List.size_toArray,List.length_append,hl,hz]
  omega
 ·show List.take (L.length*1) (flatK cI L++Z)=flatK cI L
  rw [<- hl,List.take_left]
theorem cells_at {w:World} {g:Nat} {A B Z:List Value} {o:Nat} (hg:w.heap[g]? = some (.cells (A++(B++Z)).toArray 3 (0,0))) (ho:A.length=o):∀ j v,B[j]? = some v->w.cell? ((⟨g,o,none⟩:Addr).add j)=some v:=by
 intro j v hj
 subst ho
 have hl:=(List.getElem?_eq_some_iff.1 hj).1
 rw [add_none]
 simp only [World.cell?,hg,List.getElem?_toArray]
 rw [List.getElem?_append_right (by omega),List.getElem?_append_left (by omega),Nat.add_sub_cancel_left]
 exact hj
def z1:List Value:=[.int .i64 0]
theorem clear_row (w:World) (ty:TypeId) (g o c:Nat) (cur:Array Value) (hg:w.heap[g]? = some (.cells cur 3 (0,0))) (hfit:o+1<=cur.size) :
  (Builtin.clear_ #[26] ty #[.slice (some ⟨g,o,none⟩) 1 c]).run Tryz.prog w = .ok (.tuple #[]) (w.setRow g (splL cur.toList o z1).toArray):=by
 have hst:=run_storeCells_at Tryz.prog g o 3 z1 0 cur w hg (by simp [z1];omega) (by simp [z1,Value.oneCell'])
 simp only [Nat.add_zero] at hst
 have hzc:(Builtin.zeroCells (Value.int .i64 0).cells 1).toList=z1:=by
  simp [Builtin.zeroCells,Value.cells,z1]
 have hv:=Tryz.zeroValue3
 unfold splL
 simp [Builtin.clear_,run_underlying Tryz.underlying26,hv,hzc,hst]
set_option maxHeartbeats 4000000 in
set_option maxRecDepth 100000 in
theorem delete_any (g cap:Nat) (S:List Int) (i:Nat) (w:World) (h:RowI w (.slice (some ⟨g,0,none⟩) S.length cap) S) (hi:i<S.length) (hl:S.length<=1000) :
  Calls Tryz.prog 211 #[.slice (some ⟨g,0,none⟩) S.length cap,.int .i64 i,.int .i64 ((i:Int)+1)] w fun e w'=>e = .returned (.slice (some ⟨g,0,none⟩) (S.length - 1) cap)/\RowI w' (.slice (some ⟨g,0,none⟩) (S.length - 1) cap) (S.eraseIdx i)/\w.grownBy w' (some g):=by
 obtain ⟨_,_,e0,hcn,hc63,-⟩:=h.slice
 cases e0
 obtain ⟨Z,hg,hzl,-⟩:=row_parts h
 have fl:(flatK cI S).length=S.length:=by rw [flatK_len cI_len,Nat.mul_one]
 have flt:(flatK cI (S.take i)).length=i:=by rw [flatK_len cI_len,List.length_take];omega
 have flt1:(flatK cI (S.take (i+1))).length=i+1:=by rw [flatK_len cI_len,List.length_take];omega
 have fld:(flatK cI (S.drop (i+1))).length=S.length - (i+1):=by rw [flatK_len cI_len,List.length_drop,Nat.mul_one]
 have fsp:flatK cI S=flatK cI (S.take (i+1))++flatK cI (S.drop (i+1)):=by rw [<- flatK_app,List.take_append_drop]
 have fsp0:flatK cI S=flatK cI (S.take i)++flatK cI (S.drop i):=by rw [<- flatK_app,List.take_append_drop]
 have hcells:∀ j v,(flatK cI (S.drop (i+1)))[j]? = some v->w.cell? ((⟨g,i+1,none⟩:Addr).add j)=some v:=cells_at (A:=flatK cI (S.take (i+1))) (Z:=Z) (by rw [fsp,List.append_assoc] at hg;exact hg) flt1
 obtain ⟨ti,hti,hz⟩:=Option.map_eq_some_iff.1 infoI
 simp only [Prod.mk.injEq] at hz
 obtain ⟨L1,hL1⟩:∃ L1,L1=splL (flatK cI S++Z) i (flatK cI (S.drop (i+1))):=⟨_,rfl⟩
 obtain ⟨ad,had,hsrc⟩:∃ A:Addr,(if cap=i+1 then some (⟨g,0,none⟩:Addr) else some ⟨g,i+1,none⟩)=some A/\(∀ t u,(flatK cI (S.drop (i+1)))[t]? = some u->w.drew.cell? (A.add t)=some u):=by
  by_cases hc:cap=i+1
  ·refine ⟨⟨g,0,none⟩,by simp [hc],fun t u hu=>?_⟩
   have h0:(flatK cI (S.drop (i+1))).length=0:=by rw [fld];omega
   rw [List.length_eq_zero_iff.1 h0] at hu
   simp at hu
  ·exact ⟨⟨g,i+1,none⟩,by simp [hc],hcells⟩
 have run1:Hid (∀ ty sc,(Builtin.append_ #[26,26] ty #[.slice (some ⟨g,0,none⟩) i cap,.slice (some ad) (S.length - (i+1)) sc]).run Tryz.prog w.drew = .ok (.slice (some ⟨g,0,none⟩) (i+(S.length - (i+1))) cap) (w.drew.setRow g L1.toArray)):=fun ty sc=>by
  have r:=run_append_room (P:=Tryz.prog) w.drew 26 ty 3 ti Tryz.underlying26 hti g i cap (flatK cI S++Z).toArray hg ad (S.length - (i+1)) sc (flatK cI (S.drop (i+1))) (by rw [hz.2.1,fld,Nat.mul_one]) hsrc (flatK_one cI_one _) (by omega) (by rw [hz.2.1,List.size_toArray,List.length_append,fl,fld];omega)
  rw [hz.2.1,Nat.mul_one] at r
  rw [hL1]
  exact r
 have e1:i+(S.length - (i+1))=S.length - 1:=by omega
 rw [e1] at run1
 have l1:L1.length=S.length+Z.length:=by rw [hL1,splL_len _ _ _ (by rw [List.length_append,fl,fld];omega),List.length_append,fl]
 have hg1:(w.drew.setRow g L1.toArray).heap[g]? = some (.cells L1.toArray 3 (0,0)):=setRow_heap w.drew g _ _ _ _ hg
 have run2:Hid (∀ ty c,(Builtin.clear_ #[26] ty #[.slice (some ⟨g,S.length - 1,none⟩) 1 c]).run Tryz.prog (w.drew.setRow g L1.toArray) = .ok (.tuple #[]) ((w.drew.setRow g L1.toArray).setRow g (splL L1 (S.length - 1) z1).toArray)):=fun ty c =>
  clear_row _ ty g _ c L1.toArray hg1 (by rw [List.size_toArray,l1];omega)
 have fin:splL L1 (S.length - 1) z1=flatK cI (S.eraseIdx i)++(z1++((flatK cI (S.drop i)++Z).drop (flatK cI (S.drop (i+1))).length).drop z1.length):=by
  have e2:L1=flatK cI (S.eraseIdx i)++(flatK cI (S.drop i)++Z).drop (flatK cI (S.drop (i+1))).length:=by
   rw [hL1,fsp0,List.append_assoc,splL_at _ _ _ _ flt,List.eraseIdx_eq_take_drop_succ,flatK_app]
  have e3:(flatK cI (S.eraseIdx i)).length=S.length - 1:=by rw [flatK_len cI_len,List.length_eraseIdx,if_pos hi,Nat.mul_one]
  rw [e2,splL_at _ _ _ _ e3,List.append_assoc]
 have HK:Hid (RowI ((w.drew.setRow g L1.toArray).setRow g (splL L1 (S.length - 1) z1).toArray) (.slice (some ⟨g,0,none⟩) (S.length - 1) cap) (S.eraseIdx i)/\w.grownBy ((w.drew.setRow g L1.toArray).setRow g (splL L1 (S.length - 1) z1).toArray) (some g)):=by
  have hh:=setRow_heap _ g _ (splL L1 (S.length - 1) z1).toArray _ _ hg1
  refine ⟨?_,⟨rfl,rfl,rfl,by simp,fun k _ hk=>?_⟩⟩
  ·have el:(S.eraseIdx i).length=S.length - 1:=by rw [List.length_eraseIdx,if_pos hi]
   rw [fin] at hh
   have:=own_parts (cap:=cap) hh (by
    rw [List.length_append,List.length_drop,List.length_drop,List.length_append,fld,flatK_len cI_len,List.length_drop,hzl,el]
    simp only [z1,List.length_cons,List.length_nil]
    omega) (by rw [el];omega) hc63
   rw [el] at this
   rw [fin]
   exact this
  ·have hne:k≠g:=fun e=>hk (by rw [e])
   rw [setRow_other _ _ _ _ hne,setRow_other _ _ _ _ hne]
   rfl
 have mixed:Tryz.prog.follows Departure.mixedOrders=true:=by kernel_rfl
 have hb1:(i:Int)<=(i:Int)+1:=by omega
 have hb2:(i:Int)+1<=(S.length:Int):=by omega
 have htn:((i:Int)+1).toNat=i+1:=by omega
 have hb3:¬ (cap=S.length - 1):=by omega
 have hb6:S.length - (S.length - 1)=1:=by omega
 have hb7:¬ ((i:Int)=(i:Int)+1):=by omega
 have hb8:(0:Int)<=(i:Int)+1:=by omega
 have hb9:i<=cap:=by omega
 have hb10:i+1<=cap:=by omega
 clear fin hL1 l1 hcells fsp fsp0 fld flt flt1 fl hzl hg h hg1 hsrc hti hz e1
 generalize splL L1 (S.length - 1) z1=L2 at *
 generalize hn:S.length=n at *
 generalize hm:n - 1=m at *
 go_enter Tryz.func211,Tryz.ntmps211
 go_wp2_with fail
 go_region_law_o (refine step_append_run rfl (.tmp 22) (.tmp 25) 26 26 rfl (.slice (some ⟨g,0,none⟩) i cap) (.slice (some ad) (n - (i+1)) (cap - (i+1))) _ _ (by simp [Act.eval,Act.put]) (by simp [Act.eval,Act.put]) (run1.out _ _) ?_)
 have run2':=run2.out
 go_wp2
 go_ret
 exact ⟨rfl,HK.out⟩
end Go.Proofs.YtilnjnblpeeigaaGreatDoor.Th
namespace Go.Proofs.YtilnjnblpeeigaaGreatDoor.Th
open Go.RowKit
set_option maxHeartbeats 400000 in
theorem set_0 (b0 b1 b2 b3 n:Int) (w:World) (h0:0<=n) (h1:n<64) :
  Calls Tryz.prog 161 #[.agg #[.int .u64 b0,.int .u64 b1,.int .u64 b2,.int .u64 b3],.int .i64 n,.bool true] w fun e w'=>e = .returned (.tuple #[.agg #[.int .u64 (bits .or .u64 b0 (bitI n)),.int .u64 b1,.int .u64 b2,.int .u64 b3],.int .i64 0])/\Below w.heap.size w w':=by
 have hq:n / 64=0:=by omega
 have ht:n.tdiv 64=0:=by rw [Int.tdiv_eq_ediv_of_nonneg (by omega)];exact hq
 go_enter Tryz.func161,Tryz.ntmps161
 go_wp2_with (go_at_call 209;refine (numbered_yes _ _ (by omega) (by omega)).mono ?_;rintro e w' ⟨rfl,rfl⟩)
 go_region_with (go_at_call 210;refine (bit_any _ _ (by omega) (by omega)).mono ?_;rintro e w' ⟨rfl,rfl⟩)
 all_goals go_wp2
 all_goals exact bodyPost_ret (v:=.tuple #[.agg #[.int .u64 (bits .or .u64 b0 (bitI n)),.int .u64 b1,.int .u64 b2,.int .u64 b3],.int .i64 0]) (by simp [results,Tryz.results161,go_sem]) rfl ⟨rfl,(((Below.refl _ _).alloc (Nat.le_refl _) _).alloc (by simp) _).drew⟩
set_option maxHeartbeats 400000 in
theorem set_1 (b0 b1 b2 b3 n:Int) (w:World) (h0:64<=n) (h1:n<128) :
  Calls Tryz.prog 161 #[.agg #[.int .u64 b0,.int .u64 b1,.int .u64 b2,.int .u64 b3],.int .i64 n,.bool true] w fun e w'=>e = .returned (.tuple #[.agg #[.int .u64 b0,.int .u64 (bits .or .u64 b1 (bitI n)),.int .u64 b2,.int .u64 b3],.int .i64 0])/\Below w.heap.size w w':=by
 have hq:n / 64=1:=by omega
 have ht:n.tdiv 64=1:=by rw [Int.tdiv_eq_ediv_of_nonneg (by omega)];exact hq
 go_enter Tryz.func161,Tryz.ntmps161
 go_wp2_with (go_at_call 209;refine (numbered_yes _ _ (by omega) (by omega)).mono ?_;rintro e w' ⟨rfl,rfl⟩)
 go_region_with (go_at_call 210;refine (bit_any _ _ (by omega) (by omega)).mono ?_;rintro e w' ⟨rfl,rfl⟩)
 all_goals go_wp2
 all_goals exact bodyPost_ret (v:=.tuple #[.agg #[.int .u64 b0,.int .u64 (bits .or .u64 b1 (bitI n)),.int .u64 b2,.int .u64 b3],.int .i64 0]) (by simp [results,Tryz.results161,go_sem]) rfl ⟨rfl,(((Below.refl _ _).alloc (Nat.le_refl _) _).alloc (by simp) _).drew⟩
set_option maxHeartbeats 400000 in
theorem set_2 (b0 b1 b2 b3 n:Int) (w:World) (h0:128<=n) (h1:n<192) :
  Calls Tryz.prog 161 #[.agg #[.int .u64 b0,.int .u64 b1,.int .u64 b2,.int .u64 b3],.int .i64 n,.bool true] w fun e w'=>e = .returned (.tuple #[.agg #[.int .u64 b0,.int .u64 b1,.int .u64 (bits .or .u64 b2 (bitI n)),.int .u64 b3],.int .i64 0])/\Below w.heap.size w w':=by
 have hq:n / 64=2:=by omega
 have ht:n.tdiv 64=2:=by rw [Int.tdiv_eq_ediv_of_nonneg (by omega)];exact hq
 go_enter Tryz.func161,Tryz.ntmps161
 go_wp2_with (go_at_call 209;refine (numbered_yes _ _ (by omega) (by omega)).mono ?_;rintro e w' ⟨rfl,rfl⟩)
 go_region_with (go_at_call 210;refine (bit_any _ _ (by omega) (by omega)).mono ?_;rintro e w' ⟨rfl,rfl⟩)
 all_goals go_wp2
 all_goals exact bodyPost_ret (v:=.tuple #[.agg #[.int .u64 b0,.int .u64 b1,.int .u64 (bits .or .u64 b2 (bitI n)),.int .u64 b3],.int .i64 0]) (by simp [results,Tryz.results161,go_sem]) rfl ⟨rfl,(((Below.refl _ _).alloc (Nat.le_refl _) _).alloc (by simp) _).drew⟩
set_option maxHeartbeats 400000 in
theorem set_3 (b0 b1 b2 b3 n:Int) (w:World) (h0:192<=n) (h1:n<256) :
  Calls Tryz.prog 161 #[.agg #[.int .u64 b0,.int .u64 b1,.int .u64 b2,.int .u64 b3],.int .i64 n,.bool true] w fun e w'=>e = .returned (.tuple #[.agg #[.int .u64 b0,.int .u64 b1,.int .u64 b2,.int .u64 (bits .or .u64 b3 (bitI n))],.int .i64 0])/\Below w.heap.size w w':=by
 have hq:n / 64=3:=by omega
 have ht:n.tdiv 64=3:=by rw [Int.tdiv_eq_ediv_of_nonneg (by omega)];exact hq
 go_enter Tryz.func161,Tryz.ntmps161
 go_wp2_with (go_at_call 209;refine (numbered_yes _ _ (by omega) (by omega)).mono ?_;rintro e w' ⟨rfl,rfl⟩)
 go_region_with (go_at_call 210;refine (bit_any _ _ (by omega) (by omega)).mono ?_;rintro e w' ⟨rfl,rfl⟩)
 all_goals go_wp2
 all_goals exact bodyPost_ret (v:=.tuple #[.agg #[.int .u64 b0,.int .u64 b1,.int .u64 b2,.int .u64 (bits .or .u64 b3 (bitI n))],.int .i64 0]) (by simp [results,Tryz.results161,go_sem]) rfl ⟨rfl,(((Below.refl _ _).alloc (Nat.le_refl _) _).alloc (by simp) _).drew⟩
set_option maxHeartbeats 400000 in
theorem clr_0 (b0 b1 b2 b3 n:Int) (w:World) (h0:0<=n) (h1:n<64) :
  Calls Tryz.prog 161 #[.agg #[.int .u64 b0,.int .u64 b1,.int .u64 b2,.int .u64 b3],.int .i64 n,.bool false] w fun e w'=>e = .returned (.tuple #[.agg #[.int .u64 (bits .andNot .u64 b0 (bitI n)),.int .u64 b1,.int .u64 b2,.int .u64 b3],.int .i64 0])/\Below w.heap.size w w':=by
 have hq:n / 64=0:=by omega
 have ht:n.tdiv 64=0:=by rw [Int.tdiv_eq_ediv_of_nonneg (by omega)];exact hq
 go_enter Tryz.func161,Tryz.ntmps161
 go_wp2_with (go_at_call 209;refine (numbered_yes _ _ (by omega) (by omega)).mono ?_;rintro e w' ⟨rfl,rfl⟩)
 go_region_with (go_at_call 210;refine (bit_any _ _ (by omega) (by omega)).mono ?_;rintro e w' ⟨rfl,rfl⟩)
 all_goals go_wp2
 all_goals exact bodyPost_ret (v:=.tuple #[.agg #[.int .u64 (bits .andNot .u64 b0 (bitI n)),.int .u64 b1,.int .u64 b2,.int .u64 b3],.int .i64 0]) (by simp [results,Tryz.results161,go_sem]) rfl ⟨rfl,(((Below.refl _ _).alloc (Nat.le_refl _) _).alloc (by simp) _).drew⟩
set_option maxHeartbeats 400000 in
theorem clr_1 (b0 b1 b2 b3 n:Int) (w:World) (h0:64<=n) (h1:n<128) :
  Calls Tryz.prog 161 #[.agg #[.int .u64 b0,.int .u64 b1,.int .u64 b2,.int .u64 b3],.int .i64 n,.bool false] w fun e w'=>e = .returned (.tuple #[.agg #[.int .u64 b0,.int .u64 (bits .andNot .u64 b1 (bitI n)),.int .u64 b2,.int .u64 b3],.int .i64 0])/\Below w.heap.size w w':=by
 have hq:n / 64=1:=by omega
 have ht:n.tdiv 64=1:=by rw [Int.tdiv_eq_ediv_of_nonneg (by omega)];exact hq
 go_enter Tryz.func161,Tryz.ntmps161
 go_wp2_with (go_at_call 209;refine (numbered_yes _ _ (by omega) (by omega)).mono ?_;rintro e w' ⟨rfl,rfl⟩)
 go_region_with (go_at_call 210;refine (bit_any _ _ (by omega) (by omega)).mono ?_;rintro e w' ⟨rfl,rfl⟩)
 all_goals go_wp2
 all_goals exact bodyPost_ret (v:=.tuple #[.agg #[.int .u64 b0,.int .u64 (bits .andNot .u64 b1 (bitI n)),.int .u64 b2,.int .u64 b3],.int .i64 0]) (by simp [results,Tryz.results161,go_sem]) rfl ⟨rfl,(((Below.refl _ _).alloc (Nat.le_refl _) _).alloc (by simp) _).drew⟩
set_option maxHeartbeats 400000 in
theorem clr_2 (b0 b1 b2 b3 n:Int) (w:World) (h0:128<=n) (h1:n<192) :
  Calls Tryz.prog 161 #[.agg #[.int .u64 b0,.int .u64 b1,.int .u64 b2,.int .u64 b3],.int .i64 n,.bool false] w fun e w'=>e = .returned (.tuple #[.agg #[.int .u64 b0,.int .u64 b1,.int .u64 (bits .andNot .u64 b2 (bitI n)),.int .u64 b3],.int .i64 0])/\Below w.heap.size w w':=by
 have hq:n / 64=2:=by omega
 have ht:n.tdiv 64=2:=by rw [Int.tdiv_eq_ediv_of_nonneg (by omega)];exact hq
 go_enter Tryz.func161,Tryz.ntmps161
 go_wp2_with (go_at_call 209;refine (numbered_yes _ _ (by omega) (by omega)).mono ?_;rintro e w' ⟨rfl,rfl⟩)
 go_region_with (go_at_call 210;refine (bit_any _ _ (by omega) (by omega)).mono ?_;rintro e w' ⟨rfl,rfl⟩)
 all_goals go_wp2
 all_goals exact bodyPost_ret (v:=.tuple #[.agg #[.int .u64 b0,.int .u64 b1,.int .u64 (bits .andNot .u64 b2 (bitI n)),.int .u64 b3],.int .i64 0]) (by simp [results,Tryz.results161,go_sem]) rfl ⟨rfl,(((Below.refl _ _).alloc (Nat.le_refl _) _).alloc (by simp) _).drew⟩
set_option maxHeartbeats 400000 in
theorem clr_3 (b0 b1 b2 b3 n:Int) (w:World) (h0:192<=n) (h1:n<256) :
  Calls Tryz.prog 161 #[.agg #[.int .u64 b0,.int .u64 b1,.int .u64 b2,.int .u64 b3],.int .i64 n,.bool false] w fun e w'=>e = .returned (.tuple #[.agg #[.int .u64 b0,.int .u64 b1,.int .u64 b2,.int .u64 (bits .andNot .u64 b3 (bitI n))],.int .i64 0])/\Below w.heap.size w w':=by
 have hq:n / 64=3:=by omega
 have ht:n.tdiv 64=3:=by rw [Int.tdiv_eq_ediv_of_nonneg (by omega)];exact hq
 go_enter Tryz.func161,Tryz.ntmps161
 go_wp2_with (go_at_call 209;refine (numbered_yes _ _ (by omega) (by omega)).mono ?_;rintro e w' ⟨rfl,rfl⟩)
 go_region_with (go_at_call 210;refine (bit_any _ _ (by omega) (by omega)).mono ?_;rintro e w' ⟨rfl,rfl⟩)
 all_goals go_wp2
 all_goals exact bodyPost_ret (v:=.tuple #[.agg #[.int .u64 b0,.int .u64 b1,.int .u64 b2,.int .u64 (bits .andNot .u64 b3 (bitI n))],.int .i64 0]) (by simp [results,Tryz.results161,go_sem]) rfl ⟨rfl,(((Below.refl _ _).alloc (Nat.le_refl _) _).alloc (by simp) _).drew⟩
end Go.Proofs.YtilnjnblpeeigaaGreatDoor.Th
namespace Go.Proofs.YtilnjnblpeeigaaGreatDoor.Th
open Go.RowKit
def half (k:Nat):Nat:=32 / 2 ^ k
theorem half_of:∀ k,k<6->64 / 2 ^ k=half k+half k/\64 / 2 ^ (k+1)=half k/\1<=half k/\half k<=32:=by decide
def Tab (w:World):Prop:=1 < w.heap.size/\∀ k,k<6->w.cell? ⟨1,k,none⟩=some (.int .u64 (half k:Nat))
theorem Tab.below {w w':World} (h:Tab w) (hb:Below w.heap.size w w'):Tab w':=
 ⟨Nat.lt_of_lt_of_le h.1 hb.size,fun k hk=>by rw [hb.cell (p:=⟨1,k,none⟩) h.1];exact h.2 k hk⟩
structure HighAt (V k a:Nat):Prop where
 pos:0<V / 2 ^ a
 lt:V / 2 ^ a<2 ^ (64 / 2 ^ k)
 le:a+64 / 2 ^ k<=64
theorem shr_cast (V a h:Nat):(V:Int) / 2 ^ a / 2 ^ h=((V / 2 ^ a / 2 ^ h:Nat):Int):=by simp
theorem high_yes {V k a:Nat} (h:HighAt V k a) (hk:k<6) (t:((V:Int) / 2 ^ a / 2 ^ half k != 0)=true) :
  (V:Int) / 2 ^ a / 2 ^ half k=((V / 2 ^ (a+half k):Nat):Int)/\HighAt V (k+1) (a+half k):=by
 obtain ⟨e1,e2,e3,e4⟩:=half_of k hk
 rw [shr_cast] at t ⊢
 have e5:V / 2 ^ a / 2 ^ half k=V / 2 ^ (a+half k):=by rw [Nat.div_div_eq_div_mul,<- Nat.pow_add]
 rw [e5] at t ⊢
 have hne:V / 2 ^ (a+half k)≠0:=by
  intro z
  rw [z] at t
  simp at t
 refine ⟨rfl,⟨Nat.pos_of_ne_zero hne,?_,?_⟩⟩
 ·rw [<- e5,e2]
  have:=h.lt
  rw [e1,Nat.pow_add] at this
  exact Nat.div_lt_of_lt_mul this
 ·have:=h.le
  omega
theorem high_no {V k a:Nat} (h:HighAt V k a) (hk:k<6) (t:((V:Int) / 2 ^ a / 2 ^ half k != 0)=false):HighAt V (k+1) a:=by
 obtain ⟨e1,e2,e3,e4⟩:=half_of k hk
 rw [shr_cast] at t
 have hz:V / 2 ^ a / 2 ^ half k=0:=by
  rw [bne_eq_false_iff_eq] at t
  exact Int.ofNat.inj t
 refine ⟨h.pos,?_,?_⟩
 ·rw [e2]
  exact (Nat.div_eq_zero_iff_lt (Nat.pow_pos (by omega))).1 hz
 ·have:=h.le
  omega
theorem high_end {V a:Nat} (h:HighAt V 6 a):V.log2=a:=by
 have hl:=h.lt
 have hp:=h.pos
 have e:64 / 2 ^ 6=1:=by decide
 rw [e] at hl
 have h1:V / 2 ^ a=1:=by omega
 have hp2:0<2 ^ a:=Nat.pow_pos (by omega)
 have hd:=Nat.div_add_mod V (2 ^ a)
 have hm:=Nat.mod_lt V hp2
 rw [h1] at hd
 have h2:V≠0:=by intro z;subst z;simp at hp
 rw [Nat.log2_eq_iff h2,Nat.pow_succ]
 omega
set_option maxHeartbeats 400000 in
theorem highest_nat (V:Nat) (w:World) (ht:Tab w) (v0:0<V) (v1:(V:Int)<=18446744073709551615) :
  Calls Tryz.prog 160 #[.int .u64 V] w fun e w'=>e = .returned (.int .i64 (V.log2:Nat))/\w'=w:=by
 go_enter Tryz.func160,Tryz.ntmps160
 go_wp2
 go_loop [0,3,6] (fun x t i=>∃ k a:Nat,k<=6/\i = .int .i64 k/\a<=64/\t = .int .i64 a/\x = .int .u64 (V / 2 ^ a:Nat)/\Hid (HighAt V k a)) (fun _ _ i=>6 - (intOf i).toNat)
 case atStart=>exact ⟨0,0,by omega,rfl,by omega,rfl,by simp,⟨by simpa using v0,by simp;omega,by simp⟩⟩
 case round =>
  obtain ⟨k,a,hk,rfl,ha,rfl,rfl,HA⟩:=hrel
  by_cases hlt:k<6
  ·have hc:=ht.2 k hlt
   have hh:=(half_of k hlt).2.2
   go_wp2
   ·go_round
    case rel =>
     obtain ⟨e1,e2⟩:=high_yes HA.out hlt ‹_›
     exact ⟨k+1,a+half k,by omega,by go_num,Nat.le_trans (Nat.le_add_right _ _) e2.le,by go_num,by rw [e1],e2⟩
    case measure=>simp [intOf];omega
   ·go_round
    case rel=>exact ⟨k+1,a,by omega,by go_num,by omega,rfl,rfl,high_no HA.out hlt ‹_›⟩
    case measure=>simp [intOf];omega
  ·obtain rfl:k=6:=by omega
   go_wp2
   go_ret
   exact ⟨ret_int (by rw [high_end HA.out]),rfl⟩
theorem highest_any (v:Int) (w:World) (ht:Tab w) (v0:0<v) (v1:v<=18446744073709551615) :
  Calls Tryz.prog 160 #[.int .u64 v] w fun e w'=>e = .returned (.int .i64 (v.toNat.log2:Nat))/\w'=w:=by
 obtain ⟨V,rfl⟩:=Int.eq_ofNat_of_zero_le (Int.le_of_lt v0)
 rw [Int.toNat_natCast]
 exact highest_nat V w ht (by omega) v1
end Go.Proofs.YtilnjnblpeeigaaGreatDoor.Th
namespace Go.Proofs.YtilnjnblpeeigaaGreatDoor.Th
open Go.RowKit
structure Word (b:Int):Prop where
 lo:0<=b
 hi:b<=18446744073709551615
theorem set_word (z:Bool) (b n k:Int) (h:Word b):Word (setI z b n k):=by
 unfold setI
 by_cases e:n / 64=k
 ·rw [if_pos e]
  have:=put_bd z b (n % 64).toNat h.lo h.hi (mod_lt n)
  exact ⟨this.1,this.2⟩
 ·rw [if_neg e]
  exact h
theorem hasI_in (b0 b1 b2 b3 n:Int) (k:Nat) (b:Int) (h0:64*(k:Int)<=n) (h1:n<64*(k:Int)+64) (hk:k<4) (hb:wordAt b0 b1 b2 b3 k=b):hasI b0 b1 b2 b3 n=b.toNat.testBit (n % 64).toNat:=by
 have e1:n.toNat / 64=k:=by omega
 have e2:n.toNat % 64=(n % 64).toNat:=by omega
 have e3:0<=n:=by omega
 have e4:n<256:=by omega
 unfold hasI hasN
 rw [e1,e2,hb]
 simp [e3,e4]
theorem setI_eq (z:Bool) (b n k:Int) (h:n / 64=k):setI z b n k=putI z b (n % 64).toNat:=if_pos h
theorem setI_ne (z:Bool) (b n k:Int) (h:¬ n / 64=k):setI z b n k=b:=if_neg h
theorem set_any (z:Bool) (b0 b1 b2 b3 n:Int) (w:World) (w0:Word b0) (w1:Word b1) (w2:Word b2) (w3:Word b3) (n0:0<=n) (n1:n<256) :
  Calls Tryz.prog 161 #[.agg #[.int .u64 b0,.int .u64 b1,.int .u64 b2,.int .u64 b3],.int .i64 n,.bool z] w fun e w'=>e = .returned (.tuple #[.agg #[.int .u64 (setI z b0 n 0),.int .u64 (setI z b1 n 1),.int .u64 (setI z b2 n 2),.int .u64 (setI z b3 n 3)],.int .i64 0])/\Below w.heap.size w w':=by
 have:n<64\/(64<=n/\n<128)\/(128<=n/\n<192)\/192<=n:=by omega
 rcases this with c | c | c | c
 ·rw [setI_eq z b0 n 0 (by omega),setI_ne z b1 n 1 (by omega),setI_ne z b2 n 2 (by omega),setI_ne z b3 n 3 (by omega)]
  cases z
  ·rw [<- clr_put b0 n w0.lo w0.hi]
   exact clr_0 b0 b1 b2 b3 n w n0 c
  ·rw [<- or_put b0 n w0.lo w0.hi]
   exact set_0 b0 b1 b2 b3 n w n0 c
 ·rw [setI_ne z b0 n 0 (by omega),setI_eq z b1 n 1 (by omega),setI_ne z b2 n 2 (by omega),setI_ne z b3 n 3 (by omega)]
  cases z
  ·rw [<- clr_put b1 n w1.lo w1.hi]
   exact clr_1 b0 b1 b2 b3 n w c.1 c.2
  ·rw [<- or_put b1 n w1.lo w1.hi]
   exact set_1 b0 b1 b2 b3 n w c.1 c.2
 ·rw [setI_ne z b0 n 0 (by omega),setI_ne z b1 n 1 (by omega),setI_eq z b2 n 2 (by omega),setI_ne z b3 n 3 (by omega)]
  cases z
  ·rw [<- clr_put b2 n w2.lo w2.hi]
   exact clr_2 b0 b1 b2 b3 n w c.1 c.2
  ·rw [<- or_put b2 n w2.lo w2.hi]
   exact set_2 b0 b1 b2 b3 n w c.1 c.2
 ·rw [setI_ne z b0 n 0 (by omega),setI_ne z b1 n 1 (by omega),setI_ne z b2 n 2 (by omega),setI_eq z b3 n 3 (by omega)]
  cases z
  ·rw [<- clr_put b3 n w3.lo w3.hi]
   exact clr_3 b0 b1 b2 b3 n w c n1
  ·rw [<- or_put b3 n w3.lo w3.hi]
   exact set_3 b0 b1 b2 b3 n w c n1
theorem log_facts (V:Nat) (h0:0<V) (h1:V<=18446744073709551615):V.log2<64/\V.testBit V.log2=true/\∀ j,V.log2<j->V.testBit j=false:=by
 have hne:V≠0:=by omega
 refine ⟨(Nat.log2_lt hne).2 (by omega),Nat.testBit_log2 hne,fun j hj=>?_⟩
 exact Nat.testBit_lt_two_pow ((Nat.log2_lt hne).1 hj)
theorem has_zero (j:Nat):(0:Int).toNat.testBit j=false:=by simp
theorem topI_3 (b0 b1 b2 b3:Int) (v0:0<b3) (v1:b3<=18446744073709551615):topI b0 b1 b2 b3=192+(b3.toNat.log2:Nat):=by
 obtain ⟨l1,l2,l3⟩:=log_facts b3.toNat (by omega) (by omega)
 have e:=topTo_of (hasN b0 b1 b2 b3) (192+b3.toNat.log2) (by
  unfold hasN
  rw [show (192+b3.toNat.log2) / 64=3 by omega,show (192+b3.toNat.log2) % 64=b3.toNat.log2 by omega]
  exact l2) 256 (by omega) (fun k h1 h2=>by
  unfold hasN
  have hk:k / 64=3:=by omega
  rw [hk];exact l3 _ (by omega))
 unfold topI
 rw [e]
 omega
set_option maxHeartbeats 400000 in
theorem top_3 (b0 b1 b2 b3:Int) (w:World) (ht:Tab w) (v0:0<b3) (v1:b3<=18446744073709551615) :
  Calls Tryz.prog 107 #[.agg #[.int .u64 b0,.int .u64 b1,.int .u64 b2,.int .u64 b3]] w fun e w'=>e = .returned (.int .i64 (192+(b3.toNat.log2:Nat)))/\Below w.heap.size w w':=by
 have hz:(b3 != 0)=true:=by rw [bne_iff_ne];omega
 have hl:=(log_facts b3.toNat (by omega) (by omega)).1
 go_enter Tryz.func107,Tryz.ntmps107
 go_wp2_with fail
 refine wp_loop_rounds 1 ?_
 rw [rounds_succ]
 go_wp2_with (go_at_call 160;refine (highest_any _ _ (ht.below ((Below.refl _ _).alloc (Nat.le_refl _) _)) (by omega) (by omega)).mono ?_;rintro e w' ⟨rfl,rfl⟩)
 go_ret
 exact ⟨rfl,(Below.refl _ _).alloc (Nat.le_refl _) _⟩
theorem topI_2 (b0 b1 b2:Int) (v0:0<b2) (v1:b2<=18446744073709551615):topI b0 b1 b2 0=128+(b2.toNat.log2:Nat):=by
 obtain ⟨l1,l2,l3⟩:=log_facts b2.toNat (by omega) (by omega)
 have e:=topTo_of (hasN b0 b1 b2 0) (128+b2.toNat.log2) (by
  unfold hasN
  rw [show (128+b2.toNat.log2) / 64=2 by omega,show (128+b2.toNat.log2) % 64=b2.toNat.log2 by omega]
  exact l2) 256 (by omega) (fun k h1 h2=>by
  unfold hasN
  have hk:k / 64=2\/k / 64=3:=by omega
  rcases hk with hk | hk
  ·rw [hk];exact l3 _ (by omega)
  ·rw [hk];exact has_zero _)
 unfold topI
 rw [e]
 omega
set_option maxHeartbeats 400000 in
theorem top_2 (b0 b1 b2:Int) (w:World) (ht:Tab w) (v0:0<b2) (v1:b2<=18446744073709551615) :
  Calls Tryz.prog 107 #[.agg #[.int .u64 b0,.int .u64 b1,.int .u64 b2,.int .u64 0]] w fun e w'=>e = .returned (.int .i64 (128+(b2.toNat.log2:Nat)))/\Below w.heap.size w w':=by
 have hz:(b2 != 0)=true:=by rw [bne_iff_ne];omega
 have hl:=(log_facts b2.toNat (by omega) (by omega)).1
 go_enter Tryz.func107,Tryz.ntmps107
 go_wp2_with fail
 refine wp_loop_rounds 2 ?_
 rw [rounds_succ]
 go_wp2_with fail
 rw [rounds_succ]
 go_wp2_with (go_at_call 160;refine (highest_any _ _ (ht.below ((Below.refl _ _).alloc (Nat.le_refl _) _)) (by omega) (by omega)).mono ?_;rintro e w' ⟨rfl,rfl⟩)
 go_ret
 exact ⟨rfl,(Below.refl _ _).alloc (Nat.le_refl _) _⟩
theorem topI_1 (b0 b1:Int) (v0:0<b1) (v1:b1<=18446744073709551615):topI b0 b1 0 0=64+(b1.toNat.log2:Nat):=by
 obtain ⟨l1,l2,l3⟩:=log_facts b1.toNat (by omega) (by omega)
 have e:=topTo_of (hasN b0 b1 0 0) (64+b1.toNat.log2) (by
  unfold hasN
  rw [show (64+b1.toNat.log2) / 64=1 by omega,show (64+b1.toNat.log2) % 64=b1.toNat.log2 by omega]
  exact l2) 256 (by omega) (fun k h1 h2=>by
  unfold hasN
  have hk:k / 64=1\/k / 64=2\/k / 64=3:=by omega
  rcases hk with hk | hk | hk
  ·rw [hk];exact l3 _ (by omega)
  ·rw [hk];exact has_zero _
  ·rw [hk];exact has_zero _)
 unfold topI
 rw [e]
 omega
set_option maxHeartbeats 400000 in
theorem top_1 (b0 b1:Int) (w:World) (ht:Tab w) (v0:0<b1) (v1:b1<=18446744073709551615) :
  Calls Tryz.prog 107 #[.agg #[.int .u64 b0,.int .u64 b1,.int .u64 0,.int .u64 0]] w fun e w'=>e = .returned (.int .i64 (64+(b1.toNat.log2:Nat)))/\Below w.heap.size w w':=by
 have hz:(b1 != 0)=true:=by rw [bne_iff_ne];omega
 have hl:=(log_facts b1.toNat (by omega) (by omega)).1
 go_enter Tryz.func107,Tryz.ntmps107
 go_wp2_with fail
 refine wp_loop_rounds 3 ?_
 rw [rounds_succ]
 go_wp2_with fail
 rw [rounds_succ]
 go_wp2_with fail
 rw [rounds_succ]
 go_wp2_with (go_at_call 160;refine (highest_any _ _ (ht.below ((Below.refl _ _).alloc (Nat.le_refl _) _)) (by omega) (by omega)).mono ?_;rintro e w' ⟨rfl,rfl⟩)
 go_ret
 exact ⟨rfl,(Below.refl _ _).alloc (Nat.le_refl _) _⟩
theorem topI_0 (b0:Int) (v0:0<b0) (v1:b0<=18446744073709551615):topI b0 0 0 0=0+(b0.toNat.log2:Nat):=by
 obtain ⟨l1,l2,l3⟩:=log_facts b0.toNat (by omega) (by omega)
 have e:=topTo_of (hasN b0 0 0 0) (0+b0.toNat.log2) (by
  unfold hasN
  rw [show (0+b0.toNat.log2) / 64=0 by omega,show (0+b0.toNat.log2) % 64=b0.toNat.log2 by omega]
  exact l2) 256 (by omega) (fun k h1 h2=>by
  unfold hasN
  have hk:k / 64=0\/k / 64=1\/k / 64=2\/k / 64=3:=by omega
  rcases hk with hk | hk | hk | hk
  ·rw [hk];exact l3 _ (by omega)
  ·rw [hk];exact has_zero _
  ·rw [hk];exact has_zero _
  ·rw [hk];exact has_zero _)
 unfold topI
 rw [e]
 omega
set_option maxHeartbeats 400000 in
theorem top_0 (b0:Int) (w:World) (ht:Tab w) (v0:0<b0) (v1:b0<=18446744073709551615) :
  Calls Tryz.prog 107 #[.agg #[.int .u64 b0,.int .u64 0,.int .u64 0,.int .u64 0]] w fun e w'=>e = .returned (.int .i64 (0+(b0.toNat.log2:Nat)))/\Below w.heap.size w w':=by
 have hz:(b0 != 0)=true:=by rw [bne_iff_ne];omega
 have hl:=(log_facts b0.toNat (by omega) (by omega)).1
 go_enter Tryz.func107,Tryz.ntmps107
 go_wp2_with fail
 refine wp_loop_rounds 4 ?_
 rw [rounds_succ]
 go_wp2_with fail
 rw [rounds_succ]
 go_wp2_with fail
 rw [rounds_succ]
 go_wp2_with fail
 rw [rounds_succ]
 go_wp2_with (go_at_call 160;refine (highest_any _ _ (ht.below ((Below.refl _ _).alloc (Nat.le_refl _) _)) (by omega) (by omega)).mono ?_;rintro e w' ⟨rfl,rfl⟩)
 go_ret
 exact ⟨ret_int (by omega),(Below.refl _ _).alloc (Nat.le_refl _) _⟩
theorem topI_none:topI 0 0 0 0 = -1:=by decide +kernel
set_option maxHeartbeats 400000 in
theorem top_none (w:World) :
  Calls Tryz.prog 107 #[.agg #[.int .u64 0,.int .u64 0,.int .u64 0,.int .u64 0]] w fun e w'=>e = .returned (.int .i64 (-1))/\Below w.heap.size w w':=by
 go_enter Tryz.func107,Tryz.ntmps107
 go_wp2_with fail
 refine wp_loop_rounds 5 ?_
 rw [rounds_succ]
 go_wp2_with fail
 rw [rounds_succ]
 go_wp2_with fail
 rw [rounds_succ]
 go_wp2_with fail
 rw [rounds_succ]
 go_wp2_with fail
 rw [rounds_succ]
 go_wp2_with fail
 go_ret
 exact ⟨rfl,(Below.refl _ _).alloc (Nat.le_refl _) _⟩
theorem top_any (b0 b1 b2 b3:Int) (w:World) (ht:Tab w) (w0:Word b0) (w1:Word b1) (w2:Word b2) (w3:Word b3) :
  Calls Tryz.prog 107 #[.agg #[.int .u64 b0,.int .u64 b1,.int .u64 b2,.int .u64 b3]] w fun e w'=>e = .returned (.int .i64 (topI b0 b1 b2 b3))/\Below w.heap.size w w':=by
 by_cases c3:0<b3
 ·rw [topI_3 b0 b1 b2 b3 c3 w3.hi]
  exact top_3 b0 b1 b2 b3 w ht c3 w3.hi
 obtain rfl:b3=0:=by have:=w3.lo;omega
 by_cases c2:0<b2
 ·rw [topI_2 b0 b1 b2 c2 w2.hi]
  exact top_2 b0 b1 b2 w ht c2 w2.hi
 obtain rfl:b2=0:=by have:=w2.lo;omega
 by_cases c1:0<b1
 ·rw [topI_1 b0 b1 c1 w1.hi]
  exact top_1 b0 b1 w ht c1 w1.hi
 obtain rfl:b1=0:=by have:=w1.lo;omega
 by_cases c0:0<b0
 ·rw [topI_0 b0 c0 w0.hi]
  exact top_0 b0 w ht c0 w0.hi
 obtain rfl:b0=0:=by have:=w0.lo;omega
 rw [topI_none]
 exact top_none w
end Go.Proofs.YtilnjnblpeeigaaGreatDoor.Th
namespace Go.Proofs.YtilnjnblpeeigaaGreatDoor.Th
theorem has_set (z:Bool) (b0 b1 b2 b3 k i:Int) (w0:Word b0) (w1:Word b1) (w2:Word b2) (w3:Word b3) (k0:0<=k) (k1:k<256) (i0:0<=i) (i1:i<256) :
  hasI (setI z b0 k 0) (setI z b1 k 1) (setI z b2 k 2) (setI z b3 k 3) i=if i=k then z else hasI b0 b1 b2 b3 i:=by
 have key:∀ (j:Nat) (b c:Int),j<4->0<=b->wordAt b0 b1 b2 b3 j=b->wordAt (setI z b0 k 0) (setI z b1 k 1) (setI z b2 k 2) (setI z b3 k 3) j=c->c=setI z b k j ->
   64*(j:Int)<=i->i<64*(j:Int)+64->hasI (setI z b0 k 0) (setI z b1 k 1) (setI z b2 k 2) (setI z b3 k 3) i=if i=k then z else hasI b0 b1 b2 b3 i:=by
  intro j b c hj hb e1 e2 e3 l1 l2
  rw [hasI_in _ _ _ _ i j c l1 l2 hj e2,hasI_in _ _ _ _ i j b l1 l2 hj e1,e3]
  by_cases h:k / 64=(j:Int)
  ·rw [setI_eq z b k j h,put_bit z b _ _ hb]
   by_cases e:i=k
   ·rw [if_pos (by rw [e]),if_pos e]
   ·have:¬ (i % 64).toNat=(k % 64).toNat:=by omega
    rw [if_neg this,if_neg e]
  ·rw [setI_ne z b k j h,if_neg (by omega)]
 have:i<64\/(64<=i/\i<128)\/(128<=i/\i<192)\/192<=i:=by omega
 rcases this with c | c | c | c
 ·exact key 0 b0 _ (by omega) w0.lo rfl rfl rfl (by omega) (by omega)
 ·exact key 1 b1 _ (by omega) w1.lo rfl rfl rfl (by omega) (by omega)
 ·exact key 2 b2 _ (by omega) w2.lo rfl rfl rfl (by omega) (by omega)
 ·exact key 3 b3 _ (by omega) w3.lo rfl rfl rfl (by omega) (by omega)
end Go.Proofs.YtilnjnblpeeigaaGreatDoor.Th
namespace Go.Proofs.YtilnjnblpeeigaaGreatDoor.Th
open Go.RowKit Go.Deep Go.Shelf
def updN {α:Type} (f:Nat->α) (p:Nat) (v:α):Nat->α:=fun i=>if i=p then v else f i
theorem updN_at {α:Type} (f:Nat->α) (p:Nat) (v:α):updN f p v p=v:=if_pos rfl
theorem updN_ne {α:Type} (f:Nat->α) {p i:Nat} (v:α) (h:i≠p):updN f p v i=f i:=if_neg h
structure QuP (q b:Nat) (vs:Nat->Value) (M:Nat->List Int) (f:Int->Option Int) (w:World):Prop where
 head:∃ C:Array Value,w.heap[q]? = some (.cells C 207 (0,0))/\C.size=257/\(∀ p,p<256->C[p]? = some (vs p))/\C[256]? = some (.map (some b))
 rows:∀ p,p<256->RowI w (vs p) (M p)
 map:MapIs w b f
 one:∀ p p' x,p<256->p'<256->(vs p).ownBlock=some x->(vs p').ownBlock=some x->p=p'
 ne:∀ p,p<256->(vs p).ownBlock≠some q/\(vs p).ownBlock≠some b
 qb:q≠b
def fpQ (q b:Nat) (vs:Nat->Value):Nat->Prop:=fun x=>x=q\/x=b\/∃ p,p<256/\(vs p).ownBlock=some x
section
variable {q b:Nat} {vs:Nat->Value} {M:Nat->List Int} {f:Int->Option Int} {w w':World}
theorem QuP.lt (h:QuP q b vs M f w):q<w.heap.size:=by
 obtain ⟨C,hC,_⟩:=h.head
 exact (Array.getElem?_eq_some_iff.1 hC).1
theorem QuP.fp_lt (h:QuP q b vs M f w):∀ x,fpQ q b vs x->x<w.heap.size:=by
 rintro x (rfl | rfl | ⟨p,hp,hx⟩)
 ·exact h.lt
 ·exact h.map.lt
 ·exact (h.rows p hp).lt hx
theorem QuP.keep (h:QuP q b vs M f w) (k:∀ x,fpQ q b vs x->w'.heap[x]? = w.heap[x]?):QuP q b vs M f w':=by
 obtain ⟨C,hC,r⟩:=h.head
 exact ⟨⟨C,(k q (.inl rfl)).trans hC,r⟩,fun p hp=>(h.rows p hp).keep fun x hx=>k x (.inr (.inr ⟨p,hp,hx⟩)),h.map.of_block (k b (.inr (.inl rfl))),h.one,h.ne,h.qb⟩
theorem QuP.below (h:QuP q b vs M f w) (k:Below w.heap.size w w'):QuP q b vs M f w':=h.keep fun x hx=>k.block x (h.fp_lt x hx)
theorem QuP.cell (h:QuP q b vs M f w) {p:Nat} (hp:p<256):w.cell? ⟨q,p,none⟩=some (vs p):=by
 obtain ⟨C,hC,h0,h1,_⟩:=h.head
 simp [World.cell?,hC,h1 p hp]
theorem QuP.cellM (h:QuP q b vs M f w):w.cell? ⟨q,256,none⟩=some (.map (some b)):=by
 obtain ⟨C,hC,h0,_,h1⟩:=h.head
 simp [World.cell?,hC,h1]
theorem QuP.frozen (h:QuP q b vs M f w) (j:Nat):w.frozen? ⟨q,j,none⟩=false:=by
 obtain ⟨C,hC,_⟩:=h.head
 simp [World.frozen?,hC]
theorem QuP.congr {M':Nat->List Int} {f':Int->Option Int} (h:QuP q b vs M f w) (e:∀ p,p<256->M' p=M p) (e':∀ n,f' n=f n):QuP q b vs M' f' w:=
 ⟨h.head,fun p hp=>by rw [e p hp];exact h.rows p hp,h.map.congr e',h.one,h.ne,h.qb⟩
def GoesP (w:World) (q b:Nat) (vs:Nat->Value) (M:Nat->List Int) (f:Int->Option Int) (w':World):Prop:=∃ vs',QuP q b vs' M f w'/\Turn (fpQ q b vs) w w'/\Out (fpQ q b vs) (fpQ q b vs') w
theorem QuP.hang (h:QuP q b vs M f w) {w5:World} {p:Nat} (hp:p<256) {v':Value} {L:List Int} (row:RowI w5 v' L) (g5:w.grownBy w5 (vs p).ownBlock) (loc:v'.ownBlock=(vs p).ownBlock\/∃ g,v'.ownBlock=some g/\w.heap.size<=g) :
  QuP q b (updN vs p v') (updN M p L) f (w5.setCell ⟨q,p,none⟩ v')/\Turn (fpQ q b vs) w (w5.setCell ⟨q,p,none⟩ v')/\Out (fpQ q b vs) (fpQ q b (updN vs p v')) w:=by
 have hq:=h.lt
 have hb:=h.map.lt
 have own':∀ x,v'.ownBlock=some x->(vs p).ownBlock=some x\/w.heap.size<=x:=fun x hx=>by
  rcases loc with l | ⟨g,l,hg⟩
  ·exact .inl (l ▸ hx)
  ·rw [l] at hx
   cases hx
   exact .inr hg
 have hvq:v'.ownBlock≠some q:=fun e=>(own' q e).elim (h.ne p hp).1 fun h1=>by omega
 have hvb:v'.ownBlock≠some b:=fun e=>(own' b e).elim (h.ne p hp).2 fun h1=>by omega
 have blk:∀ x,x<w.heap.size->some x≠(vs p).ownBlock->x≠q->(w5.setCell ⟨q,p,none⟩ v').heap[x]? = w.heap[x]?:=fun x hx h1 h2=>(blk_setCell_other _ _ _ _ h2).trans (g5.block x hx h1)
 obtain ⟨C,hC,h0,h1,h2⟩:=h.head
 have hC5:w5.heap[q]? = some (.cells C 207 (0,0)):=(g5.block q hq fun e=>(h.ne p hp).1 e.symm).trans hC
 refine ⟨⟨⟨C.set! p v',?_,by simpa using h0,fun i hi=>?_,?_⟩,fun i hi=>?_,h.map.of_block (blk b hb (fun e=>(h.ne p hp).2 e.symm) fun e=>h.qb e.symm),fun i j x hi hj hx hy=>?_,fun i hi=>?_,h.qb⟩,?_,?_⟩
 ·simp only [World.setCell,Array.getElem?_modify,hC5,Option.map_some]
  simp
 ·by_cases e:i=p
  ·subst e
   rw [updN_at]
   simp [h0,show i<257 by omega]
  ·rw [updN_ne _ _ e]
   have e':¬ p=i:=fun x=>e x.symm
   simp [e',h1 i hi]
 ·have e':¬ p=256:=by omega
  simp [e',h2]
 ·by_cases e:i=p
  ·subst e
   rw [updN_at,updN_at]
   exact row.keep fun x hx=>blk_setCell_other _ _ _ _ fun ex=>hvq (by rw [hx];exact congrArg some ex)
  ·rw [updN_ne _ _ e,updN_ne _ _ e]
   refine (h.rows i hi).keep fun x hx=>blk x ((h.rows i hi).lt hx) (fun ex=>e (h.one i p x hi hp hx ex.symm)) fun ex=>(h.ne i hi).1 (by rw [hx,ex])
 ·by_cases e:i=p <;> by_cases e2:j=p
  ·rw [e,e2]
  ·rw [e,updN_at] at hx
   rw [updN_ne _ _ e2] at hy
   rcases own' x hx with h3 | h3
   ·exact absurd (h.one j p x hj hp hy h3) e2
   ·have:=(h.rows j hj).lt hy
    omega
  ·rw [e2,updN_at] at hy
   rw [updN_ne _ _ e] at hx
   rcases own' x hy with h3 | h3
   ·exact absurd (h.one i p x hi hp hx h3) e
   ·have:=(h.rows i hi).lt hx
    omega
  ·rw [updN_ne _ _ e] at hx
   rw [updN_ne _ _ e2] at hy
   exact h.one i j x hi hj hx hy
 ·by_cases e:i=p
  ·rw [e,updN_at]
   exact ⟨hvq,hvb⟩
  ·rw [updN_ne _ _ e]
   exact h.ne i hi
 ·exact (Turn.grown (F:=fpQ q b vs) g5 fun k hk=>.inl (.inr (.inr ⟨p,hp,hk⟩))).trans (Turn.setCell (fpQ q b vs) w5 ⟨q,p,none⟩ v' (.inl rfl)) fun x hx=>.inl hx
 ·rintro x (rfl | rfl | ⟨i,hi,hx⟩)
  ·exact .inl (.inl rfl)
  ·exact .inl (.inr (.inl rfl))
  ·by_cases e:i=p
   ·rw [e,updN_at] at hx
    exact (own' x hx).imp (fun h3=>.inr (.inr ⟨p,hp,h3⟩)) id
   ·rw [updN_ne _ _ e] at hx
    exact .inl (.inr (.inr ⟨i,hi,hx⟩))
theorem QuP.mapped (h:QuP q b vs M f w) {f':Int->Option Int} (hm:MapIs w' b f') (g:w.grownBy w' (some b)):QuP q b vs M f' w'/\Turn (fpQ q b vs) w w':=by
 obtain ⟨C,hC,r⟩:=h.head
 have blk:∀ x,x<w.heap.size->x≠b->w'.heap[x]? = w.heap[x]?:=fun x hx hne=>g.block x hx fun e=>hne (Option.some.inj e)
 exact ⟨⟨⟨C,(blk q h.lt h.qb).trans hC,r⟩,fun p hp=>(h.rows p hp).keep fun x hx=>blk x ((h.rows p hp).lt hx) fun e=>(h.ne p hp).2 (by rw [hx,e]),hm,h.one,h.ne,h.qb⟩,Turn.grown g fun k hk=>.inl (.inr (.inl (Option.some.inj hk).symm))⟩
end
theorem numberedQ_yes (n:Int) (w:World) (h0:0<=n) (h1:n<256) :
  Calls Tryz.prog 162 #[.int .i64 n] w fun e w'=>e = .returned (.bool true)/\w'=w:=by
 go_enter Tryz.func162,Tryz.ntmps162
 go_wp2
 go_ret
 exact ⟨rfl,rfl⟩
theorem numberedQ_no (n:Int) (w:World) (h:¬ (0<=n/\n<256)) :
  Calls Tryz.prog 162 #[.int .i64 n] w fun e w'=>e = .returned (.bool false)/\w'=w:=by
 by_cases c:0<=n
 ·have c2:¬ n<256:=fun x=>h ⟨c,x⟩
  have c3:decide (n<256)=false:=by simpa using c2
  clear h
  go_enter Tryz.func162,Tryz.ntmps162
  go_wp2
  go_ret
  exact ⟨rfl,rfl⟩
 ·have c3:decide (0<=n)=false:=by simpa using c
  clear h
  go_enter Tryz.func162,Tryz.ntmps162
  go_wp2
  go_ret
  exact ⟨rfl,rfl⟩
theorem first_any (q b:Nat) (vs:Nat->Value) (M:Nat->List Int) (f:Int->Option Int) (p:Nat) (n:Int) (L:List Int) (w:World) (h:QuP q b vs M f w) (hp:p<256) (hM:M p=n::L) :
  Calls Tryz.prog 109 #[.pointer (some ⟨q,0,none⟩),.int .i64 p] w fun e w'=>e = .returned (.int .i64 n)/\w'=w:=by
 have hc:=h.cell hp
 have hr:=h.rows p hp
 rw [hM] at hr
 obtain ⟨ao,cap,ev,_,_,hg,_⟩:=hr.slice
 obtain ⟨g,rfl⟩:=hg 0 (by simp)
 have hx:=(ev ▸ hr:RowI w _ _).cell (i:=0) (x:=n) rfl
 rw [ev] at hc
 simp only [List.length_cons] at hc
 clear h hr ev hM hg
 go_enter Tryz.func109,Tryz.ntmps109
 go_wp2
 go_ret
 exact ⟨rfl,rfl⟩
end Go.Proofs.YtilnjnblpeeigaaGreatDoor.Th
namespace Go.Proofs.YtilnjnblpeeigaaGreatDoor.Th
open Go.RowKit Go.Deep Go.Shelf
theorem cell_block {w w':World} {q:Nat} (h:w'.heap[q]? = w.heap[q]?) (j:Nat):w'.cell? ⟨q,j,none⟩=w.cell? ⟨q,j,none⟩:=by simp [World.cell?,h]
theorem frozen_block {w w':World} {q:Nat} (h:w'.heap[q]? = w.heap[q]?) (j:Nat):w'.frozen? ⟨q,j,none⟩=w.frozen? ⟨q,j,none⟩:=by simp [World.frozen?,h]
def objI (n:Int):Obj:=.cells #[.int .i64 n] 3
set_option maxHeartbeats 4000000 in
theorem enter_any (q b:Nat) (vs:Nat->Value) (M:Nat->List Int) (f:Int->Option Int) (p:Nat) (n:Int) (w:World) (h:QuP q b vs M f w) (hp:p<256) (hl:(M p).length<=1000) :
  Calls Tryz.prog 163 #[.pointer (some ⟨q,0,none⟩),.int .i64 p,.int .i64 n] w fun e w'=>e = .returned (.tuple #[])/\GoesP w q b vs (updN M p (M p++[n])) f w':=by
 have hc:=h.cell hp
 have h1:RowI (w.drew.alloc (objI n)) (vs p) (M p):=((h.rows p hp).below ((Below.refl _ _).drew)).below (below_new _ _)
 obtain ⟨v',w',r1,r2,r3,r4⟩:=append_one (w.drew.alloc (objI n)) 26 (vs p) (M p) n w.heap.size h1 (by have:=blk_alloc_new w.drew (objI n);simp only [World.cell?];rw [show w.heap.size=w.drew.heap.size from rfl,this];rfl) (by omega)
 have g5':=(World.grownBy_alloc w.drew (objI n) _).trans r3
 have g5:w.grownBy w' (vs p).ownBlock:=⟨g5'.os,g5'.tape,g5'.output,g5'.size,g5'.block⟩
 have hq:w'.heap[q]? = w.heap[q]?:=g5.block q h.lt fun e=>(h.ne p hp).1 e.symm
 have hc':w'.cell? ⟨q,p,none⟩=some (vs p):=by rw [cell_block hq];exact hc
 have hf':w'.frozen? ⟨q,p,none⟩=false:=by rw [frozen_block hq];exact h.frozen p
 have HK:Hid (GoesP w q b vs (updN M p (M p++[n])) f (w'.setCell ⟨q,p,none⟩ v')):=
  ⟨_,h.hang hp r2 g5 (r4.imp id fun e=>⟨_,e,by simp⟩)⟩
 obtain ⟨ao,cap,ev,_⟩:=r2.slice
 subst ev
 have HRun:Hid _:=r1
 have hca:=cell_al hc (objI n)
 unfold objI at HRun hca
 clear h1 r1 r2 r3 r4 g5 g5' hq h hl
 generalize vs p=v at *
 generalize (M p++[n]).length=k at *
 have hpz:(p:Int)<256:=by omega
 go_enter Tryz.func163,Tryz.ntmps163
 go_region_law (refine step_append_run rfl (.tmp 12) (.tmp 14) 26 26 rfl v (.slice (some ⟨w.heap.size,0,none⟩) 1 1) _ _ (by simp [Act.eval]) (by simp [Act.eval]) HRun.out ?_)
 all_goals exact bodyPost_end (v:=.tuple #[]) (by simp [results,Tryz.results163,go_sem]) rfl ⟨rfl,HK.out⟩
set_option maxHeartbeats 4000000 in
theorem leave_any (q b:Nat) (vs:Nat->Value) (M:Nat->List Int) (f:Int->Option Int) (p:Nat) (n:Int) (i:Nat) (w:World) (h:QuP q b vs M f w) (hp:p<256) (hl:(M p).length<=1000) (hi:(M p)[i]? = some n) (ha:∀ j,j<i->(M p)[j]? ≠ some n) :
  Calls Tryz.prog 164 #[.pointer (some ⟨q,0,none⟩),.int .i64 p,.int .i64 n] w fun e w'=>e = .returned (.tuple #[])/\GoesP w q b vs (updN M p ((M p).eraseIdx i)) f w':=by
 have hil:=(List.getElem?_eq_some_iff.1 hi).1
 have hc:=h.cell hp
 have hr:=h.rows p hp
 obtain ⟨ao,cap,ev,_,_,hg,_⟩:=hr.slice
 obtain ⟨g,rfl⟩:=hg 0 (by omega)
 rw [ev] at hr hc
 have HI:Hid _:=index_any g cap (M p) i n w hr hi ha hl
 have HD:Hid _:=fun u (hu:RowI u _ _)=>delete_any g cap (M p) i u hu hil hl
 have HR:Hid (RowI w (.slice (some ⟨g,0,none⟩) (M p).length cap) (M p)):=hr
 have HQ:Hid (QuP q b vs M f w):=h
 have HV:Hid (vs p=_):=ev
 have hw1:IntKind.i64.wrap ((i:Int)+1)=(i:Int)+1:=by rw [IntKind.wrap_i64];omega
 clear h hi ha hr ev hg
 generalize hm:(M p).length=m at *
 have hpz:(p:Int)<256:=by omega
 go_enter Tryz.func164,Tryz.ntmps164
 go_wp2_with (go_at_call 205;refine Calls.mono HI.out ?_;rintro e w' ⟨rfl,rfl⟩)
 go_region_with (go_at_call 211;refine Calls.mono (HD.out _ (RowI.below HR.out ((Below.refl _ _).drew))) ?_;rintro e w2 ⟨rfl,r2,g2⟩;have hq:w2.heap[q]? = w'.heap[q]?:=g2.block q HQ.out.lt (fun e=>(HQ.out.ne p hp).1 (by rw [HV.out];exact e.symm));have hc2:w2.cell? ⟨q,p,none⟩=some (.slice (some ⟨g,0,none⟩) m cap):=(by rw [cell_block hq];exact hc);have hf2:w2.frozen? ⟨q,p,none⟩=false:=(by rw [frozen_block hq];exact HQ.out.frozen p);have HK:Hid (GoesP w' q b vs (updN M p ((M p).eraseIdx i)) f (w2.setCell ⟨q,p,none⟩ (.slice (some ⟨g,0,none⟩) (m - 1) cap))):=⟨_,HQ.out.hang hp r2 (by rw [HV.out];exact ⟨g2.os,g2.tape,g2.output,g2.size,g2.block⟩) (.inl (by rw [HV.out];rfl))⟩;clear r2 g2 hq)
 exact bodyPost_end (v:=.tuple #[]) (by simp [results,Tryz.results164,go_sem]) rfl ⟨rfl,HK.out⟩
end Go.Proofs.YtilnjnblpeeigaaGreatDoor.Th
namespace Go.Proofs.YtilnjnblpeeigaaGreatDoor.Th
open Go.RowKit Go.Deep Go.Shelf
def wd (f:Nat->Bool):Nat->Int->Int
 | 0,_=>0
 | m+1,k=>setI (f m) (wd f m k) m k
theorem wd_word (f:Nat->Bool) (k:Int):∀ m,Word (wd f m k)
 | 0=>⟨by simp [wd],by simp [wd]⟩
 | m+1=>set_word _ _ _ _ (wd_word f k m)
theorem hasI_zero (n:Int):hasI 0 0 0 0 n=false:=by
 have:∀ k,wordAt 0 0 0 0 k=0:=fun k=>by unfold wordAt;split <;> (try split) <;> (try split) <;> rfl
 unfold hasI hasN
 rw [this]
 simp
theorem wd_has (f:Nat->Bool) (i:Nat) (hi:i<256):∀ m,m<=256->hasI (wd f m 0) (wd f m 1) (wd f m 2) (wd f m 3) (i:Int)=(decide (i<m) && f i)
 | 0,_=>by
  unfold wd
  rw [hasI_zero]
  simp
 | m+1,hm=>by
  have ih:=wd_has f i hi m (by omega)
  unfold wd
  rw [has_set (f m) _ _ _ _ (m:Int) (i:Int) (wd_word f 0 m) (wd_word f 1 m) (wd_word f 2 m) (wd_word f 3 m) (by omega) (by omega) (by omega) (by omega),ih]
  by_cases e:i=m
  ·subst e
   simp
  ·have e2:¬ ((i:Int)=(m:Int)):=by omega
   rw [if_neg e2]
   by_cases h:i<m
   ·have h2:i<m+1:=by omega
    simp [h,h2]
   ·have h2:¬ i<m+1:=by omega
    simp [h,h2]
theorem topTo_congr {f g:Nat->Bool}:∀ m,(∀ k,k<m->f k=g k)->topTo f m=topTo g m
 | 0,_=>rfl
 | m+1,h=>by
  unfold topTo
  rw [h m (by omega),topTo_congr m fun k hk=>h k (by omega)]
def wdAll (f:Nat->Bool):Value:=.agg #[.int .u64 (wd f 256 0),.int .u64 (wd f 256 1),.int .u64 (wd f 256 2),.int .u64 (wd f 256 3)]
theorem top_wd (f:Nat->Bool):topI (wd f 256 0) (wd f 256 1) (wd f 256 2) (wd f 256 3)=topTo f 256:=by
 unfold topI
 refine topTo_congr 256 fun k hk=>?_
 have:=wd_has f k hk 256 (by omega)
 unfold hasI at this
 have h1:(0:Int)<=(k:Int):=by omega
 have h2:(k:Int)<256:=by omega
 simpa [h1,h2,hk] using this
def objB (x0 x1 x2 x3:Int):Obj:=.cells #[.int .u64 x0,.int .u64 x1,.int .u64 x2,.int .u64 x3] 201
theorem objB_cells {w:World} {g:Nat} {x0 x1 x2 x3:Int} (h:w.heap[g]? = some (objB x0 x1 x2 x3)):w.cell? ⟨g,0,none⟩=some (.int .u64 x0)/\w.cell? ⟨g,1,none⟩=some (.int .u64 x1)/\w.cell? ⟨g,2,none⟩=some (.int .u64 x2)/\w.cell? ⟨g,3,none⟩=some (.int .u64 x3)/\w.frozen? ⟨g,0,none⟩=false/\w.frozen? ⟨g,1,none⟩=false/\w.frozen? ⟨g,2,none⟩=false/\w.frozen? ⟨g,3,none⟩=false:=by
 unfold objB at h
 refine ⟨?_,?_,?_,?_,?_,?_,?_,?_⟩ <;> simp [World.cell?,World.frozen?,h]
def sets4 (w:World) (g:Nat) (y0 y1 y2 y3:Int):World:=(((w.setCell ⟨g,0,none⟩ (.int .u64 y0)).setCell ⟨g,1,none⟩ (.int .u64 y1)).setCell ⟨g,2,none⟩ (.int .u64 y2)).setCell ⟨g,3,none⟩ (.int .u64 y3)
theorem sets4_at {w:World} {g:Nat} {x0 x1 x2 x3:Int} (h:w.heap[g]? = some (objB x0 x1 x2 x3)) (y0 y1 y2 y3:Int):(sets4 w g y0 y1 y2 y3).heap[g]? = some (objB y0 y1 y2 y3):=by
 unfold objB at h ⊢
 simp only [sets4,World.setCell,Array.getElem?_modify,h,Option.map_some,if_true]
 simp
theorem sets4_turn (F:Nat->Prop) (w:World) (g:Nat) (y0 y1 y2 y3:Int) (h:F g):Turn F w (sets4 w g y0 y1 y2 y3):=
 (((Turn.setCell F _ ⟨g,0,none⟩ _ h).trans (Turn.setCell F _ ⟨g,1,none⟩ _ h) fun _ h=>.inl h).trans (Turn.setCell F _ ⟨g,2,none⟩ _ h) fun _ h=>.inl h).trans (Turn.setCell F _ ⟨g,3,none⟩ _ h) fun _ h=>.inl h
theorem taken_step {F:Nat->Bool} {m r:Nat} {w u:World} {x0 x1 x2 x3 y0 y1 y2 y3 z0 z1 z2 z3:Int} (bel:Below r w u) (hb:u.heap[r+1]? = some (objB x0 x1 x2 x3)) (hz:u.heap[r]? = some (objB z0 z1 z2 z3))
  (he:wd F (m+1) 0=y0/\wd F (m+1) 1=y1/\wd F (m+1) 2=y2/\wd F (m+1) 3=y3) :
  Below r w (sets4 u (r+1) y0 y1 y2 y3)/\(sets4 u (r+1) y0 y1 y2 y3).heap[r+1]? = some (objB (wd F (m+1) 0) (wd F (m+1) 1) (wd F (m+1) 2) (wd F (m+1) 3))/\∃ z0 z1 z2 z3,(sets4 u (r+1) y0 y1 y2 y3).heap[r]? = some (objB z0 z1 z2 z3):=by
 obtain ⟨rfl,rfl,rfl,rfl⟩:=he
 have t:=sets4_turn (fun x=>x=r+1) u (r+1) (wd F (m+1) 0) (wd F (m+1) 1) (wd F (m+1) 2) (wd F (m+1) 3) rfl
 have hr:=(Array.getElem?_eq_some_iff.1 hz).1
 exact ⟨t.below bel (fun x hx=>by omega) (by omega),sets4_at hb _ _ _ _,z0,z1,z2,z3,(t.block r hr (by omega)).trans hz⟩
set_option maxHeartbeats 4000000 in
set_option maxRecDepth 100000 in
theorem taken_any (q b:Nat) (vs:Nat->Value) (M:Nat->List Int) (f:Int->Option Int) (w:World) (h:QuP q b vs M f w) :
  Calls Tryz.prog 108 #[.pointer (some ⟨q,0,none⟩)] w fun e w'=>e = .returned (wdAll fun p=>decide (0<(M p).length))/\Below w.heap.size w w':=by
 have HQ:Hid (QuP q b vs M f w):=h
 generalize hF:(fun p=>decide (0<(M p).length))=F
 have HF:Hid (∀ p,F p=decide (0<(M p).length)):=fun p=>by rw [<- hF]
 clear h hF
 have H0:Hid (Below w.heap.size w ((w.alloc (objB 0 0 0 0)).alloc (objB 0 0 0 0))/\((w.alloc (objB 0 0 0 0)).alloc (objB 0 0 0 0)).heap[w.heap.size+1]? = some (objB 0 0 0 0)/\∃ z0 z1 z2 z3,((w.alloc (objB 0 0 0 0)).alloc (objB 0 0 0 0)).heap[w.heap.size]? = some (objB z0 z1 z2 z3)):=
  ⟨Below.then (below_new w _) (below_new _ _) (by simp),by have:=blk_alloc_new (w.alloc (objB 0 0 0 0)) (objB 0 0 0 0);simpa using this,0,0,0,0,(blk_alloc_lt _ _ _ (by simp)).trans (blk_alloc_new _ _)⟩
 go_enter Tryz.func108,Tryz.ntmps108
 go_wp2_with fail
 generalize hr:w.heap.size=r at *
 go_loopw [4,5] (fun _ s5 wr=>∃ m:Nat,m<=256/\s5 = .int .i64 m/\Below r w wr/\wr.heap[r+1]? = some (objB (wd F m 0) (wd F m 1) (wd F m 2) (wd F m 3))/\∃ z0 z1 z2 z3,wr.heap[r]? = some (objB z0 z1 z2 z3)) (fun _ s5 _=>256 - (intOf s5).toNat)
 case atStart=>exact ⟨0,Nat.zero_le _,rfl,H0.out⟩
 case round =>
  obtain ⟨m,hm,rfl,bel,hb,z0,z1,z2,z3,hz⟩:=hrel
  obtain ⟨c0,c1,c2,c3,f0,f1,f2,f3⟩:=objB_cells hb
  by_cases hlt:m<256
  ·have hQ:=HQ.out.below (hr ▸ bel)
   obtain ⟨ao,cap,ev,_⟩:=(hQ.rows m hlt).slice
   have hc:=hQ.cell hlt
   rw [ev] at hc
   have hFm:=HF.out m
   generalize hl:(M m).length=l at *
   have hd:decide (0<l)=F m:=by rw [hFm]
   have hmz:(m:Int)<256:=by omega
   have w0:=wd_word F 0 m
   have w1:=wd_word F 1 m
   have w2:=wd_word F 2 m
   have w3:=wd_word F 3 m
   have HS:=fun u=>set_any (F m) (wd F m 0) (wd F m 1) (wd F m 2) (wd F m 3) m u w0 w1 w2 w3 (by omega) hmz
   have HB:Hid (Below r w wr):=bel
   have HH:Hid (wr.heap[r+1]? = some (objB (wd F m 0) (wd F m 1) (wd F m 2) (wd F m 3))):=hb
   have HZ:Hid (wr.heap[r]? = some (objB z0 z1 z2 z3)):=hz
   have HE:Hid (wd F (m+1) 0=setI (F m) (wd F m 0) m 0/\wd F (m+1) 1=setI (F m) (wd F m 1) m 1/\wd F (m+1) 2=setI (F m) (wd F m 2) m 2/\wd F (m+1) 3=setI (F m) (wd F m 3) m 3):=⟨rfl,rfl,rfl,rfl⟩
   have HS':=hid HS
   clear HS w0 w1 w2 w3 bel hb hz hQ ev hFm hl
   generalize setI (F m) (wd F m 0) m 0=y0 at *
   generalize setI (F m) (wd F m 1) m 1=y1 at *
   generalize setI (F m) (wd F m 2) m 2=y2 at *
   generalize setI (F m) (wd F m 3) m 3=y3 at *
   generalize wd F m 0=x0 at *
   generalize wd F m 1=x1 at *
   generalize wd F m 2=x2 at *
   generalize wd F m 3=x3 at *
   generalize F m=z at *
   go_wp2_with fail
   go_region_with (go_at_call 161;(with_reducible refine Calls.mono (HS'.out _) ?_);rintro e u ⟨rfl,bu⟩;have hb2:u.heap[r+1]? = some (objB x0 x1 x2 x3):=(bu.block (r+1) (Array.getElem?_eq_some_iff.1 HH.out).1).trans HH.out;have hz2:Hid (u.heap[r]? = some (objB z0 z1 z2 z3)):=(bu.block r (Array.getElem?_eq_some_iff.1 HZ.out).1).trans HZ.out;have HB2:Hid (Below r w u):=Below.then HB.out ⟨bu.os,bu.tape,bu.output,bu.size,bu.block⟩ (Nat.le_of_lt (Array.getElem?_eq_some_iff.1 HZ.out).1);obtain ⟨d0,d1,d2,d3,g0,g1,g2,g3⟩:=objB_cells hb2;have HN:Hid (Below r w (sets4 u (r+1) y0 y1 y2 y3)/\(sets4 u (r+1) y0 y1 y2 y3).heap[r+1]? = some (objB (wd F (m+1) 0) (wd F (m+1) 1) (wd F (m+1) 2) (wd F (m+1) 3))/\∃ z0 z1 z2 z3,(sets4 u (r+1) y0 y1 y2 y3).heap[r]? = some (objB z0 z1 z2 z3)):=taken_step HB2.out hb2 hz2.out HE.out;unfold sets4 at HN;clear hb2 bu)
   all_goals
    go_wp2
    go_round
    case rel=>exact ⟨m+1,by omega,by go_num,HN.out⟩
    case measure=>simp [intOf];omega
  ·obtain rfl:m=256:=by omega
   obtain ⟨e0,e1,e2,e3,g0,g1,g2,g3⟩:=objB_cells hz
   have HB:Hid (Below r w wr):=bel
   have HL:Hid (∀ a b c d,Below r w (sets4 wr r a b c d)):=fun a b c d=>(sets4_turn (fun x=>x=r) wr r a b c d rfl).below bel (fun x hx=>by rw [hx];exact Nat.le_refl _) (Nat.le_of_lt (Array.getElem?_eq_some_iff.1 hz).1)
   unfold sets4 at HL
   have HE:Hid (wdAll F = .agg #[.int .u64 (wd F 256 0),.int .u64 (wd F 256 1),.int .u64 (wd F 256 2),.int .u64 (wd F 256 3)]):=rfl
   clear bel hb hz
   generalize wd F 256 0=x0 at *
   generalize wd F 256 1=x1 at *
   generalize wd F 256 2=x2 at *
   generalize wd F 256 3=x3 at *
   go_wp2
   rw [HE.out,hr]
   exact bodyPost_ret (v:=.agg #[.int .u64 x0,.int .u64 x1,.int .u64 x2,.int .u64 x3]) (by simp [results,Tryz.results108,go_sem,e0,e1,e2,e3]) rfl ⟨rfl,HL.out _ _ _ _⟩
end Go.Proofs.YtilnjnblpeeigaaGreatDoor.Th
namespace Go.Proofs.YtilnjnblpeeigaaGreatDoor.Th
open Go.RowKit Go.Deep Go.Shelf
def QuH (q:Nat) (F:Nat->Prop) (S:St) (w:World):Prop:=∃ b vs,QuP q b vs (lineN S) (whF S) w/\Good S/\∀ x,F x↔fpQ q b vs x
def quT (q:Nat) (F:Nat->Prop) (S:St):Th where
 F:=F
 H:=QuH q F S
 lt:=fun _ ⟨_,_,h,_,e⟩ x hx=>h.fp_lt x ((e x).1 hx)
 keep:=fun _ _ ⟨b,vs,h,g,e⟩ k=>⟨b,vs,h.keep fun x hx=>k x ((e x).2 hx),g,e⟩
theorem QuH.below {q:Nat} {F:Nat->Prop} {S:St} {w w':World} (h:QuH q F S w) (k:Below w.heap.size w w'):QuH q F S w':=(quT q F S).below h k
def Goes (w:World) (q:Nat) (F:Nat->Prop) (S:St) (w':World):Prop:=∃ F',QuH q F' S w'/\Turn F w w'/\Out F F' w
theorem Goes.same {w w':World} {q:Nat} {F:Nat->Prop} {S:St} (h:QuH q F S w) (b:Below w.heap.size w w'):Goes w q F S w':=⟨F,h.below b,Turn.of b F,Out.refl _ _⟩
theorem goes_of {w w':World} {q b:Nat} {F:Nat->Prop} {vs:Nat->Value} {S:St} {M:Nat->List Int} {f:Int->Option Int} (e:∀ x,F x↔fpQ q b vs x) (h:GoesP w q b vs M f w') (g:Good S) (eM:∀ p,p<256->lineN S p=M p) (ef:∀ n,whF S n=f n):Goes w q F S w':=by
 obtain ⟨vs',h1,h2,h3⟩:=h
 obtain rfl:F=fpQ q b vs:=funext fun x=>propext (e x)
 exact ⟨fpQ q b vs',⟨b,vs',h1.congr eM ef,g,fun _=>Iff.rfl⟩,h2,h3⟩
set_option maxRecDepth 100000 in
theorem zero_queue:∃ zs:Array Value,zs.size=257/\(∀ p,p<256->zs[p]? = some (.slice none 0 0))/\∀ w,(zeroValue 207).run Tryz.prog w = .ok (.agg zs) w:=by
 refine ⟨(List.replicate 256 (Value.slice none 0 0)++[Value.map none]).toArray,by simp,fun p hp=>?_,fun w=>by kernel_rfl⟩
 rw [List.getElem?_toArray,List.getElem?_append_left (by simpa using hp),List.getElem?_replicate,if_pos hp]
theorem new_queue (w:World) (zs:Array Value) (h0:zs.size=257) (h1:∀ p,p<256->zs[p]? = some (.slice none 0 0)) :
  QuP (w.heap.size+1) w.heap.size (fun _=>.slice none 0 0) (lineN []) (whF []) ((w.alloc (.map #[] 0)).alloc (.cells (zs.setIfInBounds 256 (.map (some w.heap.size))) 207)):=by
 have hs:(w.alloc (.map #[] 0)).heap.size=w.heap.size+1:=by simp
 refine ⟨⟨zs.setIfInBounds 256 (.map (some w.heap.size)),?_,by simpa using h0,fun p hp=>?_,?_⟩,fun p hp=>rowI_nil _,?_,fun p p' x _ _ hx=>by simp [Value.ownBlock] at hx,fun p _=>by simp [Value.ownBlock],by omega⟩
 ·rw [<- hs]
  exact blk_alloc_new _ _
 ·have e:¬ 256=p:=by omega
  rw [Array.getElem?_setIfInBounds,if_neg e]
  exact h1 p hp
 ·rw [Array.getElem?_setIfInBounds,if_pos rfl,if_pos (by omega)]
 ·exact (MapIs.new w).of_block (blk_alloc_lt _ _ _ (by simp))
set_option maxHeartbeats 1000000 in
theorem new_p (w:World):Calls Tryz.prog 96 #[] w fun e w'=>e = .returned (.pointer (some ⟨w.heap.size+1,0,none⟩))/\QuP (w.heap.size+1) w.heap.size (fun _=>.slice none 0 0) (lineN []) (whF []) w'/\Below w.heap.size w w':=by
 have hmm:=@run_makeMap Tryz.prog
 obtain ⟨zs,h0,h1,hz⟩:=zero_queue
 have hlt:¬ zs.size<257:=by omega
 have HK:Hid (QuP (w.heap.size+1) w.heap.size (fun _=>.slice none 0 0) (lineN []) (whF []) ((w.alloc (.map #[] 0)).alloc (.cells (zs.setIfInBounds 256 (.map (some w.heap.size))) 207))/\Below w.heap.size w ((w.alloc (.map #[] 0)).alloc (.cells (zs.setIfInBounds 256 (.map (some w.heap.size))) 207))):=
  ⟨new_queue w zs h0 h1,Below.then (below_new _ _) (below_new _ _) (by simp)⟩
 clear h1
 go_enter Tryz.func96,Tryz.ntmps96
 go_wp2
 go_ret
 exact ⟨rfl,HK.out⟩
theorem new_any (w:World):Calls Tryz.prog 96 #[] w fun e w'=>∃ F,e = .returned (.pointer (some ⟨w.heap.size+1,0,none⟩))/\QuH (w.heap.size+1) F [] w'/\Below w.heap.size w w'/\∀ x,F x->w.heap.size<=x:=by
 refine Calls.mono (new_p w) ?_
 rintro e w' ⟨rfl,h,b⟩
 refine ⟨_,rfl,⟨_,_,h,good_nil,fun _=>Iff.rfl⟩,b,?_⟩
 rintro x (rfl | rfl | ⟨p,_,hx⟩)
 ·omega
 ·exact Nat.le_refl _
 ·simp [Value.ownBlock] at hx
set_option maxHeartbeats 4000000 in
theorem put_any (q:Nat) (F:Nat->Prop) (S:St) (p n:Int) (w:World) (h:QuH q F S w) (hn:I64 n) (hl:S.length<=1000) :
  Calls Tryz.prog 110 #[.pointer (some ⟨q,0,none⟩),.int .i64 p,.int .i64 n] w fun e w'=>e = .returned (.int .i64 (putE S p n))/\Goes w q F (putS S p n) w':=by
 have HQ:Hid (QuH q F S w):=h
 obtain ⟨b,vs,h,good,hF⟩:=h
 have hc:=h.cellM
 have hlk:=h.map.look hn true
 rcases putE_cases S p n with ⟨e1,e2,h0,h1,h2⟩ | ⟨e1,e2,h0,h1,h2⟩ | ⟨e1,e2,h0⟩ <;> rw [e1,e2]
 ·have hs:(whF S n).isSome=false:=h2
  obtain ⟨w1,hst,m1,g1,_⟩:=h.map.store hn p
  obtain ⟨x1,x2⟩:=h.mapped m1 g1
  obtain ⟨P,rfl⟩:=Int.eq_ofNat_of_zero_le h0
  have HE:=hid (enter_any q b vs (lineN S) _ P n w1 x1 (by omega) (Nat.le_trans (line_len S P) hl))
  have HT:Hid (Turn (fpQ q b vs) w w1):=x2
  have HG:Hid (Good S/\(∀ y∈S,y.n≠n)/\∀ x,F x↔fpQ q b vs x):=⟨good,whB_none h2,hF⟩
  rw [hs] at hlk
  clear h good hF m1 g1 x1 x2 h2 hs
  go_enter Tryz.func110,Tryz.ntmps110
  go_wp2_with (first | (go_at_call 162;refine Calls.mono (numberedQ_yes _ _ (by omega) (by omega)) ?_;rintro e w' ⟨rfl,rfl⟩) | (go_at_call 163;refine Calls.mono HE.out ?_;rintro e w2 ⟨rfl,G2⟩))
  go_ret
  obtain ⟨good,hno,hF⟩:=HG.out
  have hp:P<256:=by omega
  obtain ⟨vs',y1,y2,y3⟩:=G2
  refine ⟨rfl,goes_of hF ⟨vs',y1,HT.out.trans y2 fun x hx=>.inl hx,fun x hx=>(y3 x hx).imp id fun h1=>Nat.le_trans HT.out.size h1⟩ (good_add (x:=⟨P,n⟩) good hp hn hno) (fun i hi=>?_) (fun m=>?_)⟩
  ·rw [line_add]
   unfold updN
   by_cases e:i=P
   ·simp [e]
   ·simp [e]
  ·rw [whF_add hno]
   rfl
 ·have hs:(whF S n).isSome=true:=h2
  rw [hs] at hlk
  clear h good hF h2 hs
  go_enter Tryz.func110,Tryz.ntmps110
  go_wp2_with (go_at_call 162;refine Calls.mono (numberedQ_yes _ _ (by omega) (by omega)) ?_;rintro e w' ⟨rfl,rfl⟩)
  go_ret
  exact ⟨rfl,Goes.same HQ.out (Below.refl _ _)⟩
 ·have H0:Hid (¬ (0<=p/\p<256)):=h0
  clear h good hF h0 hlk
  go_enter Tryz.func110,Tryz.ntmps110
  go_wp2_with (go_at_call 162;refine Calls.mono (numberedQ_no _ _ H0.out) ?_;rintro e w' ⟨rfl,rfl⟩)
  go_ret
  exact ⟨rfl,Goes.same HQ.out (Below.refl _ _)⟩
theorem line_at {S:St} (g:Good S) {x:In} (hx:x∈S):∃ i,(lineN S x.p)[i]? = some x.n/\(∀ j,j<i->(lineN S x.p)[j]? ≠ some x.n)/\lineN (takeS S x.n) x.p=(lineN S x.p).eraseIdx i:=by
 have hm:x.n∈lineN S x.p:=line_mem.2 ⟨x,hx,rfl,rfl⟩
 obtain ⟨i,hi,e⟩:=List.mem_iff_getElem.1 hm
 have h1:(lineN S x.p)[i]? = some x.n:=by rw [List.getElem?_eq_getElem hi,e]
 refine ⟨i,h1,fun j hj hj2=>?_,line_take_at g h1⟩
 obtain ⟨hjl,ej⟩:=List.getElem?_eq_some_iff.1 hj2
 exact List.pairwise_iff_getElem.1 (line_one g x.p) j i hjl hi hj (by rw [ej,e])
set_option maxHeartbeats 4000000 in
theorem take_any (q:Nat) (F:Nat->Prop) (S:St) (n:Int) (w:World) (h:QuH q F S w) (hn:I64 n) (hl:S.length<=1000) :
  Calls Tryz.prog 111 #[.pointer (some ⟨q,0,none⟩),.int .i64 n] w fun e w'=>e = .returned (.int .i64 (takeE S n))/\Goes w q F (takeS S n) w':=by
 have HQ:Hid (QuH q F S w):=h
 obtain ⟨b,vs,h,good,hF⟩:=h
 have hc:=h.cellM
 have hlk:=h.map.look hn true
 unfold takeE
 rcases wh_cases S n with ⟨e1,e2,e3⟩ | ⟨x,hx,rfl,e1,e2,e3⟩ <;> rw [e1]
 ·rw [take_none e1,if_neg (by simp)]
  rw [e2] at hlk
  simp only [Option.getD_none,Option.isSome_none] at hlk
  clear h good hF e1 e2 e3
  go_enter Tryz.func111,Tryz.ntmps111
  go_wp2
  go_ret
  exact ⟨rfl,Goes.same HQ.out (Below.refl _ _)⟩
 ·rw [if_pos rfl]
  rw [e2] at hlk
  simp only [Option.getD_some,Option.isSome_some] at hlk
  obtain ⟨i,i1,i2,i3⟩:=line_at good hx
  obtain ⟨w1,hst,m1,g1,_⟩:=h.map.drop hn 0
  obtain ⟨x1,x2⟩:=h.mapped m1 g1
  have hp:=(good.fit x hx).1
  have HE:=hid (leave_any q b vs (lineN S) _ x.p x.n i w1 x1 hp (Nat.le_trans (line_len S x.p) hl) i1 i2)
  have HT:Hid (Turn (fpQ q b vs) w w1):=x2
  have HG:Hid (Good S/\x∈S/\(∀ x,F x↔fpQ q b vs x)/\lineN (takeS S x.n) x.p=(lineN S x.p).eraseIdx i):=⟨good,hx,hF,i3⟩
  clear h good hF m1 g1 x1 x2 e1 e2 e3 hx i1 i2 i3
  go_enter Tryz.func111,Tryz.ntmps111
  go_wp2_with (go_at_call 164;refine Calls.mono HE.out ?_;rintro e w2 ⟨rfl,G2⟩)
  go_ret
  obtain ⟨good,hx,hF,i3⟩:=HG.out
  obtain ⟨vs',y1,y2,y3⟩:=G2
  refine ⟨rfl,goes_of hF ⟨vs',y1,HT.out.trans y2 fun x hx=>.inl hx,fun x hx=>(y3 x hx).imp id fun h1=>Nat.le_trans HT.out.size h1⟩ (good_take good x.n) (fun j hj=>?_) (fun m=>?_)⟩
  ·unfold updN
   by_cases e:j=x.p
   ·rw [if_pos e,e,i3]
   ·rw [if_neg e,line_take_other good hx e]
  ·rw [whF_take good]
   rfl
end Go.Proofs.YtilnjnblpeeigaaGreatDoor.Th
namespace Go.Proofs.YtilnjnblpeeigaaGreatDoor.Th
open Go.RowKit Go.Deep Go.Shelf
theorem occ_fun (S:St):(fun p=>decide (0<(lineN S p).length))=occ S:=funext fun p=>(occ_line S p).symm
set_option maxHeartbeats 1000000 in
theorem next_any (q:Nat) (F:Nat->Prop) (S:St) (w:World) (ht:Tab w) (h:QuH q F S w) :
  Calls Tryz.prog 61 #[.pointer (some ⟨q,0,none⟩)] w fun e w'=>e = .returned (.tuple #[.int .i64 (nextN S),.bool (nextB S)])/\Below w.heap.size w w':=by
 obtain ⟨b,vs,h,good,hF⟩:=h
 have HT:=hid (taken_any q b vs _ _ w h)
 rw [occ_fun] at HT
 have HP:=hid (fun u (b1:Below w.heap.size w u)=>top_any (wd (occ S) 256 0) (wd (occ S) 256 1) (wd (occ S) 256 2) (wd (occ S) 256 3) u (ht.below b1) (wd_word _ _ _) (wd_word _ _ _) (wd_word _ _ _) (wd_word _ _ _))
 rw [top_wd] at HP
 have HQ:Hid (QuP q b vs (lineN S) (whF S) w):=h
 have HG:Hid (Good S):=good
 unfold wdAll at HT
 have hts:topTo (occ S) 256=topS S:=rfl
 rw [hts] at HP
 clear h ht hF hts
 rcases next_cases good with ⟨_,e1,_,e2,e3,_⟩ | ⟨x,L,hx,e1,_,e2,e3,_,e4,_⟩ <;> rw [e2,e3] <;> rw [e1] at HP
 ·clear e1 e2 e3 good
  generalize wd (occ S) 256 0=x0 at *
  generalize wd (occ S) 256 1=x1 at *
  generalize wd (occ S) 256 2=x2 at *
  generalize wd (occ S) 256 3=x3 at *
  go_enter Tryz.func61,Tryz.ntmps61
  go_wp2_with (first | (go_at_call 108;refine Calls.mono HT.out ?_;rintro e w1 ⟨rfl,b1⟩;have B1:=hid b1;clear b1) | (go_at_call 107;refine Calls.mono (HP.out _ B1.out) ?_;rintro e w2 ⟨rfl,b2⟩;have B2:=hid b2;clear b2))
  go_ret2
  exact ⟨rfl,Below.then B1.out B2.out B1.out.size⟩
 ·have HX:Hid (x.p<256/\lineN S x.p=x.n::L):=⟨(good.fit x hx).1,e4⟩
  clear e1 e2 e3 e4 good hx
  generalize wd (occ S) 256 0=x0 at *
  generalize wd (occ S) 256 1=x1 at *
  generalize wd (occ S) 256 2=x2 at *
  generalize wd (occ S) 256 3=x3 at *
  have hneg:¬ ((x.p:Int)<0):=by omega
  go_enter Tryz.func61,Tryz.ntmps61
  go_wp2_with (first | (go_at_call 108;refine Calls.mono HT.out ?_;rintro e w1 ⟨rfl,b1⟩;have B1:=hid b1;clear b1) | (go_at_call 107;refine Calls.mono (HP.out _ B1.out) ?_;rintro e w2 ⟨rfl,b2⟩;have B2:=hid (Below.then B1.out b2 B1.out.size);clear b2) | (go_at_call 109;refine Calls.mono (first_any q b vs (lineN S) (whF S) x.p x.n L _ (HQ.out.below B2.out) HX.out.1 HX.out.2) ?_;rintro e w3 ⟨rfl,rfl⟩))
  go_ret2
  exact ⟨rfl,B2.out⟩
end Go.Proofs.YtilnjnblpeeigaaGreatDoor.Th
