/- Below: KTa; no condition. -/
import Derived.Test.YtbfjjpdnoalojaaGreatDoorPa4
import Derived.Maps.Range
import Derived.Maps.RangeWalk
import Derived.Test.YtbfjjpdnoalojaaGreatDoorProg
import Derived.Shelf.SlIterI.Nil
import Derived.Shelf.SortM.Plain
import Derived.Shelf.SortM.SortNone
import Derived.Shelf.SlMaps.Clone
import Derived.ProofKit
import Derived.OpenShut
import Derived.LaidMore
import Derived.Deep.DeepHandedRow
import Derived.Lib.SmallJoins
import Derived.Laws.IdiomArrays
import Derived.Deep.Slices
set_option maxHeartbeats 16000000
set_option maxRecDepth 100000
namespace Go.Proofs.YtbfjjpdnoalojaaGreatDoor
namespace Ta
open Go.RowKit Go.Deep Go.Shelf
def cI (n:Int):List Value:=[.int .i64 n]
def Ui:El Int:=⟨3,22,1,8,cI⟩
theorem OP:(Tryz.prog.info? 3).map (fun i=>(i.zero,i.size,i.bytes))=some (some (.int .i64 0),1,8):=by kernel_rfl
theorem okI:El.Ok Ui:=⟨Tryz.underlying22,ZA OP rfl,by decide,by decide,fun _=>rfl,by simp[Ui,cI,Value.oneCell']⟩
abbrev Xa (v:Value) (L:List Int):Th:=Jv Ui v L
abbrev RowI (w:World) (v:Value) (L:List Int):Prop:=Row Ui w v L
theorem RowI.cell {w:World} {g cap n:Nat} {L:List Int} (h:RowI w (.slice (some ⟨g,0,none⟩) n cap) L) {i:Nat} {x:Int} (hi:L[i]? = some x):w.cell? ⟨g,i,none⟩=some (.int .i64 x):=by
 have:=Row.cell okI h hi (j:=0) (c:=.int .i64 x) rfl
 simpa [Ui] using this
open Go.MapKept Go.Maps
open Go.ChangeMaps (heap_setBlock_same heap_setBlock_other modify_eq_set)
abbrev Jh (s:Int):Value:=.int .i64 s
def Jg (c:Pg):Value:=.agg #[.int .i64 c.fr,.int .i64 c.rt]
theorem ZC {s t:Int} (h:Jh s=Jh t):s=t:=by simpa [Jh] using h
theorem Zy:Keyed Tryz.prog 3:=int_keyed Tryz.underlying3
theorem OI {x:Int} (h:VC x):(Lit.int .i64 x).wf=true:=by
 unfold VC at h
 simp[Lit.wf,IntKind.min,IntKind.max,IntKind.bits,IntKind.signed]
 omega
theorem Jfe {s:Int} (h:VC s):keyOf Tryz.prog 3 (Jh s)=some (.int .i64 s):=by
 simp[keyOf,mapKey,Tryz.underlying3,OI h]
theorem XX {s:Int} (h:VC s):∃ l,keyOf Tryz.prog 3 (Jh s)=some l:=⟨_,Jfe h⟩
theorem MR {l:List MapEntry} (hp:l.Pairwise (fun x y=>x.key≠y.key)) {i j:Nat} {x y:MapEntry} (hi:l[i]? = some x) (hj:l[j]? = some y) (hne:i≠j):x.key≠y.key:=by
 obtain⟨hi1,rfl⟩:=Jqb.1 hi
 obtain⟨hj1,rfl⟩:=Jqb.1 hj
 rcases Nat.lt_or_gt_of_ne hne with h|h
 ·exact List.pairwise_iff_getElem.1 hp i j hi1 hj1 h
 ·exact(List.pairwise_iff_getElem.1 hp j i hj1 hi1 h).symm
structure Full (es:Array MapEntry) (f:Int->Option Pg):Prop where
 is:∀ e∈es.toList,∃ s c,VC s/\e.key=Jh s/\e.val=Jg c/\f s=some c
 all:∀ s c,f s=some c->∃ e∈es.toList,e.key=Jh s/\e.val=Jg c
def MapIs (w:World) (b:Nat) (f:Int->Option Pg):Prop:=∃ es clock,w.heap[b]? = some (.map es clock)/\Stamped es clock/\Full es f
theorem MapIs.lt {w:World} {b:Nat} {f:Int->Option Pg} (h:MapIs w b f):b<w.heap.size:=by
 obtain⟨es,clock,hb,_⟩:=h
 exact(Jqf.1 hb).1
theorem MapIs.of_block {w w':World} {b:Nat} {f:Int->Option Pg} (h:MapIs w b f) (e:w'.heap[b]? = w.heap[b]?):MapIs w' b f:=by
 obtain⟨es,clock,hb,r⟩:=h
 exact⟨es,clock,e.trans hb,r⟩
theorem MapIs.new (w:World):MapIs (w.alloc (.map #[] 0)) w.heap.size fun _=>none:=
 ⟨#[],0,blk_alloc_new _ _,stamped_empty 0,⟨by simp,fun _ _ h=>by cases h⟩⟩
theorem MapIs.congr {w:World} {b:Nat} {f g:Int->Option Pg} (h:MapIs w b f) (e:∀ s,g s=f s):MapIs w b g:=by
 obtain rfl:g=f:=funext e
 exact h
theorem Full.keys {es:Array MapEntry} {f:Int->Option Pg} (h:Full es f):∀ e∈es.toList,∃ l,keyOf Tryz.prog 3 e.key=some l:=fun e he=>by
 obtain⟨s,c,hs,e1,_,_⟩:=h.is e he
 rw[e1]
 exact XX hs
theorem Jiw (w:World):(zeroValue 182).run Tryz.prog w=.ok (Jg pg0) w:=by kernel_rfl
section
variable {w:World} {b:Nat} {f:Int->Option Pg}
theorem MapIs.look (h:MapIs w b f) {s:Int} (hs:VC s) (ok:Bool):(Instr.lookup 194 (.map (some b)) (Jh s) ok).run Tryz.prog w=.ok (if ok then .tuple #[Jg ((f s).getD pg0),.bool (f s).isSome] else Jg ((f s).getD pg0)) w:=by
 obtain⟨es,clock,hb,st,F⟩:=h
 obtain⟨l,hl⟩:=XX hs
 rcases Zy.find w hl es.toList F.keys with ⟨h1,h2⟩|⟨j,e0,h1,h2,h3⟩
 ·have hn:f s=none:=by
   cases hf:f s with
   | none=>rfl
   | some c =>
    obtain⟨e,he,ek,_⟩:=F.all s c hf
    exact absurd ek (h2 e he)
  simp[Instr.lookup,run_underlying Tryz.underlying194,MapKept.run_getObj_map hb,Zy.check w _ hl,h1,Jiw w,Result.andThen,hn]
 ·obtain⟨t,c,_,ek,ev,ft⟩:=F.is e0 (Jqi h2)
  obtain rfl:t=s:=ZC (ek.symm.trans h3)
  simp[Instr.lookup,run_underlying Tryz.underlying194,MapKept.run_getObj_map hb,Zy.check w _ hl,h1,Result.andThen,ft,ev]
def Mb (f:Int->Option Pg) (s:Int):Int->Option Pg:=fun t=>if t=s then none else f t
theorem MapIs.drop (h:MapIs w b f) {s:Int} (hs:VC s) (ty:TypeId) :
  ∃ w',(Builtin.delete_ #[194,3] ty #[.map (some b),Jh s]).run Tryz.prog w=.ok (.tuple #[]) w'/\MapIs w' b (Mb f s)/\w.grownBy w' (some b)/\w'.heap.size=w.heap.size:=by
 obtain⟨es,clock,hb,st,F⟩:=h
 obtain⟨l,hl⟩:=XX hs
 have gb:∀ o,w.grownBy (Go.ChangeMaps.setBlock w b o) (some b):=fun o=>⟨rfl,rfl,rfl,by simp[Go.ChangeMaps.setBlock],fun i _ hi=>heap_setBlock_other hb _ (fun e=>hi (by rw[e]))⟩
 rcases Zy.find w hl es.toList F.keys with ⟨h1,h2⟩|⟨j,e0,h1,h2,h3⟩
 ·refine⟨_,by simp[Builtin.delete_,run_underlying Tryz.underlying194,MapKept.run_getObj_map hb,Zy.check w _ hl,h1,MapKept.run_setObj_map _ hb,Result.andThen];rfl,⟨es,clock,heap_setBlock_same hb _,st,?_,?_⟩,gb _,by simp[Go.ChangeMaps.setBlock]⟩
  ·intro e he
   obtain⟨t,d,ht,e1,e2,e3⟩:=F.is e he
   have:¬ t=s:=fun q=>h2 e he (by rw[e1,q])
   exact⟨t,d,ht,e1,e2,by simp[Mb,this,e3]⟩
  ·intro t d ht
   unfold Mb at ht
   split at ht
   ·cases ht
   ·exact F.all t d ht
 ·have hjl:j<es.toList.length:=(Jqb.1 h2).1
  have hjs:j<es.size:=by simpa using hjl
  have hsub:(es.eraseIdxIfInBounds j).toList=es.toList.eraseIdx j:=by
   unfold Array.eraseIdxIfInBounds
   rw[dif_pos hjs]
   simp
  have hap:=((stamped_iff es clock).1 st).2.2
  refine⟨_,by simp[Builtin.delete_,run_underlying Tryz.underlying194,MapKept.run_getObj_map hb,Zy.check w _ hl,h1,MapKept.run_setObj_map _ hb,Result.andThen];rfl,⟨es.eraseIdxIfInBounds j,clock,heap_setBlock_same hb _,stamped_erase st j,?_,?_⟩,gb _,by simp[Go.ChangeMaps.setBlock]⟩
  ·intro e he
   rw[hsub,List.mem_eraseIdx_iff_getElem?] at he
   obtain⟨i,hne,hi⟩:=he
   obtain⟨t,d,ht,e1,e2,e3⟩:=F.is e (Jqi hi)
   refine⟨t,d,ht,e1,e2,?_⟩
   have:¬ t=s:=fun q=>by
    exact MR hap hi h2 hne (by rw[e1,q,h3])
   simp[Mb,this,e3]
  ·intro t d ht
   unfold Mb at ht
   split at ht
   ·cases ht
   ·rename_i q
    obtain⟨e,he,r1,r2⟩:=F.all t d ht
    obtain⟨i,hi⟩:=List.getElem?_of_mem he
    refine⟨e,?_,r1,r2⟩
    rw[hsub,List.mem_eraseIdx_iff_getElem?]
    refine⟨i,fun hij=>q ?_,hi⟩
    subst hij
    rw[h2] at hi
    cases hi
    exact ZC (r1.symm.trans h3)
end
def Ranges (w:World) (b r:Nat) (f:Int->Option Pg) (A:List (Int×Pg)) (cnt:Nat):Prop:=
 ∃ es clock since seen c0,w.heap[b]? = some (.map es clock)/\Stamped es clock/\Full es f/\w.heap[r]? = some (.mapIter (some b) since seen c0)/\(∀ x∈es.toList,x.born<since)/\since<=c0/\since<=clock /\
  (leftOf es seen).size=cnt/\(∀ p,p∈A↔∃ e∈es.toList,seen.contains e.born=true/\e.key=Jh p.1/\e.val=Jg p.2)/\A.Pairwise (fun p q=>p.1≠q.1)
section
variable {w:World} {b r:Nat} {f:Int->Option Pg} {A:List (Int×Pg)} {cnt:Nat}
theorem Ranges.map (h:Ranges w b r f A cnt):MapIs w b f:=by
 obtain⟨es,clock,_,_,_,hb,st,F,_⟩:=h
 exact⟨es,clock,hb,st,F⟩
end
end Ta
namespace Ta
open Go.Shelf
def AU:Go.Shelf.Ren:=⟨fun|7=>271|10=>340|n=>n,fun|23=>194|26=>3|3=>182|28=>351|0=>0|27=>350|33=>47|4=>4|n=>n,fun|n=>n⟩
theorem Ov:Go.Proofs.SlLaysZI.n7 Tryz.prog AU:={
 mixed:=by kernel_rfl
 f7:=⟨Tryz.f271.name,by decide,Tryz.func271.trans (congrArg some (by kernel_rfl))⟩
 f10:=⟨Tryz.f340.name,by decide,Tryz.func340.trans (congrArg some (by kernel_rfl))⟩
 t0:=Tryz.underlying0
 a0:=Tryz.isAgg0
 z0:=Tryz.sizeOf0
 v0:=Tryz.zeroValue0
 t4:=Tryz.underlying4
 a4:=Tryz.isAgg4
 z4:=Tryz.sizeOf4
 v4:=Tryz.zeroValue4
 t23:=Tryz.underlying194
 a23:=Tryz.isAgg194
 z23:=Tryz.sizeOf194
 v23:=Tryz.zeroValue194
 t26:=Tryz.underlying3
 a26:=Tryz.isAgg3
 z26:=Tryz.sizeOf3
 v26:=Tryz.zeroValue3
 t27:=Tryz.underlying350
 a27:=Tryz.isAgg350
 z27:=Tryz.sizeOf350
 v27:=Tryz.zeroValue350
 t28:=Tryz.underlying351
 a28:=Tryz.isAgg351
 z28:=Tryz.sizeOf351
 v28:=Tryz.zeroValue351
 t33:=Tryz.underlying47
 a33:=Tryz.isAgg47
 z33:=Tryz.sizeOf47
 v33:=Tryz.zeroValue47 }
def Et:Go.Shelf.Ren:=⟨fun|6=>270|8=>338|9=>339|11=>367|13=>268|12=>368|23=>336|24=>337|14=>374|15=>375|16=>376|17=>377|18=>378|19=>379|20=>380|21=>381|22=>382|25=>384|26=>363|27=>364|28=>385|29=>386|30=>269|31=>388|n=>n,fun|26=>3|28=>351|24=>22|0=>0|3=>3|37=>348|48=>398|50=>39|4=>4|40=>392|39=>391|45=>61|5=>5|9=>9|51=>416|55=>378|57=>426|58=>427|33=>47|n=>n,fun|n=>n⟩
theorem OY:Go.Proofs.SlLaysZI.n6 Tryz.prog Et:={
 mixed:=by kernel_rfl
 f6:=⟨Tryz.f270.name,by decide,Tryz.func270.trans (congrArg some (by kernel_rfl))⟩
 f8:=⟨Tryz.f338.name,by decide,Tryz.func338.trans (congrArg some (by kernel_rfl))⟩
 f11:=⟨Tryz.f367.name,by decide,Tryz.func367.trans (congrArg some (by kernel_rfl))⟩
 t0:=Tryz.underlying0
 a0:=Tryz.isAgg0
 z0:=Tryz.sizeOf0
 v0:=Tryz.zeroValue0
 t24:=Tryz.underlying22
 a24:=Tryz.isAgg22
 z24:=Tryz.sizeOf22
 v24:=Tryz.zeroValue22
 t26:=Tryz.underlying3
 a26:=Tryz.isAgg3
 z26:=Tryz.sizeOf3
 v26:=Tryz.zeroValue3
 t28:=Tryz.underlying351
 a28:=Tryz.isAgg351
 z28:=Tryz.sizeOf351
 v28:=Tryz.zeroValue351
 i26:=by kernel_rfl }
def Es:Go.Shelf.Ren:=⟨fun|5=>339|8=>268|7=>368|19=>336|20=>337|10=>374|11=>375|12=>376|13=>377|14=>378|15=>379|16=>380|17=>381|18=>382|30=>384|31=>363|32=>364|33=>385|34=>386|35=>269|40=>388|n=>n,fun|23=>22|25=>3|3=>3|32=>348|22=>22|0=>0|44=>398|46=>39|4=>4|36=>392|35=>391|41=>61|5=>5|9=>9|53=>416|57=>378|63=>426|64=>427|n=>n,fun|n=>n⟩
theorem MB:Go.Proofs.SlLaysM.n5 Tryz.prog Es:={
 mixed:=by kernel_rfl
 f5:=⟨Tryz.f339.name,by decide,Tryz.func339.trans (congrArg some (by kernel_rfl))⟩
 f7:=⟨Tryz.f368.name,by decide,Tryz.func368.trans (congrArg some (by kernel_rfl))⟩
 f8:=Tryz.func268.trans (congrArg some (by kernel_rfl))
 f10:=⟨Tryz.f374.name,by decide,Tryz.func374.trans (congrArg some (by kernel_rfl))⟩
 f11:=⟨Tryz.f375.name,by decide,Tryz.func375.trans (congrArg some (by kernel_rfl))⟩
 f12:=⟨Tryz.f376.name,by decide,Tryz.func376.trans (congrArg some (by kernel_rfl))⟩
 f13:=⟨Tryz.f377.name,by decide,Tryz.func377.trans (congrArg some (by kernel_rfl))⟩
 f14:=⟨Tryz.f378.name,by decide,Tryz.func378.trans (congrArg some (by kernel_rfl))⟩
 f15:=⟨Tryz.f379.name,by decide,Tryz.func379.trans (congrArg some (by kernel_rfl))⟩
 f16:=⟨Tryz.f380.name,by decide,Tryz.func380.trans (congrArg some (by kernel_rfl))⟩
 f17:=⟨Tryz.f381.name,by decide,Tryz.func381.trans (congrArg some (by kernel_rfl))⟩
 f18:=⟨Tryz.f382.name,by decide,Tryz.func382.trans (congrArg some (by kernel_rfl))⟩
 f19:=Tryz.func336.trans (congrArg some (by kernel_rfl))
 f20:=Tryz.func337.trans (congrArg some (by kernel_rfl))
 f30:=⟨Tryz.f384.name,by decide,Tryz.func384.trans (congrArg some (by kernel_rfl))⟩
 f31:=Tryz.func363.trans (congrArg some (by kernel_rfl))
 f32:=Tryz.func364.trans (congrArg some (by kernel_rfl))
 f33:=⟨Tryz.f385.name,by decide,Tryz.func385.trans (congrArg some (by kernel_rfl))⟩
 f34:=⟨Tryz.f386.name,by decide,Tryz.func386.trans (congrArg some (by kernel_rfl))⟩
 f35:=⟨Tryz.f269.name,by decide,Tryz.func269.trans (congrArg some (by kernel_rfl))⟩
 f40:=⟨Tryz.f388.name,by decide,Tryz.func388.trans (congrArg some (by kernel_rfl))⟩
 t0:=Tryz.underlying0
 a0:=Tryz.isAgg0
 z0:=Tryz.sizeOf0
 v0:=Tryz.zeroValue0
 t3:=Tryz.underlying3
 a3:=Tryz.isAgg3
 z3:=Tryz.sizeOf3
 v3:=Tryz.zeroValue3
 t4:=Tryz.underlying4
 a4:=Tryz.isAgg4
 z4:=Tryz.sizeOf4
 v4:=Tryz.zeroValue4
 t5:=Tryz.underlying5
 a5:=Tryz.isAgg5
 z5:=Tryz.sizeOf5
 v5:=Tryz.zeroValue5
 t9:=Tryz.underlying9
 a9:=Tryz.isAgg9
 z9:=Tryz.sizeOf9
 v9:=Tryz.zeroValue9
 t22:=Tryz.underlying22
 a22:=Tryz.isAgg22
 z22:=Tryz.sizeOf22
 v22:=Tryz.zeroValue22
 t23:=Tryz.underlying22
 a23:=Tryz.isAgg22
 z23:=Tryz.sizeOf22
 v23:=Tryz.zeroValue22
 t25:=Tryz.underlying3
 a25:=Tryz.isAgg3
 z25:=Tryz.sizeOf3
 v25:=Tryz.zeroValue3
 t32:=Tryz.underlying348
 a32:=Tryz.isAgg348
 z32:=Tryz.sizeOf348
 v32:=Tryz.zeroValue348
 t35:=Tryz.underlying391
 a35:=Tryz.isAgg391
 z35:=Tryz.sizeOf391
 v35:=Tryz.zeroValue391
 t36:=Tryz.underlying392
 a36:=Tryz.isAgg392
 z36:=Tryz.sizeOf392
 v36:=Tryz.zeroValue392
 t41:=Tryz.underlying61
 a41:=Tryz.isAgg61
 z41:=Tryz.sizeOf61
 v41:=Tryz.zeroValue61
 t44:=Tryz.underlying398
 a44:=Tryz.isAgg398
 z44:=Tryz.sizeOf398
 v44:=Tryz.zeroValue398
 t46:=Tryz.underlying39
 a46:=Tryz.isAgg39
 z46:=Tryz.sizeOf39
 v46:=Tryz.zeroValue39
 t53:=Tryz.underlying416
 a53:=Tryz.isAgg416
 z53:=Tryz.sizeOf416
 v53:=Tryz.zeroValue416
 t57:=Tryz.underlying378
 a57:=Tryz.isAgg378
 z57:=Tryz.sizeOf378
 v57:=Tryz.zeroValue378
 t63:=Tryz.underlying426
 a63:=Tryz.isAgg426
 z63:=Tryz.sizeOf426
 v63:=Tryz.zeroValue426
 t64:=Tryz.underlying427
 a64:=Tryz.isAgg427
 z64:=Tryz.sizeOf427
 v64:=Tryz.zeroValue427 }
open Go.RowKit Go.Deep Go.MapKept Go.Maps Go.Sort
open Go.WideShapes (sorted_perm)
open Go.WideElems (rd rg Fit rd_mk rg_of)
abbrev M8 (_:Value):Option (DataW Unit×List MemPlace):=some (.nil,[])
theorem few {K:List Int} (hn:K.Nodup) (hk:∀ x∈K,0<=x/\x<4096):K.length<=4096:=by
 have hp:K.Perm (((List.range 4096).map fun n:Nat=>(n:Int)).filter fun x=>decide (x∈K)):=by
  refine(List.perm_ext_iff_of_nodup hn ?_).2 fun x=>?_
  ·refine List.Pairwise.filter _ ?_
   refine List.pairwise_map.2 ((List.nodup_range (n:=4096)).imp fun {a b} h e=>h (by omega))
  ·rw[List.mem_filter,List.mem_map]
   simp only[List.mem_range,decide_eq_true_eq]
   constructor
   ·intro h
    have:=hk x h
    exact⟨⟨x.toNat,by omega,by omega⟩,h⟩
   ·exact fun h=>h.2
 rw[hp.length_eq]
 refine Jql (List.length_filter_le _ _) ?_
 rw[List.length_map,List.length_range]
 exact Jqd _
theorem Jt2 {e:MapEntry} {s:Int} (hs:VC s) (hk:e.key=Jh s):rd Tryz.prog 3 M8 e=some (.int .i64 s,.nil):=by
 obtain⟨key,val,born⟩:=e
 simp only at hk
 subst hk
 exact rd_mk (R:=M8) (yv:=(.nil,[])) (Jfe hs) rfl
theorem Jg0 (l:List MapEntry) (g:MapEntry->Lit×DataW Unit):(intKeys (.map ((l.map g).foldr DataW.insert []))).Perm (l.map fun e=>Go.intOf (g e).1):=by
 have h:=(sorted_perm (l.map g)).map fun p=>Go.intOf p.1
 rw[List.map_map] at h
 exact h
theorem E8:∀ L:List Int,Jc cI L=L.map encZ
 | []=>rfl
 | x::L=>by rw[JE,E8 L];rfl
theorem Jty {w:World} {b:Nat} {f:Int->Option Pg} (h:MapIs w b f) (hin:∀ n p,f n=some p->0<=n/\n<4096) :
  ∃ (D:DataW Unit) (nn:Nat),w.ownsMap Tryz.prog 3 M8 b nn D/\Maps.size D<=4096/\(intKeys D).Nodup/\∀ x,x∈intKeys D↔(f x).isSome=true:=by
 obtain⟨es,clock,hb,st,F⟩:=h
 have hrd:∀ e∈es.toList,∃ s p,VC s/\e.key=Jh s/\f s=some p/\rd Tryz.prog 3 M8 e=some (.int .i64 s,.nil):=fun e he=>by
  obtain⟨s,c,hs,ek,_,hf⟩:=F.is e he
  exact⟨s,c,hs,ek,hf,Jt2 hs ek⟩
 have hrg:∀ e∈es.toList,∃ s p,e.key=Jh s/\f s=some p/\rg Tryz.prog 3 M8 e=(.int .i64 s,.nil):=fun e he=>by
  obtain⟨s,p,_,ek,hf,h1⟩:=hrd e he
  exact⟨s,p,ek,hf,rg_of h1⟩
 have perm:((es.toList.map (rg Tryz.prog 3 M8)).foldr DataW.insert []).Perm (es.toList.map (rg Tryz.prog 3 M8)):=sorted_perm _
 have kp:(intKeys (.map ((es.toList.map (rg Tryz.prog 3 M8)).foldr DataW.insert []))).Perm (es.toList.map fun e=>Go.intOf (rg Tryz.prog 3 M8 e).1):=by
  exact Jg0 _ _
 have hmem:∀ x,x∈es.toList.map (fun e=>Go.intOf (rg Tryz.prog 3 M8 e).1)↔(f x).isSome=true:=fun x=>by
  rw[List.mem_map]
  constructor
  ·rintro⟨e,he,rfl⟩
   obtain⟨s,p,ek,hf,h1⟩:=hrg e he
   rw[h1]
   simp only[Go.intOf,hf,Option.isSome_some]
  ·intro hx
   obtain⟨p,hp⟩:=Option.isSome_iff_exists.1 hx
   obtain⟨e,he,ek,_⟩:=F.all x p hp
   obtain⟨s,q,ek',hf,h1⟩:=hrg e he
   refine⟨e,he,?_⟩
   rw[h1]
   exact ZC (ek'.symm.trans ek)
 have hnd:(es.toList.map fun e=>Go.intOf (rg Tryz.prog 3 M8 e).1).Nodup:=by
  refine List.pairwise_map.2 (((stamped_iff es clock).1 st).2.2.imp_of_mem fun {x y} hx hy hne e=>hne ?_)
  obtain⟨s,p,ek,_,h1⟩:=hrg x hx
  obtain⟨s',p',ek',_,h1'⟩:=hrg y hy
  rw[h1,h1'] at e
  simp only[Go.intOf] at e
  rw[ek,ek',e]
 have hlen:es.toList.length<=4096:=by
  have:=few hnd fun x hx=>by
   obtain⟨p,hp⟩:=Option.isSome_iff_exists.1 ((hmem x).1 hx)
   exact hin x p hp
  rw[List.length_map] at this
  exact this
 have hsz:es.size<=4096:=by simpa using hlen
 refine⟨.map ((es.toList.map (rg Tryz.prog 3 M8)).foldr DataW.insert []),es.size,⟨es,clock,hb,⟨by unfold maxLen;omega,st,fun e he=>?_⟩,Jqd _,rfl⟩,?_,kp.nodup_iff.2 hnd,fun x=>by rw[kp.mem_iff];exact hmem x⟩
 ·obtain⟨s,p,_,_,_,h1⟩:=hrd e he
  exact⟨_,h1⟩
 ·rw[Maps.size_eq,perm.length_eq,List.length_map]
  exact hlen
def MapAt (w:World) (m:Option Nat) (f:Int->Option Pg):Prop:=(m=none/\∀ n,f n=none)\/∃ b,m=some b/\MapIs w b f
theorem MapAt.below {w w':World} {m:Option Nat} {f:Int->Option Pg} (h:MapAt w m f) (k:Below w.heap.size w w'):MapAt w' m f:=by
 rcases h with h|⟨b,rfl,h⟩
 ·exact .inl h
 ·exact .inr ⟨b,rfl,h.of_block (k.block b h.lt)⟩
theorem Jgz (m:Option Nat) (w:World):Calls Tryz.prog 271 #[.map m] w fun e w'=>e=.returned (.func (.func 340) #[] #[.pointer (some ⟨w.heap.size,0,none⟩)])/\w'=w.alloc (.cells #[.map m] 194):=
 (callsIn_wide (n:=5)).1 (AnyZI.keys_in Ov Fence.wide 5 trivial rfl m w)
theorem Jcb (m:Nat):AnyZI.SortsIn Tryz.prog Et Fence.wide m:=
 ⟨fun blk off cap ss W hH hblk hsz=>callsIn_wide.2 (AnyM.slices_Sort_int MB blk off cap ss W hH hblk hsz),
   fun p cap W=>callsIn_wide.2 (AnyM.slices_Sort_int_none MB p cap W)⟩
theorem Jb9 (m:Option Nat) (f:Int->Option Pg) (q:Nat) (w:World) (h:MapAt w m f) (hin:∀ n p,f n=some p->0<=n/\n<4096) (hq:q<w.heap.size) (hc:w.cell? ⟨q,0,none⟩=some (.map m)) :
  Calls Tryz.prog 270 #[.func (.func 340) #[] #[.pointer (some ⟨q,0,none⟩)]] w fun e w'=>∃ (v:Value) (K:List Int),e=.returned v/\K.Pairwise (· < ·)/\(∀ x,x∈K↔(f x).isSome=true)/\K.length<=4096/\RowI w' v K/\(∀ k,v.ownBlock=some k->w.heap.size<=k)/\Below w.heap.size w w':=by
 have done:∀ (v:Value) (ss ks:List Int) (w':World),ss.Perm ks->ks.Nodup->(∀ x,x∈ks↔(f x).isSome=true)->w'.ownsRow w.heap.size 3 1 v ss.length ((ss.mergeSort (fun x y=>decide (x<=y))).map encZ)->Below w.heap.size w w' ->
   ∃ (v':Value) (K:List Int),Ending.returned v=.returned v'/\K.Pairwise (· < ·)/\(∀ x,x∈K↔(f x).isSome=true)/\K.length<=4096/\RowI w' v' K/\(∀ k,v'.ownBlock=some k->w.heap.size<=k)/\Below w.heap.size w w':=by
  intro v ss ks w' hp hn hm hrow hb
  obtain⟨h1,h2⟩:=Jca hp hn
  have hl:(ss.mergeSort fun x y=>decide (x<=y)).length=ss.length:=(List.mergeSort_perm _ _).length_eq
  refine⟨v,_,rfl,h1,fun x=>by rw[h2,hm],?_,?_,fun k hk=>(World.ownsRow.lt hrow k hk).1,hb⟩
  ·rw[hl,hp.length_eq]
   exact few hn fun x hx=>by
    obtain⟨p,hp⟩:=Option.isSome_iff_exists.1 ((hm x).1 hx)
    exact hin x p hp
  ·have e:Jc cI (ss.mergeSort fun x y=>decide (x<=y))=(ss.mergeSort fun x y=>decide (x<=y)).map encZ:=by
    exact E8 _
   show w'.ownsRow 0 3 1 v _ (Jc cI _)
   rw[e,hl]
   exact GE hrow
 refine(callsIn_wide (n:=5)).1 ?_
 rcases h with ⟨rfl,hn⟩|⟨b,rfl,hm⟩
 ·have hseq:SeqGives Fence.wide 2 Tryz.prog 340 #[.pointer (some ⟨q,0,none⟩)] encZ (fun ss:List Int=>ss=[]) 0 w:=
   AnyZI.keys_gives_nil (ρ:=AU) { Ov with } Fence.wide _ trivial rfl q w hq hc
  have cS:=AnyZI.sorted_in OY Fence.wide 5 trivial trivial trivial trivial rfl (by omega) (Jcb _) (enters_of Tryz.func339 (by kernel_rfl) rfl) 340 #[.pointer (some ⟨q,0,none⟩)] trivial (enters_of Tryz.func340 (by kernel_rfl) rfl) _ 0 (Jqp _) (by omega) _ hseq
  refine cS.mono ?_
  rintro e w' ⟨v,ss,rfl,rfl,hrow,_,hb⟩
  exact done v [] [] w' (List.Perm.refl _) List.nodup_nil (fun x=>by rw[hn];simp) hrow hb
 ·obtain⟨D,nn,hown,hsz,hnd,hmem⟩:=Jty hm hin
  have hseq:SeqGives Fence.wide 2 Tryz.prog 340 #[.pointer (some ⟨q,0,none⟩)] encZ (fun ss=>ss.Perm (intKeys D)) (Maps.size D) w:=
   AnyZI.keys_gives (ρ:=AU) { Ov with } Fence.wide _ trivial rfl (by omega) q b nn D w hq hc hown
  have cS:=AnyZI.sorted_in OY Fence.wide 5 trivial trivial trivial trivial rfl (by omega) (Jcb _) (enters_of Tryz.func339 (by kernel_rfl) rfl) 340 #[.pointer (some ⟨q,0,none⟩)] trivial (enters_of Tryz.func340 (by kernel_rfl) rfl) _ _ (by unfold maxLen;omega) (by omega) _ hseq
  refine cS.mono ?_
  rintro e w' ⟨v,ss,rfl,hp,hrow,_,hb⟩
  exact done v ss _ w' hp hnd hmem hrow hb
end Ta
namespace Ta
open Go.RowKit Go.Deep Go.Shelf
def VJ {α:Type} (f:Nat->α) (p:Nat) (v:α):Nat->α:=fun i=>if i=p then v else f i
theorem Zv {α:Type} (f:Nat->α) (p:Nat) (v:α):VJ f p v p=v:=if_pos rfl
theorem J1 {α:Type} (f:Nat->α) {p i:Nat} (v:α) (h:i≠p):VJ f p v i=f i:=if_neg h
structure SpP (p:Nat) (m:Nat->Option Nat) (S:Sp) (w:World):Prop where
 head:∃ C:Array Value,w.heap[p]? = some (.cells C 198 (0,0))/\C.size=128/\∀ i:Nat,i<64->C[i]? = some (.map (m i))/\C[64+i]? = some (.int .i64 (Zw S i))
 is:∀ i:Nat,i<64->(m i).isSome=Jl S i
 maps:∀ i:Nat,i<64->MapAt w (m i) (Zf S.f i)
 one:∀ i j x,i<64->j<64->m i=some x->m j=some x->i=j
 ne:∀ i,i<64->m i≠some p
 good:Good S
def fpS (p:Nat) (m:Nat->Option Nat):Nat->Prop:=fun x=>x=p\/∃ i,i<64/\m i=some x
theorem MapAt.lt {w:World} {b:Nat} {f:Int->Option Pg} (h:MapAt w (some b) f):b<w.heap.size:=by
 rcases h with ⟨e,_⟩|⟨b',e,h⟩
 ·cases e
 ·cases e
  exact h.lt
theorem MapAt.is {w:World} {b:Nat} {f:Int->Option Pg} (h:MapAt w (some b) f):MapIs w b f:=by
 rcases h with ⟨e,_⟩|⟨b',e,h⟩
 ·cases e
 ·cases e
  exact h
theorem MapAt.keep {w w':World} {m:Option Nat} {f:Int->Option Pg} (h:MapAt w m f) (k:∀ b,m=some b->w'.heap[b]? = w.heap[b]?):MapAt w' m f:=by
 rcases h with h|⟨b,rfl,h⟩
 ·exact .inl h
 ·exact .inr ⟨b,rfl,h.of_block (k b rfl)⟩
theorem MapAt.congr {w:World} {m:Option Nat} {f g:Int->Option Pg} (h:MapAt w m f) (e:∀ n,g n=f n):MapAt w m g:=by
 obtain rfl:g=f:=funext e
 exact h
section
variable {p:Nat} {m:Nat->Option Nat} {S:Sp} {w w':World}
theorem SpP.lt (h:SpP p m S w):p<w.heap.size:=by
 obtain⟨C,hC,_⟩:=h.head
 exact(Jqf.1 hC).1
theorem SpP.fp_lt (h:SpP p m S w):∀ x,fpS p m x->x<w.heap.size:=by
 rintro x (rfl|⟨i,hi,hx⟩)
 ·exact h.lt
 ·have:=h.maps i hi
  rw[hx] at this
  exact this.lt
theorem SpP.keep (h:SpP p m S w) (k:∀ x,fpS p m x->w'.heap[x]? = w.heap[x]?):SpP p m S w':=by
 obtain⟨C,hC,r⟩:=h.head
 exact⟨⟨C,(k p (.inl rfl)).trans hC,r⟩,h.is,fun i hi=>(h.maps i hi).keep fun b hb=>k b (.inr ⟨i,hi,hb⟩),h.one,h.ne,h.good⟩
end
def UA (p:Nat) (m:Nat->Option Nat) (S:Sp):Th where
 F:=fpS p m
 H:=SpP p m S
 lt:=fun _ h=>h.fp_lt
 keep:=fun _ _ h k=>h.keep k
section
variable {p:Nat} {m:Nat->Option Nat} {S:Sp} {w w':World}
theorem SpP.below (h:SpP p m S w) (k:Below w.heap.size w w'):SpP p m S w':=(UA p m S).below h k
theorem SpP.cell (h:SpP p m S w) {i:Nat} (hi:i<64):w.cell? ⟨p,i,none⟩=some (.map (m i)):=by
 obtain⟨C,hC,h0,h1⟩:=h.head
 simp[World.cell?,hC,(h1 i hi).1]
theorem SpP.cellN (h:SpP p m S w) {i:Nat} (hi:i<64):w.cell? ⟨p,64+i,none⟩=some (.int .i64 (Zw S i)):=by
 obtain⟨C,hC,h0,h1⟩:=h.head
 simp[World.cell?,hC,(h1 i hi).2]
theorem SpP.frozen (h:SpP p m S w) (j:Nat):w.frozen? ⟨p,j,none⟩=false:=by
 obtain⟨C,hC,_⟩:=h.head
 simp[World.frozen?,hC]
theorem SpP.in64 (h:SpP p m S w) {i:Nat}:∀ n q,Zf S.f i n=some q->0<=n/\n<4096:=by
 intro n q hq
 unfold Zf at hq
 split at hq
 ·have:=h.good.f n q hq
  exact⟨this.1,this.2.1⟩
 ·cases hq
theorem SpP.put (h:SpP p m S w) {i:Nat} (hi:i<64) {mo:Option Nat} {T:Sp}
  (hC:∀ C:Array Value,w.heap[p]? = some (.cells C 198 (0,0))->w'.heap[p]? = some (.cells ((C.set! i (.map mo)).set! (64+i) (.int .i64 (Zw T i))) 198 (0,0)))
  (ho:∀ x,x<w.heap.size->x≠p->w'.heap[x]? = w.heap[x]?) (hn:∀ b,mo=some b->w.heap.size<=b) (hm:MapAt w' mo (Zf T.f i)) (his:mo.isSome=Jl T i)
  (ht:∀ j:Nat,j≠i->T.t j=S.t j) (hf:∀ (j:Nat) n,j≠i->Zf T.f j n=Zf S.f j n) (g:Good T):SpP p (VJ m i mo) T w':=by
 obtain⟨C,hC1,h0,h1⟩:=h.head
 refine⟨⟨_,hC C hC1,by simpa using h0,fun j hj=>?_⟩,fun j hj=>?_,fun j hj=>?_,fun j k x hj hk hx hy=>?_,fun j hj hp=>?_,g⟩
 ·have a1:i<C.size:=by omega
  have a2:64+i<C.size:=by omega
  by_cases e:j=i
  ·subst e
   rw[Zv]
   constructor
   ·simp[a1]
   ·simp[a2]
  ·rw[J1 _ _ e]
   have e1:¬ 64+i=j:=by omega
   have e2:¬ i=j:=fun x=>e x.symm
   have e3:¬ i=64+j:=by omega
   have e5:Zw T j=Zw S j:=by unfold Zw;rw[ht j e]
   constructor
   ·simp[e1,e2,(h1 j hj).1]
   ·simp[e3,e2,(h1 j hj).2,e5]
 ·by_cases e:j=i
  ·subst e
   rw[Zv,his]
  ·rw[J1 _ _ e,h.is j hj]
   unfold Jl
   rw[ht j e]
 ·by_cases e:j=i
  ·subst e
   rw[Zv]
   exact hm
  ·rw[J1 _ _ e]
   refine((h.maps j hj).keep fun b hb=>ho b ?_ ?_).congr fun n=>hf j n e
   ·have:=h.maps j hj
    rw[hb] at this
    exact this.lt
   ·intro e2
    exact h.ne j hj (by rw[hb,e2])
 ·have old:∀ j x,j<64->m j=some x->x<w.heap.size:=fun j x hj hx=>by
   have:=h.maps j hj
   rw[hx] at this
   exact this.lt
  by_cases e:j=i
  ·by_cases e2:k=i
   ·rw[e,e2]
   ·rw[e,Zv] at hx
    rw[J1 _ _ e2] at hy
    have:=hn x hx
    have:=old k x hk hy
    omega
  ·rw[J1 _ _ e] at hx
   by_cases e2:k=i
   ·rw[e2,Zv] at hy
    have:=hn x hy
    have:=old j x hj hx
    omega
   ·rw[J1 _ _ e2] at hy
    exact h.one j k x hj hk hx hy
 ·by_cases e:j=i
  ·rw[e,Zv] at hp
   have:=hn p hp
   have:=h.lt
   omega
  ·rw[J1 _ _ e] at hp
   exact h.ne j hj hp
theorem SpP.mapped (h:SpP p m S w) {i b:Nat} (hi:i<64) (hb:m i=some b) {f' g':Int->Option Pg} (hm:MapIs w' b g') (g:w.grownBy w' (some b)) (hg:∀ n,Zf f' i n=g' n) (hf:∀ (j:Nat) n,j≠i->Zf f' j n=Zf S.f j n) (gd:Good ⟨S.t,f'⟩):SpP p m ⟨S.t,f'⟩ w'/\Turn (fpS p m) w w':=by
 have hpb:p≠b:=fun e=>h.ne i hi (by rw[hb,e])
 obtain⟨C,hC,h0,h1⟩:=h.head
 refine⟨⟨⟨C,(g.block p h.lt fun e=>hpb (by cases e;rfl)).trans hC,h0,h1⟩,h.is,fun j hj=>?_,h.one,h.ne,gd⟩,Turn.grown g fun k hk=>.inl ?_⟩
 ·by_cases e:j=i
  ·subst e
   rw[hb]
   exact .inr ⟨b,rfl,hm.congr hg⟩
  ·refine((h.maps j hj).keep fun c hc=>g.block c ?_ ?_).congr fun n=>hf j n e
   ·have:=h.maps j hj
    rw[hc] at this
    exact this.lt
   ·intro e2
    cases e2
    exact e (h.one j i b hj hi hc hb)
 ·cases hk
  exact .inr ⟨i,hi,hb⟩
end
def cL (x:La):List Value:=[.int .i64 x.1,.int .i64 x.2.fr,.int .i64 x.2.rt]
def elL:El La:=⟨184,73,3,24,cL⟩
theorem Jx8:(Tryz.prog.info? 184).map (fun i=>(i.zero,i.size,i.bytes))=some (some (.agg #[.int .i64 0,.int .i64 0,.int .i64 0]),3,24):=by kernel_rfl
theorem okL:El.Ok elL:=⟨Tryz.underlying73,ZA Jx8 rfl,by decide,by decide,fun _=>rfl,by simp[elL,cL,Value.oneCell']⟩
abbrev AX (v:Value) (L:List La):Th:=Jv elL v L
theorem Jba (mo:Option Nat) (S:Sp) (i:Nat) (w:World) (h:MapAt w mo (Zf S.f i)) (hin:∀ n q,Zf S.f i n=some q->0<=n/\n<4096) :
  Calls Tryz.prog 192 #[.map mo] w fun e w'=>∃ v,e=.returned v/\Sep w w.heap.size w' [AX v (plP S.f i)]:=by
 have HM:=Ja h
 have HI:=Ja hin
 clear h hin
 go_enter Tryz.func192,Tryz.ntmps192
 go_wp2_with (first
  | (go_at_call 271;refine Jqa (Jgz mo _) ?_;rintro e w1 ⟨rfl,rfl⟩)
  | (go_at_call 270;refine Jqa (Jb9 mo (Zf S.f i) w.heap.size _ (MapAt.below HM.out (Jb _ _)) HI.out (by simp) (by have:=blk_alloc_new w (.cells #[.map mo] 194);simp only[World.cell?];rw[this];rfl)) ?_;rintro e w2 ⟨v,K,rfl,k1,k2,k3,row,own,bel⟩;have HB:Hid (Below w.heap.size w w2):=Below.then (Jb _ _) bel (by simp);have HO:Hid (∀ k,v.ownBlock=some k->w.heap.size<=k):=(fun k hk=>Jql (by simp) (own k hk));clear bel own;obtain⟨ao,cap,rfl,-⟩:=Row.slice row;have HS:Hid (Sep w w.heap.size w2 [Xa (.slice ao K.length cap) K]):=(GL w).new (t:=Xa (.slice ao K.length cap) K) row HB.out HO.out;have HK:=Ja (And.intro k1 (And.intro k2 k3));clear row HB HO k1 k2 k3;generalize hN:K.length=N at *;have HN:=Ja hN;clear hN))
 go_loopw [3,10] (fun v3 v10 wr=>∃ k:Nat,k<=N/\v10=.int .i64 k/\Sep w w.heap.size wr [AX v3 ((K.take k).map fun k=>(k,(Zf S.f i k).getD pg0)),Xa (.slice ao N cap) K]) (fun _ v10 _=>N - (intOf v10).toNat)
 case atStart=>exact⟨0,Jqp _,rfl,HS.out.nil⟩
 case round =>
  obtain⟨k,hk,rfl,s2⟩:=hrel
  have hN4:N<=4096:=by have:=HK.out.2.2;have:=HN.out;omega
  by_cases hlt:k<N
  ·have hltz:(k:Int)<(N:Int):=by omega
   have hk1:k<K.length:=by have:=HN.out;omega
   obtain⟨x,hx⟩:∃ x,K[k]? = some x:=⟨_,Jqc hk1⟩
   obtain⟨q,rfl,hc⟩:=s2.listAt okI (ao:=ao) (n:=N) (cap:=cap) (A:=K) (by simp) hx
   have d0:wr.cell? ⟨q,k,none⟩=some (.int .i64 x):=by have:=hc 0 _ rfl;simpa [Ui] using this
   have hxK:x∈K:=Jqi hx
   have hsome:=(HK.out.2.1 x).1 hxK
   obtain⟨y,hy⟩:=Option.isSome_iff_exists.1 hsome
   have hxr:=HI.out x y hy
   obtain⟨b,rfl,hm⟩:∃ b,mo=some b/\MapIs wr b (Zf S.f i):=by
    rcases MapAt.below HM.out s2.low with ⟨_,hn⟩|h
    ·rw[hn x] at hy
     cases hy
    ·exact h
   have hlk:=hm.look (s:=x) (by unfold VC;omega) false
   rw[hy] at hlk
   simp only[Jg,Jh,Option.getD_some,Bool.false_eq_true,if_false] at hlk
   have HT:Hid ((K.take (k+1)).map (fun k=>(k,(Zf S.f i k).getD pg0))=(K.take k).map (fun k=>(k,(Zf S.f i k).getD pg0))++[(x,y)]):=by
    show _=_
    rw[List.take_add_one,hx,List.map_append]
    simp[hy]
   obtain⟨v4,w4,r4,s4⟩:=s2.more okL 73 (x,y) (C:=#[.int .i64 x,.int .i64 y.fr,.int .i64 y.rt]) rfl (by rw[List.length_map,List.length_take];have:=HK.out.2.2;have:=HN.out;omega)
   obtain⟨a5,c5,rfl⟩:=s2.listIs (E:=elL) (v:=u3) (A:=(K.take k).map fun k=>(k,(Zf S.f i k).getD pg0)) (by simp)
   simp only[elL] at r4
   have R4:=Ja r4
   have S4:=Ja s4
   clear s2 s4 r4 hc hx hk1 hxK hsome hy hm
   generalize((K.take k).map fun k=>(k,(Zf S.f i k).getD pg0)).length=n at *
   go_wp2_with (at_builtin;refine Jd rfl _ _ _ _ rfl _ _ _ _ rfl rfl R4.out ?_)
   go_roundw
   case rel=>exact⟨k+1,by omega,by go_num,by rw[HT.out];exact S4.out⟩
   case measure=>simp[intOf];omega
  ·have hltz:¬ (k:Int)<(N:Int):=by omega
   have e1:K.take k=K:=List.take_of_length_le (by have:=HN.out;omega)
   rw[e1,Jom HK.out.1 HK.out.2.1] at s2
   have S2:=Ja s2.drop2
   clear s2 e1
   go_wp2
   go_ret
   exact⟨_,rfl,S2.out⟩
def Jr (n:Int):Int:=2 ^ n.toNat - 1
def Zm (v a n:Nat):Nat:=v / 2 ^ a % 2 ^ n
def VR (v a n:Int):Int:=((Zm v.toNat a.toNat n.toNat:Nat):Int)
theorem ZW (n:Nat) (h:n<=64):2 ^ n<=18446744073709551616:=by
 have:=Nat.pow_le_pow_right (n:=2) (by omega) h
 simpa using this
theorem JJ (n:Nat):0<2 ^ n:=Nat.pow_pos (by omega)
theorem JU (n:Nat):Jr (n:Int)=((2 ^ n - 1:Nat):Int):=by
 have:=JJ n
 unfold Jr
 simp only[Int.toNat_natCast]
 rw[Int.natCast_sub (by omega)]
 simp
theorem XZ (n:Int) (h0:0<=n) (h1:n<=64):IntKind.u64.wrap (IntKind.u64.wrap (2 ^ n.toNat) - 1)=Jr n:=by
 obtain⟨m,rfl⟩:=Jqg h0
 rw[JU,IntKind.wrap_u64,IntKind.wrap_u64]
 have h:=ZW m (by omega)
 have h2:=JJ m
 have e:(2:Int) ^ (m:Int).toNat=((2 ^ m:Nat):Int):=by simp
 rw[e]
 omega
theorem U8 (v a n:Int) (v0:0<=v) (v1:v<=18446744073709551615) (a0:0<=a) (n0:0<=n) (n1:n<=64) :
  bits .and .u64 (v / 2 ^ a.toNat) (Jr n)=VR v a n:=by
 obtain⟨V,rfl⟩:=Jqg v0
 obtain⟨A,rfl⟩:=Jqg a0
 obtain⟨M,rfl⟩:=Jqg n0
 have h:=ZW M (by omega)
 have e:((V:Int) / 2 ^ (A:Int).toNat)=((V / 2 ^ A:Nat):Int):=by simp
 have hd:V / 2 ^ A<=V:=Nat.div_le_self _ _
 rw[e,JU,u64_and_nat _ _ (by omega) (by omega),Nat.and_two_pow_sub_one_eq_mod]
 simp[VR,Zm]
theorem ZM {k j:IntKind} {a b c d:Int} (h:a=b) (g:c=d):Ending.returned (.tuple #[.int k a,.int j c])=.returned (.tuple #[.int k b,.int j d]):=by rw[h,g]
theorem Vi (n:Int) (w:World) (h0:0<=n) (h1:n<=64) :
  Calls Tryz.prog 343 #[.int .i64 n] w fun e w'=>e=.returned (.int .u64 (Jr n))/\w'=w:=by
 go_enter Tryz.func343,Tryz.ntmps343
 go_wp2
 go_ret
 exact⟨Jm (XZ n h0 h1),rfl⟩
theorem Ij (a n:Int) (w:World) (h0:0<=a) (h1:0<=n) (h2:n<=64 - a) :
  Calls Tryz.prog 342 #[.int .i64 a,.int .i64 n] w fun e w'=>e=.returned (.bool true)/\w'=w:=by
 go_enter Tryz.func342,Tryz.ntmps342
 go_wp2
 go_ret
 exact⟨rfl,rfl⟩
theorem Oh (v a n:Int) (w:World) (v0:0<=v) (v1:v<=18446744073709551615) (h0:0<=a) (h1:0<=n) (h2:n<=64 - a) :
  Calls Tryz.prog 278 #[.int .u64 v,.int .i64 a,.int .i64 n] w fun e w'=>e=.returned (.tuple #[.int .u64 (VR v a n),.int .i64 0])/\w'=w:=by
 go_enter Tryz.func278,Tryz.ntmps278
 go_wp2_with (first|(go_at_call 343;refine(Vi _ _ (by omega) (by omega)).mono ?_;rintro e w' ⟨rfl,rfl⟩)|(go_at_call 342;refine(Ij _ _ _ (by omega) (by omega) (by omega)).mono ?_;rintro e w' ⟨rfl,rfl⟩))
 go_ret2
 exact⟨ZM (U8 v a n v0 v1 h0 h1 (by omega)) rfl,rfl⟩
theorem Jlo (N:Nat) (hN:N<4096) (w:World):Calls Tryz.prog 278 #[.int .u64 (N:Int),.int .i64 6,.int .i64 6] w fun e w'=>e=.returned (.tuple #[.int .u64 ((N / 64:Nat):Int),.int .i64 0])/\w'=w:=by
 refine Jqa (Oh (N:Int) 6 6 w (by omega) (by omega) (by omega) (by omega) (by omega)) ?_
 rintro e w' ⟨rfl,rfl⟩
 refine⟨ZM ?_ rfl,rfl⟩
 unfold VR Zm
 have e1:(6:Int).toNat=6:=rfl
 rw[e1,Int.toNat_natCast]
 congr 1
 have:N / 2 ^ 6<2 ^ 6:=by omega
 rw[Nat.mod_eq_of_lt this]
theorem Ur (i:Int) (w:World) (h0:0<=i) (h1:i<64):Calls Tryz.prog 320 #[.int .i64 i] w fun e w'=>e=.returned (.bool true)/\w'=w:=by
 go_enter Tryz.func320,Tryz.ntmps320
 go_wp2
 go_ret
 exact⟨rfl,rfl⟩
theorem Ib (i:Int) (w:World) (h:i<0\/64<=i):Calls Tryz.prog 320 #[.int .i64 i] w fun e w'=>e=.returned (.bool false)/\w'=w:=by
 rcases h with h|h
 ·have h':¬ 0<=i:=by omega
  go_enter Tryz.func320,Tryz.ntmps320
  go_wp2
  go_ret
  exact⟨rfl,rfl⟩
 ·have h0:0<=i:=by omega
  have h':¬ i<64:=by omega
  go_enter Tryz.func320,Tryz.ntmps320
  go_wp2
  go_ret
  exact⟨rfl,rfl⟩
theorem Gu (w:World):(binOp .eql 194 (.map none) (.map none)).run Tryz.prog w=.ok (.bool true) w:=run_eql_map_nil_sl w 194 _ _ none Tryz.underlying194
theorem Jdq (w:World) (b:Nat):(binOp .eql 194 (.map (some b)) (.map none)).run Tryz.prog w=.ok (.bool false) w:=run_eql_map_nil_sl w 194 _ _ (some b) Tryz.underlying194
theorem Jfh (w:World) (r:Option Nat):(binOp .neq 194 (.map r) (.map none)).run Tryz.prog w=.ok (.bool (!r.isNone)) w:=by
 simp only[binOp]
 simp[show Op.equal 194 (.map r) (.map none)=Op.equalIn (9999+1) 194 (.map r) (.map none) from rfl,run_equalIn_map_nil_sl w 9999 194 _ _ r Tryz.underlying194]
theorem Jbg (w:World):(binOp .neq 194 (.map none) (.map none)).run Tryz.prog w=.ok (.bool false) w:=Jfh w none
theorem Jdr (w:World) (b:Nat):(binOp .neq 194 (.map (some b)) (.map none)).run Tryz.prog w=.ok (.bool true) w:=Jfh w (some b)
theorem Jeq:∃ zs:Array Value,zs.size=128/\(∀ i,i<64->zs[i]? = some (.map none)/\zs[64+i]? = some (.int .i64 0))/\∀ w,(zeroValue 198).run Tryz.prog w=.ok (.agg zs) w:=by
 refine⟨(List.replicate 64 (Value.map none)++List.replicate 64 (Value.int .i64 0)).toArray,by simp,fun i hi=>⟨?_,?_⟩,fun w=>by kernel_rfl⟩
 ·rw[List.getElem?_toArray,List.getElem?_append_left (by simpa using hi),List.getElem?_replicate,if_pos hi]
 ·rw[List.getElem?_toArray,List.getElem?_append_right (by simp),List.length_replicate,Nat.add_sub_cancel_left,List.getElem?_replicate,if_pos hi]
theorem Jhf (w:World) (zs:Array Value) (h0:zs.size=128) (h1:∀ i,i<64->zs[i]? = some (.map none)/\zs[64+i]? = some (.int .i64 0)):SpP w.heap.size (fun _=>none) FN (w.alloc (.cells zs 198)):=
 ⟨⟨zs,blk_alloc_new _ _,h0,h1⟩,fun _ _=>rfl,fun i _=>.inl ⟨rfl,fun n=>by unfold Zf FN;simp⟩,fun _ _ _ _ _ h=>(by cases h),fun _ _ h=>(by cases h),Je5⟩
section
variable {w0 w:World} {r p:Nat} {m:Nat->Option Nat} {S:Sp} {R:List Th}
theorem V8 (s:Sep w0 r w R):Calls Tryz.prog 38 #[] w fun e w'=>∃ p m,e=.returned (Je p)/\Sep w0 r w' (UA p m FN::R):=by
 obtain⟨zs,h0,h1,hz⟩:=Jeq
 have HK:Hid (Sep w0 r (w.alloc (.cells zs 198)) (UA w.heap.size (fun _=>none) FN::R)):=s.new (t:=UA w.heap.size (fun _=>none) FN) (Jhf w zs h0 h1) (Jb _ _) (by
  rintro x (rfl|⟨i,_,hx⟩)
  ·exact Jqd _
  ·cases hx)
 clear h1 s
 go_enter Tryz.func38,Tryz.ntmps38
 go_wp2
 go_ret
 exact⟨_,_,rfl,HK.out⟩
theorem Jce (n:Int) (h:n<0\/4096<=n) (w:World):Calls Tryz.prog 323 #[Je p,.int .i64 n] w fun e w'=>e=.returned (.tuple #[.map none,.int .i64 1])/\w'=w:=by
 rcases h with h|h
 ·go_enter Tryz.func323,Tryz.ntmps323
  go_wp2
  go_ret2
  exact⟨rfl,rfl⟩
 ·have h0:¬ n<0:=by omega
  go_enter Tryz.func323,Tryz.ntmps323
  go_wp2
  go_ret2
  exact⟨rfl,rfl⟩
def Jp2 (mo:Option Nat):Int:=if mo.isSome=true then 0 else 141
theorem Eu (h:SpP p m S w) (N:Nat) (hN:N<4096):Calls Tryz.prog 323 #[Je p,.int .i64 (N:Int)] w fun e w'=>e=.returned (.tuple #[.map (m (N / 64)),.int .i64 (Jp2 (m (N / 64)))])/\w'=w:=by
 have hi:N / 64<64:=by omega
 have hc:=h.cell hi
 have h0:¬ (N:Int)<0:=by omega
 have h1:¬ 4096<=(N:Int):=by omega
 have hu:IntKind.u64.wrap (N:Int)=(N:Int):=by rw[IntKind.wrap_u64];omega
 have HP:=Ja (Jlo N hN)
 clear h
 generalize N / 64=i at *
 have hi2:(i:Int)<64:=by omega
 cases hm:m i with
 | none =>
  rw[hm] at hc
  have hq:=Gu
  go_enter Tryz.func323,Tryz.ntmps323
  go_wp2_with (go_at_call 278;refine Jqa (HP.out _) ?_;rintro e w' ⟨rfl,rfl⟩)
  go_ret2
  exact⟨rfl,rfl⟩
 | some b =>
  rw[hm] at hc
  have hq:=fun w=>Jdq w b
  go_enter Tryz.func323,Tryz.ntmps323
  go_wp2_with (go_at_call 278;refine Jqa (HP.out _) ?_;rintro e w' ⟨rfl,rfl⟩)
  go_ret2
  exact⟨rfl,rfl⟩
theorem Jds (n:Int) (h:n<0\/4096<=n) (w:World):Calls Tryz.prog 324 #[Je p,.int .i64 n] w fun e w'=>e=.returned (.tuple #[.map none,.agg #[.int .i64 0,.int .i64 0],.int .i64 1])/\Below w.heap.size w w':=by
 have HP:=Ja (fun w=>Jce (p:=p) n h w)
 clear h
 go_enter Tryz.func324,Tryz.ntmps324
 go_wp2_with (go_at_call 323;refine Jqa (HP.out _) ?_;rintro e w' ⟨rfl,rfl⟩)
 exact bodyPost_ret (v:=.tuple #[.map none,.agg #[.int .i64 0,.int .i64 0],.int .i64 1]) (by simp[results,Tryz.results324,go_sem]) rfl ⟨rfl,Jb _ _⟩
theorem Jbi (h:SpP p m S w) (N:Nat) (hN:N<4096) (hf:S.f N=none):Calls Tryz.prog 324 #[Je p,.int .i64 (N:Int)] w fun e w'=>e=.returned (.tuple #[.map none,.agg #[.int .i64 0,.int .i64 0],.int .i64 141])/\Below w.heap.size w w':=by
 have HP:=Ja (fun (u:World) (b:Below w.heap.size w u)=>Eu (h.below b) N hN)
 have hi:N / 64<64:=by omega
 have HM:=Ja (fun (u:World) (b:Below w.heap.size w u)=>(h.below b).maps (N / 64) hi)
 clear h
 have hfa:Zf S.f ((N / 64:Nat):Int) (N:Int)=none:=by unfold Zf;split<;>simp[hf]
 generalize N / 64=i at *
 generalize Zf S.f (i:Int)=g at *
 cases hm:m i with
 | none =>
  rw[hm] at HP
  simp only[Jp2,Option.isSome_none,Bool.false_eq_true,if_false] at HP
  go_enter Tryz.func324,Tryz.ntmps324
  go_wp2_with (go_at_call 323;refine Jqa (HP.out _ (Jb _ _)) ?_;rintro e w' ⟨rfl,rfl⟩)
  exact bodyPost_ret (v:=.tuple #[.map none,.agg #[.int .i64 0,.int .i64 0],.int .i64 141]) (by simp[results,Tryz.results324,go_sem]) rfl ⟨rfl,Jb _ _⟩
 | some b =>
  rw[hm] at HP HM
  simp only[Jp2,Option.isSome_some,if_true] at HP
  have hlk:=fun (u:World) (k:Below w.heap.size w u)=>(HM.out u k).is.look (s:=(N:Int)) (by unfold VC;omega) true
  rw[hfa] at hlk
  simp only[Jg,Jh,pg0,Option.getD_none,Option.isSome_none,if_true] at hlk
  have hl1:=hlk _ (Jb w (.cells #[.int .i64 0,.int .i64 0] 182))
  clear hlk HM
  go_enter Tryz.func324,Tryz.ntmps324
  go_wp2_with (go_at_call 323;refine Jqa (HP.out _ (Jb _ _)) ?_;rintro e w' ⟨rfl,rfl⟩)
  exact bodyPost_ret (v:=.tuple #[.map none,.agg #[.int .i64 0,.int .i64 0],.int .i64 141]) (by simp[results,Tryz.results324,go_sem]) rfl ⟨rfl,Below.then (Jb _ _) (Jb _ _) (by simp)⟩
theorem Jbj (h:SpP p m S w) (N:Nat) (hN:N<4096) {x:Pg} (hf:S.f N=some x):Calls Tryz.prog 324 #[Je p,.int .i64 (N:Int)] w fun e w'=>e=.returned (.tuple #[.map (m (N / 64)),.agg #[.int .i64 x.fr,.int .i64 x.rt],.int .i64 0])/\Below w.heap.size w w':=by
 have HP:=Ja (fun (u:World) (b:Below w.heap.size w u)=>Eu (h.below b) N hN)
 have hi:N / 64<64:=by omega
 have HM:=Ja (fun (u:World) (b:Below w.heap.size w u)=>(h.below b).maps (N / 64) hi)
 have hfa:Zf S.f ((N / 64:Nat):Int) (N:Int)=some x:=by unfold Zf;rw[if_pos (by omega)];exact hf
 obtain⟨b,hm⟩:∃ b,m (N / 64)=some b:=by
  have h1:=(h.good.f _ _ hf).2.2
  have h2:=h.is (N / 64) hi
  unfold Jl at h2
  rw[show((N / 64:Nat):Int)=(N:Int) / 64 by omega,h1] at h2
  exact Option.isSome_iff_exists.1 h2
 rw[hm] at HP HM ⊢
 clear h hf
 generalize N / 64=i at *
 generalize Zf S.f (i:Int)=g at *
 simp only[Jp2,Option.isSome_some,if_true] at HP
 have hlk:=fun (u:World) (k:Below w.heap.size w u)=>(HM.out u k).is.look (s:=(N:Int)) (by unfold VC;omega) true
 rw[hfa] at hlk
 simp only[Jg,Jh,Option.getD_some,Option.isSome_some,if_true] at hlk
 have hl1:=hlk _ (Jb w (.cells #[.int .i64 0,.int .i64 0] 182))
 clear hlk HM hfa
 obtain⟨a,c⟩:=x
 simp only at hl1 ⊢
 go_enter Tryz.func324,Tryz.ntmps324
 go_wp2_with (go_at_call 323;refine Jqa (HP.out _ (Jb _ _)) ?_;rintro e w' ⟨rfl,rfl⟩)
 go_region
 go_wp2
 exact bodyPost_ret (v:=.tuple #[.map (some b),.agg #[.int .i64 a,.int .i64 c],.int .i64 0]) (by simp[results,Tryz.results324,go_sem]) rfl ⟨rfl,(Below.then (Jb _ _) (Jb _ _) (by simp)).drew⟩
theorem Jq6 (h:SpP p m S w) (i:Int):Calls Tryz.prog 354 #[Je p,.int .i64 i] w fun e w'=>e=.returned (.tuple #[.int .i64 (Zw S i),.bool (Jl S i)])/\w'=w:=by
 by_cases hi:0<=i/\i<64
 ·obtain⟨h0,h1⟩:=hi
  obtain⟨k,rfl⟩:=Jqg h0
  have hk:k<64:=by omega
  have hc:=h.cell hk
  have hn:=h.cellN hk
  have his:=h.is k hk
  have HP:=Ja (Ur (k:Int) w h0 h1)
  clear h
  cases hm:m k with
  | none =>
   rw[hm] at hc his
   have hq:=Gu
   have hb:Jl S k=false:=by rw[<- his];rfl
   have he:Zw S k=0:=by
    unfold Jl at hb
    unfold Zw
    rw[Option.isSome_eq_false_iff,Option.isNone_iff_eq_none] at hb
    rw[hb]
    rfl
   rw[he,hb]
   clear his hb he hn
   go_enter Tryz.func354,Tryz.ntmps354
   go_wp2_with (go_at_call 320;refine Jqa HP.out ?_;rintro e w' ⟨rfl,rfl⟩)
   go_ret2
   exact⟨rfl,rfl⟩
  | some b =>
   rw[hm] at hc his
   have hq:=fun w=>Jdq w b
   have hb:Jl S k=true:=by rw[<- his];rfl
   rw[hb]
   clear his hb
   generalize Zw S k=n at *
   go_enter Tryz.func354,Tryz.ntmps354
   go_wp2_with (go_at_call 320;refine Jqa HP.out ?_;rintro e w' ⟨rfl,rfl⟩)
   go_ret2
   exact⟨rfl,rfl⟩
 ·have hn:=h.good.outT (i:=i) (by omega)
  have HP:=Ja (Ib i w (by omega))
  have e1:Zw S i=0:=by unfold Zw;rw[hn];rfl
  have e2:Jl S i=false:=by unfold Jl;rw[hn];rfl
  rw[e1,e2]
  clear h hi hn e1 e2
  go_enter Tryz.func354,Tryz.ntmps354
  go_wp2_with (go_at_call 320;refine Jqa HP.out ?_;rintro e w' ⟨rfl,rfl⟩)
  go_ret2
  exact⟨rfl,rfl⟩
theorem Ac (s:Sep w0 r w (UA p m S::R)) (i:Int):Calls Tryz.prog 354 #[Je p,.int .i64 i] w fun e w'=>e=.returned (.tuple #[.int .i64 (Zw S i),.bool (Jl S i)])/\Sep w0 r w' (UA p m S::R):=by
 refine Jqa (Jq6 s.head i) ?_
 rintro e w' ⟨rfl,rfl⟩
 exact⟨rfl,s⟩
theorem Jja {S:Sp} {n:Int} {k:Nat} (hk:k<64) (h:S.t k=some n):Oa S n=true:=EU.2 ⟨k,hk,h⟩
theorem Jr2 {S:Sp} {n:Int} (h:∀ k:Nat,k<64->S.t k≠some n):Oa S n=false:=by
 cases e:Oa S n with
 | false=>rfl
 | true =>
  obtain⟨k,hk,h2⟩:=EU.1 e
  exact absurd h2 (h k hk)
theorem Jcp (h:SpP p m S w) (n:Int):Calls Tryz.prog 321 #[Je p,.int .i64 n] w fun e w'=>e=.returned (.bool (Oa S n))/\w'=w:=by
 have HP:=Ja (fun i=>Jq6 h i)
 have HY:Hid (∀ k:Nat,k<64->S.t k=some n->Oa S n=true):=fun k hk h=>Jja hk h
 have HN:Hid ((∀ k:Nat,k<64->S.t k≠some n)->Oa S n=false):=Jr2
 clear h
 generalize Oa S n=q at *
 go_enter Tryz.func321,Tryz.ntmps321
 go_wp2
 go_loopw [8] (fun v8 wr=>∃ k:Nat,k<=64/\v8=.int .i64 k/\wr=w/\Hid (∀ j:Nat,j<k->S.t j≠some n)) (fun v8 _=>64 - (intOf v8).toNat)
 case atStart=>exact⟨0,Jqp _,rfl,rfl,fun j hj=>absurd hj (by omega)⟩
 case round =>
  obtain⟨k,hk,rfl,rfl,HJ⟩:=hrel
  by_cases hlt:k<64
  ·have hltz:(k:Int)<64:=by omega
   have HC:=Ja (HP.out (k:Int))
   have HYk:=Ja (HY.out k hlt)
   have hstep:Hid (S.t k≠some n->∀ j:Nat,j<k+1->S.t j≠some n):=fun h j hj=>by
    by_cases e:j=k
    ·rw[e];exact h
    ·exact HJ.out j (by omega)
   unfold Zw Jl at HC
   cases ht:S.t (k:Int) with
   | none =>
    rw[ht] at HC
    simp only[Option.getD_none,Option.isSome_none] at HC
    have HR:=Ja (hstep.out (by rw[ht];simp))
    clear HYk hstep
    go_wp2_with (go_at_call 354;refine Jqa HC.out ?_;rintro e w' ⟨rfl,rfl⟩)
    go_roundw
    case rel=>exact⟨k+1,by omega,by go_num,trivial,HR.out⟩
    case measure=>simp[intOf];omega
   | some x =>
    rw[ht] at HC HYk
    simp only[Option.getD_some,Option.isSome_some] at HC
    by_cases hx:x=n
    ·have hx2:(x == n)=true:=by simpa using hx
     have HQ:Hid (q=true):=HYk.out (by rw[hx])
     have HX:=Ja hx
     clear hx hstep HYk
     go_wp2_with (go_at_call 354;refine Jqa HC.out ?_;rintro e w' ⟨rfl,rfl⟩)
     go_ret
     exact⟨by rw[HQ.out];rfl,rfl⟩
    ·have hx2:(x == n)=false:=by simpa using hx
     have HR:=Ja (hstep.out (by rw[ht];simpa using hx))
     clear hx hstep HYk
     go_wp2_with (go_at_call 354;refine Jqa HC.out ?_;rintro e w' ⟨rfl,rfl⟩)
     go_roundw
     case rel=>exact⟨k+1,by omega,by go_num,trivial,HR.out⟩
     case measure=>simp[intOf];omega
  ·have hltz:¬ (k:Int)<64:=by omega
   have HQ:Hid (q=false):=HN.out fun j hj=>HJ.out j (by omega)
   go_wp2
   go_ret
   exact⟨by rw[HQ.out];rfl,rfl⟩
structure Bx (q:Nat) (u:World):Prop where
 lt:q<u.heap.size
 c0:∃ v,u.cell? ⟨q,0,none⟩=some v
 c1:∃ v,u.cell? ⟨q,1,none⟩=some v
 fz:∀ j,u.frozen? ⟨q,j,none⟩=false
theorem Bx.new (w:World) (a b:Value) (t:TypeId):Bx w.heap.size (w.alloc (.cells #[a,b] t)):=
 ⟨by simp,⟨a,by simp[go_sem]⟩,⟨b,by simp[go_sem]⟩,fun j=>by simp[go_sem]⟩
theorem Bx.keep {q:Nat} {u u':World} (h:Bx q u) (hs:u.heap.size<=u'.heap.size) (k:u'.heap[q]? = u.heap[q]?):Bx q u':=by
 obtain⟨lt,⟨a,ha⟩,⟨b,hb⟩,fz⟩:=h
 exact⟨Jrb lt hs,⟨a,by simp only[World.cell?,k] at *;exact ha⟩,⟨b,by simp only[World.cell?,k] at *;exact hb⟩,fun j=>by have:=fz j;simp only[World.frozen?,k] at *;exact this⟩
theorem Bx.below {q:Nat} {u u':World} (h:Bx q u) (k:Below u.heap.size u u'):Bx q u':=h.keep k.size (k.block q h.lt)
theorem EW {B q:Nat} {w u:World} (h:Below B w u) (hq:B<=q) (a b:Value):Below B w ((u.setCell ⟨q,0,none⟩ a).setCell ⟨q,1,none⟩ b):=
 ⟨h.os,h.tape,h.output,by rw[nblk_setCell,nblk_setCell];exact h.size,fun k hk=>(blk_setCell_other _ _ _ _ (by simp only;omega)).trans ((blk_setCell_other _ _ _ _ (by simp only;omega)).trans (h.block k hk))⟩
theorem _root_.Go.Proofs.YtbfjjpdnoalojaaGreatDoor.Turn.two {F:Nat->Prop} {q:Nat} {w u:World} (h:Turn F w u) (hq:w.heap.size<=q) (a b:Value):Turn F w ((u.setCell ⟨q,0,none⟩ a).setCell ⟨q,1,none⟩ b):=
 ⟨h.os,h.tape,h.output,by rw[nblk_setCell,nblk_setCell];exact h.size,fun k hk hF=>(blk_setCell_other _ _ _ _ (by simp only;omega)).trans ((blk_setCell_other _ _ _ _ (by simp only;omega)).trans (h.block k hk hF))⟩
theorem SpP.two {q:Nat} {u:World} (h:SpP p m S u) (hq:∀ x,fpS p m x->x≠q) (a b:Value):SpP p m S ((u.setCell ⟨q,0,none⟩ a).setCell ⟨q,1,none⟩ b):=
 h.keep fun x hx=>(blk_setCell_other _ _ _ _ (hq x hx)).trans (blk_setCell_other _ _ _ _ (hq x hx))
def mpE (S:Sp) (n:Int):Int:=if n<0\/4096<=n then 1 else if (S.f n).isSome=true then 0 else 141
def mpM (m:Nat->Option Nat) (S:Sp) (n:Int):Option Nat:=if mpE S n=0 then m (n / 64).toNat else none
theorem Jk3 (h:SpP p m S w) (n:Int):Calls Tryz.prog 324 #[Je p,.int .i64 n] w fun e w'=>e=.returned (.tuple #[.map (mpM m S n),.agg #[.int .i64 (Xl S n).fr,.int .i64 (Xl S n).rt],.int .i64 (mpE S n)])/\Below w.heap.size w w':=by
 by_cases hn:n<0\/4096<=n
 ·have h0:=h.good.out hn
  have e1:mpE S n=1:=by unfold mpE;rw[if_pos hn]
  have e2:mpM m S n=none:=by unfold mpM;rw[e1];rfl
  have e3:Xl S n=pg0:=by unfold Xl;rw[h0];rfl
  rw[e1,e2,e3]
  exact Jds n hn w
 ·obtain⟨N,rfl⟩:=Jqg (show 0<=n by omega)
  have hN:N<4096:=by omega
  cases hf:S.f N with
  | none =>
   have e1:mpE S N=141:=by unfold mpE;rw[if_neg hn,hf];rfl
   have e2:mpM m S N=none:=by unfold mpM;rw[e1];rfl
   have e3:Xl S N=pg0:=by unfold Xl;rw[hf];rfl
   rw[e1,e2,e3]
   exact Jbi h N hN hf
  | some x =>
   have e1:mpE S N=0:=by unfold mpE;rw[if_neg hn,hf];rfl
   have e2:mpM m S N=m (N / 64):=by unfold mpM;rw[e1,if_pos rfl];congr 1
   have e3:Xl S N=x:=by unfold Xl;rw[hf];rfl
   rw[e1,e2,e3]
   exact Jbj h N hN hf
theorem Jy9 (h:SpP p m S w) (n:Int):(mpE S n == 0)=Jv1 S n:=by
 unfold mpE Jv1
 by_cases hn:n<0\/4096<=n
 ·rw[if_pos hn,h.good.out hn];rfl
 ·rw[if_neg hn]
  cases S.f n<;>rfl
theorem Jr4 (f:Int->Option Pg) (N i:Int) (n:Int):Zf (UR f N none) i n=Mb (Zf f i) N n:=by
 unfold Zf UR Mb
 by_cases h:n=N
 ·simp[h]
 ·simp[h]
theorem Jji (f:Int->Option Pg) {N i:Int} (h:N / 64≠i) (c:Option Pg) (n:Int):Zf (UR f N c) i n=Zf f i n:=by
 unfold Zf UR
 by_cases e:n=N
 ·simp[e,h]
 ·simp[e]
theorem SpP.sep {w':World} {m':Nat->Option Nat} {T:Sp} (s:Sep w0 r w (UA p m S::R)) (h:SpP p m' T w') (k:Turn (fpS p m) w w') (o:Out (fpS p m) (fpS p m') w):Sep w0 r w' (UA p m' T::R):=
 s.turn (t:=UA p m S) (t':=UA p m' T) h k o
theorem Jp8 (h:SpP p m S w) (n:Int):Calls Tryz.prog 241 #[Je p,.int .i64 n] w fun e w'=>e=.returned (.tuple #[.agg #[.int .i64 (Xl S n).fr,.int .i64 (Xl S n).rt],.int .i64 (ET S n)])/\SpP p m (Ue S n) w'/\Turn (fpS p m) w w':=by
 have HP:=Ja (Jk3 (h.below (Jb w (.cells #[.int .i64 0,.int .i64 0] 182))) n)
 have HS:=Ja h
 have hE:ET S n=mpE S n:=rfl
 by_cases h0:mpE S n=0
 ·have hS:Ue S n=⟨S.t,UR S.f n none⟩:=by unfold Ue;rw[hE,if_pos h0]
  obtain⟨n0,n1,x,hx⟩:=Jp6 (hE.trans h0)
  have hi:(n / 64).toNat<64:=by omega
  have hin:(((n / 64).toNat:Nat):Int)=n / 64:=by omega
  obtain⟨b,hb⟩:∃ b,m (n / 64).toNat=some b:=by
   have h1:=h.is _ hi
   unfold Jl at h1
   rw[hin,(h.good.f _ _ hx).2.2] at h1
   exact Option.isSome_iff_exists.1 h1
  have hM:mpM m S n=some b:=by unfold mpM;rw[if_pos h0,hb]
  have HG:=Ja (AO h.good n)
  rw[hS] at HG ⊢
  rw[hE,h0]
  rw[h0,hM] at HP
  have hbw:b<w.heap.size:=h.fp_lt b (.inr ⟨_,hi,hb⟩)
  clear hE h0 hM hx h
  generalize hi2:(n / 64).toNat=i at *
  have HI:=Ja (And.intro hi (And.intro hb hin))
  clear hi hb hin hi2
  generalize(Xl S n).fr=a at *
  generalize(Xl S n).rt=c at *
  go_enter Tryz.func241,Tryz.ntmps241
  go_wp2_with (go_at_call 324;refine Jqa HP.out ?_;rintro e w1 ⟨rfl,b1⟩;have bel:Below w.heap.size w (w1.alloc (.cells #[.int .i64 a,.int .i64 c] 182)):=Below.then (Below.then (Jb _ _) b1 (by simp)) (Jb _ _) (Jql (by simp) b1.size);have bx:=((Bx.new w (.int .i64 0) (.int .i64 0) 182).below b1).below (Jb w1 (.cells #[.int .i64 a,.int .i64 c] 182));have b0:w1.heap.size<(w1.alloc (.cells #[.int .i64 a,.int .i64 c] 182)).heap.size:=(by simp);have bw:w.heap.size<w1.heap.size:=Jrb (by simp) b1.size;have h2:=HS.out.below bel;have hm2:=h2.maps i HI.out.1;rw[HI.out.2.1] at hm2;obtain⟨w3,hst,m3,g3,z3⟩:=hm2.is.drop (s:=n) (by unfold VC;omega) 0;obtain⟨h3,t3⟩:=h2.mapped HI.out.1 HI.out.2.1 m3 g3 (fun k=>Jr4 S.f n i k) (fun j k hj=>Jji S.f (by have:=HI.out.2.2;omega) none k) HG.out;have k3:=bx.keep (by omega) (g3.block _ bx.lt (fun e=>by cases e;omega));have q3:w3.heap[w1.heap.size]? = some (.cells #[.int .i64 a,.int .i64 c] 182 (0,0)):=(g3.block _ b0 (fun e=>by cases e;omega)).trans (blk_alloc_new _ _);have d0:w3.cell? ⟨w1.heap.size,0,none⟩=some (.int .i64 a):=(by simp[World.cell?,q3]);have d1:w3.cell? ⟨w1.heap.size,1,none⟩=some (.int .i64 c):=(by simp[World.cell?,q3]);obtain⟨v0,c0⟩:=k3.c0;obtain⟨v1,c1⟩:=k3.c1;have f0:=k3.fz;have HK:=Ja (And.intro h3 ((Turn.of bel (fpS p m)).trans t3 (fun x hx=>.inl hx)));clear b1 bel bx h2 hm2 m3 g3 z3 h3 t3 k3 q3 b0 bw)
  exact bodyPost_ret (v:=.tuple #[.agg #[.int .i64 a,.int .i64 c],.int .i64 0]) (by simp[results,Tryz.results241,go_sem,c0,c1]) rfl ⟨rfl,HK.out.1.two (fun x hx=>Nat.ne_of_lt (HS.out.fp_lt x hx)) _ _,HK.out.2.two (Jqd _) _ _⟩
 ·have hS:Ue S n=S:=by unfold Ue;rw[hE,if_neg h0]
  have hW:Xl S n=pg0:=by
   have:=Jy9 h n
   have h1:(mpE S n == 0)=false:=by simpa using h0
   rw[h1] at this
   unfold Jv1 at this
   unfold Xl
   have h2:S.f n=none:=by
    cases e:S.f n with
    | none=>rfl
    | some x=>rw[e] at this;cases this
   rw[h2]
   rfl
  rw[hS,hW,hE]
  rw[hW] at HP
  simp only[pg0] at HP ⊢
  clear h hS hW hE
  generalize mpE S n=E at *
  have h1:(E != 0)=true:=by simpa using h0
  go_enter Tryz.func241,Tryz.ntmps241
  go_wp2_with (go_at_call 324;refine Jqa HP.out ?_;rintro e w1 ⟨rfl,b1⟩;have bx:=((Bx.new w (.int .i64 0) (.int .i64 0) 182).below b1).below (Jb w1 (.cells #[.int .i64 0,.int .i64 0] 182));obtain⟨v0,c0⟩:=bx.c0;obtain⟨v1,c1⟩:=bx.c1;have f0:=bx.fz;have HB:Hid (Below w.heap.size w (w1.alloc (.cells #[.int .i64 0,.int .i64 0] 182))):=Below.then (Below.then (Jb _ _) b1 (by simp)) (Jb _ _) (Jql (by simp) b1.size);clear b1 bx)
  exact bodyPost_ret (v:=.tuple #[.agg #[.int .i64 0,.int .i64 0],.int .i64 E]) (by simp[results,Tryz.results241,go_sem,c0,c1]) rfl ⟨rfl,HS.out.below (EW HB.out (Jqd _) _ _),Turn.of (EW HB.out (Jqd _) _ _) _⟩
theorem Jiq (s:Sep w0 r w (UA p m S::R)) (n:Int):Calls Tryz.prog 241 #[Je p,.int .i64 n] w fun e w'=>e=.returned (.tuple #[.agg #[.int .i64 (Xl S n).fr,.int .i64 (Xl S n).rt],.int .i64 (ET S n)])/\Sep w0 r w' (UA p m (Ue S n)::R):=by
 refine Jqa (Jp8 s.head n) ?_
 rintro e w' ⟨rfl,h,k⟩
 exact⟨rfl,SpP.sep s h k (Out.refl _ _)⟩
def Goes (w:World) (p:Nat) (m:Nat->Option Nat) (T:Sp) (w':World):Prop:=∃ m',SpP p m' T w'/\Turn (fpS p m) w w'/\Out (fpS p m) (fpS p m') w
theorem Goes.same (h:SpP p m S w) {w':World} (b:Below w.heap.size w w'):Goes w p m S w':=⟨m,h.below b,Turn.of b _,Out.refl _ _⟩
theorem Goes.drew {T:Sp} {w':World} (h:Goes w p m T w'):Goes w p m T w'.drew:=by
 obtain⟨m',a,b,c⟩:=h
 exact⟨m',a.below ((Below.refl _ _).drew),b.drew,c⟩
theorem Jch (h:SpP p m S w) {k:Nat} (hk:k<64) {u:World} (b:Below w.heap.size w u) {mo:Option Nat} {T:Sp} (hn:∀ b,mo=some b->w.heap.size<=b/\b<u.heap.size) (hm:MapAt u mo (Zf T.f k)) (his:mo.isSome=Jl T k) (ht:∀ j:Nat,j≠k->T.t j=S.t j) (hf:∀ (j:Nat) n,j≠k->Zf T.f j n=Zf S.f j n) (g:Good T) :
  Goes w p m T ((u.setCell ⟨p,k,none⟩ (.map mo)).setCell ⟨p,64+k,none⟩ (.int .i64 (Zw T k))):=by
 have hp:=h.lt
 refine⟨VJ m k mo,h.put hk (w':=(u.setCell ⟨p,k,none⟩ (.map mo)).setCell ⟨p,64+k,none⟩ (.int .i64 (Zw T k))) (fun C hC=>setBlock (setBlock ((b.block p hp).trans hC) _) _) (fun x hx hne=>?_) (fun b hb=>(hn b hb).1) ?_ his ht hf g,?_,?_⟩
 ·exact(blk_setCell_other _ _ _ _ hne).trans ((blk_setCell_other _ _ _ _ hne).trans (b.block x hx))
 ·refine hm.keep fun q hq=>?_
  have hne:q≠p:=by have:=hn q hq;omega
  exact(blk_setCell_other _ _ _ _ hne).trans (blk_setCell_other _ _ _ _ hne)
 ·exact((Turn.of b (fpS p m)).trans (Turn.setCell (fpS p m) u _ _ (.inl rfl)) fun x hx=>.inl hx).trans (Turn.setCell (fpS p m) _ _ _ (.inl rfl)) fun x hx=>.inl hx
 ·rintro x (rfl|⟨i,hi,hx⟩)
  ·exact .inl (.inl rfl)
  ·by_cases e:i=k
   ·rw[e,Zv] at hx
    exact .inr (hn x hx).1
   ·rw[J1 _ _ e] at hx
    exact .inl (.inr ⟨i,hi,hx⟩)
theorem Jmr (h:SpP p m S w) {k:Nat} (hk:k<64) (n:Int) (hf:S.t k=none) (g:Good ⟨UR S.t k (some n),S.f⟩) :
  Goes w p m ⟨UR S.t k (some n),S.f⟩ (((w.alloc (.map #[] 0)).setCell ⟨p,k,none⟩ (.map (some w.heap.size))).setCell ⟨p,64+k,none⟩ (.int .i64 n)):=by
 have e:Zw ⟨UR S.t k (some n),S.f⟩ k=n:=by simp[Zw,UR]
 have h1:=Jch h hk (u:=w.alloc (.map #[] 0)) (Jb _ _) (mo:=some w.heap.size) (T:=⟨UR S.t k (some n),S.f⟩) (fun b hb=>by cases hb;exact⟨Jqd _,by simp⟩)
  (.inr ⟨_,rfl,(MapIs.new w).congr fun x=>by
   unfold Zf
   split
   ·rename_i hx
    exact h.good.nothing (by rw[hx];exact hf)
   ·rfl⟩) (by simp[Jl,UR]) (fun j hj=>by simp only[UR];rw[if_neg (by omega)]) (fun _ _ _=>rfl) g
 rw[e] at h1
 exact h1
theorem Jjv (h:SpP p m S w) {k:Nat} (hk:k<64) {u:World} (b:Below w.heap.size w u) (g:Good ⟨UR S.t k none,Eh S.f k⟩) :
  Goes w p m ⟨UR S.t k none,Eh S.f k⟩ ((u.setCell ⟨p,k,none⟩ (.map none)).setCell ⟨p,64+k,none⟩ (.int .i64 0)):=by
 have e:Zw ⟨UR S.t k none,Eh S.f k⟩ k=0:=by simp[Zw,UR]
 have h1:=Jch h hk b (mo:=none) (T:=⟨UR S.t k none,Eh S.f k⟩) (fun b hb=>by cases hb)
  (.inl ⟨rfl,fun x=>by
   show Zf (Eh S.f k) k x=none
   unfold Zf Eh
   split<;>rfl⟩) (by simp[Jl,UR]) (fun j hj=>by simp only[UR];rw[if_neg (by omega)]) (fun j x hj=>by
   show Zf (Eh S.f k) j x=Zf S.f j x
   unfold Zf Eh
   split
   ·rename_i hx
    rw[if_neg (by omega)]
   ·rfl) g
 rw[e] at h1
 exact h1
theorem J0v (h:SpP p m S w) (i n:Int):Calls Tryz.prog 239 #[Je p,.int .i64 i,.int .i64 n] w fun e w'=>e=.returned (.int .i64 (IS S i n))/\Goes w p m (IT S i n) w':=by
 have HS:=Ja h
 by_cases hp:i<0\/64<=i
 ·have hE:IS S i n=1:=by unfold IS;rw[if_pos (by omega)]
  have hS:IT S i n=S:=by unfold IT;rw[hE];rfl
  rw[hE,hS]
  have HP:=Ja (Ib i w hp)
  clear h hE hS hp
  go_enter Tryz.func239,Tryz.ntmps239
  go_wp2_with (go_at_call 320;refine Jqa HP.out ?_;rintro e w' ⟨rfl,rfl⟩)
  go_ret
  exact⟨rfl,Goes.same HS.out (Below.refl _ _)⟩
 ·have HP:=Ja (Ur i w (by omega) (by omega))
  by_cases hn:n<0
  ·have hE:IS S i n=1:=by unfold IS;rw[if_pos (by omega)]
   have hS:IT S i n=S:=by unfold IT;rw[hE];rfl
   rw[hE,hS]
   clear h hE hS hp
   go_enter Tryz.func239,Tryz.ntmps239
   go_wp2_with (go_at_call 320;refine Jqa HP.out ?_;rintro e w' ⟨rfl,rfl⟩)
   go_ret
   exact⟨rfl,Goes.same HS.out (Below.refl _ _)⟩
  ·obtain⟨k,rfl⟩:=Jqg (show 0<=i by omega)
   have hk:k<64:=by omega
   have hkz:(k:Int)<64:=by omega
   have hc:=h.cell hk
   have hcN:=h.cellN hk
   have fz:=h.frozen
   have his:=h.is k hk
   have HA:=Ja (Jcp h n)
   have hE:IS S k n=if (m k).isSome=true\/Oa S n=true then 140 else 0:=by
    unfold IS
    rw[if_neg (by omega)]
    unfold Jl at his
    rw[<- his]
   have HG:=Ja (Jaw h.good k n)
   cases hm:m k with
   | some b =>
    rw[hm] at hc hE
    have hE':IS S k n=140:=by rw[hE,if_pos (.inl rfl)]
    have hS:IT S k n=S:=by unfold IT;rw[hE'];rfl
    rw[hE',hS]
    have hq:=fun w=>Jdr w b
    clear h hE hE' hS hp HA HG his hcN hm
    go_enter Tryz.func239,Tryz.ntmps239
    go_wp2_with (go_at_call 320;refine Jqa HP.out ?_;rintro e w' ⟨rfl,rfl⟩)
    go_ret
    exact⟨rfl,Goes.same HS.out (Below.refl _ _)⟩
   | none =>
    rw[hm] at hc hE
    have hq:=Jbg
    cases ha:Oa S n with
    | true =>
     rw[ha] at HA
     have hE':IS S k n=140:=by rw[hE,if_pos (.inr ha)]
     have hS:IT S k n=S:=by unfold IT;rw[hE'];rfl
     rw[hE',hS]
     clear h hE hE' hS hp HG his hcN hm
     go_enter Tryz.func239,Tryz.ntmps239
     go_wp2_with (first|(go_at_call 320;refine Jqa HP.out ?_;rintro e w' ⟨rfl,rfl⟩)|(go_at_call 321;refine Jqa HA.out ?_;rintro e w' ⟨rfl,rfl⟩))
     go_ret
     exact⟨rfl,Goes.same HS.out (Below.refl _ _)⟩
    | false =>
     rw[ha] at HA
     have hE':IS S k n=0:=by rw[hE,if_neg (by rw[ha];simp)]
     have hS:IT S k n=⟨UR S.t k (some n),S.f⟩:=by unfold IT;rw[if_pos hE']
     have HF:=Ja (Jfy hE').2.2.2.1
     rw[hE',hS]
     rw[hS] at HG
     have hmm:=@run_makeMap Tryz.prog
     clear h hE hE' hS hp his hm
     go_enter Tryz.func239,Tryz.ntmps239
     go_wp2_with (first|(go_at_call 320;refine Jqa HP.out ?_;rintro e w' ⟨rfl,rfl⟩)|(go_at_call 321;refine Jqa HA.out ?_;rintro e w' ⟨rfl,rfl⟩))
     have d0:=Jx hc (.map #[] 0)
     have d1:=Jx hcN (.map #[] 0)
     have fa:∀ j,(w'.alloc (.map #[] 0)).frozen? ⟨p,j,none⟩=false:=fun j=>((Jb w' (.map #[] 0)).frozen (p:=⟨p,j,none⟩) HS.out.lt).trans (fz j)
     have HK:=Ja (Jmr HS.out hk n HF.out HG.out).drew
     go_region
     go_wp2
     go_ret
     exact⟨rfl,HK.out⟩
def AB (S:Sp) (i:Int):List La:=if Az S i=0 then plP S.f i.toNat else []
theorem Iu (s:Sep w0 r w (UA p m S::R)) (i:Int):Calls Tryz.prog 355 #[Je p,.int .i64 i] w fun e w'=>∃ v m',e=.returned (.tuple #[v,.int .i64 (Az S i)])/\Sep w0 r w' (UA p m' (Iw S i)::AX v (AB S i)::R):=by
 have HS:=Ja s
 have h:SpP p m S w:=s.head
 clear s
 by_cases hp:i<0\/64<=i
 ·have hE:Az S i=1:=by unfold Az;rw[if_pos hp]
  have hS:Iw S i=S:=by unfold Iw;rw[hE];rfl
  have hL:AB S i=[]:=by unfold AB;rw[hE];rfl
  rw[hE,hS,hL]
  have HP:=Ja (Ib i w hp)
  clear h hE hS hp hL
  go_enter Tryz.func355,Tryz.ntmps355
  go_wp2_with (go_at_call 320;refine Jqa HP.out ?_;rintro e w' ⟨rfl,rfl⟩)
  go_ret2
  exact⟨_,_,rfl,HS.out.nil.swap⟩
 ·have HP:=Ja (Ur i w (by omega) (by omega))
  obtain⟨k,rfl⟩:=Jqg (show 0<=i by omega)
  have hk:k<64:=by omega
  have hkz:(k:Int)<64:=by omega
  have hc:=h.cell hk
  have hcN:=h.cellN hk
  have fz:=h.frozen
  have his:=h.is k hk
  have hE:Az S k=if (m k).isSome=true then 0 else 141:=by
   unfold Az
   rw[if_neg (by omega)]
   unfold Jl at his
   rw[<- his]
  have HG:=Ja (Jat h.good k)
  cases hm:m k with
  | none =>
   rw[hm] at hc hE
   simp only[Option.isSome_none,Bool.false_eq_true,if_false] at hE
   have hS:Iw S k=S:=by unfold Iw;rw[hE];rfl
   have hL:AB S k=[]:=by unfold AB;rw[hE];rfl
   rw[hE,hS,hL]
   have hq:=Gu
   clear h hE hS hL hp HG his hcN hm
   go_enter Tryz.func355,Tryz.ntmps355
   go_wp2_with (go_at_call 320;refine Jqa HP.out ?_;rintro e w' ⟨rfl,rfl⟩)
   go_ret2
   exact⟨_,_,rfl,HS.out.nil.swap⟩
  | some b =>
   rw[hm] at hc hE
   simp only[Option.isSome_some,if_true] at hE
   have hS:Iw S k=⟨UR S.t k none,Eh S.f k⟩:=by unfold Iw;rw[if_pos hE]
   have hL:AB S k=plP S.f k:=by unfold AB;rw[if_pos hE];rfl
   rw[hE,hS,hL]
   rw[hS] at HG
   have hq:=fun w=>Jdq w b
   have hma:=h.maps k hk
   rw[hm] at hma
   have HL:=Ja (Jba (some b) S k w hma h.in64)
   have HH:=Ja h
   clear h hE hS hL hp his hm hma
   go_enter Tryz.func355,Tryz.ntmps355
   go_wp2_with (first|(go_at_call 320;refine Jqa HP.out ?_;rintro e w' ⟨rfl,rfl⟩)|(go_at_call 192;refine Jqa HL.out ?_;rintro e u ⟨v,rfl,su⟩))
   have e0:u.cell? ⟨p,k,none⟩=some (.map (some b)):=(su.low.cell (p:=⟨p,k,none⟩) HH.out.lt).trans hc
   have e1:u.cell? ⟨p,64+k,none⟩=some (.int .i64 (Zw S k)):=(su.low.cell (p:=⟨p,64+k,none⟩) HH.out.lt).trans hcN
   have fa:∀ j,u.frozen? ⟨p,j,none⟩=false:=fun j=>(su.low.frozen (p:=⟨p,j,none⟩) HH.out.lt).trans (fz j)
   have SU:=Ja su
   clear su
   go_region
   go_wp2
   go_ret2
   obtain⟨m',a1,a2,a3⟩:=Jjv (HH.out.below SU.out.low) hk (Below.refl _ u) HG.out
   exact⟨v,m',rfl,(SpP.sep (HS.out.join SU.out).swap a1 a2 a3).drew⟩
theorem Jhs (h:SpP p m S w):Calls Tryz.prog 92 #[Je p] w fun e w'=>∃ v,e=.returned v/\Sep w w.heap.size w' [AX v (Ji5 S.f)]:=by
 have HS:=Ja h
 clear h
 go_enter Tryz.func92,Tryz.ntmps92
 go_wp2
 go_loopw [3,5] (fun v3 v5 wr=>∃ k:Nat,k<=64/\v5=.int .i64 k/\Sep w w.heap.size wr [AX v3 (seg S.f 0 (64*k))]) (fun _ v5 _=>64 - (intOf v5).toNat)
 case atStart=>exact⟨0,Jqp _,rfl,(GL w).nil⟩
 case round =>
  obtain⟨k,hk,rfl,s2⟩:=hrel
  by_cases hlt:k<64
  ·have hltz:(k:Int)<64:=by omega
   have h2:=HS.out.below s2.low
   have hc:=h2.cell hlt
   have HL:=Ja (Jba (m k) S k wr (h2.maps k hlt) h2.in64)
   obtain⟨a3,c3,rfl⟩:=s2.listIs (E:=elL) (v:=u3) (A:=seg S.f 0 (64*k)) (by simp)
   have HT:=Ja (Jo8 S.f k)
   have S2:=Ja s2
   have HN:=Ja (And.intro (IP S.f 0 (64*k)) (IP S.f (64*k) 64))
   clear s2 h2
   generalize hn:(seg S.f 0 (64*k)).length=n at *
   have HN2:=Ja hn
   clear hn
   go_wp2_with (first
    | (go_at_call 192;refine Jqa HL.out ?_;rintro e u ⟨v,rfl,su⟩;have sj:=(S2.out.join su).swap;obtain⟨v4,w4,r4,s4⟩:=sj.onto okL (v:=v) (B:=plP S.f k) (sj.each (AX v (plP S.f k)) (by simp)).1 73 (by have h1:=HN.out.1;have h2:=HN.out.2;have h3:=HN2.out;unfold plP;omega);obtain⟨a9,c9,rfl⟩:=sj.listIs (E:=elL) (v:=v) (A:=plP S.f k) (by simp);simp only[elL] at r4;have R4:=Ja r4;have S4:=Ja s4.drop2;clear su sj r4 s4)
    | (at_builtin;refine Jd rfl _ _ _ _ rfl _ _ _ _ rfl rfl R4.out ?_))
   go_roundw
   case rel=>exact⟨k+1,by omega,by go_num,by rw[HT.out];exact S4.out⟩
   case measure=>simp[intOf];omega
  ·have hltz:¬ (k:Int)<64:=by omega
   obtain rfl:k=64:=by omega
   have S2:Hid (Sep w w.heap.size wr [AX u3 (Ji5 S.f)]):=s2
   clear s2
   go_wp2
   go_ret
   exact⟨_,rfl,S2.out⟩
def Jz2 (x:La):Obj:=.cells #[.int .i64 x.1,.int .i64 x.2.fr,.int .i64 x.2.rt] 184
theorem Jc8 (h:SpP p m S w) (fr:Int):Calls Tryz.prog 353 #[Je p,.int .i64 fr] w fun e w'=>∃ v,e=.returned v/\Sep w w.heap.size w' [Xa v (Ve S.f fr)]:=by
 have HP:=Ja (Jhs h)
 have HA:=Ja (Jer S.f)
 clear h
 unfold Ve
 generalize Ji5 S.f=L at *
 go_enter Tryz.func353,Tryz.ntmps353
 go_wp2_with (go_at_call 92;refine Jqa HP.out ?_;rintro e w1 ⟨v,rfl,s1⟩;obtain⟨ao,cap,rfl⟩:=s1.listIs (E:=elL) (v:=v) (A:=L) (by simp);have S1:=Ja s1;clear s1;generalize hN:L.length=N at *;have HN:=Ja hN;clear hN)
 go_loopw [5,11] (fun v5 v11 wr=>∃ k:Nat,k<=N/\v11=.int .i64 k/\Sep w w.heap.size wr [Xa v5 (((L.take k).filter (Gd fr)).map (·.1)),AX (.slice ao N cap) L]) (fun _ v11 _=>N - (intOf v11).toNat)
 case atStart=>exact⟨0,Jqp _,rfl,S1.out.nil⟩
 case round =>
  obtain⟨k,hk,rfl,s2⟩:=hrel
  have hN4:N<=4096:=HA.out
  by_cases hlt:k<N
  ·have hltz:(k:Int)<(N:Int):=by omega
   have hk1:k<L.length:=by have:=HN.out;omega
   obtain⟨x,hx⟩:∃ x,L[k]? = some x:=⟨_,Jqc hk1⟩
   obtain⟨q,rfl,hc⟩:=s2.listAt okL (ao:=ao) (n:=N) (cap:=cap) (A:=L) (by simp) hx
   have d0:wr.cell? ⟨q,k*3,none⟩=some (.int .i64 x.1):=hc 0 _ rfl
   have d1:wr.cell? ⟨q,k*3+1,none⟩=some (.int .i64 x.2.fr):=hc 1 _ rfl
   have d2:wr.cell? ⟨q,k*3+2,none⟩=some (.int .i64 x.2.rt):=hc 2 _ rfl
   have hl:(((L.take k).filter (Gd fr)).map (·.1)).length<=4096:=by
    rw[List.length_map]
    refine Jql (List.length_filter_le _ _) ?_
    rw[List.length_take]
    omega
   have hT:((L.take (k+1)).filter (Gd fr)).map (·.1)=((L.take k).filter (Gd fr)).map (·.1)++(if x.2.fr=fr then [x.1] else []):=by
    rw[List.take_add_one,hx,List.filter_append,List.map_append]
    congr 1
    by_cases e:x.2.fr=fr
    ·simp[Gd,e]
    ·simp[Gd,e]
   have s3:=s2.below (Jb wr (Jz2 x))
   obtain⟨a,y⟩:=x
   obtain⟨b,c⟩:=y
   simp only at d0 d1 d2 hT
   by_cases hfr:b=fr
   ·have hq:(b == fr)=true:=by simpa using hfr
    rw[if_pos hfr] at hT
    have HT:=Ja hT
    obtain⟨v4,w4,r4,s4⟩:=s3.more okI 22 a (C:=#[.int .i64 a]) rfl (by omega)
    obtain⟨a5,c5,rfl⟩:=s3.listIs (E:=Ui) (v:=u5) (A:=((L.take k).filter (Gd fr)).map (·.1)) (by simp)
    simp only[Ui,Jz2] at r4
    have e9:(wr.alloc (.cells #[.int .i64 a,.int .i64 b,.int .i64 c] 184)).heap.size=wr.heap.size+1:=by simp
    rw[e9] at r4
    have R4:=Ja r4
    have S4:=Ja s4
    clear s2 s3 s4 r4 hc hx hk1 hT hl hfr e9
    generalize(((L.take k).filter (Gd fr)).map (·.1)).length=n at *
    go_wp2_with (at_builtin;refine Jd rfl _ _ _ _ rfl _ _ _ _ rfl rfl R4.out ?_)
    go_roundw
    case rel=>exact⟨k+1,by omega,by go_num,by rw[HT.out];exact S4.out⟩
    case measure=>simp[intOf];omega
   ·have hq:(b == fr)=false:=by simpa using hfr
    rw[if_neg hfr,List.append_nil] at hT
    have HT:=Ja hT
    have S3:=Ja s3
    clear s2 s3 hc hx hk1 hT hl hfr
    go_wp2
    go_roundw
    case rel=>exact⟨k+1,by omega,by go_num,by rw[HT.out];exact S3.out⟩
    case measure=>simp[intOf];omega
  ·have hltz:¬ (k:Int)<(N:Int):=by omega
   have e1:L.take k=L:=List.take_of_length_le (by have:=HN.out;omega)
   rw[e1] at s2
   have S2:=Ja s2.drop2
   clear s2 e1
   go_wp2
   go_ret
   exact⟨_,rfl,S2.out⟩
theorem Jc9 (s:Sep w0 r w (UA p m S::R)) (fr:Int):Calls Tryz.prog 353 #[Je p,.int .i64 fr] w fun e w'=>∃ v,e=.returned v/\Sep w0 r w' (UA p m S::Xa v (Ve S.f fr)::R):=by
 refine Jqa (Jc8 s.head fr) ?_
 rintro e w' ⟨v,rfl,k⟩
 exact⟨v,rfl,(s.join k).swap⟩
end
section
variable {w0 w:World} {r p:Nat} {m:Nat->Option Nat} {S T:Sp} {R:List Th}
theorem Js2 (s:Sep w0 r w (UA p m S::R)) (i:Int) {E:Int} {L:List La} (hE:Az S i=E) (hL:AB S i=L) (hT:Iw S i=T):Calls Tryz.prog 355 #[Je p,.int .i64 i] w fun e w'=>∃ v m',e=.returned (.tuple #[v,.int .i64 E])/\Sep w0 r w' (UA p m' T::AX v L::R):=by
 subst hE hT hL
 exact Iu s i
theorem Ju7 (s:Sep w0 r w (UA p m S::R)) (n:Int) {a c E:Int} (hp:Xl S n=⟨a,c⟩) (hE:ET S n=E) (hT:Ue S n=T):Calls Tryz.prog 241 #[Je p,.int .i64 n] w fun e w'=>e=.returned (.tuple #[.agg #[.int .i64 a,.int .i64 c],.int .i64 E])/\Sep w0 r w' (UA p m T::R):=by
 subst hE hT
 have:=Jiq s n
 rw[hp] at this
 exact this
theorem Jx7 (s:Sep w0 r w (UA p m S::R)) (i:Int) {n:Int} {q:Bool} (hn:Zw S i=n) (hq:Jl S i=q):Calls Tryz.prog 354 #[Je p,.int .i64 i] w fun e w'=>e=.returned (.tuple #[.int .i64 n,.bool q])/\Sep w0 r w' (UA p m S::R):=by
 subst hn hq
 exact Ac s i
theorem Js7 (s:Sep w0 r w (UA p m S::R)) (fr:Int) {L:List Int} (hL:Ve S.f fr=L):Calls Tryz.prog 353 #[Je p,.int .i64 fr] w fun e w'=>∃ v,e=.returned v/\Sep w0 r w' (UA p m S::Xa v L::R):=by
 subst hL
 exact Jc9 s fr
end
section
variable {w0 w:World} {r p:Nat} {m:Nat->Option Nat} {S:Sp} {R:List Th}
theorem JP {ops:Array Oper} {rest:List Oper} {o:Oper} {a:Act} {Q:Exit->Act->World->Prop} (hgd:o.guard=none) (t:TypeId) (x:Operand) (ho:o.op=.load t x) (ad:Addr) (v:Value) (hx:a.eval x=.pointer (some ad)) (hrun:(loadVar t ad).run Tryz.prog w=.ok v w) (h:wpList Tryz.prog ops Q rest (a.put o.dst v) w):wpList Tryz.prog ops Q (o::rest) a w:=by
 refine wpList_plain hgd fun K' hK'=>?_
 have hrun':(Instr.loadAt t (.pointer (some ad))).run Tryz.prog w=.ok v w:=by
  simp only[Instr.loadAt,Instr.sureAddr,Sem.run_bind,Sem.run_pure,Result.andThen_ok,hrun]
 unfold Oper.wp
 simp[execOp,ho,hx,hrun',Result.andThen]
 exact hK' _ _ h
structure Cy (w:World) (q:Nat) (S:Sp) (k:Nat) (m':Nat->Option Nat) (wr:World):Prop where
 low:Below w.heap.size w wr
 qle:w.heap.size<=q
 head:∃ C:Array Value,wr.heap[q]? = some (.cells C 198 (0,0))/\C.size=128/\∀ i:Nat,i<64->C[i]? = some (.map (m' i))/\C[64+i]? = some (.int .i64 (Zw S i))
 done:∀ i,i<k->(m' i).isSome=Jl S i/\MapAt wr (m' i) (Zf S.f i)
 rest:∀ i,k<=i->m' i=none
 one:∀ i j x,i<64->j<64->m' i=some x->m' j=some x->i=j
 own:∀ i x,m' i=some x->w.heap.size<=x/\x≠q/\x<wr.heap.size
theorem Cy.cell {q k:Nat} {m':Nat->Option Nat} {wr:World} (h:Cy w q S k m' wr) {i:Nat} (hi:i<64):wr.cell? ⟨q,i,none⟩=some (.map (m' i))/\wr.frozen? ⟨q,i,none⟩=false/\q<wr.heap.size:=by
 obtain⟨C,hC,h0,h1⟩:=h.head
 exact⟨by simp[World.cell?,hC,(h1 i hi).1],by simp[World.frozen?,hC],(Jqf.1 hC).1⟩
theorem Cy.end {q:Nat} {m':Nat->Option Nat} {wr:World} (h:Cy w q S 64 m' wr) (g:Good S):Sep w w.heap.size wr [UA q m' S]:=by
 have hsp:SpP q m' S wr:=⟨h.head,fun i hi=>(h.done i hi).1,fun i hi=>(h.done i hi).2,h.one,fun i hi e=>(h.own i q e).2.1 rfl,g⟩
 refine⟨h.low,h.low.size,fun t ht=>?_,List.pairwise_singleton _ _⟩
 rw[List.mem_singleton] at ht
 subst ht
 refine⟨hsp,?_⟩
 rintro x (rfl|⟨i,hi,hx⟩)
 ·exact h.qle
 ·exact(h.own i x hx).1
end
end Ta
namespace Ta
open Go.ChangeShapes Go.WideShapes Go.ChangeAt Go.RowKit Go.Joins Go.Deep
theorem own:ownKnob Tryz.prog.godebug=none:=by kernel_rfl
end Ta
end Go.Proofs.YtbfjjpdnoalojaaGreatDoor
