/-
  What stands below: KTa; no condition but what each says.
-/
import Derived.Test.YtilnjnblpeeigaaGreatDoorPb1
import Derived.Test.YtilnjnblpeeigaaGreatDoorPb4
import Derived.Test.YtilnjnblpeeigaaGreatDoorRows
import Derived.WalkKit
import Derived.WalkLawsBesides
import Derived.Deep.QuietTactic
import Derived.BigQuiet
import Derived.Laws.StructEq
import Derived.Below
import Derived.Deep.OwnRows
import Derived.Deep.RegionWith
import Derived.Deep.RegionHeld3
import Derived.Maps.AppendAt
import Derived.Laws.CopyOwn
import Derived.Lib.SliceRun
import Derived.Laws.AppendOwnNone
import Derived.Shelf.RegionOpenPlain
import Derived.Deep.RegionLaw
import Derived.Shelf.Abstract
import Derived.Lib.Walk
import Derived.Maps.Range
import Derived.Maps.RangeWalk
import Derived.Test.YtilnjnblpeeigaaGreatDoorProg
import Derived.Shelf.SlIterI.Nil
import Derived.Shelf.SortM.Plain
import Derived.Shelf.SortM.SortNone
import Derived.Shelf.SlMaps.Clone
import Derived.Laws.BitsAllLaws
import Derived.ProofKit
import Derived.OpenShut
import Derived.LaidMore
import Derived.Deep.DeepHandedRow
import Derived.Lib.SmallJoins
import Derived.Laws.IdiomArrays
import Derived.Deep.Slices
set_option maxRecDepth 100000
namespace Go.Proofs.YtilnjnblpeeigaaGreatDoor.Ta
open Go.RowKit Go.Deep Go.Shelf
def cI (n:Int):List Value:=[.int .i64 n]
def elI:El Int:=⟨3,26,1,8,cI⟩
theorem infoI:(Tryz.prog.info? 3).map (fun i=>(i.zero,i.size,i.bytes))=some (some (.int .i64 0),1,8):=by kernel_rfl
theorem okI:El.Ok elI:=⟨Tryz.underlying26,info_of infoI rfl,by decide,by decide,fun _=>rfl,by simp [elI,cI,Value.oneCell']⟩
abbrev lstI (v:Value) (L:List Int):Th:=lst elI v L
abbrev RowI (w:World) (v:Value) (L:List Int):Prop:=Row elI w v L
theorem RowI.cell {w:World} {g cap n:Nat} {L:List Int} (h:RowI w (.slice (some ⟨g,0,none⟩) n cap) L) {i:Nat} {x:Int} (hi:L[i]? = some x):w.cell? ⟨g,i,none⟩=some (.int .i64 x):=by
 have:=Row.cell okI h hi (j:=0) (c:=.int .i64 x) rfl
 simpa [elI] using this
end Go.Proofs.YtilnjnblpeeigaaGreatDoor.Ta
namespace Go.Proofs.YtilnjnblpeeigaaGreatDoor.Ta
open Go.RowKit Go.Deep Go.MapKept Go.Maps
open Go.ChangeMaps (heap_setBlock_same heap_setBlock_other modify_eq_set)
abbrev encS (s:Int):Value:=.int .i64 s
def encC (c:Pg):Value:=.agg #[.int .i64 c.fr,.int .i64 c.rt]
theorem encS_inj {s t:Int} (h:encS s=encS t):s=t:=by simpa [encS] using h
theorem keyed:Keyed Tryz.prog 3:=int_keyed Tryz.underlying3
theorem wf_i64 {x:Int} (h:I64 x):(Lit.int .i64 x).wf=true:=by
 unfold I64 at h
 simp [Lit.wf,IntKind.min,IntKind.max,IntKind.bits,IntKind.signed]
 omega
theorem key_int {s:Int} (h:I64 s):keyOf Tryz.prog 3 (encS s)=some (.int .i64 s):=by
 simp [keyOf,mapKey,Tryz.underlying3,wf_i64 h]
theorem key_of {s:Int} (h:I64 s):∃ l,keyOf Tryz.prog 3 (encS s)=some l:=⟨_,key_int h⟩
theorem idx_key {l:List MapEntry} (hp:l.Pairwise (fun x y=>x.key≠y.key)) {i j:Nat} {x y:MapEntry} (hi:l[i]? = some x) (hj:l[j]? = some y) (hne:i≠j):x.key≠y.key:=by
 obtain ⟨hi1,rfl⟩:=List.getElem?_eq_some_iff.1 hi
 obtain ⟨hj1,rfl⟩:=List.getElem?_eq_some_iff.1 hj
 rcases Nat.lt_or_gt_of_ne hne with h | h
 ·exact List.pairwise_iff_getElem.1 hp i j hi1 hj1 h
 ·exact (List.pairwise_iff_getElem.1 hp j i hj1 hi1 h).symm
structure Full (es:Array MapEntry) (f:Int->Option Pg):Prop where
 is:∀ e∈es.toList,∃ s c,I64 s/\e.key=encS s/\e.val=encC c/\f s=some c
 all:∀ s c,f s=some c->∃ e∈es.toList,e.key=encS s/\e.val=encC c
def MapIs (w:World) (b:Nat) (f:Int->Option Pg):Prop:=∃ es clock,w.heap[b]? = some (.map es clock)/\Stamped es clock/\Full es f
theorem MapIs.lt {w:World} {b:Nat} {f:Int->Option Pg} (h:MapIs w b f):b<w.heap.size:=by
 obtain ⟨es,clock,hb,_⟩:=h
 exact (Array.getElem?_eq_some_iff.1 hb).1
theorem MapIs.of_block {w w':World} {b:Nat} {f:Int->Option Pg} (h:MapIs w b f) (e:w'.heap[b]? = w.heap[b]?):MapIs w' b f:=by
 obtain ⟨es,clock,hb,r⟩:=h
 exact ⟨es,clock,e.trans hb,r⟩
theorem MapIs.new (w:World):MapIs (w.alloc (.map #[] 0)) w.heap.size fun _=>none:=
 ⟨#[],0,blk_alloc_new _ _,stamped_empty 0,⟨by simp,fun _ _ h=>by cases h⟩⟩
theorem MapIs.congr {w:World} {b:Nat} {f g:Int->Option Pg} (h:MapIs w b f) (e:∀ s,g s=f s):MapIs w b g:=by
 obtain rfl:g=f:=funext e
 exact h
theorem Full.keys {es:Array MapEntry} {f:Int->Option Pg} (h:Full es f):∀ e∈es.toList,∃ l,keyOf Tryz.prog 3 e.key=some l:=fun e he=>by
 obtain ⟨s,c,hs,e1,_,_⟩:=h.is e he
 rw [e1]
 exact key_of hs
theorem zero_page (w:World):(zeroValue 49).run Tryz.prog w = .ok (encC pg0) w:=by kernel_rfl
section
variable {w:World} {b:Nat} {f:Int->Option Pg}
theorem MapIs.look (h:MapIs w b f) {s:Int} (hs:I64 s) (ok:Bool):(Instr.lookup 132 (.map (some b)) (encS s) ok).run Tryz.prog w = .ok (if ok then .tuple #[encC ((f s).getD pg0),.bool (f s).isSome] else encC ((f s).getD pg0)) w:=by
 obtain ⟨es,clock,hb,st,F⟩:=h
 obtain ⟨l,hl⟩:=key_of hs
 rcases keyed.find w hl es.toList F.keys with ⟨h1,h2⟩ | ⟨j,e0,h1,h2,h3⟩
 ·have hn:f s=none:=by
   cases hf:f s with
   | none=>rfl
   | some c =>
    obtain ⟨e,he,ek,_⟩:=F.all s c hf
    exact absurd ek (h2 e he)
  simp [Instr.lookup,run_underlying Tryz.underlying132,MapKept.run_getObj_map hb,keyed.check w _ hl,h1,zero_page w,Result.andThen,hn]
 ·obtain ⟨t,c,_,ek,ev,ft⟩:=F.is e0 (List.mem_of_getElem? h2)
  obtain rfl:t=s:=encS_inj (ek.symm.trans h3)
  simp [Instr.lookup,run_underlying Tryz.underlying132,MapKept.run_getObj_map hb,keyed.check w _ hl,h1,Result.andThen,ft,ev]
def delF (f:Int->Option Pg) (s:Int):Int->Option Pg:=fun t=>if t=s then none else f t
theorem MapIs.drop (h:MapIs w b f) {s:Int} (hs:I64 s) (ty:TypeId) :
  ∃ w',(Builtin.delete_ #[132,3] ty #[.map (some b),encS s]).run Tryz.prog w = .ok (.tuple #[]) w'/\MapIs w' b (delF f s)/\w.grownBy w' (some b)/\w'.heap.size=w.heap.size:=by
 obtain ⟨es,clock,hb,st,F⟩:=h
 obtain ⟨l,hl⟩:=key_of hs
 have gb:∀ o,w.grownBy (Go.ChangeMaps.setBlock w b o) (some b):=fun o=>⟨rfl,rfl,rfl,by simp [Go.ChangeMaps.setBlock],fun i _ hi=>heap_setBlock_other hb _ (fun e=>hi (by rw [e]))⟩
 rcases keyed.find w hl es.toList F.keys with ⟨h1,h2⟩ | ⟨j,e0,h1,h2,h3⟩
 ·refine ⟨_,by simp [Builtin.delete_,run_underlying Tryz.underlying132,MapKept.run_getObj_map hb,keyed.check w _ hl,h1,MapKept.run_setObj_map _ hb,Result.andThen];rfl,⟨es,clock,heap_setBlock_same hb _,st,?_,?_⟩,gb _,by simp [Go.ChangeMaps.setBlock]⟩
  ·intro e he
   obtain ⟨t,d,ht,e1,e2,e3⟩:=F.is e he
   have:¬ t=s:=fun q=>h2 e he (by rw [e1,q])
   exact ⟨t,d,ht,e1,e2,by simp [delF,this,e3]⟩
  ·intro t d ht
   unfold delF at ht
   split at ht
   ·cases ht
   ·exact F.all t d ht
 ·have hjl:j<es.toList.length:=(List.getElem?_eq_some_iff.1 h2).1
  have hjs:j<es.size:=by simpa using hjl
  have hsub:(es.eraseIdxIfInBounds j).toList=es.toList.eraseIdx j:=by
   unfold Array.eraseIdxIfInBounds
   rw [dif_pos hjs]
   simp
  have hap:=((stamped_iff es clock).1 st).2.2
  refine ⟨_,by simp [Builtin.delete_,run_underlying Tryz.underlying132,MapKept.run_getObj_map hb,keyed.check w _ hl,h1,MapKept.run_setObj_map _ hb,Result.andThen];rfl,⟨es.eraseIdxIfInBounds j,clock,heap_setBlock_same hb _,stamped_erase st j,?_,?_⟩,gb _,by simp [Go.ChangeMaps.setBlock]⟩
  ·intro e he
   rw [hsub,List.mem_eraseIdx_iff_getElem?] at he
   obtain ⟨i,hne,hi⟩:=he
   obtain ⟨t,d,ht,e1,e2,e3⟩:=F.is e (List.mem_of_getElem? hi)
   refine ⟨t,d,ht,e1,e2,?_⟩
   have:¬ t=s:=fun q=>by
    exact idx_key hap hi h2 hne (by rw [e1,q,h3])
   simp [delF,this,e3]
  ·intro t d ht
   unfold delF at ht
   split at ht
   ·cases ht
   ·rename_i q
    obtain ⟨e,he,r1,r2⟩:=F.all t d ht
    obtain ⟨i,hi⟩:=List.getElem?_of_mem he
    refine ⟨e,?_,r1,r2⟩
    rw [hsub,List.mem_eraseIdx_iff_getElem?]
    refine ⟨i,fun hij=>q ?_,hi⟩
    subst hij
    rw [h2] at hi
    cases hi
    exact encS_inj (r1.symm.trans h3)
end
def Ranges (w:World) (b r:Nat) (f:Int->Option Pg) (A:List (Int×Pg)) (cnt:Nat):Prop:=
 ∃ es clock since seen c0,w.heap[b]? = some (.map es clock)/\Stamped es clock/\Full es f/\w.heap[r]? = some (.mapIter (some b) since seen c0)/\(∀ x∈es.toList,x.born<since)/\since<=c0/\since<=clock /\
  (leftOf es seen).size=cnt/\(∀ p,p∈A↔∃ e∈es.toList,seen.contains e.born=true/\e.key=encS p.1/\e.val=encC p.2)/\A.Pairwise (fun p q=>p.1≠q.1)
section
variable {w:World} {b r:Nat} {f:Int->Option Pg} {A:List (Int×Pg)} {cnt:Nat}
theorem Ranges.map (h:Ranges w b r f A cnt):MapIs w b f:=by
 obtain ⟨es,clock,_,_,_,hb,st,F,_⟩:=h
 exact ⟨es,clock,hb,st,F⟩
end
end Go.Proofs.YtilnjnblpeeigaaGreatDoor.Ta
namespace Go.Proofs.YtilnjnblpeeigaaGreatDoor.Ta
open Go.Shelf
def keys_ren:Go.Shelf.Ren:=⟨fun | 7=>144 | 10=>203 | n=>n,fun | 23=>132 | 26=>3 | 3=>49 | 28=>244 | 0=>0 | 27=>243 | 33=>119 | 4=>4 | n=>n,fun | n=>n⟩
theorem keys_lays:Go.Proofs.SlLaysZI.n7 Tryz.prog keys_ren:={
 mixed:=by kernel_rfl
 f7:=⟨Tryz.f144.name,by decide,Tryz.func144.trans (congrArg some (by kernel_rfl))⟩
 f10:=⟨Tryz.f203.name,by decide,Tryz.func203.trans (congrArg some (by kernel_rfl))⟩
 t0:=Tryz.underlying0
 a0:=Tryz.isAgg0
 z0:=Tryz.sizeOf0
 v0:=Tryz.zeroValue0
 t4:=Tryz.underlying4
 a4:=Tryz.isAgg4
 z4:=Tryz.sizeOf4
 v4:=Tryz.zeroValue4
 t23:=Tryz.underlying132
 a23:=Tryz.isAgg132
 z23:=Tryz.sizeOf132
 v23:=Tryz.zeroValue132
 t26:=Tryz.underlying3
 a26:=Tryz.isAgg3
 z26:=Tryz.sizeOf3
 v26:=Tryz.zeroValue3
 t27:=Tryz.underlying243
 a27:=Tryz.isAgg243
 z27:=Tryz.sizeOf243
 v27:=Tryz.zeroValue243
 t28:=Tryz.underlying244
 a28:=Tryz.isAgg244
 z28:=Tryz.sizeOf244
 v28:=Tryz.zeroValue244
 t33:=Tryz.underlying119
 a33:=Tryz.isAgg119
 z33:=Tryz.sizeOf119
 v33:=Tryz.zeroValue119 }
def sorted_ren:Go.Shelf.Ren:=⟨fun | 6=>143 | 8=>201 | 9=>202 | 11=>236 | 13=>199 | 12=>237 | 23=>234 | 24=>235 | 14=>247 | 15=>248 | 16=>249 | 17=>250 | 18=>251 | 19=>252 | 20=>253 | 21=>254 | 22=>255 | 25=>258 | 26=>243 | 27=>244 | 28=>259 | 29=>260 | 30=>200 | 31=>262 | n=>n,fun | 26=>3 | 28=>244 | 24=>26 | 0=>0 | 3=>3 | 37=>254 | 48=>319 | 50=>32 | 4=>4 | 40=>313 | 39=>312 | 45=>42 | 5=>5 | 9=>9 | 51=>325 | 55=>275 | 57=>335 | 58=>336 | 33=>119 | n=>n,fun | n=>n⟩
theorem sorted_lays:Go.Proofs.SlLaysZI.n6 Tryz.prog sorted_ren:={
 mixed:=by kernel_rfl
 f6:=⟨Tryz.f143.name,by decide,Tryz.func143.trans (congrArg some (by kernel_rfl))⟩
 f8:=⟨Tryz.f201.name,by decide,Tryz.func201.trans (congrArg some (by kernel_rfl))⟩
 f11:=⟨Tryz.f236.name,by decide,Tryz.func236.trans (congrArg some (by kernel_rfl))⟩
 t0:=Tryz.underlying0
 a0:=Tryz.isAgg0
 z0:=Tryz.sizeOf0
 v0:=Tryz.zeroValue0
 t24:=Tryz.underlying26
 a24:=Tryz.isAgg26
 z24:=Tryz.sizeOf26
 v24:=Tryz.zeroValue26
 t26:=Tryz.underlying3
 a26:=Tryz.isAgg3
 z26:=Tryz.sizeOf3
 v26:=Tryz.zeroValue3
 t28:=Tryz.underlying244
 a28:=Tryz.isAgg244
 z28:=Tryz.sizeOf244
 v28:=Tryz.zeroValue244
 i26:=by kernel_rfl }
def sort_ren:Go.Shelf.Ren:=⟨fun | 5=>202 | 8=>199 | 7=>237 | 19=>234 | 20=>235 | 10=>247 | 11=>248 | 12=>249 | 13=>250 | 14=>251 | 15=>252 | 16=>253 | 17=>254 | 18=>255 | 30=>258 | 31=>243 | 32=>244 | 33=>259 | 34=>260 | 35=>200 | 40=>262 | n=>n,fun | 23=>26 | 25=>3 | 3=>3 | 32=>254 | 22=>26 | 0=>0 | 44=>319 | 46=>32 | 4=>4 | 36=>313 | 35=>312 | 41=>42 | 5=>5 | 9=>9 | 53=>325 | 57=>275 | 63=>335 | 64=>336 | n=>n,fun | n=>n⟩
theorem sort_lays:Go.Proofs.SlLaysM.n5 Tryz.prog sort_ren:={
 mixed:=by kernel_rfl
 f5:=⟨Tryz.f202.name,by decide,Tryz.func202.trans (congrArg some (by kernel_rfl))⟩
 f7:=⟨Tryz.f237.name,by decide,Tryz.func237.trans (congrArg some (by kernel_rfl))⟩
 f8:=Tryz.func199.trans (congrArg some (by kernel_rfl))
 f10:=⟨Tryz.f247.name,by decide,Tryz.func247.trans (congrArg some (by kernel_rfl))⟩
 f11:=⟨Tryz.f248.name,by decide,Tryz.func248.trans (congrArg some (by kernel_rfl))⟩
 f12:=⟨Tryz.f249.name,by decide,Tryz.func249.trans (congrArg some (by kernel_rfl))⟩
 f13:=⟨Tryz.f250.name,by decide,Tryz.func250.trans (congrArg some (by kernel_rfl))⟩
 f14:=⟨Tryz.f251.name,by decide,Tryz.func251.trans (congrArg some (by kernel_rfl))⟩
 f15:=⟨Tryz.f252.name,by decide,Tryz.func252.trans (congrArg some (by kernel_rfl))⟩
 f16:=⟨Tryz.f253.name,by decide,Tryz.func253.trans (congrArg some (by kernel_rfl))⟩
 f17:=⟨Tryz.f254.name,by decide,Tryz.func254.trans (congrArg some (by kernel_rfl))⟩
 f18:=⟨Tryz.f255.name,by decide,Tryz.func255.trans (congrArg some (by kernel_rfl))⟩
 f19:=Tryz.func234.trans (congrArg some (by kernel_rfl))
 f20:=Tryz.func235.trans (congrArg some (by kernel_rfl))
 f30:=⟨Tryz.f258.name,by decide,Tryz.func258.trans (congrArg some (by kernel_rfl))⟩
 f31:=Tryz.func243.trans (congrArg some (by kernel_rfl))
 f32:=Tryz.func244.trans (congrArg some (by kernel_rfl))
 f33:=⟨Tryz.f259.name,by decide,Tryz.func259.trans (congrArg some (by kernel_rfl))⟩
 f34:=⟨Tryz.f260.name,by decide,Tryz.func260.trans (congrArg some (by kernel_rfl))⟩
 f35:=⟨Tryz.f200.name,by decide,Tryz.func200.trans (congrArg some (by kernel_rfl))⟩
 f40:=⟨Tryz.f262.name,by decide,Tryz.func262.trans (congrArg some (by kernel_rfl))⟩
 t0:=Tryz.underlying0
 a0:=Tryz.isAgg0
 z0:=Tryz.sizeOf0
 v0:=Tryz.zeroValue0
 t3:=Tryz.underlying3
 a3:=Tryz.isAgg3
 z3:=Tryz.sizeOf3
 v3:=Tryz.zeroValue3
 t4:=Tryz.underlying4
 a4:=Tryz.isAgg4
 z4:=Tryz.sizeOf4
 v4:=Tryz.zeroValue4
 t5:=Tryz.underlying5
 a5:=Tryz.isAgg5
 z5:=Tryz.sizeOf5
 v5:=Tryz.zeroValue5
 t9:=Tryz.underlying9
 a9:=Tryz.isAgg9
 z9:=Tryz.sizeOf9
 v9:=Tryz.zeroValue9
 t22:=Tryz.underlying26
 a22:=Tryz.isAgg26
 z22:=Tryz.sizeOf26
 v22:=Tryz.zeroValue26
 t23:=Tryz.underlying26
 a23:=Tryz.isAgg26
 z23:=Tryz.sizeOf26
 v23:=Tryz.zeroValue26
 t25:=Tryz.underlying3
 a25:=Tryz.isAgg3
 z25:=Tryz.sizeOf3
 v25:=Tryz.zeroValue3
 t32:=Tryz.underlying254
 a32:=Tryz.isAgg254
 z32:=Tryz.sizeOf254
 v32:=Tryz.zeroValue254
 t35:=Tryz.underlying312
 a35:=Tryz.isAgg312
 z35:=Tryz.sizeOf312
 v35:=Tryz.zeroValue312
 t36:=Tryz.underlying313
 a36:=Tryz.isAgg313
 z36:=Tryz.sizeOf313
 v36:=Tryz.zeroValue313
 t41:=Tryz.underlying42
 a41:=Tryz.isAgg42
 z41:=Tryz.sizeOf42
 v41:=Tryz.zeroValue42
 t44:=Tryz.underlying319
 a44:=Tryz.isAgg319
 z44:=Tryz.sizeOf319
 v44:=Tryz.zeroValue319
 t46:=Tryz.underlying32
 a46:=Tryz.isAgg32
 z46:=Tryz.sizeOf32
 v46:=Tryz.zeroValue32
 t53:=Tryz.underlying325
 a53:=Tryz.isAgg325
 z53:=Tryz.sizeOf325
 v53:=Tryz.zeroValue325
 t57:=Tryz.underlying275
 a57:=Tryz.isAgg275
 z57:=Tryz.sizeOf275
 v57:=Tryz.zeroValue275
 t63:=Tryz.underlying335
 a63:=Tryz.isAgg335
 z63:=Tryz.sizeOf335
 v63:=Tryz.zeroValue335
 t64:=Tryz.underlying336
 a64:=Tryz.isAgg336
 z64:=Tryz.sizeOf336
 v64:=Tryz.zeroValue336 }
end Go.Proofs.YtilnjnblpeeigaaGreatDoor.Ta
namespace Go.Proofs.YtilnjnblpeeigaaGreatDoor.Ta
open Go.RowKit Go.Deep Go.MapKept Go.Maps Go.Shelf Go.Sort
open Go.WideShapes (sorted_perm)
open Go.WideElems (rd rg Fit rd_mk rg_of)
abbrev rdAny (_:Value):Option (DataW Unit×List MemPlace):=some (.nil,[])
theorem few {K:List Int} (hn:K.Nodup) (hk:∀ x∈K,0<=x/\x<4096):K.length<=4096:=by
 have hp:K.Perm (((List.range 4096).map fun n:Nat=>(n:Int)).filter fun x=>decide (x∈K)):=by
  refine (List.perm_ext_iff_of_nodup hn ?_).2 fun x=>?_
  ·refine List.Pairwise.filter _ ?_
   refine List.pairwise_map.2 ((List.nodup_range (n:=4096)).imp fun {a b} h e=>h (by omega))
  ·rw [List.mem_filter,List.mem_map]
   simp only [List.mem_range,decide_eq_true_eq]
   constructor
   ·intro h
    have:=hk x h
    exact ⟨⟨x.toNat,by omega,by omega⟩,h⟩
   ·exact fun h=>h.2
 rw [hp.length_eq]
 refine Nat.le_trans (List.length_filter_le _ _) ?_
 rw [List.length_map,List.length_range]
 exact Nat.le_refl _
theorem rg_int {e:MapEntry} {s:Int} (hs:I64 s) (hk:e.key=encS s):rd Tryz.prog 3 rdAny e=some (.int .i64 s,.nil):=by
 obtain ⟨key,val,born⟩:=e
 simp only at hk
 subst hk
 exact rd_mk (R:=rdAny) (yv:=(.nil,[])) (key_int hs) rfl
theorem keys_perm (l:List MapEntry) (g:MapEntry->Lit×DataW Unit):(intKeys (.map ((l.map g).foldr DataW.insert []))).Perm (l.map fun e=>Go.intOf (g e).1):=by
 have h:=(sorted_perm (l.map g)).map fun p=>Go.intOf p.1
 rw [List.map_map] at h
 exact h
theorem flat_ints:∀ L:List Int,flatK cI L=L.map encZ
 | []=>rfl
 | x::L=>by rw [flatK_cons,flat_ints L];rfl
theorem own_of {w:World} {b:Nat} {f:Int->Option Pg} (h:MapIs w b f) (hin:∀ n p,f n=some p->0<=n/\n<4096) :
  ∃ (D:DataW Unit) (nn:Nat),w.ownsMap Tryz.prog 3 rdAny b nn D/\Maps.size D<=4096/\(intKeys D).Nodup/\∀ x,x∈intKeys D↔(f x).isSome=true:=by
 obtain ⟨es,clock,hb,st,F⟩:=h
 have hrd:∀ e∈es.toList,∃ s p,I64 s/\e.key=encS s/\f s=some p/\rd Tryz.prog 3 rdAny e=some (.int .i64 s,.nil):=fun e he=>by
  obtain ⟨s,c,hs,ek,_,hf⟩:=F.is e he
  exact ⟨s,c,hs,ek,hf,rg_int hs ek⟩
 have hrg:∀ e∈es.toList,∃ s p,e.key=encS s/\f s=some p/\rg Tryz.prog 3 rdAny e=(.int .i64 s,.nil):=fun e he=>by
  obtain ⟨s,p,_,ek,hf,h1⟩:=hrd e he
  exact ⟨s,p,ek,hf,rg_of h1⟩
 have perm:((es.toList.map (rg Tryz.prog 3 rdAny)).foldr DataW.insert []).Perm (es.toList.map (rg Tryz.prog 3 rdAny)):=sorted_perm _
 have kp:(intKeys (.map ((es.toList.map (rg Tryz.prog 3 rdAny)).foldr DataW.insert []))).Perm (es.toList.map fun e=>Go.intOf (rg Tryz.prog 3 rdAny e).1):=by
  exact keys_perm _ _
 have hmem:∀ x,x∈es.toList.map (fun e=>Go.intOf (rg Tryz.prog 3 rdAny e).1)↔(f x).isSome=true:=fun x=>by
  rw [List.mem_map]
  constructor
  ·rintro ⟨e,he,rfl⟩
   obtain ⟨s,p,ek,hf,h1⟩:=hrg e he
   rw [h1]
   simp only [Go.intOf,hf,Option.isSome_some]
  ·intro hx
   obtain ⟨p,hp⟩:=Option.isSome_iff_exists.1 hx
   obtain ⟨e,he,ek,_⟩:=F.all x p hp
   obtain ⟨s,q,ek',hf,h1⟩:=hrg e he
   refine ⟨e,he,?_⟩
   rw [h1]
   exact encS_inj (ek'.symm.trans ek)
 have hnd:(es.toList.map fun e=>Go.intOf (rg Tryz.prog 3 rdAny e).1).Nodup:=by
  refine List.pairwise_map.2 (((stamped_iff es clock).1 st).2.2.imp_of_mem fun {x y} hx hy hne e=>hne ?_)
  obtain ⟨s,p,ek,_,h1⟩:=hrg x hx
  obtain ⟨s',p',ek',_,h1'⟩:=hrg y hy
  rw [h1,h1'] at e
  simp only [Go.intOf] at e
  rw [ek,ek',e]
 have hlen:es.toList.length<=4096:=by
  have:=few hnd fun x hx=>by
   obtain ⟨p,hp⟩:=Option.isSome_iff_exists.1 ((hmem x).1 hx)
   exact hin x p hp
  rw [List.length_map] at this
  exact this
 have hsz:es.size<=4096:=by simpa using hlen
 refine ⟨.map ((es.toList.map (rg Tryz.prog 3 rdAny)).foldr DataW.insert []),es.size,⟨es,clock,hb,⟨by unfold maxLen;omega,st,fun e he=>?_⟩,Nat.le_refl _,rfl⟩,?_,kp.nodup_iff.2 hnd,fun x=>by rw [kp.mem_iff];exact hmem x⟩
 ·obtain ⟨s,p,_,_,_,h1⟩:=hrd e he
  exact ⟨_,h1⟩
 ·rw [Maps.size_eq,perm.length_eq,List.length_map]
  exact hlen
def MapAt (w:World) (m:Option Nat) (f:Int->Option Pg):Prop:=(m=none/\∀ n,f n=none)\/∃ b,m=some b/\MapIs w b f
theorem MapAt.below {w w':World} {m:Option Nat} {f:Int->Option Pg} (h:MapAt w m f) (k:Below w.heap.size w w'):MapAt w' m f:=by
 rcases h with h | ⟨b,rfl,h⟩
 ·exact .inl h
 ·exact .inr ⟨b,rfl,h.of_block (k.block b h.lt)⟩
theorem keys_call (m:Option Nat) (w:World):Calls Tryz.prog 144 #[.map m] w fun e w'=>e = .returned (.func (.func 203) #[] #[.pointer (some ⟨w.heap.size,0,none⟩)])/\w'=w.alloc (.cells #[.map m] 132):=
 (callsIn_wide (n:=5)).1 (AnyZI.keys_in keys_lays Fence.wide 5 trivial rfl m w)
theorem sorts_in (m:Nat):AnyZI.SortsIn Tryz.prog sorted_ren Fence.wide m:=
 ⟨fun blk off cap ss W hH hblk hsz=>callsIn_wide.2 (AnyM.slices_Sort_int sort_lays blk off cap ss W hH hblk hsz),
   fun p cap W=>callsIn_wide.2 (AnyM.slices_Sort_int_none sort_lays p cap W)⟩
set_option maxHeartbeats 1000000 in
theorem sorted_call (m:Option Nat) (f:Int->Option Pg) (q:Nat) (w:World) (h:MapAt w m f) (hin:∀ n p,f n=some p->0<=n/\n<4096) (hq:q<w.heap.size) (hc:w.cell? ⟨q,0,none⟩=some (.map m)) :
  Calls Tryz.prog 143 #[.func (.func 203) #[] #[.pointer (some ⟨q,0,none⟩)]] w fun e w'=>∃ (v:Value) (K:List Int),e = .returned v/\K.Pairwise (· < ·)/\(∀ x,x∈K↔(f x).isSome=true)/\K.length<=4096/\RowI w' v K/\(∀ k,v.ownBlock=some k->w.heap.size<=k)/\Below w.heap.size w w':=by
 have done:∀ (v:Value) (ss ks:List Int) (w':World),ss.Perm ks->ks.Nodup->(∀ x,x∈ks↔(f x).isSome=true)->w'.ownsRow w.heap.size 3 1 v ss.length ((ss.mergeSort (fun x y=>decide (x<=y))).map encZ)->Below w.heap.size w w' ->
   ∃ (v':Value) (K:List Int),Ending.returned v = .returned v'/\K.Pairwise (· < ·)/\(∀ x,x∈K↔(f x).isSome=true)/\K.length<=4096/\RowI w' v' K/\(∀ k,v'.ownBlock=some k->w.heap.size<=k)/\Below w.heap.size w w':=by
  intro v ss ks w' hp hn hm hrow hb
  obtain ⟨h1,h2⟩:=sorted_rise hp hn
  have hl:(ss.mergeSort fun x y=>decide (x<=y)).length=ss.length:=(List.mergeSort_perm _ _).length_eq
  refine ⟨v,_,rfl,h1,fun x=>by rw [h2,hm],?_,?_,fun k hk=>(World.ownsRow.lt hrow k hk).1,hb⟩
  ·rw [hl,hp.length_eq]
   exact few hn fun x hx=>by
    obtain ⟨p,hp⟩:=Option.isSome_iff_exists.1 ((hm x).1 hx)
    exact hin x p hp
  ·have e:flatK cI (ss.mergeSort fun x y=>decide (x<=y))=(ss.mergeSort fun x y=>decide (x<=y)).map encZ:=by
    exact flat_ints _
   show w'.ownsRow 0 3 1 v _ (flatK cI _)
   rw [e,hl]
   exact own_low hrow
 refine (callsIn_wide (n:=5)).1 ?_
 rcases h with ⟨rfl,hn⟩ | ⟨b,rfl,hm⟩
 ·have hseq:SeqGives Fence.wide 2 Tryz.prog 203 #[.pointer (some ⟨q,0,none⟩)] encZ (fun ss:List Int=>ss=[]) 0 w:=
   AnyZI.keys_gives_nil (ρ:=keys_ren) { keys_lays with } Fence.wide _ trivial rfl q w hq hc
  have cS:=AnyZI.sorted_in sorted_lays Fence.wide 5 trivial trivial trivial trivial rfl (by omega) (sorts_in _) (enters_of Tryz.func202 (by kernel_rfl) rfl) 203 #[.pointer (some ⟨q,0,none⟩)] trivial (enters_of Tryz.func203 (by kernel_rfl) rfl) _ 0 (Nat.zero_le _) (by omega) _ hseq
  refine cS.mono ?_
  rintro e w' ⟨v,ss,rfl,rfl,hrow,_,hb⟩
  exact done v [] [] w' (List.Perm.refl _) List.nodup_nil (fun x=>by rw [hn];simp) hrow hb
 ·obtain ⟨D,nn,hown,hsz,hnd,hmem⟩:=own_of hm hin
  have hseq:SeqGives Fence.wide 2 Tryz.prog 203 #[.pointer (some ⟨q,0,none⟩)] encZ (fun ss=>ss.Perm (intKeys D)) (Maps.size D) w:=
   AnyZI.keys_gives (ρ:=keys_ren) { keys_lays with } Fence.wide _ trivial rfl (by omega) q b nn D w hq hc hown
  have cS:=AnyZI.sorted_in sorted_lays Fence.wide 5 trivial trivial trivial trivial rfl (by omega) (sorts_in _) (enters_of Tryz.func202 (by kernel_rfl) rfl) 203 #[.pointer (some ⟨q,0,none⟩)] trivial (enters_of Tryz.func203 (by kernel_rfl) rfl) _ _ (by unfold maxLen;omega) (by omega) _ hseq
  refine cS.mono ?_
  rintro e w' ⟨v,ss,rfl,hp,hrow,_,hb⟩
  exact done v ss _ w' hp hnd hmem hrow hb
end Go.Proofs.YtilnjnblpeeigaaGreatDoor.Ta
namespace Go.Proofs.YtilnjnblpeeigaaGreatDoor.Ta
open Go.RowKit Go.Deep Go.Shelf
def updN {α:Type} (f:Nat->α) (p:Nat) (v:α):Nat->α:=fun i=>if i=p then v else f i
theorem updN_at {α:Type} (f:Nat->α) (p:Nat) (v:α):updN f p v p=v:=if_pos rfl
theorem updN_ne {α:Type} (f:Nat->α) {p i:Nat} (v:α) (h:i≠p):updN f p v i=f i:=if_neg h
structure SpP (p:Nat) (m:Nat->Option Nat) (S:Sp) (w:World):Prop where
 head:∃ C:Array Value,w.heap[p]? = some (.cells C 136 (0,0))/\C.size=128/\∀ i:Nat,i<64->C[i]? = some (.map (m i))/\C[64+i]? = some (.int .i64 (hasN S i))
 is:∀ i:Nat,i<64->(m i).isSome=hasB S i
 maps:∀ i:Nat,i<64->MapAt w (m i) (atPl S.f i)
 one:∀ i j x,i<64->j<64->m i=some x->m j=some x->i=j
 ne:∀ i,i<64->m i≠some p
 good:Good S
def fpS (p:Nat) (m:Nat->Option Nat):Nat->Prop:=fun x=>x=p\/∃ i,i<64/\m i=some x
theorem MapAt.lt {w:World} {b:Nat} {f:Int->Option Pg} (h:MapAt w (some b) f):b<w.heap.size:=by
 rcases h with ⟨e,_⟩ | ⟨b',e,h⟩
 ·cases e
 ·cases e
  exact h.lt
theorem MapAt.is {w:World} {b:Nat} {f:Int->Option Pg} (h:MapAt w (some b) f):MapIs w b f:=by
 rcases h with ⟨e,_⟩ | ⟨b',e,h⟩
 ·cases e
 ·cases e
  exact h
theorem MapAt.keep {w w':World} {m:Option Nat} {f:Int->Option Pg} (h:MapAt w m f) (k:∀ b,m=some b->w'.heap[b]? = w.heap[b]?):MapAt w' m f:=by
 rcases h with h | ⟨b,rfl,h⟩
 ·exact .inl h
 ·exact .inr ⟨b,rfl,h.of_block (k b rfl)⟩
theorem MapAt.congr {w:World} {m:Option Nat} {f g:Int->Option Pg} (h:MapAt w m f) (e:∀ n,g n=f n):MapAt w m g:=by
 obtain rfl:g=f:=funext e
 exact h
section
variable {p:Nat} {m:Nat->Option Nat} {S:Sp} {w w':World}
theorem SpP.lt (h:SpP p m S w):p<w.heap.size:=by
 obtain ⟨C,hC,_⟩:=h.head
 exact (Array.getElem?_eq_some_iff.1 hC).1
theorem SpP.fp_lt (h:SpP p m S w):∀ x,fpS p m x->x<w.heap.size:=by
 rintro x (rfl | ⟨i,hi,hx⟩)
 ·exact h.lt
 ·have:=h.maps i hi
  rw [hx] at this
  exact this.lt
theorem SpP.keep (h:SpP p m S w) (k:∀ x,fpS p m x->w'.heap[x]? = w.heap[x]?):SpP p m S w':=by
 obtain ⟨C,hC,r⟩:=h.head
 exact ⟨⟨C,(k p (.inl rfl)).trans hC,r⟩,h.is,fun i hi=>(h.maps i hi).keep fun b hb=>k b (.inr ⟨i,hi,hb⟩),h.one,h.ne,h.good⟩
end
def spT (p:Nat) (m:Nat->Option Nat) (S:Sp):Th where
 F:=fpS p m
 H:=SpP p m S
 lt:=fun _ h=>h.fp_lt
 keep:=fun _ _ h k=>h.keep k
section
variable {p:Nat} {m:Nat->Option Nat} {S:Sp} {w w':World}
theorem SpP.below (h:SpP p m S w) (k:Below w.heap.size w w'):SpP p m S w':=(spT p m S).below h k
theorem SpP.cell (h:SpP p m S w) {i:Nat} (hi:i<64):w.cell? ⟨p,i,none⟩=some (.map (m i)):=by
 obtain ⟨C,hC,h0,h1⟩:=h.head
 simp [World.cell?,hC,(h1 i hi).1]
theorem SpP.cellN (h:SpP p m S w) {i:Nat} (hi:i<64):w.cell? ⟨p,64+i,none⟩=some (.int .i64 (hasN S i)):=by
 obtain ⟨C,hC,h0,h1⟩:=h.head
 simp [World.cell?,hC,(h1 i hi).2]
theorem SpP.frozen (h:SpP p m S w) (j:Nat):w.frozen? ⟨p,j,none⟩=false:=by
 obtain ⟨C,hC,_⟩:=h.head
 simp [World.frozen?,hC]
theorem SpP.in64 (h:SpP p m S w) {i:Nat}:∀ n q,atPl S.f i n=some q->0<=n/\n<4096:=by
 intro n q hq
 unfold atPl at hq
 split at hq
 ·have:=h.good.f n q hq
  exact ⟨this.1,this.2.1⟩
 ·cases hq
theorem SpP.put (h:SpP p m S w) {i:Nat} (hi:i<64) {mo:Option Nat} {T:Sp}
  (hC:∀ C:Array Value,w.heap[p]? = some (.cells C 136 (0,0))->w'.heap[p]? = some (.cells ((C.set! i (.map mo)).set! (64+i) (.int .i64 (hasN T i))) 136 (0,0)))
  (ho:∀ x,x<w.heap.size->x≠p->w'.heap[x]? = w.heap[x]?) (hn:∀ b,mo=some b->w.heap.size<=b) (hm:MapAt w' mo (atPl T.f i)) (his:mo.isSome=hasB T i)
  (ht:∀ j:Nat,j≠i->T.t j=S.t j) (hf:∀ (j:Nat) n,j≠i->atPl T.f j n=atPl S.f j n) (g:Good T):SpP p (updN m i mo) T w':=by
 obtain ⟨C,hC1,h0,h1⟩:=h.head
 refine ⟨⟨_,hC C hC1,by simpa using h0,fun j hj=>?_⟩,fun j hj=>?_,fun j hj=>?_,fun j k x hj hk hx hy=>?_,fun j hj hp=>?_,g⟩
 ·have a1:i<C.size:=by omega
  have a2:64+i<C.size:=by omega
  by_cases e:j=i
  ·subst e
   rw [updN_at]
   constructor
   ·simp [a1]
   ·simp [a2]
  ·rw [updN_ne _ _ e]
   have e1:¬ 64+i=j:=by omega
   have e2:¬ i=j:=fun x=>e x.symm
   have e3:¬ i=64+j:=by omega
   have e5:hasN T j=hasN S j:=by unfold hasN;rw [ht j e]
   constructor
   ·simp [e1,e2,(h1 j hj).1]
   ·simp [e3,e2,(h1 j hj).2,e5]
 ·by_cases e:j=i
  ·subst e
   rw [updN_at,his]
  ·rw [updN_ne _ _ e,h.is j hj]
   unfold hasB
   rw [ht j e]
 ·by_cases e:j=i
  ·subst e
   rw [updN_at]
   exact hm
  ·rw [updN_ne _ _ e]
   refine ((h.maps j hj).keep fun b hb=>ho b ?_ ?_).congr fun n=>hf j n e
   ·have:=h.maps j hj
    rw [hb] at this
    exact this.lt
   ·intro e2
    exact h.ne j hj (by rw [hb,e2])
 ·have old:∀ j x,j<64->m j=some x->x<w.heap.size:=fun j x hj hx=>by
   have:=h.maps j hj
   rw [hx] at this
   exact this.lt
  by_cases e:j=i
  ·by_cases e2:k=i
   ·rw [e,e2]
   ·rw [e,updN_at] at hx
    rw [updN_ne _ _ e2] at hy
    have:=hn x hx
    have:=old k x hk hy
    omega
  ·rw [updN_ne _ _ e] at hx
   by_cases e2:k=i
   ·rw [e2,updN_at] at hy
    have:=hn x hy
    have:=old j x hj hx
    omega
   ·rw [updN_ne _ _ e2] at hy
    exact h.one j k x hj hk hx hy
 ·by_cases e:j=i
  ·rw [e,updN_at] at hp
   have:=hn p hp
   have:=h.lt
   omega
  ·rw [updN_ne _ _ e] at hp
   exact h.ne j hj hp
theorem SpP.mapped (h:SpP p m S w) {i b:Nat} (hi:i<64) (hb:m i=some b) {f' g':Int->Option Pg} (hm:MapIs w' b g') (g:w.grownBy w' (some b)) (hg:∀ n,atPl f' i n=g' n) (hf:∀ (j:Nat) n,j≠i->atPl f' j n=atPl S.f j n) (gd:Good ⟨S.t,f'⟩):SpP p m ⟨S.t,f'⟩ w'/\Turn (fpS p m) w w':=by
 have hpb:p≠b:=fun e=>h.ne i hi (by rw [hb,e])
 obtain ⟨C,hC,h0,h1⟩:=h.head
 refine ⟨⟨⟨C,(g.block p h.lt fun e=>hpb (by cases e;rfl)).trans hC,h0,h1⟩,h.is,fun j hj=>?_,h.one,h.ne,gd⟩,Turn.grown g fun k hk=>.inl ?_⟩
 ·by_cases e:j=i
  ·subst e
   rw [hb]
   exact .inr ⟨b,rfl,hm.congr hg⟩
  ·refine ((h.maps j hj).keep fun c hc=>g.block c ?_ ?_).congr fun n=>hf j n e
   ·have:=h.maps j hj
    rw [hc] at this
    exact this.lt
   ·intro e2
    cases e2
    exact e (h.one j i b hj hi hc hb)
 ·cases hk
  exact .inr ⟨i,hi,hb⟩
end
def cL (x:La):List Value:=[.int .i64 x.1,.int .i64 x.2.fr,.int .i64 x.2.rt]
def elL:El La:=⟨51,46,3,24,cL⟩
theorem infoL:(Tryz.prog.info? 51).map (fun i=>(i.zero,i.size,i.bytes))=some (some (.agg #[.int .i64 0,.int .i64 0,.int .i64 0]),3,24):=by kernel_rfl
theorem okL:El.Ok elL:=⟨Tryz.underlying46,info_of infoL rfl,by decide,by decide,fun _=>rfl,by simp [elL,cL,Value.oneCell']⟩
abbrev lstL (v:Value) (L:List La):Th:=lst elL v L
end Go.Proofs.YtilnjnblpeeigaaGreatDoor.Ta
namespace Go.Proofs.YtilnjnblpeeigaaGreatDoor.Ta
open Go.RowKit Go.Deep Go.Shelf
set_option maxRecDepth 100000 in
set_option maxHeartbeats 2000000 in
theorem laid_any (mo:Option Nat) (S:Sp) (i:Nat) (w:World) (h:MapAt w mo (atPl S.f i)) (hin:∀ n q,atPl S.f i n=some q->0<=n/\n<4096) :
  Calls Tryz.prog 90 #[.map mo] w fun e w'=>∃ v,e = .returned v/\Sep w w.heap.size w' [lstL v (plP S.f i)]:=by
 have HM:=hid h
 have HI:=hid hin
 clear h hin
 go_enter Tryz.func90,Tryz.ntmps90
 go_wp2_with (first
  | (go_at_call 144;refine Calls.mono (keys_call mo _) ?_;rintro e w1 ⟨rfl,rfl⟩)
  | (go_at_call 143;refine Calls.mono (sorted_call mo (atPl S.f i) w.heap.size _ (MapAt.below HM.out (below_new _ _)) HI.out (by simp) (by have:=blk_alloc_new w (.cells #[.map mo] 132);simp only [World.cell?];rw [this];rfl)) ?_;rintro e w2 ⟨v,K,rfl,k1,k2,k3,row,own,bel⟩;have HB:Hid (Below w.heap.size w w2):=Below.then (below_new _ _) bel (by simp);have HO:Hid (∀ k,v.ownBlock=some k->w.heap.size<=k):=(fun k hk=>Nat.le_trans (by simp) (own k hk));clear bel own;obtain ⟨ao,cap,rfl,-⟩:=Row.slice row;have HS:Hid (Sep w w.heap.size w2 [lstI (.slice ao K.length cap) K]):=(sep_nil w).new (t:=lstI (.slice ao K.length cap) K) row HB.out HO.out;have HK:=hid (And.intro k1 (And.intro k2 k3));clear row HB HO k1 k2 k3;generalize hN:K.length=N at *;have HN:=hid hN;clear hN))
 go_loopw [3,10] (fun v3 v10 wr=>∃ k:Nat,k<=N/\v10 = .int .i64 k/\Sep w w.heap.size wr [lstL v3 ((K.take k).map fun k=>(k,(atPl S.f i k).getD pg0)),lstI (.slice ao N cap) K]) (fun _ v10 _=>N - (intOf v10).toNat)
 case atStart=>exact ⟨0,Nat.zero_le _,rfl,HS.out.nil⟩
 case round =>
  obtain ⟨k,hk,rfl,s2⟩:=hrel
  have hN4:N<=4096:=by have:=HK.out.2.2;have:=HN.out;omega
  by_cases hlt:k<N
  ·have hltz:(k:Int)<(N:Int):=by omega
   have hk1:k<K.length:=by have:=HN.out;omega
   obtain ⟨x,hx⟩:∃ x,K[k]? = some x:=⟨_,List.getElem?_eq_getElem hk1⟩
   obtain ⟨q,rfl,hc⟩:=s2.listAt okI (ao:=ao) (n:=N) (cap:=cap) (A:=K) (by simp) hx
   have d0:wr.cell? ⟨q,k,none⟩=some (.int .i64 x):=by have:=hc 0 _ rfl;simpa [elI] using this
   have hxK:x∈K:=List.mem_of_getElem? hx
   have hsome:=(HK.out.2.1 x).1 hxK
   obtain ⟨y,hy⟩:=Option.isSome_iff_exists.1 hsome
   have hxr:=HI.out x y hy
   obtain ⟨b,rfl,hm⟩:∃ b,mo=some b/\MapIs wr b (atPl S.f i):=by
    rcases MapAt.below HM.out s2.low with ⟨_,hn⟩ | h
    ·rw [hn x] at hy
     cases hy
    ·exact h
   have hlk:=hm.look (s:=x) (by unfold I64;omega) false
   rw [hy] at hlk
   simp only [encC,encS,Option.getD_some,Bool.false_eq_true,if_false] at hlk
   have HT:Hid ((K.take (k+1)).map (fun k=>(k,(atPl S.f i k).getD pg0))=(K.take k).map (fun k=>(k,(atPl S.f i k).getD pg0))++[(x,y)]):=by
    show _=_
    rw [List.take_add_one,hx,List.map_append]
    simp [hy]
   obtain ⟨v4,w4,r4,s4⟩:=s2.more okL 46 (x,y) (C:=#[.int .i64 x,.int .i64 y.fr,.int .i64 y.rt]) rfl (by rw [List.length_map,List.length_take];have:=HK.out.2.2;have:=HN.out;omega)
   obtain ⟨a5,c5,rfl⟩:=s2.listIs (E:=elL) (v:=u3) (A:=(K.take k).map fun k=>(k,(atPl S.f i k).getD pg0)) (by simp)
   simp only [elL] at r4
   have R4:=hid r4
   have S4:=hid s4
   clear s2 s4 r4 hc hx hk1 hxK hsome hy hm
   generalize ((K.take k).map fun k=>(k,(atPl S.f i k).getD pg0)).length=n at *
   go_wp2_with (at_builtin;refine wpList_append_run rfl _ _ _ _ rfl _ _ _ _ rfl rfl R4.out ?_)
   go_roundw
   case rel=>exact ⟨k+1,by omega,by go_num,by rw [HT.out];exact S4.out⟩
   case measure=>simp [intOf];omega
  ·have hltz:¬ (k:Int)<(N:Int):=by omega
   have e1:K.take k=K:=List.take_of_length_le (by have:=HN.out;omega)
   rw [e1,laid_is HK.out.1 HK.out.2.1] at s2
   have S2:=hid s2.drop2
   clear s2 e1
   go_wp2
   go_ret
   exact ⟨_,rfl,S2.out⟩
end Go.Proofs.YtilnjnblpeeigaaGreatDoor.Ta
namespace Go.Proofs.YtilnjnblpeeigaaGreatDoor.Ta
def onesI (n:Int):Int:=2 ^ n.toNat - 1
def fieldN (v a n:Nat):Nat:=v / 2 ^ a % 2 ^ n
def fieldI (v a n:Int):Int:=((fieldN v.toNat a.toNat n.toNat:Nat):Int)
theorem pow_le (n:Nat) (h:n<=64):2 ^ n<=18446744073709551616:=by
 have:=Nat.pow_le_pow_right (n:=2) (by omega) h
 simpa using this
theorem pow_pos (n:Nat):0<2 ^ n:=Nat.pow_pos (by omega)
theorem ones_cast (n:Nat):onesI (n:Int)=((2 ^ n - 1:Nat):Int):=by
 have:=pow_pos n
 unfold onesI
 simp only [Int.toNat_natCast]
 rw [Int.natCast_sub (by omega)]
 simp
theorem ones_wrap (n:Int) (h0:0<=n) (h1:n<=64):IntKind.u64.wrap (IntKind.u64.wrap (2 ^ n.toNat) - 1)=onesI n:=by
 obtain ⟨m,rfl⟩:=Int.eq_ofNat_of_zero_le h0
 rw [ones_cast,IntKind.wrap_u64,IntKind.wrap_u64]
 have h:=pow_le m (by omega)
 have h2:=pow_pos m
 have e:(2:Int) ^ (m:Int).toNat=((2 ^ m:Nat):Int):=by simp
 rw [e]
 omega
theorem field_bits (v a n:Int) (v0:0<=v) (v1:v<=18446744073709551615) (a0:0<=a) (n0:0<=n) (n1:n<=64) :
  bits .and .u64 (v / 2 ^ a.toNat) (onesI n)=fieldI v a n:=by
 obtain ⟨V,rfl⟩:=Int.eq_ofNat_of_zero_le v0
 obtain ⟨A,rfl⟩:=Int.eq_ofNat_of_zero_le a0
 obtain ⟨M,rfl⟩:=Int.eq_ofNat_of_zero_le n0
 have h:=pow_le M (by omega)
 have e:((V:Int) / 2 ^ (A:Int).toNat)=((V / 2 ^ A:Nat):Int):=by simp
 have hd:V / 2 ^ A<=V:=Nat.div_le_self _ _
 rw [e,ones_cast,u64_and_nat _ _ (by omega) (by omega),Nat.and_two_pow_sub_one_eq_mod]
 simp [fieldI,fieldN]
end Go.Proofs.YtilnjnblpeeigaaGreatDoor.Ta
namespace Go.Proofs.YtilnjnblpeeigaaGreatDoor.Ta
open Go.RowKit
theorem ret_two {k j:IntKind} {a b c d:Int} (h:a=b) (g:c=d):Ending.returned (.tuple #[.int k a,.int j c]) = .returned (.tuple #[.int k b,.int j d]):=by rw [h,g]
theorem ones_any (n:Int) (w:World) (h0:0<=n) (h1:n<=64) :
  Calls Tryz.prog 207 #[.int .i64 n] w fun e w'=>e = .returned (.int .u64 (onesI n))/\w'=w:=by
 go_enter Tryz.func207,Tryz.ntmps207
 go_wp2
 go_ret
 exact ⟨ret_int (ones_wrap n h0 h1),rfl⟩
theorem within_yes (a n:Int) (w:World) (h0:0<=a) (h1:0<=n) (h2:n<=64 - a) :
  Calls Tryz.prog 206 #[.int .i64 a,.int .i64 n] w fun e w'=>e = .returned (.bool true)/\w'=w:=by
 go_enter Tryz.func206,Tryz.ntmps206
 go_wp2
 go_ret
 exact ⟨rfl,rfl⟩
theorem field_yes (v a n:Int) (w:World) (v0:0<=v) (v1:v<=18446744073709551615) (h0:0<=a) (h1:0<=n) (h2:n<=64 - a) :
  Calls Tryz.prog 152 #[.int .u64 v,.int .i64 a,.int .i64 n] w fun e w'=>e = .returned (.tuple #[.int .u64 (fieldI v a n),.int .i64 0])/\w'=w:=by
 go_enter Tryz.func152,Tryz.ntmps152
 go_wp2_with (first | (go_at_call 207;refine (ones_any _ _ (by omega) (by omega)).mono ?_;rintro e w' ⟨rfl,rfl⟩) | (go_at_call 206;refine (within_yes _ _ _ (by omega) (by omega) (by omega)).mono ?_;rintro e w' ⟨rfl,rfl⟩))
 go_ret2
 exact ⟨ret_two (field_bits v a n v0 v1 h0 h1 (by omega)) rfl,rfl⟩
theorem place_of (N:Nat) (hN:N<4096) (w:World):Calls Tryz.prog 152 #[.int .u64 (N:Int),.int .i64 6,.int .i64 6] w fun e w'=>e = .returned (.tuple #[.int .u64 ((N / 64:Nat):Int),.int .i64 0])/\w'=w:=by
 refine Calls.mono (field_yes (N:Int) 6 6 w (by omega) (by omega) (by omega) (by omega) (by omega)) ?_
 rintro e w' ⟨rfl,rfl⟩
 refine ⟨ret_two ?_ rfl,rfl⟩
 unfold fieldI fieldN
 have e1:(6:Int).toNat=6:=rfl
 rw [e1,Int.toNat_natCast]
 congr 1
 have:N / 2 ^ 6<2 ^ 6:=by omega
 rw [Nat.mod_eq_of_lt this]
end Go.Proofs.YtilnjnblpeeigaaGreatDoor.Ta
namespace Go.Proofs.YtilnjnblpeeigaaGreatDoor.Ta
open Go.RowKit Go.Deep Go.Shelf
theorem isPlace_yes (i:Int) (w:World) (h0:0<=i) (h1:i<64):Calls Tryz.prog 193 #[.int .i64 i] w fun e w'=>e = .returned (.bool true)/\w'=w:=by
 go_enter Tryz.func193,Tryz.ntmps193
 go_wp2
 go_ret
 exact ⟨rfl,rfl⟩
theorem isPlace_no (i:Int) (w:World) (h:i<0\/64<=i):Calls Tryz.prog 193 #[.int .i64 i] w fun e w'=>e = .returned (.bool false)/\w'=w:=by
 rcases h with h | h
 ·have h':¬ 0<=i:=by omega
  go_enter Tryz.func193,Tryz.ntmps193
  go_wp2
  go_ret
  exact ⟨rfl,rfl⟩
 ·have h0:0<=i:=by omega
  have h':¬ i<64:=by omega
  go_enter Tryz.func193,Tryz.ntmps193
  go_wp2
  go_ret
  exact ⟨rfl,rfl⟩
theorem map_nil (w:World):(binOp .eql 132 (.map none) (.map none)).run Tryz.prog w = .ok (.bool true) w:=run_eql_map_nil_sl w 132 _ _ none Tryz.underlying132
theorem map_is (w:World) (b:Nat):(binOp .eql 132 (.map (some b)) (.map none)).run Tryz.prog w = .ok (.bool false) w:=run_eql_map_nil_sl w 132 _ _ (some b) Tryz.underlying132
theorem map_not (w:World) (r:Option Nat):(binOp .neq 132 (.map r) (.map none)).run Tryz.prog w = .ok (.bool (!r.isNone)) w:=by
 simp only [binOp]
 simp [show Op.equal 132 (.map r) (.map none)=Op.equalIn (9999+1) 132 (.map r) (.map none) from rfl,run_equalIn_map_nil_sl w 9999 132 _ _ r Tryz.underlying132]
theorem map_not_nil (w:World):(binOp .neq 132 (.map none) (.map none)).run Tryz.prog w = .ok (.bool false) w:=map_not w none
theorem map_not_is (w:World) (b:Nat):(binOp .neq 132 (.map (some b)) (.map none)).run Tryz.prog w = .ok (.bool true) w:=map_not w (some b)
set_option maxRecDepth 100000 in
theorem zero_space:∃ zs:Array Value,zs.size=128/\(∀ i,i<64->zs[i]? = some (.map none)/\zs[64+i]? = some (.int .i64 0))/\∀ w,(zeroValue 136).run Tryz.prog w = .ok (.agg zs) w:=by
 refine ⟨(List.replicate 64 (Value.map none)++List.replicate 64 (Value.int .i64 0)).toArray,by simp,fun i hi=>⟨?_,?_⟩,fun w=>by kernel_rfl⟩
 ·rw [List.getElem?_toArray,List.getElem?_append_left (by simpa using hi),List.getElem?_replicate,if_pos hi]
 ·rw [List.getElem?_toArray,List.getElem?_append_right (by simp),List.length_replicate,Nat.add_sub_cancel_left,List.getElem?_replicate,if_pos hi]
theorem new_space (w:World) (zs:Array Value) (h0:zs.size=128) (h1:∀ i,i<64->zs[i]? = some (.map none)/\zs[64+i]? = some (.int .i64 0)):SpP w.heap.size (fun _=>none) sp0 (w.alloc (.cells zs 136)):=
 ⟨⟨zs,blk_alloc_new _ _,h0,h1⟩,fun _ _=>rfl,fun i _=>.inl ⟨rfl,fun n=>by unfold atPl sp0;simp⟩,fun _ _ _ _ _ h=>(by cases h),fun _ _ h=>(by cases h),good0⟩
section
variable {w0 w:World} {r p:Nat} {m:Nat->Option Nat} {S:Sp} {R:List Th}
set_option maxHeartbeats 1000000 in
theorem new_sep (s:Sep w0 r w R):Calls Tryz.prog 25 #[] w fun e w'=>∃ p m,e = .returned (ptr p)/\Sep w0 r w' (spT p m sp0::R):=by
 obtain ⟨zs,h0,h1,hz⟩:=zero_space
 have HK:Hid (Sep w0 r (w.alloc (.cells zs 136)) (spT w.heap.size (fun _=>none) sp0::R)):=s.new (t:=spT w.heap.size (fun _=>none) sp0) (new_space w zs h0 h1) (below_new _ _) (by
  rintro x (rfl | ⟨i,_,hx⟩)
  ·exact Nat.le_refl _
  ·cases hx)
 clear h1 s
 go_enter Tryz.func25,Tryz.ntmps25
 go_wp2
 go_ret
 exact ⟨_,_,rfl,HK.out⟩
theorem tableOf_bad (n:Int) (h:n<0\/4096<=n) (w:World):Calls Tryz.prog 196 #[ptr p,.int .i64 n] w fun e w'=>e = .returned (.tuple #[.map none,.int .i64 1])/\w'=w:=by
 rcases h with h | h
 ·go_enter Tryz.func196,Tryz.ntmps196
  go_wp2
  go_ret2
  exact ⟨rfl,rfl⟩
 ·have h0:¬ n<0:=by omega
  go_enter Tryz.func196,Tryz.ntmps196
  go_wp2
  go_ret2
  exact ⟨rfl,rfl⟩
def tofE (mo:Option Nat):Int:=if mo.isSome=true then 0 else 141
set_option maxRecDepth 100000 in
theorem tableOf_at (h:SpP p m S w) (N:Nat) (hN:N<4096):Calls Tryz.prog 196 #[ptr p,.int .i64 (N:Int)] w fun e w'=>e = .returned (.tuple #[.map (m (N / 64)),.int .i64 (tofE (m (N / 64)))])/\w'=w:=by
 have hi:N / 64<64:=by omega
 have hc:=h.cell hi
 have h0:¬ (N:Int)<0:=by omega
 have h1:¬ 4096<=(N:Int):=by omega
 have hu:IntKind.u64.wrap (N:Int)=(N:Int):=by rw [IntKind.wrap_u64];omega
 have HP:=hid (place_of N hN)
 clear h
 generalize N / 64=i at *
 have hi2:(i:Int)<64:=by omega
 cases hm:m i with
 | none =>
  rw [hm] at hc
  have hq:=map_nil
  go_enter Tryz.func196,Tryz.ntmps196
  go_wp2_with (go_at_call 152;refine Calls.mono (HP.out _) ?_;rintro e w' ⟨rfl,rfl⟩)
  go_ret2
  exact ⟨rfl,rfl⟩
 | some b =>
  rw [hm] at hc
  have hq:=fun w=>map_is w b
  go_enter Tryz.func196,Tryz.ntmps196
  go_wp2_with (go_at_call 152;refine Calls.mono (HP.out _) ?_;rintro e w' ⟨rfl,rfl⟩)
  go_ret2
  exact ⟨rfl,rfl⟩
theorem mapped_bad (n:Int) (h:n<0\/4096<=n) (w:World):Calls Tryz.prog 197 #[ptr p,.int .i64 n] w fun e w'=>e = .returned (.tuple #[.map none,.agg #[.int .i64 0,.int .i64 0],.int .i64 1])/\Below w.heap.size w w':=by
 have HP:=hid (fun w=>tableOf_bad (p:=p) n h w)
 clear h
 go_enter Tryz.func197,Tryz.ntmps197
 go_wp2_with (go_at_call 196;refine Calls.mono (HP.out _) ?_;rintro e w' ⟨rfl,rfl⟩)
 exact bodyPost_ret (v:=.tuple #[.map none,.agg #[.int .i64 0,.int .i64 0],.int .i64 1]) (by simp [results,Tryz.results197,go_sem]) rfl ⟨rfl,below_new _ _⟩
set_option maxHeartbeats 1000000 in
set_option maxRecDepth 100000 in
theorem mapped_none (h:SpP p m S w) (N:Nat) (hN:N<4096) (hf:S.f N=none):Calls Tryz.prog 197 #[ptr p,.int .i64 (N:Int)] w fun e w'=>e = .returned (.tuple #[.map none,.agg #[.int .i64 0,.int .i64 0],.int .i64 141])/\Below w.heap.size w w':=by
 have HP:=hid (fun (u:World) (b:Below w.heap.size w u)=>tableOf_at (h.below b) N hN)
 have hi:N / 64<64:=by omega
 have HM:=hid (fun (u:World) (b:Below w.heap.size w u)=>(h.below b).maps (N / 64) hi)
 clear h
 have hfa:atPl S.f ((N / 64:Nat):Int) (N:Int)=none:=by unfold atPl;split <;> simp [hf]
 generalize N / 64=i at *
 generalize atPl S.f (i:Int)=g at *
 cases hm:m i with
 | none =>
  rw [hm] at HP
  simp only [tofE,Option.isSome_none,Bool.false_eq_true,if_false] at HP
  go_enter Tryz.func197,Tryz.ntmps197
  go_wp2_with (go_at_call 196;refine Calls.mono (HP.out _ (below_new _ _)) ?_;rintro e w' ⟨rfl,rfl⟩)
  exact bodyPost_ret (v:=.tuple #[.map none,.agg #[.int .i64 0,.int .i64 0],.int .i64 141]) (by simp [results,Tryz.results197,go_sem]) rfl ⟨rfl,below_new _ _⟩
 | some b =>
  rw [hm] at HP HM
  simp only [tofE,Option.isSome_some,if_true] at HP
  have hlk:=fun (u:World) (k:Below w.heap.size w u)=>(HM.out u k).is.look (s:=(N:Int)) (by unfold I64;omega) true
  rw [hfa] at hlk
  simp only [encC,encS,pg0,Option.getD_none,Option.isSome_none,if_true] at hlk
  have hl1:=hlk _ (below_new w (.cells #[.int .i64 0,.int .i64 0] 49))
  clear hlk HM
  go_enter Tryz.func197,Tryz.ntmps197
  go_wp2_with (go_at_call 196;refine Calls.mono (HP.out _ (below_new _ _)) ?_;rintro e w' ⟨rfl,rfl⟩)
  exact bodyPost_ret (v:=.tuple #[.map none,.agg #[.int .i64 0,.int .i64 0],.int .i64 141]) (by simp [results,Tryz.results197,go_sem]) rfl ⟨rfl,Below.then (below_new _ _) (below_new _ _) (by simp)⟩
set_option maxHeartbeats 1000000 in
set_option maxRecDepth 100000 in
theorem mapped_some (h:SpP p m S w) (N:Nat) (hN:N<4096) {x:Pg} (hf:S.f N=some x):Calls Tryz.prog 197 #[ptr p,.int .i64 (N:Int)] w fun e w'=>e = .returned (.tuple #[.map (m (N / 64)),.agg #[.int .i64 x.fr,.int .i64 x.rt],.int .i64 0])/\Below w.heap.size w w':=by
 have HP:=hid (fun (u:World) (b:Below w.heap.size w u)=>tableOf_at (h.below b) N hN)
 have hi:N / 64<64:=by omega
 have HM:=hid (fun (u:World) (b:Below w.heap.size w u)=>(h.below b).maps (N / 64) hi)
 have hfa:atPl S.f ((N / 64:Nat):Int) (N:Int)=some x:=by unfold atPl;rw [if_pos (by omega)];exact hf
 obtain ⟨b,hm⟩:∃ b,m (N / 64)=some b:=by
  have h1:=(h.good.f _ _ hf).2.2
  have h2:=h.is (N / 64) hi
  unfold hasB at h2
  rw [show ((N / 64:Nat):Int)=(N:Int) / 64 by omega,h1] at h2
  exact Option.isSome_iff_exists.1 h2
 rw [hm] at HP HM ⊢
 clear h hf
 generalize N / 64=i at *
 generalize atPl S.f (i:Int)=g at *
 simp only [tofE,Option.isSome_some,if_true] at HP
 have hlk:=fun (u:World) (k:Below w.heap.size w u)=>(HM.out u k).is.look (s:=(N:Int)) (by unfold I64;omega) true
 rw [hfa] at hlk
 simp only [encC,encS,Option.getD_some,Option.isSome_some,if_true] at hlk
 have hl1:=hlk _ (below_new w (.cells #[.int .i64 0,.int .i64 0] 49))
 clear hlk HM hfa
 obtain ⟨a,c⟩:=x
 simp only at hl1 ⊢
 go_enter Tryz.func197,Tryz.ntmps197
 go_wp2_with (go_at_call 196;refine Calls.mono (HP.out _ (below_new _ _)) ?_;rintro e w' ⟨rfl,rfl⟩)
 go_region
 go_wp2
 exact bodyPost_ret (v:=.tuple #[.map (some b),.agg #[.int .i64 a,.int .i64 c],.int .i64 0]) (by simp [results,Tryz.results197,go_sem]) rfl ⟨rfl,(Below.then (below_new _ _) (below_new _ _) (by simp)).drew⟩
end
end Go.Proofs.YtilnjnblpeeigaaGreatDoor.Ta
namespace Go.Proofs.YtilnjnblpeeigaaGreatDoor.Ta
open Go.RowKit Go.Deep Go.Shelf
section
variable {w0 w:World} {r p:Nat} {m:Nat->Option Nat} {S:Sp} {R:List Th}
set_option maxRecDepth 100000 in
theorem has_p (h:SpP p m S w) (i:Int):Calls Tryz.prog 218 #[ptr p,.int .i64 i] w fun e w'=>e = .returned (.tuple #[.int .i64 (hasN S i),.bool (hasB S i)])/\w'=w:=by
 by_cases hi:0<=i/\i<64
 ·obtain ⟨h0,h1⟩:=hi
  obtain ⟨k,rfl⟩:=Int.eq_ofNat_of_zero_le h0
  have hk:k<64:=by omega
  have hc:=h.cell hk
  have hn:=h.cellN hk
  have his:=h.is k hk
  have HP:=hid (isPlace_yes (k:Int) w h0 h1)
  clear h
  cases hm:m k with
  | none =>
   rw [hm] at hc his
   have hq:=map_nil
   have hb:hasB S k=false:=by rw [<- his];rfl
   have he:hasN S k=0:=by
    unfold hasB at hb
    unfold hasN
    rw [Option.isSome_eq_false_iff,Option.isNone_iff_eq_none] at hb
    rw [hb]
    rfl
   rw [he,hb]
   clear his hb he hn
   go_enter Tryz.func218,Tryz.ntmps218
   go_wp2_with (go_at_call 193;refine Calls.mono HP.out ?_;rintro e w' ⟨rfl,rfl⟩)
   go_ret2
   exact ⟨rfl,rfl⟩
  | some b =>
   rw [hm] at hc his
   have hq:=fun w=>map_is w b
   have hb:hasB S k=true:=by rw [<- his];rfl
   rw [hb]
   clear his hb
   generalize hasN S k=n at *
   go_enter Tryz.func218,Tryz.ntmps218
   go_wp2_with (go_at_call 193;refine Calls.mono HP.out ?_;rintro e w' ⟨rfl,rfl⟩)
   go_ret2
   exact ⟨rfl,rfl⟩
 ·have hn:=h.good.outT (i:=i) (by omega)
  have HP:=hid (isPlace_no i w (by omega))
  have e1:hasN S i=0:=by unfold hasN;rw [hn];rfl
  have e2:hasB S i=false:=by unfold hasB;rw [hn];rfl
  rw [e1,e2]
  clear h hi hn e1 e2
  go_enter Tryz.func218,Tryz.ntmps218
  go_wp2_with (go_at_call 193;refine Calls.mono HP.out ?_;rintro e w' ⟨rfl,rfl⟩)
  go_ret2
  exact ⟨rfl,rfl⟩
theorem has_sep (s:Sep w0 r w (spT p m S::R)) (i:Int):Calls Tryz.prog 218 #[ptr p,.int .i64 i] w fun e w'=>e = .returned (.tuple #[.int .i64 (hasN S i),.bool (hasB S i)])/\Sep w0 r w' (spT p m S::R):=by
 refine Calls.mono (has_p s.head i) ?_
 rintro e w' ⟨rfl,rfl⟩
 exact ⟨rfl,s⟩
theorem any_here {S:Sp} {n:Int} {k:Nat} (hk:k<64) (h:S.t k=some n):anyT S n=true:=anyT_true.2 ⟨k,hk,h⟩
theorem any_no {S:Sp} {n:Int} (h:∀ k:Nat,k<64->S.t k≠some n):anyT S n=false:=by
 cases e:anyT S n with
 | false=>rfl
 | true =>
  obtain ⟨k,hk,h2⟩:=anyT_true.1 e
  exact absurd h2 (h k hk)
set_option maxRecDepth 100000 in
set_option maxHeartbeats 1000000 in
theorem anywhere_p (h:SpP p m S w) (n:Int):Calls Tryz.prog 194 #[ptr p,.int .i64 n] w fun e w'=>e = .returned (.bool (anyT S n))/\w'=w:=by
 have HP:=hid (fun i=>has_p h i)
 have HY:Hid (∀ k:Nat,k<64->S.t k=some n->anyT S n=true):=fun k hk h=>any_here hk h
 have HN:Hid ((∀ k:Nat,k<64->S.t k≠some n)->anyT S n=false):=any_no
 clear h
 generalize anyT S n=q at *
 go_enter Tryz.func194,Tryz.ntmps194
 go_wp2
 go_loopw [8] (fun v8 wr=>∃ k:Nat,k<=64/\v8 = .int .i64 k/\wr=w/\Hid (∀ j:Nat,j<k->S.t j≠some n)) (fun v8 _=>64 - (intOf v8).toNat)
 case atStart=>exact ⟨0,Nat.zero_le _,rfl,rfl,fun j hj=>absurd hj (by omega)⟩
 case round =>
  obtain ⟨k,hk,rfl,rfl,HJ⟩:=hrel
  by_cases hlt:k<64
  ·have hltz:(k:Int)<64:=by omega
   have HC:=hid (HP.out (k:Int))
   have HYk:=hid (HY.out k hlt)
   have hstep:Hid (S.t k≠some n->∀ j:Nat,j<k+1->S.t j≠some n):=fun h j hj=>by
    by_cases e:j=k
    ·rw [e];exact h
    ·exact HJ.out j (by omega)
   unfold hasN hasB at HC
   cases ht:S.t (k:Int) with
   | none =>
    rw [ht] at HC
    simp only [Option.getD_none,Option.isSome_none] at HC
    have HR:=hid (hstep.out (by rw [ht];simp))
    clear HYk hstep
    go_wp2_with (go_at_call 218;refine Calls.mono HC.out ?_;rintro e w' ⟨rfl,rfl⟩)
    go_roundw
    case rel=>exact ⟨k+1,by omega,by go_num,trivial,HR.out⟩
    case measure=>simp [intOf];omega
   | some x =>
    rw [ht] at HC HYk
    simp only [Option.getD_some,Option.isSome_some] at HC
    by_cases hx:x=n
    ·have hx2:(x == n)=true:=by simpa using hx
     have HQ:Hid (q=true):=HYk.out (by rw [hx])
     have HX:=hid hx
     clear hx hstep HYk
     go_wp2_with (go_at_call 218;refine Calls.mono HC.out ?_;rintro e w' ⟨rfl,rfl⟩)
     go_ret
     exact ⟨by rw [HQ.out];rfl,rfl⟩
    ·have hx2:(x == n)=false:=by simpa using hx
     have HR:=hid (hstep.out (by rw [ht];simpa using hx))
     clear hx hstep HYk
     go_wp2_with (go_at_call 218;refine Calls.mono HC.out ?_;rintro e w' ⟨rfl,rfl⟩)
     go_roundw
     case rel=>exact ⟨k+1,by omega,by go_num,trivial,HR.out⟩
     case measure=>simp [intOf];omega
  ·have hltz:¬ (k:Int)<64:=by omega
   have HQ:Hid (q=false):=HN.out fun j hj=>HJ.out j (by omega)
   go_wp2
   go_ret
   exact ⟨by rw [HQ.out];rfl,rfl⟩
structure Bx (q:Nat) (u:World):Prop where
 lt:q<u.heap.size
 c0:∃ v,u.cell? ⟨q,0,none⟩=some v
 c1:∃ v,u.cell? ⟨q,1,none⟩=some v
 fz:∀ j,u.frozen? ⟨q,j,none⟩=false
theorem Bx.new (w:World) (a b:Value) (t:TypeId):Bx w.heap.size (w.alloc (.cells #[a,b] t)):=
 ⟨by simp,⟨a,by simp [go_sem]⟩,⟨b,by simp [go_sem]⟩,fun j=>by simp [go_sem]⟩
theorem Bx.keep {q:Nat} {u u':World} (h:Bx q u) (hs:u.heap.size<=u'.heap.size) (k:u'.heap[q]? = u.heap[q]?):Bx q u':=by
 obtain ⟨lt,⟨a,ha⟩,⟨b,hb⟩,fz⟩:=h
 exact ⟨Nat.lt_of_lt_of_le lt hs,⟨a,by simp only [World.cell?,k] at *;exact ha⟩,⟨b,by simp only [World.cell?,k] at *;exact hb⟩,fun j=>by have:=fz j;simp only [World.frozen?,k] at *;exact this⟩
theorem Bx.below {q:Nat} {u u':World} (h:Bx q u) (k:Below u.heap.size u u'):Bx q u':=h.keep k.size (k.block q h.lt)
theorem below_two {B q:Nat} {w u:World} (h:Below B w u) (hq:B<=q) (a b:Value):Below B w ((u.setCell ⟨q,0,none⟩ a).setCell ⟨q,1,none⟩ b):=
 ⟨h.os,h.tape,h.output,by rw [nblk_setCell,nblk_setCell];exact h.size,fun k hk=>(blk_setCell_other _ _ _ _ (by simp only;omega)).trans ((blk_setCell_other _ _ _ _ (by simp only;omega)).trans (h.block k hk))⟩
theorem _root_.Go.Proofs.YtilnjnblpeeigaaGreatDoor.Turn.two {F:Nat->Prop} {q:Nat} {w u:World} (h:Turn F w u) (hq:w.heap.size<=q) (a b:Value):Turn F w ((u.setCell ⟨q,0,none⟩ a).setCell ⟨q,1,none⟩ b):=
 ⟨h.os,h.tape,h.output,by rw [nblk_setCell,nblk_setCell];exact h.size,fun k hk hF=>(blk_setCell_other _ _ _ _ (by simp only;omega)).trans ((blk_setCell_other _ _ _ _ (by simp only;omega)).trans (h.block k hk hF))⟩
theorem SpP.two {q:Nat} {u:World} (h:SpP p m S u) (hq:∀ x,fpS p m x->x≠q) (a b:Value):SpP p m S ((u.setCell ⟨q,0,none⟩ a).setCell ⟨q,1,none⟩ b):=
 h.keep fun x hx=>(blk_setCell_other _ _ _ _ (hq x hx)).trans (blk_setCell_other _ _ _ _ (hq x hx))
def mpE (S:Sp) (n:Int):Int:=if n<0\/4096<=n then 1 else if (S.f n).isSome=true then 0 else 141
def mpM (m:Nat->Option Nat) (S:Sp) (n:Int):Option Nat:=if mpE S n=0 then m (n / 64).toNat else none
theorem mapped_p (h:SpP p m S w) (n:Int):Calls Tryz.prog 197 #[ptr p,.int .i64 n] w fun e w'=>e = .returned (.tuple #[.map (mpM m S n),.agg #[.int .i64 (wlkP S n).fr,.int .i64 (wlkP S n).rt],.int .i64 (mpE S n)])/\Below w.heap.size w w':=by
 by_cases hn:n<0\/4096<=n
 ·have h0:=h.good.out hn
  have e1:mpE S n=1:=by unfold mpE;rw [if_pos hn]
  have e2:mpM m S n=none:=by unfold mpM;rw [e1];rfl
  have e3:wlkP S n=pg0:=by unfold wlkP;rw [h0];rfl
  rw [e1,e2,e3]
  exact mapped_bad n hn w
 ·obtain ⟨N,rfl⟩:=Int.eq_ofNat_of_zero_le (show 0<=n by omega)
  have hN:N<4096:=by omega
  cases hf:S.f N with
  | none =>
   have e1:mpE S N=141:=by unfold mpE;rw [if_neg hn,hf];rfl
   have e2:mpM m S N=none:=by unfold mpM;rw [e1];rfl
   have e3:wlkP S N=pg0:=by unfold wlkP;rw [hf];rfl
   rw [e1,e2,e3]
   exact mapped_none h N hN hf
  | some x =>
   have e1:mpE S N=0:=by unfold mpE;rw [if_neg hn,hf];rfl
   have e2:mpM m S N=m (N / 64):=by unfold mpM;rw [e1,if_pos rfl];congr 1
   have e3:wlkP S N=x:=by unfold wlkP;rw [hf];rfl
   rw [e1,e2,e3]
   exact mapped_some h N hN hf
theorem mpE_b (h:SpP p m S w) (n:Int):(mpE S n == 0)=wlkB S n:=by
 unfold mpE wlkB
 by_cases hn:n<0\/4096<=n
 ·rw [if_pos hn,h.good.out hn];rfl
 ·rw [if_neg hn]
  cases S.f n <;> rfl
theorem at_del (f:Int->Option Pg) (N i:Int) (n:Int):atPl (upd f N none) i n=delF (atPl f i) N n:=by
 unfold atPl upd delF
 by_cases h:n=N
 ·simp [h]
 ·simp [h]
theorem at_other (f:Int->Option Pg) {N i:Int} (h:N / 64≠i) (c:Option Pg) (n:Int):atPl (upd f N c) i n=atPl f i n:=by
 unfold atPl upd
 by_cases e:n=N
 ·simp [e,h]
 ·simp [e]
theorem SpP.sep {w':World} {m':Nat->Option Nat} {T:Sp} (s:Sep w0 r w (spT p m S::R)) (h:SpP p m' T w') (k:Turn (fpS p m) w w') (o:Out (fpS p m) (fpS p m') w):Sep w0 r w' (spT p m' T::R):=
 s.turn (t:=spT p m S) (t':=spT p m' T) h k o
set_option maxRecDepth 100000 in
set_option maxHeartbeats 1000000 in
theorem unmap_p (h:SpP p m S w) (n:Int):Calls Tryz.prog 133 #[ptr p,.int .i64 n] w fun e w'=>e = .returned (.tuple #[.agg #[.int .i64 (wlkP S n).fr,.int .i64 (wlkP S n).rt],.int .i64 (unmE S n)])/\SpP p m (unmS S n) w'/\Turn (fpS p m) w w':=by
 have HP:=hid (mapped_p (h.below (below_new w (.cells #[.int .i64 0,.int .i64 0] 49))) n)
 have HS:=hid h
 have hE:unmE S n=mpE S n:=rfl
 by_cases h0:mpE S n=0
 ·have hS:unmS S n=⟨S.t,upd S.f n none⟩:=by unfold unmS;rw [hE,if_pos h0]
  obtain ⟨n0,n1,x,hx⟩:=unmE_ok (hE.trans h0)
  have hi:(n / 64).toNat<64:=by omega
  have hin:(((n / 64).toNat:Nat):Int)=n / 64:=by omega
  obtain ⟨b,hb⟩:∃ b,m (n / 64).toNat=some b:=by
   have h1:=h.is _ hi
   unfold hasB at h1
   rw [hin,(h.good.f _ _ hx).2.2] at h1
   exact Option.isSome_iff_exists.1 h1
  have hM:mpM m S n=some b:=by unfold mpM;rw [if_pos h0,hb]
  have HG:=hid (good_unm h.good n)
  rw [hS] at HG ⊢
  rw [hE,h0]
  rw [h0,hM] at HP
  have hbw:b<w.heap.size:=h.fp_lt b (.inr ⟨_,hi,hb⟩)
  clear hE h0 hM hx h
  generalize hi2:(n / 64).toNat=i at *
  have HI:=hid (And.intro hi (And.intro hb hin))
  clear hi hb hin hi2
  generalize (wlkP S n).fr=a at *
  generalize (wlkP S n).rt=c at *
  go_enter Tryz.func133,Tryz.ntmps133
  go_wp2_with (go_at_call 197;refine Calls.mono HP.out ?_;rintro e w1 ⟨rfl,b1⟩;have bel:Below w.heap.size w (w1.alloc (.cells #[.int .i64 a,.int .i64 c] 49)):=Below.then (Below.then (below_new _ _) b1 (by simp)) (below_new _ _) (Nat.le_trans (by simp) b1.size);have bx:=((Bx.new w (.int .i64 0) (.int .i64 0) 49).below b1).below (below_new w1 (.cells #[.int .i64 a,.int .i64 c] 49));have b0:w1.heap.size<(w1.alloc (.cells #[.int .i64 a,.int .i64 c] 49)).heap.size:=(by simp);have bw:w.heap.size<w1.heap.size:=Nat.lt_of_lt_of_le (by simp) b1.size;have h2:=HS.out.below bel;have hm2:=h2.maps i HI.out.1;rw [HI.out.2.1] at hm2;obtain ⟨w3,hst,m3,g3,z3⟩:=hm2.is.drop (s:=n) (by unfold I64;omega) 0;obtain ⟨h3,t3⟩:=h2.mapped HI.out.1 HI.out.2.1 m3 g3 (fun k=>at_del S.f n i k) (fun j k hj=>at_other S.f (by have:=HI.out.2.2;omega) none k) HG.out;have k3:=bx.keep (by omega) (g3.block _ bx.lt (fun e=>by cases e;omega));have q3:w3.heap[w1.heap.size]? = some (.cells #[.int .i64 a,.int .i64 c] 49 (0,0)):=(g3.block _ b0 (fun e=>by cases e;omega)).trans (blk_alloc_new _ _);have d0:w3.cell? ⟨w1.heap.size,0,none⟩=some (.int .i64 a):=(by simp [World.cell?,q3]);have d1:w3.cell? ⟨w1.heap.size,1,none⟩=some (.int .i64 c):=(by simp [World.cell?,q3]);obtain ⟨v0,c0⟩:=k3.c0;obtain ⟨v1,c1⟩:=k3.c1;have f0:=k3.fz;have HK:=hid (And.intro h3 ((Turn.of bel (fpS p m)).trans t3 (fun x hx=>.inl hx)));clear b1 bel bx h2 hm2 m3 g3 z3 h3 t3 k3 q3 b0 bw)
  exact bodyPost_ret (v:=.tuple #[.agg #[.int .i64 a,.int .i64 c],.int .i64 0]) (by simp [results,Tryz.results133,go_sem,c0,c1]) rfl ⟨rfl,HK.out.1.two (fun x hx=>Nat.ne_of_lt (HS.out.fp_lt x hx)) _ _,HK.out.2.two (Nat.le_refl _) _ _⟩
 ·have hS:unmS S n=S:=by unfold unmS;rw [hE,if_neg h0]
  have hW:wlkP S n=pg0:=by
   have:=mpE_b h n
   have h1:(mpE S n == 0)=false:=by simpa using h0
   rw [h1] at this
   unfold wlkB at this
   unfold wlkP
   have h2:S.f n=none:=by
    cases e:S.f n with
    | none=>rfl
    | some x=>rw [e] at this;cases this
   rw [h2]
   rfl
  rw [hS,hW,hE]
  rw [hW] at HP
  simp only [pg0] at HP ⊢
  clear h hS hW hE
  generalize mpE S n=E at *
  have h1:(E != 0)=true:=by simpa using h0
  go_enter Tryz.func133,Tryz.ntmps133
  go_wp2_with (go_at_call 197;refine Calls.mono HP.out ?_;rintro e w1 ⟨rfl,b1⟩;have bx:=((Bx.new w (.int .i64 0) (.int .i64 0) 49).below b1).below (below_new w1 (.cells #[.int .i64 0,.int .i64 0] 49));obtain ⟨v0,c0⟩:=bx.c0;obtain ⟨v1,c1⟩:=bx.c1;have f0:=bx.fz;have HB:Hid (Below w.heap.size w (w1.alloc (.cells #[.int .i64 0,.int .i64 0] 49))):=Below.then (Below.then (below_new _ _) b1 (by simp)) (below_new _ _) (Nat.le_trans (by simp) b1.size);clear b1 bx)
  exact bodyPost_ret (v:=.tuple #[.agg #[.int .i64 0,.int .i64 0],.int .i64 E]) (by simp [results,Tryz.results133,go_sem,c0,c1]) rfl ⟨rfl,HS.out.below (below_two HB.out (Nat.le_refl _) _ _),Turn.of (below_two HB.out (Nat.le_refl _) _ _) _⟩
theorem unmap_sep (s:Sep w0 r w (spT p m S::R)) (n:Int):Calls Tryz.prog 133 #[ptr p,.int .i64 n] w fun e w'=>e = .returned (.tuple #[.agg #[.int .i64 (wlkP S n).fr,.int .i64 (wlkP S n).rt],.int .i64 (unmE S n)])/\Sep w0 r w' (spT p m (unmS S n)::R):=by
 refine Calls.mono (unmap_p s.head n) ?_
 rintro e w' ⟨rfl,h,k⟩
 exact ⟨rfl,SpP.sep s h k (Out.refl _ _)⟩
end
end Go.Proofs.YtilnjnblpeeigaaGreatDoor.Ta
namespace Go.Proofs.YtilnjnblpeeigaaGreatDoor.Ta
open Go.RowKit Go.Deep Go.Shelf
section
variable {w0 w:World} {r p:Nat} {m:Nat->Option Nat} {S:Sp} {R:List Th}
def Goes (w:World) (p:Nat) (m:Nat->Option Nat) (T:Sp) (w':World):Prop:=∃ m',SpP p m' T w'/\Turn (fpS p m) w w'/\Out (fpS p m) (fpS p m') w
theorem Goes.same (h:SpP p m S w) {w':World} (b:Below w.heap.size w w'):Goes w p m S w':=⟨m,h.below b,Turn.of b _,Out.refl _ _⟩
theorem Goes.drew {T:Sp} {w':World} (h:Goes w p m T w'):Goes w p m T w'.drew:=by
 obtain ⟨m',a,b,c⟩:=h
 exact ⟨m',a.below ((Below.refl _ _).drew),b.drew,c⟩
theorem two_goes (h:SpP p m S w) {k:Nat} (hk:k<64) {u:World} (b:Below w.heap.size w u) {mo:Option Nat} {T:Sp} (hn:∀ b,mo=some b->w.heap.size<=b/\b<u.heap.size) (hm:MapAt u mo (atPl T.f k)) (his:mo.isSome=hasB T k) (ht:∀ j:Nat,j≠k->T.t j=S.t j) (hf:∀ (j:Nat) n,j≠k->atPl T.f j n=atPl S.f j n) (g:Good T) :
  Goes w p m T ((u.setCell ⟨p,k,none⟩ (.map mo)).setCell ⟨p,64+k,none⟩ (.int .i64 (hasN T k))):=by
 have hp:=h.lt
 refine ⟨updN m k mo,h.put hk (w':=(u.setCell ⟨p,k,none⟩ (.map mo)).setCell ⟨p,64+k,none⟩ (.int .i64 (hasN T k))) (fun C hC=>setBlock (setBlock ((b.block p hp).trans hC) _) _) (fun x hx hne=>?_) (fun b hb=>(hn b hb).1) ?_ his ht hf g,?_,?_⟩
 ·exact (blk_setCell_other _ _ _ _ hne).trans ((blk_setCell_other _ _ _ _ hne).trans (b.block x hx))
 ·refine hm.keep fun q hq=>?_
  have hne:q≠p:=by have:=hn q hq;omega
  exact (blk_setCell_other _ _ _ _ hne).trans (blk_setCell_other _ _ _ _ hne)
 ·exact ((Turn.of b (fpS p m)).trans (Turn.setCell (fpS p m) u _ _ (.inl rfl)) fun x hx=>.inl hx).trans (Turn.setCell (fpS p m) _ _ _ (.inl rfl)) fun x hx=>.inl hx
 ·rintro x (rfl | ⟨i,hi,hx⟩)
  ·exact .inl (.inl rfl)
  ·by_cases e:i=k
   ·rw [e,updN_at] at hx
    exact .inr (hn x hx).1
   ·rw [updN_ne _ _ e] at hx
    exact .inl (.inr ⟨i,hi,hx⟩)
theorem tab_goes (h:SpP p m S w) {k:Nat} (hk:k<64) (n:Int) (hf:S.t k=none) (g:Good ⟨upd S.t k (some n),S.f⟩) :
  Goes w p m ⟨upd S.t k (some n),S.f⟩ (((w.alloc (.map #[] 0)).setCell ⟨p,k,none⟩ (.map (some w.heap.size))).setCell ⟨p,64+k,none⟩ (.int .i64 n)):=by
 have e:hasN ⟨upd S.t k (some n),S.f⟩ k=n:=by simp [hasN,upd]
 have h1:=two_goes h hk (u:=w.alloc (.map #[] 0)) (below_new _ _) (mo:=some w.heap.size) (T:=⟨upd S.t k (some n),S.f⟩) (fun b hb=>by cases hb;exact ⟨Nat.le_refl _,by simp⟩)
  (.inr ⟨_,rfl,(MapIs.new w).congr fun x=>by
   unfold atPl
   split
   ·rename_i hx
    exact h.good.nothing (by rw [hx];exact hf)
   ·rfl⟩) (by simp [hasB,upd]) (fun j hj=>by simp only [upd];rw [if_neg (by omega)]) (fun _ _ _=>rfl) g
 rw [e] at h1
 exact h1
theorem drp_goes (h:SpP p m S w) {k:Nat} (hk:k<64) {u:World} (b:Below w.heap.size w u) (g:Good ⟨upd S.t k none,outP S.f k⟩) :
  Goes w p m ⟨upd S.t k none,outP S.f k⟩ ((u.setCell ⟨p,k,none⟩ (.map none)).setCell ⟨p,64+k,none⟩ (.int .i64 0)):=by
 have e:hasN ⟨upd S.t k none,outP S.f k⟩ k=0:=by simp [hasN,upd]
 have h1:=two_goes h hk b (mo:=none) (T:=⟨upd S.t k none,outP S.f k⟩) (fun b hb=>by cases hb)
  (.inl ⟨rfl,fun x=>by
   show atPl (outP S.f k) k x=none
   unfold atPl outP
   split <;> rfl⟩) (by simp [hasB,upd]) (fun j hj=>by simp only [upd];rw [if_neg (by omega)]) (fun j x hj=>by
   show atPl (outP S.f k) j x=atPl S.f j x
   unfold atPl outP
   split
   ·rename_i hx
    rw [if_neg (by omega)]
   ·rfl) g
 rw [e] at h1
 exact h1
set_option maxRecDepth 100000 in
set_option maxHeartbeats 4000000 in
theorem table_p (h:SpP p m S w) (i n:Int):Calls Tryz.prog 131 #[ptr p,.int .i64 i,.int .i64 n] w fun e w'=>e = .returned (.int .i64 (tabE S i n))/\Goes w p m (tabS S i n) w':=by
 have HS:=hid h
 by_cases hp:i<0\/64<=i
 ·have hE:tabE S i n=1:=by unfold tabE;rw [if_pos (by omega)]
  have hS:tabS S i n=S:=by unfold tabS;rw [hE];rfl
  rw [hE,hS]
  have HP:=hid (isPlace_no i w hp)
  clear h hE hS hp
  go_enter Tryz.func131,Tryz.ntmps131
  go_wp2_with (go_at_call 193;refine Calls.mono HP.out ?_;rintro e w' ⟨rfl,rfl⟩)
  go_ret
  exact ⟨rfl,Goes.same HS.out (Below.refl _ _)⟩
 ·have HP:=hid (isPlace_yes i w (by omega) (by omega))
  by_cases hn:n<0
  ·have hE:tabE S i n=1:=by unfold tabE;rw [if_pos (by omega)]
   have hS:tabS S i n=S:=by unfold tabS;rw [hE];rfl
   rw [hE,hS]
   clear h hE hS hp
   go_enter Tryz.func131,Tryz.ntmps131
   go_wp2_with (go_at_call 193;refine Calls.mono HP.out ?_;rintro e w' ⟨rfl,rfl⟩)
   go_ret
   exact ⟨rfl,Goes.same HS.out (Below.refl _ _)⟩
  ·obtain ⟨k,rfl⟩:=Int.eq_ofNat_of_zero_le (show 0<=i by omega)
   have hk:k<64:=by omega
   have hkz:(k:Int)<64:=by omega
   have hc:=h.cell hk
   have hcN:=h.cellN hk
   have fz:=h.frozen
   have his:=h.is k hk
   have HA:=hid (anywhere_p h n)
   have hE:tabE S k n=if (m k).isSome=true\/anyT S n=true then 140 else 0:=by
    unfold tabE
    rw [if_neg (by omega)]
    unfold hasB at his
    rw [<- his]
   have HG:=hid (good_tab h.good k n)
   cases hm:m k with
   | some b =>
    rw [hm] at hc hE
    have hE':tabE S k n=140:=by rw [hE,if_pos (.inl rfl)]
    have hS:tabS S k n=S:=by unfold tabS;rw [hE'];rfl
    rw [hE',hS]
    have hq:=fun w=>map_not_is w b
    clear h hE hE' hS hp HA HG his hcN hm
    go_enter Tryz.func131,Tryz.ntmps131
    go_wp2_with (go_at_call 193;refine Calls.mono HP.out ?_;rintro e w' ⟨rfl,rfl⟩)
    go_ret
    exact ⟨rfl,Goes.same HS.out (Below.refl _ _)⟩
   | none =>
    rw [hm] at hc hE
    have hq:=map_not_nil
    cases ha:anyT S n with
    | true =>
     rw [ha] at HA
     have hE':tabE S k n=140:=by rw [hE,if_pos (.inr ha)]
     have hS:tabS S k n=S:=by unfold tabS;rw [hE'];rfl
     rw [hE',hS]
     clear h hE hE' hS hp HG his hcN hm
     go_enter Tryz.func131,Tryz.ntmps131
     go_wp2_with (first | (go_at_call 193;refine Calls.mono HP.out ?_;rintro e w' ⟨rfl,rfl⟩) | (go_at_call 194;refine Calls.mono HA.out ?_;rintro e w' ⟨rfl,rfl⟩))
     go_ret
     exact ⟨rfl,Goes.same HS.out (Below.refl _ _)⟩
    | false =>
     rw [ha] at HA
     have hE':tabE S k n=0:=by rw [hE,if_neg (by rw [ha];simp)]
     have hS:tabS S k n=⟨upd S.t k (some n),S.f⟩:=by unfold tabS;rw [if_pos hE']
     have HF:=hid (tabE_ok hE').2.2.2.1
     rw [hE',hS]
     rw [hS] at HG
     have hmm:=@run_makeMap Tryz.prog
     clear h hE hE' hS hp his hm
     go_enter Tryz.func131,Tryz.ntmps131
     go_wp2_with (first | (go_at_call 193;refine Calls.mono HP.out ?_;rintro e w' ⟨rfl,rfl⟩) | (go_at_call 194;refine Calls.mono HA.out ?_;rintro e w' ⟨rfl,rfl⟩))
     have d0:=cell_al hc (.map #[] 0)
     have d1:=cell_al hcN (.map #[] 0)
     have fa:∀ j,(w'.alloc (.map #[] 0)).frozen? ⟨p,j,none⟩=false:=fun j=>((below_new w' (.map #[] 0)).frozen (p:=⟨p,j,none⟩) HS.out.lt).trans (fz j)
     have HK:=hid (tab_goes HS.out hk n HF.out HG.out).drew
     go_region
     go_wp2
     go_ret
     exact ⟨rfl,HK.out⟩
def drpL (S:Sp) (i:Int):List La:=if drpE S i=0 then plP S.f i.toNat else []
set_option maxRecDepth 100000 in
set_option maxHeartbeats 4000000 in
theorem drop_sep (s:Sep w0 r w (spT p m S::R)) (i:Int):Calls Tryz.prog 219 #[ptr p,.int .i64 i] w fun e w'=>∃ v m',e = .returned (.tuple #[v,.int .i64 (drpE S i)])/\Sep w0 r w' (spT p m' (drpS S i)::lstL v (drpL S i)::R):=by
 have HS:=hid s
 have h:SpP p m S w:=s.head
 clear s
 by_cases hp:i<0\/64<=i
 ·have hE:drpE S i=1:=by unfold drpE;rw [if_pos hp]
  have hS:drpS S i=S:=by unfold drpS;rw [hE];rfl
  have hL:drpL S i=[]:=by unfold drpL;rw [hE];rfl
  rw [hE,hS,hL]
  have HP:=hid (isPlace_no i w hp)
  clear h hE hS hp hL
  go_enter Tryz.func219,Tryz.ntmps219
  go_wp2_with (go_at_call 193;refine Calls.mono HP.out ?_;rintro e w' ⟨rfl,rfl⟩)
  go_ret2
  exact ⟨_,_,rfl,HS.out.nil.swap⟩
 ·have HP:=hid (isPlace_yes i w (by omega) (by omega))
  obtain ⟨k,rfl⟩:=Int.eq_ofNat_of_zero_le (show 0<=i by omega)
  have hk:k<64:=by omega
  have hkz:(k:Int)<64:=by omega
  have hc:=h.cell hk
  have hcN:=h.cellN hk
  have fz:=h.frozen
  have his:=h.is k hk
  have hE:drpE S k=if (m k).isSome=true then 0 else 141:=by
   unfold drpE
   rw [if_neg (by omega)]
   unfold hasB at his
   rw [<- his]
  have HG:=hid (good_drp h.good k)
  cases hm:m k with
  | none =>
   rw [hm] at hc hE
   simp only [Option.isSome_none,Bool.false_eq_true,if_false] at hE
   have hS:drpS S k=S:=by unfold drpS;rw [hE];rfl
   have hL:drpL S k=[]:=by unfold drpL;rw [hE];rfl
   rw [hE,hS,hL]
   have hq:=map_nil
   clear h hE hS hL hp HG his hcN hm
   go_enter Tryz.func219,Tryz.ntmps219
   go_wp2_with (go_at_call 193;refine Calls.mono HP.out ?_;rintro e w' ⟨rfl,rfl⟩)
   go_ret2
   exact ⟨_,_,rfl,HS.out.nil.swap⟩
  | some b =>
   rw [hm] at hc hE
   simp only [Option.isSome_some,if_true] at hE
   have hS:drpS S k=⟨upd S.t k none,outP S.f k⟩:=by unfold drpS;rw [if_pos hE]
   have hL:drpL S k=plP S.f k:=by unfold drpL;rw [if_pos hE];rfl
   rw [hE,hS,hL]
   rw [hS] at HG
   have hq:=fun w=>map_is w b
   have hma:=h.maps k hk
   rw [hm] at hma
   have HL:=hid (laid_any (some b) S k w hma h.in64)
   have HH:=hid h
   clear h hE hS hL hp his hm hma
   go_enter Tryz.func219,Tryz.ntmps219
   go_wp2_with (first | (go_at_call 193;refine Calls.mono HP.out ?_;rintro e w' ⟨rfl,rfl⟩) | (go_at_call 90;refine Calls.mono HL.out ?_;rintro e u ⟨v,rfl,su⟩))
   have e0:u.cell? ⟨p,k,none⟩=some (.map (some b)):=(su.low.cell (p:=⟨p,k,none⟩) HH.out.lt).trans hc
   have e1:u.cell? ⟨p,64+k,none⟩=some (.int .i64 (hasN S k)):=(su.low.cell (p:=⟨p,64+k,none⟩) HH.out.lt).trans hcN
   have fa:∀ j,u.frozen? ⟨p,j,none⟩=false:=fun j=>(su.low.frozen (p:=⟨p,j,none⟩) HH.out.lt).trans (fz j)
   have SU:=hid su
   clear su
   go_region
   go_wp2
   go_ret2
   obtain ⟨m',a1,a2,a3⟩:=drp_goes (HH.out.below SU.out.low) hk (Below.refl _ u) HG.out
   exact ⟨v,m',rfl,(SpP.sep (HS.out.join SU.out).swap a1 a2 a3).drew⟩
end
end Go.Proofs.YtilnjnblpeeigaaGreatDoor.Ta
namespace Go.Proofs.YtilnjnblpeeigaaGreatDoor.Ta
open Go.RowKit Go.Deep Go.Shelf
section
variable {w0 w:World} {r p:Nat} {m:Nat->Option Nat} {S:Sp} {R:List Th}
set_option maxRecDepth 100000 in
set_option maxHeartbeats 4000000 in
theorem pages_any (h:SpP p m S w):Calls Tryz.prog 39 #[ptr p] w fun e w'=>∃ v,e = .returned v/\Sep w w.heap.size w' [lstL v (allP S.f)]:=by
 have HS:=hid h
 clear h
 go_enter Tryz.func39,Tryz.ntmps39
 go_wp2
 go_loopw [3,5] (fun v3 v5 wr=>∃ k:Nat,k<=64/\v5 = .int .i64 k/\Sep w w.heap.size wr [lstL v3 (seg S.f 0 (64*k))]) (fun _ v5 _=>64 - (intOf v5).toNat)
 case atStart=>exact ⟨0,Nat.zero_le _,rfl,(sep_nil w).nil⟩
 case round =>
  obtain ⟨k,hk,rfl,s2⟩:=hrel
  by_cases hlt:k<64
  ·have hltz:(k:Int)<64:=by omega
   have h2:=HS.out.below s2.low
   have hc:=h2.cell hlt
   have HL:=hid (laid_any (m k) S k wr (h2.maps k hlt) h2.in64)
   obtain ⟨a3,c3,rfl⟩:=s2.listIs (E:=elL) (v:=u3) (A:=seg S.f 0 (64*k)) (by simp)
   have HT:=hid (pl_step S.f k)
   have S2:=hid s2
   have HN:=hid (And.intro (seg_len S.f 0 (64*k)) (seg_len S.f (64*k) 64))
   clear s2 h2
   generalize hn:(seg S.f 0 (64*k)).length=n at *
   have HN2:=hid hn
   clear hn
   go_wp2_with (first
    | (go_at_call 90;refine Calls.mono HL.out ?_;rintro e u ⟨v,rfl,su⟩;have sj:=(S2.out.join su).swap;obtain ⟨v4,w4,r4,s4⟩:=sj.onto okL (v:=v) (B:=plP S.f k) (sj.each (lstL v (plP S.f k)) (by simp)).1 46 (by have h1:=HN.out.1;have h2:=HN.out.2;have h3:=HN2.out;unfold plP;omega);obtain ⟨a9,c9,rfl⟩:=sj.listIs (E:=elL) (v:=v) (A:=plP S.f k) (by simp);simp only [elL] at r4;have R4:=hid r4;have S4:=hid s4.drop2;clear su sj r4 s4)
    | (at_builtin;refine wpList_append_run rfl _ _ _ _ rfl _ _ _ _ rfl rfl R4.out ?_))
   go_roundw
   case rel=>exact ⟨k+1,by omega,by go_num,by rw [HT.out];exact S4.out⟩
   case measure=>simp [intOf];omega
  ·have hltz:¬ (k:Int)<64:=by omega
   obtain rfl:k=64:=by omega
   have S2:Hid (Sep w w.heap.size wr [lstL u3 (allP S.f)]):=s2
   clear s2
   go_wp2
   go_ret
   exact ⟨_,rfl,S2.out⟩
def objL (x:La):Obj:=.cells #[.int .i64 x.1,.int .i64 x.2.fr,.int .i64 x.2.rt] 51
set_option maxRecDepth 100000 in
set_option maxHeartbeats 4000000 in
theorem frames_any (h:SpP p m S w) (fr:Int):Calls Tryz.prog 217 #[ptr p,.int .i64 fr] w fun e w'=>∃ v,e = .returned v/\Sep w w.heap.size w' [lstI v (frmL S.f fr)]:=by
 have HP:=hid (pages_any h)
 have HA:=hid (all_len S.f)
 clear h
 unfold frmL
 generalize allP S.f=L at *
 go_enter Tryz.func217,Tryz.ntmps217
 go_wp2_with (go_at_call 39;refine Calls.mono HP.out ?_;rintro e w1 ⟨v,rfl,s1⟩;obtain ⟨ao,cap,rfl⟩:=s1.listIs (E:=elL) (v:=v) (A:=L) (by simp);have S1:=hid s1;clear s1;generalize hN:L.length=N at *;have HN:=hid hN;clear hN)
 go_loopw [5,11] (fun v5 v11 wr=>∃ k:Nat,k<=N/\v11 = .int .i64 k/\Sep w w.heap.size wr [lstI v5 (((L.take k).filter (frmB fr)).map (·.1)),lstL (.slice ao N cap) L]) (fun _ v11 _=>N - (intOf v11).toNat)
 case atStart=>exact ⟨0,Nat.zero_le _,rfl,S1.out.nil⟩
 case round =>
  obtain ⟨k,hk,rfl,s2⟩:=hrel
  have hN4:N<=4096:=HA.out
  by_cases hlt:k<N
  ·have hltz:(k:Int)<(N:Int):=by omega
   have hk1:k<L.length:=by have:=HN.out;omega
   obtain ⟨x,hx⟩:∃ x,L[k]? = some x:=⟨_,List.getElem?_eq_getElem hk1⟩
   obtain ⟨q,rfl,hc⟩:=s2.listAt okL (ao:=ao) (n:=N) (cap:=cap) (A:=L) (by simp) hx
   have d0:wr.cell? ⟨q,k*3,none⟩=some (.int .i64 x.1):=hc 0 _ rfl
   have d1:wr.cell? ⟨q,k*3+1,none⟩=some (.int .i64 x.2.fr):=hc 1 _ rfl
   have d2:wr.cell? ⟨q,k*3+2,none⟩=some (.int .i64 x.2.rt):=hc 2 _ rfl
   have hl:(((L.take k).filter (frmB fr)).map (·.1)).length<=4096:=by
    rw [List.length_map]
    refine Nat.le_trans (List.length_filter_le _ _) ?_
    rw [List.length_take]
    omega
   have hT:((L.take (k+1)).filter (frmB fr)).map (·.1)=((L.take k).filter (frmB fr)).map (·.1)++(if x.2.fr=fr then [x.1] else []):=by
    rw [List.take_add_one,hx,List.filter_append,List.map_append]
    congr 1
    by_cases e:x.2.fr=fr
    ·simp [frmB,e]
    ·simp [frmB,e]
   have s3:=s2.below (below_new wr (objL x))
   obtain ⟨a,y⟩:=x
   obtain ⟨b,c⟩:=y
   simp only at d0 d1 d2 hT
   by_cases hfr:b=fr
   ·have hq:(b == fr)=true:=by simpa using hfr
    rw [if_pos hfr] at hT
    have HT:=hid hT
    obtain ⟨v4,w4,r4,s4⟩:=s3.more okI 26 a (C:=#[.int .i64 a]) rfl (by omega)
    obtain ⟨a5,c5,rfl⟩:=s3.listIs (E:=elI) (v:=u5) (A:=((L.take k).filter (frmB fr)).map (·.1)) (by simp)
    simp only [elI,objL] at r4
    have e9:(wr.alloc (.cells #[.int .i64 a,.int .i64 b,.int .i64 c] 51)).heap.size=wr.heap.size+1:=by simp
    rw [e9] at r4
    have R4:=hid r4
    have S4:=hid s4
    clear s2 s3 s4 r4 hc hx hk1 hT hl hfr e9
    generalize (((L.take k).filter (frmB fr)).map (·.1)).length=n at *
    go_wp2_with (at_builtin;refine wpList_append_run rfl _ _ _ _ rfl _ _ _ _ rfl rfl R4.out ?_)
    go_roundw
    case rel=>exact ⟨k+1,by omega,by go_num,by rw [HT.out];exact S4.out⟩
    case measure=>simp [intOf];omega
   ·have hq:(b == fr)=false:=by simpa using hfr
    rw [if_neg hfr,List.append_nil] at hT
    have HT:=hid hT
    have S3:=hid s3
    clear s2 s3 hc hx hk1 hT hl hfr
    go_wp2
    go_roundw
    case rel=>exact ⟨k+1,by omega,by go_num,by rw [HT.out];exact S3.out⟩
    case measure=>simp [intOf];omega
  ·have hltz:¬ (k:Int)<(N:Int):=by omega
   have e1:L.take k=L:=List.take_of_length_le (by have:=HN.out;omega)
   rw [e1] at s2
   have S2:=hid s2.drop2
   clear s2 e1
   go_wp2
   go_ret
   exact ⟨_,rfl,S2.out⟩
theorem frames_sep (s:Sep w0 r w (spT p m S::R)) (fr:Int):Calls Tryz.prog 217 #[ptr p,.int .i64 fr] w fun e w'=>∃ v,e = .returned v/\Sep w0 r w' (spT p m S::lstI v (frmL S.f fr)::R):=by
 refine Calls.mono (frames_any s.head fr) ?_
 rintro e w' ⟨v,rfl,k⟩
 exact ⟨v,rfl,(s.join k).swap⟩
end
end Go.Proofs.YtilnjnblpeeigaaGreatDoor.Ta
namespace Go.Proofs.YtilnjnblpeeigaaGreatDoor.Ta
open Go.RowKit Go.Deep Go.Shelf
section
variable {w0 w:World} {r p:Nat} {m:Nat->Option Nat} {S T:Sp} {R:List Th}
theorem drp_is (s:Sep w0 r w (spT p m S::R)) (i:Int) {E:Int} {L:List La} (hE:drpE S i=E) (hL:drpL S i=L) (hT:drpS S i=T):Calls Tryz.prog 219 #[ptr p,.int .i64 i] w fun e w'=>∃ v m',e = .returned (.tuple #[v,.int .i64 E])/\Sep w0 r w' (spT p m' T::lstL v L::R):=by
 subst hE hT hL
 exact drop_sep s i
theorem unm_is (s:Sep w0 r w (spT p m S::R)) (n:Int) {a c E:Int} (hp:wlkP S n=⟨a,c⟩) (hE:unmE S n=E) (hT:unmS S n=T):Calls Tryz.prog 133 #[ptr p,.int .i64 n] w fun e w'=>e = .returned (.tuple #[.agg #[.int .i64 a,.int .i64 c],.int .i64 E])/\Sep w0 r w' (spT p m T::R):=by
 subst hE hT
 have:=unmap_sep s n
 rw [hp] at this
 exact this
theorem hs_is (s:Sep w0 r w (spT p m S::R)) (i:Int) {n:Int} {q:Bool} (hn:hasN S i=n) (hq:hasB S i=q):Calls Tryz.prog 218 #[ptr p,.int .i64 i] w fun e w'=>e = .returned (.tuple #[.int .i64 n,.bool q])/\Sep w0 r w' (spT p m S::R):=by
 subst hn hq
 exact has_sep s i
theorem frm_is (s:Sep w0 r w (spT p m S::R)) (fr:Int) {L:List Int} (hL:frmL S.f fr=L):Calls Tryz.prog 217 #[ptr p,.int .i64 fr] w fun e w'=>∃ v,e = .returned v/\Sep w0 r w' (spT p m S::lstI v L::R):=by
 subst hL
 exact frames_sep s fr
end
end Go.Proofs.YtilnjnblpeeigaaGreatDoor.Ta
namespace Go.Proofs.YtilnjnblpeeigaaGreatDoor.Ta
open Go.RowKit Go.Deep Go.Shelf
section
variable {w0 w:World} {r p:Nat} {m:Nat->Option Nat} {S:Sp} {R:List Th}
theorem wpList_load_run {ops:Array Oper} {rest:List Oper} {o:Oper} {a:Act} {Q:Exit->Act->World->Prop} (hgd:o.guard=none) (t:TypeId) (x:Operand) (ho:o.op = .load t x) (ad:Addr) (v:Value) (hx:a.eval x = .pointer (some ad)) (hrun:(loadVar t ad).run Tryz.prog w = .ok v w) (h:wpList Tryz.prog ops Q rest (a.put o.dst v) w):wpList Tryz.prog ops Q (o::rest) a w:=by
 refine wpList_plain hgd fun K' hK'=>?_
 have hrun':(Instr.loadAt t (.pointer (some ad))).run Tryz.prog w = .ok v w:=by
  simp only [Instr.loadAt,Instr.sureAddr,Sem.run_bind,Sem.run_pure,Result.andThen_ok,hrun]
 unfold Oper.wp
 simp [execOp,ho,hx,hrun',Result.andThen]
 exact hK' _ _ h
structure Cy (w:World) (q:Nat) (S:Sp) (k:Nat) (m':Nat->Option Nat) (wr:World):Prop where
 low:Below w.heap.size w wr
 qle:w.heap.size<=q
 head:∃ C:Array Value,wr.heap[q]? = some (.cells C 136 (0,0))/\C.size=128/\∀ i:Nat,i<64->C[i]? = some (.map (m' i))/\C[64+i]? = some (.int .i64 (hasN S i))
 done:∀ i,i<k->(m' i).isSome=hasB S i/\MapAt wr (m' i) (atPl S.f i)
 rest:∀ i,k<=i->m' i=none
 one:∀ i j x,i<64->j<64->m' i=some x->m' j=some x->i=j
 own:∀ i x,m' i=some x->w.heap.size<=x/\x≠q/\x<wr.heap.size
theorem Cy.cell {q k:Nat} {m':Nat->Option Nat} {wr:World} (h:Cy w q S k m' wr) {i:Nat} (hi:i<64):wr.cell? ⟨q,i,none⟩=some (.map (m' i))/\wr.frozen? ⟨q,i,none⟩=false/\q<wr.heap.size:=by
 obtain ⟨C,hC,h0,h1⟩:=h.head
 exact ⟨by simp [World.cell?,hC,(h1 i hi).1],by simp [World.frozen?,hC],(Array.getElem?_eq_some_iff.1 hC).1⟩
theorem Cy.end {q:Nat} {m':Nat->Option Nat} {wr:World} (h:Cy w q S 64 m' wr) (g:Good S):Sep w w.heap.size wr [spT q m' S]:=by
 have hsp:SpP q m' S wr:=⟨h.head,fun i hi=>(h.done i hi).1,fun i hi=>(h.done i hi).2,h.one,fun i hi e=>(h.own i q e).2.1 rfl,g⟩
 refine ⟨h.low,h.low.size,fun t ht=>?_,List.pairwise_singleton _ _⟩
 rw [List.mem_singleton] at ht
 subst ht
 refine ⟨hsp,?_⟩
 rintro x (rfl | ⟨i,hi,hx⟩)
 ·exact h.qle
 ·exact (h.own i x hx).1
end
end Go.Proofs.YtilnjnblpeeigaaGreatDoor.Ta
namespace Go.Proofs.YtilnjnblpeeigaaGreatDoor.Ta
open Go.ChangeShapes Go.WideShapes Go.ChangeAt Go.RowKit Go.Joins Go.Deep
theorem own:ownKnob Tryz.prog.godebug=none:=by kernel_rfl
end Go.Proofs.YtilnjnblpeeigaaGreatDoor.Ta
