/- Below: KSlA; no condition. -/
import Derived.Test.YtbfjjpdnoalojaaGreatDoorPa1
import Derived.Maps.Range
import Derived.Maps.RangeWalk
import Derived.DeepKeys4
import Derived.Deep.Cut
import Derived.Deep.CutRange
import Derived.Sort.Grow
import Derived.Sort.Statements
import Derived.Shelf.SlMaps.Clone
import Derived.Shelf.SlicesE.Clone
set_option maxHeartbeats 16000000
set_option maxRecDepth 100000
set_option linter.unusedSectionVars false
namespace Go.Proofs.YtbfjjpdnoalojaaGreatDoor
namespace Sl
open Go.RowKit
variable [dCp:DecidableEq Cp] [dLim:∀ k,Decidable (ZV k)] [dBad:∀ k,Decidable (Xn k)] [dFit:∀ g z,Decidable (Fit g z)] [dFine:∀ c,Decidable (Fine c)] [dMint:∀ c v,Decidable (JK c v)] [dWho:∀ x y,Decidable (Zx x y)]
theorem ZM {k j:IntKind} {a b c d:Int} (h:a=b) (g:c=d):Ending.returned (.tuple #[.int k a,.int j c])=.returned (.tuple #[.int k b,.int j d]):=by rw[h,g]
theorem Jm {k:IntKind} {a b:Int} (h:a=b):Ending.returned (.int k a)=.returned (.int k b):=by rw[h]
theorem Vi (n:Int) (w:World) (h0:0<=n) (h1:n<=64) :
  Calls Tryz.prog 343 #[.int .i64 n] w fun e w'=>e=.returned (.int .u64 (Jr n))/\w'=w:=by
 go_enter Tryz.func343,Tryz.ntmps343
 go_wp2
 go_ret
 exact⟨Jm (XZ n h0 h1),rfl⟩
theorem AY (n:Int) (w:World) (h0:0<=n) (h1:n<=64) :
  Calls Tryz.prog 344 #[.int .i64 n] w fun e w'=>e=.returned (.tuple #[.int .u64 (Jr n),.int .i64 0])/\w'=w:=by
 go_enter Tryz.func344,Tryz.ntmps344
 go_wp2_with (go_at_call 343;refine(Vi _ _ (by omega) (by omega)).mono ?_;rintro e w' ⟨rfl,rfl⟩)
 go_ret2
 exact⟨rfl,rfl⟩
theorem Gv (n:Int) (w:World) (h:¬ (0<=n/\n<=64)) :
  Calls Tryz.prog 344 #[.int .i64 n] w fun e w'=>e=.returned (.tuple #[.int .u64 0,.int .i64 1])/\w'=w:=by
 by_cases c:0<=n
 ·have c2:64<n:=by omega
  clear h
  go_enter Tryz.func344,Tryz.ntmps344
  go_wp2
  go_ret2
  exact⟨rfl,rfl⟩
 ·clear h
  go_enter Tryz.func344,Tryz.ntmps344
  go_wp2
  go_ret2
  exact⟨rfl,rfl⟩
open Go.Deep
def Jg (c:Cp):Value:=.agg #[.int .i64 c.k,.int .i64 c.o,.int .i64 c.r,.int .u64 c.b,.int .u64 c.g,.int .i64 c.z]
def Jn (c:Cp):Obj:=.cells #[.int .i64 c.k,.int .i64 c.o,.int .i64 c.r,.int .u64 c.b,.int .u64 c.g,.int .i64 c.z] 82
theorem Jb (w:World) (o:Obj):Below w.heap.size w (w.alloc o):=(Below.refl _ _).alloc (Jqd _) _
theorem Below.then {B:Nat} {a b c:World} (h:Below B a b) (k:Below b.heap.size b c) (hB:B<=b.heap.size):Below B a c:=h.trans (k.mono hB)
def AtC (w:World) (q:Nat) (c:Cp):Prop:=w.heap[q]? = some (Jn c)
theorem AtC.lt {w:World} {q:Nat} {c:Cp} (h:AtC w q c):q<w.heap.size:=(Jqf.1 h).1
theorem AtC.new (w:World) (c:Cp):AtC (w.alloc (Jn c)) w.heap.size c:=blk_alloc_new _ _
theorem AtC.below {w w':World} {q:Nat} {c:Cp} (h:AtC w q c) (u:Below w.heap.size w w'):AtC w' q c:=(u.block _ h.lt).trans h
theorem AtC.cells {w:World} {q:Nat} {c:Cp} (h:AtC w q c):w.cell? ⟨q,0,none⟩=some (.int .i64 c.k)/\w.cell? ⟨q,1,none⟩=some (.int .i64 c.o)/\w.cell? ⟨q,2,none⟩=some (.int .i64 c.r)/\w.cell? ⟨q,3,none⟩=some (.int .u64 c.b)/\w.cell? ⟨q,4,none⟩=some (.int .u64 c.g)/\w.cell? ⟨q,5,none⟩=some (.int .i64 c.z):=by
 unfold AtC Jn at h
 refine⟨?_,?_,?_,?_,?_,?_⟩<;>simp[World.cell?,h]
theorem AtC.frozen {w:World} {q:Nat} {c:Cp} (h:AtC w q c) (j:Nat):w.frozen? ⟨q,j,none⟩=false:=by
 unfold AtC Jn at h
 simp[World.frozen?,h]
theorem Iy (w:World) (a c:Cp) :
  (Op.equalIn 10000 82 (.agg #[.int .i64 a.k,.int .i64 a.o,.int .i64 a.r,.int .u64 a.b,.int .u64 a.g,.int .i64 a.z]) (.agg #[.int .i64 c.k,.int .i64 c.o,.int .i64 c.r,.int .u64 c.b,.int .u64 c.g,.int .i64 c.z])).run Tryz.prog w
   = .ok (decide (a=c)) w:=by
 have u3:=Tryz.underlying3
 have u4:=Tryz.underlying39
 have a3:=Tryz.isAgg3
 have a4:=Tryz.isAgg39
 have z3:=Tryz.sizeOf3
 have z4:=Tryz.sizeOf39
 have hS:Tryz.prog.underlying 82 = some (.struct (Tryz.prog.fieldsOf 82)):=by kernel_rfl
 have hp:Tryz.prog.stoodInHeld 82 = false:=by kernel_rfl
 rw[show(10000:Nat)=9999+1 from rfl,run_equalIn_agg w 9999 82 _ _ hS hp]
 simp only[Program.fieldsOf,Tryz.underlying82]
 go_simp
 obtain⟨k,o,r,b,g,z⟩:=a
 obtain⟨k',o',r',b',g',z'⟩:=c
 by_cases h1:k=k'<;>by_cases h2:o=o'<;>by_cases h3:r=r'<;>by_cases h4:b=b'<;>by_cases h5:g=g'<;>by_cases h6:z=z'<;>simp[h1,h2,h3,h4,h5,h6]
theorem Js {a b:Bool} (h:a=true↔b=true):Ending.returned (.bool a)=.returned (.bool b):=by rw[Bool.eq_iff_iff.2 h]
theorem J0 (w:World) (o o':Obj):Below w.heap.size w ((w.alloc o).alloc o'):=((Below.refl _ _).alloc (Jqd _) _).alloc (by simp) _
end Sl
namespace Sl
open Go.RowKit Go.Deep Go.MapKept Go.Maps
open Go.ChangeMaps (setBlock heap_setBlock_same heap_setBlock_other modify_eq_set)
variable [dCp:DecidableEq Cp] [dLim:∀ k,Decidable (ZV k)] [dBad:∀ k,Decidable (Xn k)] [dFit:∀ g z,Decidable (Fit g z)] [dFine:∀ c,Decidable (Fine c)] [dMint:∀ c v,Decidable (JK c v)] [dWho:∀ x y,Decidable (Zx x y)] [dSl:DecidableEq Sl] [dLt:∀ a b,Decidable (MC a b)]
def VC (x:Int):Prop:=-9223372036854775808<=x/\x<=9223372036854775807
def Sl.Fits (s:Sl):Prop:=VC s.n/\VC s.i
def Jh (s:Sl):Value:=.agg #[.int .i64 s.n,.int .i64 s.i]
theorem ZC {s t:Sl} (h:Jh s=Jh t):s=t:=by
 obtain⟨n,i⟩:=s
 obtain⟨m,j⟩:=t
 simpa [Jh] using h
theorem Jag {c d:Cp} (h:Jg c=Jg d):c=d:=by
 obtain⟨k,o,r,b,g,z⟩:=c
 obtain⟨k',o',r',b',g',z'⟩:=d
 simpa [Jg] using h
theorem Jol:laidOutB Tryz.prog=true:=by kernel_rfl
theorem Jff:(80 : TypeId)<Tryz.prog.types.size:=of_decide_eq_true (by kernel_rfl)
theorem Jks:(match Tryz.prog.underlying 80 with|some (.array _ _)|some (.struct _)=>true|_=>false)=true:=by rw[Tryz.underlying80]
theorem Zy:Keyed Tryz.prog 80:=Keyed.of_law (deep_law_laid Jol (m:=2) (by omega) Jff (by kernel_rfl) Jks)
theorem OI {x:Int} (h:VC x):(Lit.int .i64 x).wf=true:=by
 unfold VC at h
 simp[Lit.wf,IntKind.min,IntKind.max,IntKind.bits,IntKind.signed]
 omega
theorem XX {s:Sl} (h:s.Fits):∃ l,keyOf Tryz.prog 80 (Jh s)=some l:=by
 have h1:Tryz.prog.keyType 80 = true:=by kernel_rfl
 have c2:Tryz.prog.cellsOf 80 = 2:=by kernel_rfl
 have ci:Tryz.prog.cellsOf 3 = 1:=by kernel_rfl
 obtain⟨m,hm⟩:∃ m,Tryz.prog.types.size+1=m+2:=⟨Tryz.prog.types.size - 1,by
  have h:80 < Tryz.prog.types.size:=Jff
  generalize Tryz.prog.types.size=n at h ⊢
  omega⟩
 have w1:=OI h.1
 have w2:=OI h.2
 have e:Tryz.prog.keyLits (m+2) 80 [.int .i64 s.n,.int .i64 s.i]=some [.int .i64 s.n,.int .i64 s.i]:=by
  unfold Program.keyLits
  simp only[Tryz.underlying80]
  simp[c2,ci,Program.keyLits,Tryz.underlying3,w1,w2]
 refine⟨.string (keyBytes [.int .i64 s.n,.int .i64 s.i]),?_⟩
 unfold keyOf
 simp only[Tryz.underlying80,h1,hm,Jh,Value.formed,Value.cells,c2,e]
 rfl
theorem MR {l:List MapEntry} (hp:l.Pairwise (fun x y=>x.key≠y.key)) {i j:Nat} {x y:MapEntry} (hi:l[i]? = some x) (hj:l[j]? = some y) (hne:i≠j):x.key≠y.key:=by
 obtain⟨hi1,rfl⟩:=Jqb.1 hi
 obtain⟨hj1,rfl⟩:=Jqb.1 hj
 rcases Nat.lt_or_gt_of_ne hne with h|h
 ·exact List.pairwise_iff_getElem.1 hp i j hi1 hj1 h
 ·exact(List.pairwise_iff_getElem.1 hp j i hj1 hi1 h).symm
structure Full (es:Array MapEntry) (f:Sl->Option Cp):Prop where
 is:∀ e∈es.toList,∃ s c,s.Fits/\e.key=Jh s/\e.val=Jg c/\f s=some c
 all:∀ s c,f s=some c->∃ e∈es.toList,e.key=Jh s/\e.val=Jg c
def MapIs (w:World) (b:Nat) (f:Sl->Option Cp):Prop:=∃ es clock,w.heap[b]? = some (.map es clock)/\Stamped es clock/\Full es f
theorem MapIs.lt {w:World} {b:Nat} {f:Sl->Option Cp} (h:MapIs w b f):b<w.heap.size:=by
 obtain⟨es,clock,hb,_⟩:=h
 exact(Jqf.1 hb).1
theorem MapIs.of_block {w w':World} {b:Nat} {f:Sl->Option Cp} (h:MapIs w b f) (e:w'.heap[b]? = w.heap[b]?):MapIs w' b f:=by
 obtain⟨es,clock,hb,r⟩:=h
 exact⟨es,clock,e.trans hb,r⟩
theorem MapIs.new (w:World):MapIs (w.alloc (.map #[] 0)) w.heap.size fun _=>none:=
 ⟨#[],0,blk_alloc_new _ _,stamped_empty 0,⟨by simp,fun _ _ h=>by cases h⟩⟩
theorem MapIs.congr {w:World} {b:Nat} {f g:Sl->Option Cp} (h:MapIs w b f) (e:∀ s,g s=f s):MapIs w b g:=by
 obtain rfl:g=f:=funext e
 exact h
theorem Full.keys {es:Array MapEntry} {f:Sl->Option Cp} (h:Full es f):∀ e∈es.toList,∃ l,keyOf Tryz.prog 80 e.key=some l:=fun e he=>by
 obtain⟨s,c,hs,e1,_,_⟩:=h.is e he
 rw[e1]
 exact XX hs
theorem Jnh (w:World):(zeroValue 82).run Tryz.prog w=.ok (Jg no) w:=by kernel_rfl
section
variable {w:World} {b:Nat} {f:Sl->Option Cp}
theorem MapIs.look (h:MapIs w b f) {s:Sl} (hs:s.Fits) (ok:Bool):(Instr.lookup 190 (.map (some b)) (Jh s) ok).run Tryz.prog w=.ok (if ok then .tuple #[Jg ((f s).getD no),.bool (f s).isSome] else Jg ((f s).getD no)) w:=by
 obtain⟨es,clock,hb,st,F⟩:=h
 obtain⟨l,hl⟩:=XX hs
 rcases Zy.find w hl es.toList F.keys with ⟨h1,h2⟩|⟨j,e0,h1,h2,h3⟩
 ·have hn:f s=none:=by
   cases hf:f s with
   | none=>rfl
   | some c =>
    obtain⟨e,he,ek,_⟩:=F.all s c hf
    exact absurd ek (h2 e he)
  simp[Instr.lookup,run_underlying Tryz.underlying190,MapKept.run_getObj_map hb,Zy.check w _ hl,h1,Jnh w,Result.andThen,hn]
 ·obtain⟨t,c,_,ek,ev,ft⟩:=F.is e0 (Jqi h2)
  obtain rfl:t=s:=ZC (ek.symm.trans h3)
  simp[Instr.lookup,run_underlying Tryz.underlying190,MapKept.run_getObj_map hb,Zy.check w _ hl,h1,Result.andThen,ft,ev]
def UF (f:Sl->Option Cp) (s:Sl) (c:Cp):Sl->Option Cp:=fun t=>if t=s then some c else f t
def Mb (f:Sl->Option Cp) (s:Sl):Sl->Option Cp:=fun t=>if t=s then none else f t
theorem MapIs.store (h:MapIs w b f) {s:Sl} (hs:s.Fits) (c:Cp) :
  ∃ w',(Instr.mapUpdate 190 (.map (some b)) (Jh s) (Jg c)).run Tryz.prog w=.ok () w'/\MapIs w' b (UF f s c)/\w.grownBy w' (some b)/\w'.heap.size=w.heap.size:=by
 obtain⟨es,clock,hb,st,F⟩:=h
 obtain⟨l,hl⟩:=XX hs
 have gb:∀ o,w.grownBy (ChangeMaps.setBlock w b o) (some b):=fun o=>⟨rfl,rfl,rfl,by simp[ChangeMaps.setBlock],fun i _ hi=>heap_setBlock_other hb _ (fun e=>hi (by rw[e]))⟩
 rcases Zy.find w hl es.toList F.keys with ⟨h1,h2⟩|⟨j,e0,h1,h2,h3⟩
 ·refine⟨_,by simp[Instr.mapUpdate,run_underlying Tryz.underlying190,MapKept.run_getObj_map hb,Zy.check w false hl,h1,MapKept.run_setObj_map _ hb,Result.andThen];rfl,⟨es.push ⟨Jh s,Jg c,clock⟩,clock+1,heap_setBlock_same hb _,stamped_push st h2,?_,?_⟩,gb _,by simp[ChangeMaps.setBlock]⟩
  ·intro e he
   simp only[Array.toList_push,List.mem_append,List.mem_singleton] at he
   rcases he with he|rfl
   ·obtain⟨t,d,ht,e1,e2,e3⟩:=F.is e he
    refine⟨t,d,ht,e1,e2,?_⟩
    have:¬ t=s:=fun q=>h2 e he (by rw[e1,q])
    simp[UF,this,e3]
   ·exact⟨s,c,hs,rfl,rfl,by simp[UF]⟩
  ·intro t d ht
   simp only[Array.toList_push,List.mem_append,List.mem_singleton]
   unfold UF at ht
   split at ht
   ·rename_i q
    cases ht
    exact⟨_,.inr rfl,by rw[q],rfl⟩
   ·obtain⟨e,he,r⟩:=F.all t d ht
    exact⟨e,.inl he,r⟩
 ·have hj:es[j]? = some e0:=by simpa using h2
  have hjl:j<es.toList.length:=(Jqb.1 h2).1
  have hkeyf:∀ e',es[j]? = some e'->({ e' with key:=Jh s,val:=Jg c }:MapEntry).key=e'.key:=fun e' he'=>by rw[hj] at he';cases he';exact h3.symm
  have hlist:(es.modify j (fun e'=>{ e' with key:=Jh s,val:=Jg c })).toList=es.toList.set j { e0 with key:=Jh s,val:=Jg c }:=by rw[Array.toList_modify,modify_eq_set _ _ _ _ h2]
  have hap:=((stamped_iff es clock).1 st).2.2
  refine⟨_,by simp[Instr.mapUpdate,run_underlying Tryz.underlying190,MapKept.run_getObj_map hb,Zy.check w false hl,h1,hj,h3,Zy.stays w hl,MapKept.run_setObj_map _ hb,Result.andThen];rfl,
   ⟨es.modify j (fun e'=>{ e' with key:=Jh s,val:=Jg c }),clock,heap_setBlock_same hb _,stamped_modify st _ _ (fun _ _=>rfl) (fun e' _ he'=>hkeyf e' he'),?_,?_⟩,gb _,by simp[ChangeMaps.setBlock]⟩
  ·intro e he
   rw[hlist] at he
   obtain⟨i,hi,ex⟩:=List.getElem_of_mem he
   rw[List.getElem_set] at ex
   split at ex
   ·subst ex
    exact⟨s,c,hs,rfl,rfl,by simp[UF]⟩
   ·rename_i hne
    have hi':i<es.toList.length:=by simpa using hi
    obtain⟨t,d,ht,e1,e2,e3⟩:=F.is e (ex ▸ List.getElem_mem hi')
    refine⟨t,d,ht,e1,e2,?_⟩
    have:¬ t=s:=fun q=>by
     have a1:es.toList[i]? = some e:=by rw[List.getElem?_eq_getElem hi',ex]
     exact MR hap a1 h2 (fun h=>hne h.symm) (by rw[e1,q,h3])
    simp[UF,this,e3]
  ·intro t d ht
   rw[hlist]
   unfold UF at ht
   split at ht
   ·rename_i q
    cases ht
    exact⟨{ e0 with key:=Jh s,val:=Jg c },List.mem_iff_getElem.2 ⟨j,by simpa using hjl,by simp⟩,by rw[q],rfl⟩
   ·rename_i q
    obtain⟨e,he,r1,r2⟩:=F.all t d ht
    obtain⟨i,hi⟩:=List.getElem?_of_mem he
    refine⟨e,List.mem_iff_getElem?.2 ⟨i,?_⟩,r1,r2⟩
    rw[List.getElem?_set]
    by_cases hij:j=i
    ·subst hij
     rw[h2] at hi
     cases hi
     exact absurd (ZC (r1.symm.trans h3)) q
    ·simp[hij,hi]
theorem MapIs.drop (h:MapIs w b f) {s:Sl} (hs:s.Fits) (ty:TypeId) :
  ∃ w',(Builtin.delete_ #[190,80] ty #[.map (some b),Jh s]).run Tryz.prog w=.ok (.tuple #[]) w'/\MapIs w' b (Mb f s)/\w.grownBy w' (some b)/\w'.heap.size=w.heap.size:=by
 obtain⟨es,clock,hb,st,F⟩:=h
 obtain⟨l,hl⟩:=XX hs
 have gb:∀ o,w.grownBy (ChangeMaps.setBlock w b o) (some b):=fun o=>⟨rfl,rfl,rfl,by simp[ChangeMaps.setBlock],fun i _ hi=>heap_setBlock_other hb _ (fun e=>hi (by rw[e]))⟩
 rcases Zy.find w hl es.toList F.keys with ⟨h1,h2⟩|⟨j,e0,h1,h2,h3⟩
 ·refine⟨_,by simp[Builtin.delete_,run_underlying Tryz.underlying190,MapKept.run_getObj_map hb,Zy.check w _ hl,h1,MapKept.run_setObj_map _ hb,Result.andThen];rfl,⟨es,clock,heap_setBlock_same hb _,st,?_,?_⟩,gb _,by simp[ChangeMaps.setBlock]⟩
  ·intro e he
   obtain⟨t,d,ht,e1,e2,e3⟩:=F.is e he
   have:¬ t=s:=fun q=>h2 e he (by rw[e1,q])
   exact⟨t,d,ht,e1,e2,by simp[Mb,this,e3]⟩
  ·intro t d ht
   unfold Mb at ht
   split at ht
   ·cases ht
   ·exact F.all t d ht
 ·have hjl:j<es.toList.length:=(Jqb.1 h2).1
  have hjs:j<es.size:=by simpa using hjl
  have hsub:(es.eraseIdxIfInBounds j).toList=es.toList.eraseIdx j:=by
   unfold Array.eraseIdxIfInBounds
   rw[dif_pos hjs]
   simp
  have hap:=((stamped_iff es clock).1 st).2.2
  refine⟨_,by simp[Builtin.delete_,run_underlying Tryz.underlying190,MapKept.run_getObj_map hb,Zy.check w _ hl,h1,MapKept.run_setObj_map _ hb,Result.andThen];rfl,⟨es.eraseIdxIfInBounds j,clock,heap_setBlock_same hb _,stamped_erase st j,?_,?_⟩,gb _,by simp[ChangeMaps.setBlock]⟩
  ·intro e he
   rw[hsub,List.mem_eraseIdx_iff_getElem?] at he
   obtain⟨i,hne,hi⟩:=he
   obtain⟨t,d,ht,e1,e2,e3⟩:=F.is e (Jqi hi)
   refine⟨t,d,ht,e1,e2,?_⟩
   have:¬ t=s:=fun q=>by
    exact MR hap hi h2 hne (by rw[e1,q,h3])
   simp[Mb,this,e3]
  ·intro t d ht
   unfold Mb at ht
   split at ht
   ·cases ht
   ·rename_i q
    obtain⟨e,he,r1,r2⟩:=F.all t d ht
    obtain⟨i,hi⟩:=List.getElem?_of_mem he
    refine⟨e,?_,r1,r2⟩
    rw[hsub,List.mem_eraseIdx_iff_getElem?]
    refine⟨i,fun hij=>q ?_,hi⟩
    subst hij
    rw[h2] at hi
    cases hi
    exact ZC (r1.symm.trans h3)
end
def Ranges (w:World) (b r:Nat) (f:Sl->Option Cp) (A:List (Sl×Cp)) (cnt:Nat):Prop:=
 ∃ es clock since seen c0,w.heap[b]? = some (.map es clock)/\Stamped es clock/\Full es f/\w.heap[r]? = some (.mapIter (some b) since seen c0)/\(∀ x∈es.toList,x.born<since)/\since<=c0/\since<=clock /\
  (leftOf es seen).size=cnt/\(∀ p,p∈A↔∃ e∈es.toList,seen.contains e.born=true/\e.key=Jh p.1/\e.val=Jg p.2)/\A.Pairwise (fun p q=>p.1≠q.1)
section
variable {w:World} {b r:Nat} {f:Sl->Option Cp} {A:List (Sl×Cp)} {cnt:Nat}
theorem Ranges.map (h:Ranges w b r f A cnt):MapIs w b f:=by
 obtain⟨es,clock,_,_,_,hb,st,F,_⟩:=h
 exact⟨es,clock,hb,st,F⟩
theorem Ranges.lt (h:Ranges w b r f A cnt):b<w.heap.size/\r<w.heap.size:=by
 obtain⟨es,clock,since,seen,c0,hb,_,_,hr,_⟩:=h
 exact⟨(Jqf.1 hb).1,(Jqf.1 hr).1⟩
theorem Ranges.ne (h:Ranges w b r f A cnt):r≠b:=by
 obtain⟨es,clock,since,seen,c0,hb,_,_,hr,_⟩:=h
 intro e
 rw[e,hb] at hr
 cases hr
theorem Ranges.of_block {w':World} (h:Ranges w b r f A cnt) (e:w'.heap[b]? = w.heap[b]?) (k:w'.heap[r]? = w.heap[r]?):Ranges w' b r f A cnt:=by
 obtain⟨es,clock,since,seen,c0,hb,st,F,hr,q⟩:=h
 exact⟨es,clock,since,seen,c0,e.trans hb,st,F,k.trans hr,q⟩
theorem Ranges.mem (h:Ranges w b r f A cnt):∀ p∈A,f p.1=some p.2:=by
 obtain⟨es,clock,since,seen,c0,hb,st,F,hr,_,_,_,_,hA,_⟩:=h
 intro p hp
 obtain⟨e,he,_,k,v⟩:=(hA p).1 hp
 obtain⟨s,c,_,k',v',hf⟩:=F.is e he
 rw[ZC (k.symm.trans k'),Jag (v.symm.trans v')]
 exact hf
theorem Ranges.all (h:Ranges w b r f A 0) (p:Sl×Cp):p∈A↔f p.1=some p.2:=by
 refine⟨h.mem p,fun hf=>?_⟩
 obtain⟨es,clock,since,seen,c0,hb,st,F,hr,_,_,_,h0,hA,_⟩:=h
 obtain⟨e,he,k,v⟩:=F.all p.1 p.2 hf
 exact(hA p).2 ⟨e,he,all_seen es seen h0 e he,k,v⟩
end
end Sl
namespace Sl
open Go.RowKit Go.Deep
variable [dCp:DecidableEq Cp] [dLim:∀ k,Decidable (ZV k)] [dBad:∀ k,Decidable (Xn k)] [dFit:∀ g z,Decidable (Fit g z)] [dFine:∀ c,Decidable (Fine c)] [dMint:∀ c v,Decidable (JK c v)] [dWho:∀ x y,Decidable (Zx x y)]
theorem JF (n:Int) (w:World):Calls Tryz.prog 280 #[.int .i64 n] w fun e w'=>e=.returned (.bool (decide (0<=n/\n<=7)))/\w'=w:=by
 go_enter Tryz.func280,Tryz.ntmps280
 go_wp2
 all_goals go_ret
 all_goals exact⟨Js (by simp only[Bool.and_eq_true,decide_eq_true_eq,Bool.false_eq_true,false_iff];omega),rfl⟩
theorem J2 (k:Int) (w:World):Calls Tryz.prog 282 #[.int .i64 k] w fun e w'=>e=.returned (.bool (decide (Xn k)))/\w'=w:=by
 go_enter Tryz.func282,Tryz.ntmps282
 go_wp2
 all_goals go_ret
 all_goals exact⟨Js (by simp_all [Xn]),rfl⟩
theorem JO (k:Int) (w:World):Calls Tryz.prog 281 #[.int .i64 k] w fun e w'=>e=.returned (.bool (decide (ZV k)))/\w'=w:=by
 go_enter Tryz.func281,Tryz.ntmps281
 go_wp2_with (go_at_call 282;refine(J2 _ _).mono ?_;rintro e w' ⟨rfl,rfl⟩)
 all_goals go_ret
 all_goals exact⟨Js (by simp only[decide_eq_true_eq,beq_iff_eq,true_iff];unfold Xn at *;unfold ZV;omega),rfl⟩
theorem XN (g z:Int) (w:World) (hg:0<=g/\g<=18446744073709551615):Calls Tryz.prog 283 #[.int .u64 g,.int .i64 z] w fun e w'=>e=.returned (.bool (decide (Fit g z)))/\w'=w:=by
 by_cases hz:0<=z/\z<=64
 ·have hb:=AG g z hg.1 hg.2 hz.1 hz.2
  have H:Hid (bits .andNot .u64 g (Jr z)=0↔g<=Jr z):=hb
  clear hb
  go_enter Tryz.func283,Tryz.ntmps283
  go_wp2_with (go_at_call 344;refine(AY _ _ (by omega) (by omega)).mono ?_;rintro e w' ⟨rfl,rfl⟩)
  all_goals go_ret
  all_goals exact⟨Js (by have:=H.out;simp_all [Fit]),rfl⟩
 ·go_enter Tryz.func283,Tryz.ntmps283
  go_wp2_with (go_at_call 344;refine(Gv _ _ (by omega)).mono ?_;rintro e w' ⟨rfl,rfl⟩)
  all_goals go_ret
  all_goals exact⟨Js (by simp only[decide_eq_true_eq,Bool.false_eq_true,false_iff];unfold Fit;omega),rfl⟩
theorem Um (c:Cp) (w:World) (hk:c.k=0):Calls Tryz.prog 205 #[Jg c] w fun e w'=>e=.returned (.bool (decide (Fine c)))/\Below w.heap.size w w':=by
 have hq:=Iy
 have e:Fine c↔c=no:=⟨fun h=>h.of_zero hk,fun h=>.inl h⟩
 have H:Hid (Fine c↔c=no):=e
 have HQ:∀ W,(Op.equalIn 10000 82 (.agg #[.int .i64 0,.int .i64 c.o,.int .i64 c.r,.int .u64 c.b,.int .u64 c.g,.int .i64 c.z]) (.agg #[.int .i64 0,.int .i64 0,.int .i64 0,.int .u64 0,.int .u64 0,.int .i64 0])).run Tryz.prog W=.ok (decide (c=no)) W:=fun W=>by
  have:=Iy W c no
  rw[hk] at this
  exact this
 clear e hq
 simp only[Jg]
 go_enter Tryz.func205,Tryz.ntmps205
 go_wp2
 all_goals go_ret
 all_goals exact⟨Js (by simp[H.out]),Jb _ _⟩
def J6a (R:Act->World->Prop):Exit->Act->World->Prop
 | .normal=>R
 | _=>fun _ _=>False
section
variable {P:Program} {ops:Array Oper} {Q Q':Exit->Act->World->Prop} {K K':Act->World->Prop}
theorem OH {o:Oper} {a:Act} {r:Result Next} (hK:∀ a w,K a w->K' a w) (hQ:∀ e a w,e ≠ .normal->Q e a w->Q' e a w) (h:o.upon P a K Q r):o.upon P a K' Q' r:=by
 unfold Oper.upon at h ⊢
 split at h
 ·exact hK _ _ h
 ·exact hK _ _ h
 ·exact hK _ _ h
 ·refine h.mono ?_
  intro e w' he
  cases e with
  | returned v=>exact hK _ _ he
  | panicked c=>exact hQ _ _ _ (by intro h;cases h) he
  | outgrown=>exact he.imp fun a h=>h.imp fun w h=>hQ _ _ _ (by intro h;cases h) h
 ·exact h.mono fun v w' h=>hK _ _ h
 ·exact hQ _ _ _ (by intro h;cases h) h
 ·exact h.elim
theorem Uw {R:Act->World->Prop} (e:Exit) (a:Act) (w:World) (h:e ≠ .normal) (hq:J6a R e a w):Q e a w:=by
 cases e<;>first|exact absurd rfl h|exact hq.elim
theorem Xg (R:Act->World->Prop) (B:List Oper) (h2:∀ a' w',R a' w'->wpList P ops Q B a' w'):∀ (A:List Oper) (a:Act) (w:World),wpList P ops (J6a R) A a w->wpList P ops Q (A++B) a w
 | [],a,w,h=>h2 a w h
 | o::A,a,w,h=>by
  simp only[List.cons_append]
  unfold wpList at h ⊢
  split at h
  ·rename_i hw
   rw[if_pos hw]
   rcases h with h|⟨h,a',w',hl⟩
   ·exact .inl (OH (fun a w=>Xg R B h2 A a w) Uw h)
   ·exact hl.elim
  ·rename_i hw
   rw[if_neg hw]
   exact Xg R B h2 A _ _ h
theorem Xz (n:Nat) (R:Act->World->Prop) {l:List Oper} {a:Act} {w:World} (h1:wpList P ops (J6a R) (l.take n) a w) (h2:∀ a' w',R a' w'->wpList P ops Q (l.drop n) a' w'):wpList P ops Q l a w:=by
 have:=Xg R (l.drop n) h2 (l.take n) a w h1
 rwa [Jqx] at this
theorem Mh (n:Nat) (R:Act->World->Prop) {id:Nat} {l:List Oper} {a:Act} {w:World} (h1:wpList P l.toArray (J6a R) (l.take n) a w) (h2:∀ a' w',R a' w'->wpList P l.toArray Q (l.drop n) a' w'):(Code.region id l.toArray false).wp P Q a w:=
 wp_region_lit (Xz n R h1 h2)
theorem met {t:Array Value} {f:(Nat->Value)->Array Value} (h:t=f (fun i=>t.getD i undef)):∃ x:Nat->Value,({ tmps:=t,defers:=[] }:Act)={ tmps:=f x,defers:=[] }:=⟨_,congrArg (fun t=>({ tmps:=t,defers:=[] }:Act)) h⟩
end
theorem Ul (c:Cp) (w:World) (hf:c.Fits) (hk:¬ c.k=0):Calls Tryz.prog 205 #[Jg c] w fun e w'=>e=.returned (.bool (decide (Fine c)))/\Below w.heap.size w w':=by
 have HF:Hid (Fine c↔((((((0<c.k/\c.k<10)/\(0<=c.o/\c.o<=2147483647)/\(0<=c.r/\c.r<=7))/\(c.r=7\/ZV c.k))/\(c.b=0\/Xn c.k))/\((c.g=0/\c.z=0)\/c.k=2))/\Fit c.g c.z)):=
  (by
   constructor
   ·intro h
    obtain⟨h1,h2,h3,h4,h5,h6,h7⟩:=h.of_ne hk
    exact⟨⟨⟨⟨⟨h1,h2,h3⟩,h4⟩,h5⟩,h6⟩,h7⟩
   ·rintro⟨⟨⟨⟨⟨h1,h2,h3⟩,h4⟩,h5⟩,h6⟩,h7⟩
    exact .inr ⟨h1,h2,h3,h4,h5,h6,h7⟩:Fine c↔_)
 have hg:=hf.g
 have a1:=AtC.new w c
 have B1:Hid (Below w.heap.size w (w.alloc (Jn c))):=Jb w (Jn c)
 clear hf
 simp only[Jg,Jn] at *
 go_enter Tryz.func205,Tryz.ntmps205
 go_upto_region 3 with fail
 generalize w.alloc (Obj.cells #[.int .i64 c.k,.int .i64 c.o,.int .i64 c.r,.int .u64 c.b,.int .u64 c.g,.int .i64 c.z] 82)=w1 at *
 obtain⟨c0,c1,c2,c3,c4,c5⟩:=a1.cells
 clear a1
 have HR:Hid (∃ r,r=w.heap.size):=⟨_,rfl⟩
 generalize hr0:w.heap.size=r at *
 clear HR
 have HR:Hid (w.heap.size=r):=hr0
 clear hr0
 obtain⟨R1,hR1⟩:∃ R:Act->World->Prop,∀ a' w',R a' w'↔∃ (q:Bool),(q=true↔((0<c.k/\c.k<10)/\(0<=c.o/\c.o<=2147483647)/\(0<=c.r/\c.r<=7)))/\w1=w'/\∃ x:Nat->Value,a'={ tmps:=#[x 0,.pointer (some ⟨r,0,none⟩),x 2,x 3,x 4,x 5,x 6,x 7,x 8,x 9,x 10,x 11,x 12,x 13,x 14,x 15,x 16,x 17,x 18,x 19,x 20,x 21,x 22,x 23,x 24,x 25,x 26,x 27,x 28,x 29,x 30,.bool q,x 32,x 33,x 34,x 35,x 36,x 37,x 38,x 39,x 40,x 41,x 42,x 43,x 44,x 45,x 46,x 47,x 48,x 49,x 50,x 51,x 52,x 53,x 54,x 55,x 56,x 57,x 58,x 59,x 60,x 61,x 62,x 63,x 64,x 65,x 66,x 67,x 68,x 69,x 70,x 71,x 72,x 73],defers:=[] }:=⟨_,fun _ _=>Iff.rfl⟩
 have HR1:Hid (∀ a' w',R1 a' w'↔∃ (q:Bool),(q=true↔((0<c.k/\c.k<10)/\(0<=c.o/\c.o<=2147483647)/\(0<=c.r/\c.r<=7)))/\w1=w'/\∃ x:Nat->Value,a'={ tmps:=#[x 0,.pointer (some ⟨r,0,none⟩),x 2,x 3,x 4,x 5,x 6,x 7,x 8,x 9,x 10,x 11,x 12,x 13,x 14,x 15,x 16,x 17,x 18,x 19,x 20,x 21,x 22,x 23,x 24,x 25,x 26,x 27,x 28,x 29,x 30,.bool q,x 32,x 33,x 34,x 35,x 36,x 37,x 38,x 39,x 40,x 41,x 42,x 43,x 44,x 45,x 46,x 47,x 48,x 49,x 50,x 51,x 52,x 53,x 54,x 55,x 56,x 57,x 58,x 59,x 60,x 61,x 62,x 63,x 64,x 65,x 66,x 67,x 68,x 69,x 70,x 71,x 72,x 73],defers:=[] }):=hR1
 clear hR1
 refine Mh 23 R1 ?_ ?_
 ·simp only[List.append_eq,List.cons_append,List.nil_append,List.take_succ_cons,List.take_zero]
  go_wp2_with (first|(go_at_call 280;refine(JF _ _).mono ?_;rintro e w' ⟨rfl,rfl⟩)|(go_at_call 281;refine(JO _ _).mono ?_;rintro e w' ⟨rfl,rfl⟩)|(go_at_call 282;refine(J2 _ _).mono ?_;rintro e w' ⟨rfl,rfl⟩)|(go_at_call 283;refine(XN _ _ _ hg).mono ?_;rintro e w' ⟨rfl,rfl⟩))
  all_goals show R1 _ _
  all_goals refine(HR1.out _ _).2 ⟨_,?_,rfl,met rfl⟩
  all_goals simp only[Bool.and_eq_true,decide_eq_true_eq,Bool.false_eq_true,false_iff]
  all_goals omega
 ·simp only[List.append_eq,List.cons_append,List.nil_append,List.drop_succ_cons,List.drop_zero]
  intro a' w' hr
  obtain⟨q,hq,rfl,x,rfl⟩:=(HR1.out _ _).1 hr
  clear HR1 hr
  generalize((0<c.k/\c.k<10)/\(0<=c.o/\c.o<=2147483647)/\(0<=c.r/\c.r<=7))=p at *
  obtain⟨R2,hR2⟩:∃ R:Act->World->Prop,∀ a' w',R a' w'↔∃ (q:Bool),(q=true↔((p/\(c.r=7\/ZV c.k))/\(c.b=0\/Xn c.k)))/\w1=w'/\∃ x:Nat->Value,a'={ tmps:=#[x 0,.pointer (some ⟨r,0,none⟩),x 2,x 3,x 4,x 5,x 6,x 7,x 8,x 9,x 10,x 11,x 12,x 13,x 14,x 15,x 16,x 17,x 18,x 19,x 20,x 21,x 22,x 23,x 24,x 25,x 26,x 27,x 28,x 29,x 30,x 31,x 32,x 33,x 34,x 35,x 36,x 37,x 38,x 39,x 40,x 41,x 42,x 43,x 44,x 45,x 46,x 47,x 48,x 49,x 50,.bool q,x 52,x 53,x 54,x 55,x 56,x 57,x 58,x 59,x 60,x 61,x 62,x 63,x 64,x 65,x 66,x 67,x 68,x 69,x 70,x 71,x 72,x 73],defers:=[] }:=⟨_,fun _ _=>Iff.rfl⟩
  have HR2:Hid (∀ a' w',R2 a' w'↔∃ (q:Bool),(q=true↔((p/\(c.r=7\/ZV c.k))/\(c.b=0\/Xn c.k)))/\w1=w'/\∃ x:Nat->Value,a'={ tmps:=#[x 0,.pointer (some ⟨r,0,none⟩),x 2,x 3,x 4,x 5,x 6,x 7,x 8,x 9,x 10,x 11,x 12,x 13,x 14,x 15,x 16,x 17,x 18,x 19,x 20,x 21,x 22,x 23,x 24,x 25,x 26,x 27,x 28,x 29,x 30,x 31,x 32,x 33,x 34,x 35,x 36,x 37,x 38,x 39,x 40,x 41,x 42,x 43,x 44,x 45,x 46,x 47,x 48,x 49,x 50,.bool q,x 52,x 53,x 54,x 55,x 56,x 57,x 58,x 59,x 60,x 61,x 62,x 63,x 64,x 65,x 66,x 67,x 68,x 69,x 70,x 71,x 72,x 73],defers:=[] }):=hR2
  clear hR2
  refine Xz 20 R2 ?_ ?_
  ·simp only[List.take_succ_cons,List.take_zero]
   cases q with
   | false =>
    have hp:Hid (¬ p):=fun h=>by cases hq.2 h
    clear hq
    go_wp2
    all_goals show R2 _ _
    all_goals refine(HR2.out _ _).2 ⟨_,?_,rfl,met rfl⟩
    all_goals simp only[Bool.false_eq_true,false_iff]
    all_goals exact fun h=>hp.out h.1.1
   | true =>
    have hp:Hid p:=hq.1 rfl
    clear hq
    go_wp2_with (first|(go_at_call 280;refine(JF _ _).mono ?_;rintro e w' ⟨rfl,rfl⟩)|(go_at_call 281;refine(JO _ _).mono ?_;rintro e w' ⟨rfl,rfl⟩)|(go_at_call 282;refine(J2 _ _).mono ?_;rintro e w' ⟨rfl,rfl⟩)|(go_at_call 283;refine(XN _ _ _ hg).mono ?_;rintro e w' ⟨rfl,rfl⟩))
    all_goals show R2 _ _
    all_goals refine(HR2.out _ _).2 ⟨_,?_,rfl,met rfl⟩
    all_goals have hp:=hp.out
    all_goals simp_all
  ·clear q hq x
   simp only[List.drop_succ_cons,List.drop_zero]
   intro a' w' hr
   obtain⟨q,hq,rfl,x,rfl⟩:=(HR2.out _ _).1 hr
   clear HR2 hr
   generalize((p/\(c.r=7\/ZV c.k))/\(c.b=0\/Xn c.k))=p2 at *
   obtain⟨R3,hR3⟩:∃ R:Act->World->Prop,∀ a' w',R a' w'↔∃ (q:Bool),(q=true↔(p2/\((c.g=0/\c.z=0)\/c.k=2)))/\w1=w'/\∃ x:Nat->Value,a'={ tmps:=#[x 0,.pointer (some ⟨r,0,none⟩),x 2,x 3,x 4,x 5,x 6,x 7,x 8,x 9,x 10,x 11,x 12,x 13,x 14,x 15,x 16,x 17,x 18,x 19,x 20,x 21,x 22,x 23,x 24,x 25,x 26,x 27,x 28,x 29,x 30,x 31,x 32,x 33,x 34,x 35,x 36,x 37,x 38,x 39,x 40,x 41,x 42,x 43,x 44,x 45,x 46,x 47,x 48,x 49,x 50,x 51,x 52,x 53,x 54,x 55,x 56,x 57,x 58,x 59,x 60,x 61,x 62,x 63,x 64,x 65,.bool q,x 67,x 68,x 69,x 70,x 71,x 72,x 73],defers:=[] }:=⟨_,fun _ _=>Iff.rfl⟩
   have HR3:Hid (∀ a' w',R3 a' w'↔∃ (q:Bool),(q=true↔(p2/\((c.g=0/\c.z=0)\/c.k=2)))/\w1=w'/\∃ x:Nat->Value,a'={ tmps:=#[x 0,.pointer (some ⟨r,0,none⟩),x 2,x 3,x 4,x 5,x 6,x 7,x 8,x 9,x 10,x 11,x 12,x 13,x 14,x 15,x 16,x 17,x 18,x 19,x 20,x 21,x 22,x 23,x 24,x 25,x 26,x 27,x 28,x 29,x 30,x 31,x 32,x 33,x 34,x 35,x 36,x 37,x 38,x 39,x 40,x 41,x 42,x 43,x 44,x 45,x 46,x 47,x 48,x 49,x 50,x 51,x 52,x 53,x 54,x 55,x 56,x 57,x 58,x 59,x 60,x 61,x 62,x 63,x 64,x 65,.bool q,x 67,x 68,x 69,x 70,x 71,x 72,x 73],defers:=[] }):=hR3
   clear hR3
   refine Xz 15 R3 ?_ ?_
   ·simp only[List.take_succ_cons,List.take_zero]
    cases q with
    | false =>
     have hp:Hid (¬ p2):=fun h=>by cases hq.2 h
     clear hq
     go_wp2
     all_goals show R3 _ _
     all_goals refine(HR3.out _ _).2 ⟨_,?_,rfl,met rfl⟩
     all_goals simp only[Bool.false_eq_true,false_iff]
     all_goals exact fun h=>hp.out h.1
    | true =>
     have hp:Hid p2:=hq.1 rfl
     clear hq
     go_wp2_with (first|(go_at_call 280;refine(JF _ _).mono ?_;rintro e w' ⟨rfl,rfl⟩)|(go_at_call 281;refine(JO _ _).mono ?_;rintro e w' ⟨rfl,rfl⟩)|(go_at_call 282;refine(J2 _ _).mono ?_;rintro e w' ⟨rfl,rfl⟩)|(go_at_call 283;refine(XN _ _ _ hg).mono ?_;rintro e w' ⟨rfl,rfl⟩))
     all_goals show R3 _ _
     all_goals refine(HR3.out _ _).2 ⟨_,?_,rfl,met rfl⟩
     all_goals have hp:=hp.out
     all_goals simp_all
   ·clear q hq x
    simp only[List.drop_succ_cons,List.drop_zero]
    intro a' w' hr
    obtain⟨q,hq,rfl,x,rfl⟩:=(HR3.out _ _).1 hr
    clear HR3 hr
    generalize(p2/\((c.g=0/\c.z=0)\/c.k=2))=p3 at *
    cases q with
    | false =>
     have hp:Hid (¬ p3):=fun h=>by cases hq.2 h
     clear hq
     go_wp2
     all_goals go_ret
     all_goals exact⟨Js (by simp only[Bool.false_eq_true,false_iff,decide_eq_true_eq];exact fun h=>hp.out (HF.out.1 h).1),by rw[HR.out];exact B1.out⟩
    | true =>
     have hp:Hid p3:=hq.1 rfl
     clear hq
     go_wp2_with (first|(go_at_call 280;refine(JF _ _).mono ?_;rintro e w' ⟨rfl,rfl⟩)|(go_at_call 281;refine(JO _ _).mono ?_;rintro e w' ⟨rfl,rfl⟩)|(go_at_call 282;refine(J2 _ _).mono ?_;rintro e w' ⟨rfl,rfl⟩)|(go_at_call 283;refine(XN _ _ _ hg).mono ?_;rintro e w' ⟨rfl,rfl⟩))
     all_goals go_ret
     all_goals exact⟨Js (by simp only[decide_eq_true_eq];exact⟨fun h=>HF.out.2 ⟨hp.out,h⟩,fun h=>(HF.out.1 h).2⟩),by rw[HR.out];exact B1.out⟩
theorem Ia (c:Cp) (w:World) (hf:c.Fits):Calls Tryz.prog 205 #[Jg c] w fun e w'=>e=.returned (.bool (decide (Fine c)))/\Below w.heap.size w w':=by
 by_cases hk:c.k=0
 ·exact Um c w hk
 ·exact Ul c w hf hk
theorem J9 (c:Cp) (w:World) (hf:c.Fits):Calls Tryz.prog 104 #[Jg c] w fun e w'=>e=.returned (.int .i64 (Zk c))/\Below w.heap.size w w':=by
 have HF:Hid c.Fits:=hf
 have b1:=Jb w (Jn c)
 clear hf
 simp only[Jg,Jn] at *
 go_enter Tryz.func104,Tryz.ntmps104
 go_wp2_with fail
 refine(Ia c _ HF.out).mono ?_
 rintro e w' ⟨rfl,b2⟩
 have B:Hid (Below w.heap.size w w'):=Below.then b1 b2 b1.size
 clear b1 b2
 by_cases h:Fine c
 ·have e:decide (Fine c)=true:=by simp[h]
  go_wp2
  all_goals go_ret
  all_goals exact⟨by simp[Zk,h],B.out⟩
 ·have e:decide (Fine c)=false:=by simp[h]
  go_wp2
  all_goals go_ret
  all_goals exact⟨by simp[Zk,h],B.out⟩
end Sl
namespace Sl
open Go.RowKit Go.Deep Go.MapKept Go.Maps
variable [dCp:DecidableEq Cp] [dLim:∀ k,Decidable (ZV k)] [dBad:∀ k,Decidable (Xn k)] [dFit:∀ g z,Decidable (Fit g z)] [dFine:∀ c,Decidable (Fine c)] [dMint:∀ c v,Decidable (JK c v)] [dWho:∀ x y,Decidable (Zx x y)] [dSl:DecidableEq Sl] [dLt:∀ a b,Decidable (MC a b)]
structure Turn (F:Nat->Prop) (w w':World):Prop where
 os:w'.os=w.os
 tape:w'.tape=w.tape
 output:w'.output=w.output
 size:w.heap.size<=w'.heap.size
 block:∀ k,k<w.heap.size->¬ F k->w'.heap[k]? = w.heap[k]?
theorem Turn.trans {F G:Nat->Prop} {a b c:World} (h:Turn F a b) (k:Turn G b c) (s:∀ x,G x->F x\/a.heap.size<=x):Turn F a c:=
 ⟨k.os.trans h.os,k.tape.trans h.tape,k.output.trans h.output,Jql h.size k.size,fun i hi hF =>
  (k.block i (Jrb hi h.size) fun hG=>(s i hG).elim hF fun h1=>absurd hi (by omega)).trans (h.block i hi hF)⟩
theorem Turn.of {w w':World} (h:Below w.heap.size w w') (F:Nat->Prop):Turn F w w':=⟨h.os,h.tape,h.output,h.size,fun k hk _=>h.block k hk⟩
theorem Turn.grown {w w':World} {F:Nat->Prop} {r:Option Nat} (h:w.grownBy w' r) (hF:∀ k,r=some k->F k\/w.heap.size<=k):Turn F w w':=
 ⟨h.os,h.tape,h.output,h.size,fun k hk hn=>h.block k hk fun e=>(hF k e.symm).elim hn fun h1=>absurd hk (by omega)⟩
theorem Turn.setCell (F:Nat->Prop) (w:World) (a:Addr) (v:Value) (h:F a.block):Turn F w (w.setCell a v):=
 ⟨rfl,rfl,rfl,by rw[nblk_setCell];exact Jqd _,fun k _ hk=>blk_setCell_other _ _ _ _ fun e=>hk (e ▸ h)⟩
theorem Turn.below {B:Nat} {F:Nat->Prop} {w0 w w':World} (h:Turn F w w') (hb:Below B w0 w) (hF:∀ x,F x->B<=x) (hB:B<=w.heap.size):Below B w0 w':=
 ⟨h.os.trans hb.os,h.tape.trans hb.tape,h.output.trans hb.output,Jql hb.size h.size,fun k hk=>(h.block k (by omega) fun hf=>by have:=hF k hf;omega).trans (hb.block k hk)⟩
def Out (F F':Nat->Prop) (w:World):Prop:=∀ x,F' x->F x\/w.heap.size<=x
theorem Out.refl (F:Nat->Prop) (w:World):Out F F w:=fun _ h=>.inl h
def Jq4 (F G:Nat->Prop):Prop:=∀ x,F x->¬ G x
def EE (l:List Cp):Value:=.int .i64 (J7 l:Nat)
structure PN (w:World) (p m:Nat) (v:Value) (F:Nat->Prop) (S:St):Prop where
 head:w.heap[p]? = some (.cells #[v,.map (some m)] 192 (0,0))
 row:w.ownsRow 0 3 1 v S.length (S.map EE)
 map:MapIs w m (Zg S)
 fp:F p
 fm:F m
 fv:∀ k,v.ownBlock=some k->F k/\k≠p/\k≠m
 pm:p≠m
 lt:∀ x,F x->x<w.heap.size
 ok:Okay S
def Nds (w:World) (p:Nat) (F:Nat->Prop) (S:St):Prop:=∃ m v,PN w p m v F S
theorem PN.cells {w:World} {p m:Nat} {v:Value} {F:Nat->Prop} {S:St} (h:PN w p m v F S):w.cell? ⟨p,0,none⟩=some v/\w.cell? ⟨p,1,none⟩=some (.map (some m)):=by
 constructor<;>simp[World.cell?,h.head]
theorem Jw {w w':World} {B:Nat} {e:TypeId} {k:Nat} {v:Value} {n:Nat} {xs:List Value} (h:w.ownsRow B e k v n xs) (q:∀ g,v.ownBlock=some g->w'.heap[g]? = w.heap[g]?):w'.ownsRow B e k v n xs:=by
 refine⟨h.1,?_⟩
 rcases h.2 with hn|⟨g,cap,cur,rfl,hb,hg,r⟩
 ·exact .inl hn
 ·exact .inr ⟨g,cap,cur,rfl,hb,(q g rfl).trans hg,r⟩
theorem PN.turn {w w':World} {p m:Nat} {v:Value} {F G:Nat->Prop} {S:St} (h:PN w p m v F S) (t:Turn G w w') (a:Jq4 F G):PN w' p m v F S where
 head:=(t.block _ (h.lt _ h.fp) (a _ h.fp)).trans h.head
 row:=Jw h.row fun g hg=>t.block _ (h.lt _ (h.fv g hg).1) (a _ (h.fv g hg).1)
 map:=h.map.of_block (t.block _ (h.lt _ h.fm) (a _ h.fm))
 fp:=h.fp
 fm:=h.fm
 fv:=h.fv
 pm:=h.pm
 lt:=fun x hx=>Jrb (h.lt x hx) t.size
 ok:=h.ok
theorem PN.below {w w':World} {p m:Nat} {v:Value} {F:Nat->Prop} {S:St} (h:PN w p m v F S) (t:Below w.heap.size w w'):PN w' p m v F S:=h.turn (Turn.of t fun _=>False) fun _ _ h=>h
theorem Nds.turn {w w':World} {p:Nat} {F G:Nat->Prop} {S:St} (h:Nds w p F S) (t:Turn G w w') (a:Jq4 F G):Nds w' p F S:=by
 obtain⟨m,v,h⟩:=h
 exact⟨m,v,h.turn t a⟩
theorem Nds.below {w w':World} {p:Nat} {F:Nat->Prop} {S:St} (h:Nds w p F S) (t:Below w.heap.size w w'):Nds w' p F S:=h.turn (Turn.of t fun _=>False) fun _ _ h=>h
theorem Nds.ok {w:World} {p:Nat} {F:Nat->Prop} {S:St} (h:Nds w p F S):Okay S:=by obtain⟨_,_,h⟩:=h;exact h.ok
theorem Nds.lt {w:World} {p:Nat} {F:Nat->Prop} {S:St} (h:Nds w p F S):∀ x,F x->x<w.heap.size:=by obtain⟨_,_,h⟩:=h;exact h.lt
theorem PN.slice {w:World} {p m:Nat} {v:Value} {F:Nat->Prop} {S:St} (h:PN w p m v F S):∃ ao cap,v=.slice ao S.length cap/\∀ j,j<S.length->∃ g,ao=some ⟨g,0,none⟩/\w.cell? ⟨g,j,none⟩=some (.int .i64 (J7 (S.getD j []):Nat))/\w.frozen? ⟨g,j,none⟩=false:=by
 rcases h.row.2 with ⟨rfl,h0⟩|⟨g,cap,cur,rfl,hb,hg,h1,h2,h3,h4⟩
 ·exact⟨none,0,by rw[h0],fun j hj=>by omega⟩
 ·refine⟨some ⟨g,0,none⟩,cap,rfl,fun j hj=>⟨g,rfl,?_,?_⟩⟩
  ·have e:(S.map EE)[j]? = some (.int .i64 (J7 (S.getD j []):Nat)):=by simp[hj,EE]
   rw[<- h4,List.getElem?_take,if_pos (by omega)] at e
   simpa [World.cell?,hg] using e
  ·simp[World.frozen?,hg]
theorem Jhg (S:St) (j:Nat):J5 S (j:Int)=S.getD j []:=by simp[J5]
theorem FA (S:St) (n:Int) (h:¬ (0<=n/\n<S.length)):J5 S n=[]:=by
 unfold J5
 split
 ·rw[List.getD_eq_getElem?_getD,List.getElem?_eq_none (by omega)];rfl
 ·rfl
theorem Jbq {S:St} {j:Nat} (h:j<S.length):S.getD j []∈S:=by
 rw[List.getD_eq_getElem?_getD,List.getElem?_eq_getElem h]
 exact List.getElem_mem h
theorem Okay.bits {S:St} (h:Okay S) {l:List Cp} (hl:l∈S):(l=[]/\J7 l=0)\/(l≠[]/\1<=J7 l/\J7 l<=8/\l.length=2 ^ J7 l):=by
 rcases h.row l hl with rfl|⟨b,b1,b2,e⟩
 ·exact .inl ⟨rfl,by simp[J7]⟩
 ·have hb:J7 l=b:=by unfold J7;rw[e,Nat.log2_two_pow]
  refine .inr ⟨fun h0=>?_,by omega,by omega,by rw[hb];exact e⟩
  rw[h0] at e
  have:=Nat.two_pow_pos b
  simp at e
  omega
theorem Uz (b:Nat) (w:World) (h:b<=8):Calls Tryz.prog 204 #[.int .i64 (b:Nat)] w fun e w'=>e=.returned (.int .i64 ((2 ^ b:Nat):Int))/\w'=w:=by
 have:b=0\/b=1\/b=2\/b=3\/b=4\/b=5\/b=6\/b=7\/b=8:=by omega
 rcases this with rfl|rfl|rfl|rfl|rfl|rfl|rfl|rfl|rfl
 all_goals
  go_enter Tryz.func204,Tryz.ntmps204
  go_wp2
  go_ret
  exact⟨rfl,rfl⟩
theorem Jml (p m:Nat) (v:Value) (F:Nat->Prop) (S:St) (n:Int) (w:World) (h:PN w p m v F S) (ho:¬ (0<=n/\n<S.length)) :
  Calls Tryz.prog 203 #[.pointer (some ⟨p,0,none⟩),.int .i64 n] w fun e w'=>e=.returned (.tuple #[.int .i64 0,.bool false])/\w'=w:=by
 obtain⟨c0,c1⟩:=h.cells
 obtain⟨ao,cap,rfl,_⟩:=h.slice
 clear h
 by_cases h0:n<0
 ·go_enter Tryz.func203,Tryz.ntmps203
  go_wp2
  all_goals go_ret2
  all_goals exact⟨rfl,rfl⟩
 ·have h1:(S.length:Int)<=n:=by omega
  clear ho
  go_enter Tryz.func203,Tryz.ntmps203
  go_wp2
  all_goals go_ret2
  all_goals exact⟨rfl,rfl⟩
theorem Jpt (p m:Nat) (v:Value) (F:Nat->Prop) (S:St) (j:Nat) (w:World) (h:PN w p m v F S) (hj:j<S.length) :
  Calls Tryz.prog 203 #[.pointer (some ⟨p,0,none⟩),.int .i64 (j:Nat)] w fun e w'=>e=.returned (.tuple #[.int .i64 (J7 (S.getD j []):Nat),.bool (decide (J7 (S.getD j [])≠0))])/\w'=w:=by
 obtain⟨c0,c1⟩:=h.cells
 obtain⟨ao,cap,rfl,hc⟩:=h.slice
 obtain⟨g,rfl,hg,_⟩:=hc j hj
 clear hc h
 have hj':(j:Int)<(S.length:Int):=by omega
 generalize J7 (S.getD j [])=q at *
 generalize S.length=len at *
 by_cases hq:q=0
 ·subst hq
  go_enter Tryz.func203,Tryz.ntmps203
  go_wp2
  all_goals go_ret2
  all_goals exact⟨rfl,rfl⟩
 ·have hq':((q:Int) == 0)=false:=by simp;omega
  have e:decide (q≠0)=true:=by simp[hq]
  rw[e]
  clear e hq
  go_enter Tryz.func203,Tryz.ntmps203
  go_wp2
  all_goals go_ret2
  all_goals exact⟨rfl,rfl⟩
theorem Vl (p:Nat) (F:Nat->Prop) (S:St) (n:Int) (w:World) (h:Nds w p F S) :
  Calls Tryz.prog 203 #[.pointer (some ⟨p,0,none⟩),.int .i64 n] w fun e w'=>e=.returned (.tuple #[.int .i64 (UW S n),.bool (XH S n)])/\w'=w:=by
 obtain⟨m,v,h⟩:=h
 by_cases ho:0<=n/\n<S.length
 ·obtain⟨j,rfl⟩:=Jqg ho.1
  have hj:j<S.length:=by omega
  refine(Jpt p m v F S j w h hj).mono ?_
  rintro e w' ⟨rfl,rfl⟩
  refine⟨?_,rfl⟩
  unfold UW XH
  rw[Jhg]
  rcases h.ok.bits (Jbq hj) with ⟨e1,e2⟩|⟨e1,e2,_⟩
  ·rw[e2,e1];rfl
  ·rw[if_neg e1,decide_eq_true (by omega)]
   congr 4
   cases hS:S.getD j [] with
   | nil=>exact absurd hS e1
   | cons=>rfl
 ·refine(Jml p m v F S n w h ho).mono ?_
  rintro e w' ⟨rfl,rfl⟩
  refine⟨?_,rfl⟩
  unfold UW XH
  rw[FA S n ho]
  rfl
def Jo (s:Sl):Obj:=.cells #[.int .i64 s.n,.int .i64 s.i] 80
def AtS (w:World) (q:Nat) (s:Sl):Prop:=w.heap[q]? = some (Jo s)
theorem AtS.lt {w:World} {q:Nat} {s:Sl} (h:AtS w q s):q<w.heap.size:=(Jqf.1 h).1
theorem AtS.new (w:World) (s:Sl):AtS (w.alloc (Jo s)) w.heap.size s:=blk_alloc_new _ _
theorem AtS.below {w w':World} {q:Nat} {s:Sl} (h:AtS w q s) (u:Below w.heap.size w w'):AtS w' q s:=(u.block _ h.lt).trans h
theorem AtS.cells {w:World} {q:Nat} {s:Sl} (h:AtS w q s):w.cell? ⟨q,0,none⟩=some (.int .i64 s.n)/\w.cell? ⟨q,1,none⟩=some (.int .i64 s.i):=by
 unfold AtS Jo at h
 constructor<;>simp[World.cell?,h]
theorem FY (S:St) (s:Sl):(JZ S s).isSome=true↔J5 S s.n≠[]/\0<=s.i/\s.i<(J5 S s.n).length:=by
 unfold JZ J5
 by_cases hn:0<=s.n
 ·by_cases hi:0<=s.i
  ·simp only[hn,hi,and_self,if_true,true_and]
   generalize S.getD s.n.toNat []=l
   constructor
   ·intro h
    have h1:s.i.toNat<l.length:=by simpa using h
    refine⟨fun e=>by rw[e] at h1;simp at h1,by omega⟩
   ·rintro⟨_,h1⟩
    have:s.i.toNat<l.length:=by omega
    simpa using this
  ·simp[hn,hi]
 ·simp[hn]
theorem JH {B:Nat} {a w:World} (h:Below B a w) (n:Nat):Below B a (w.drewN n):=⟨h.os,h.tape,h.output,h.size,h.block⟩
theorem Jx {w:World} {a:Addr} {v:Value} (h:w.cell? a=some v) (o:Obj):(w.alloc o).cell? a=some v:=Lib.cell?_alloc_some _ h
theorem Jcg (p:Nat) (F:Nat->Prop) (S:St) (s:Sl) (w:World) (h:Nds w p F S) (hb:XH S s.n=false) :
  Calls Tryz.prog 103 #[.pointer (some ⟨p,0,none⟩),Jh s] w fun e w'=>e=.returned (.bool false)/\Below w.heap.size w w':=by
 have b1:=Jb w (Jo s)
 have h1:=h.below b1
 have a1:=AtS.new w s
 have sc:=fun W hW=>Vl p F S s.n W hW
 rw[hb] at sc
 simp only[Jh,Jo] at *
 go_enter Tryz.func103,Tryz.ntmps103
 go_wp2_with (go_at_call 203;refine(sc _ h1).mono ?_;rintro e w' ⟨rfl,rfl⟩)
 have B:Hid (Below w.heap.size w (w.alloc (.cells #[.int .i64 s.n,.int .i64 s.i] 80))):=b1
 obtain⟨c0,c1⟩:=a1.cells
 clear a1 b1 h1 sc h
 generalize w.alloc (.cells #[.int .i64 s.n,.int .i64 s.i] 80)=w1 at *
 generalize hr0:w.heap.size=r at *
 have HR:Hid (w.heap.size=r):=hr0
 clear hr0
 go_quiet (fail)
 go_wp2
 go_ret
 exact⟨rfl,by rw[HR.out];exact JH B.out _⟩
theorem Jih (p:Nat) (F:Nat->Prop) (S:St) (s:Sl) (w:World) (h:Nds w p F S) (hb:XH S s.n=true) (hi:s.i<0) :
  Calls Tryz.prog 103 #[.pointer (some ⟨p,0,none⟩),Jh s] w fun e w'=>e=.returned (.bool false)/\Below w.heap.size w w':=by
 have b1:=Jb w (Jo s)
 have h1:=h.below b1
 have a1:=AtS.new w s
 have sc:=fun W hW=>Vl p F S s.n W hW
 rw[hb] at sc
 simp only[Jh,Jo] at *
 go_enter Tryz.func103,Tryz.ntmps103
 go_wp2_with (go_at_call 203;refine(sc _ h1).mono ?_;rintro e w' ⟨rfl,rfl⟩)
 have B:Hid (Below w.heap.size w (w.alloc (.cells #[.int .i64 s.n,.int .i64 s.i] 80))):=b1
 obtain⟨c0,c1⟩:=a1.cells
 clear a1 b1 h1 sc h
 generalize w.alloc (.cells #[.int .i64 s.n,.int .i64 s.i] 80)=w1 at *
 generalize hr0:w.heap.size=r at *
 have HR:Hid (w.heap.size=r):=hr0
 clear hr0
 have hd:decide (0<=s.i)=false:=by simp;omega
 go_quiet (fail)
 go_wp2
 go_ret
 exact⟨rfl,by rw[HR.out];exact JH B.out _⟩
theorem Jmy (p:Nat) (F:Nat->Prop) (S:St) (s:Sl) (b:Nat) (w:World) (h:Nds w p F S) (hb:XH S s.n=true) (hn:UW S s.n=(b:Nat)) (h8:b<=8) (hi:0<=s.i) :
  Calls Tryz.prog 103 #[.pointer (some ⟨p,0,none⟩),Jh s] w fun e w'=>e=.returned (.bool (decide (s.i<((2 ^ b:Nat):Int))))/\Below w.heap.size w w':=by
 have b1:=Jb w (Jo s)
 have h1:=h.below b1
 have a1:=AtS.new w s
 have sc:=fun W hW=>Vl p F S s.n W hW
 rw[hb,hn] at sc
 have so:=fun W=>Uz b W h8
 generalize 2 ^ b=t at *
 simp only[Jh,Jo] at *
 go_enter Tryz.func103,Tryz.ntmps103
 go_wp2_with (go_at_call 203;refine(sc _ h1).mono ?_;rintro e w' ⟨rfl,rfl⟩)
 have B:Hid (Below w.heap.size w (w.alloc (.cells #[.int .i64 s.n,.int .i64 s.i] 80))):=b1
 obtain⟨c0,c1⟩:=a1.cells
 clear a1 b1 h1 sc h hb hn
 generalize w.alloc (.cells #[.int .i64 s.n,.int .i64 s.i] 80)=w1 at *
 generalize hr0:w.heap.size=r at *
 have HR:Hid (w.heap.size=r):=hr0
 clear hr0
 go_quiet ((go_at_call 204;refine Calls.quiet_of_same (so _)))
 go_wp2
 go_ret
 exact⟨rfl,by rw[HR.out];exact JH B.out _⟩
theorem JN (p:Nat) (F:Nat->Prop) (S:St) (s:Sl) (w:World) (h:Nds w p F S) :
  Calls Tryz.prog 103 #[.pointer (some ⟨p,0,none⟩),Jh s] w fun e w'=>e=.returned (.bool (JZ S s).isSome)/\Below w.heap.size w w':=by
 by_cases ho:0<=s.n/\s.n<S.length
 ·have hj:s.n.toNat<S.length:=by omega
  have hnn:J5 S s.n=S.getD s.n.toNat []:=by unfold J5;rw[if_pos ho.1]
  rcases h.ok.bits (Jbq hj) with ⟨e1,e2⟩|⟨e1,e2,e3,e4⟩
  ·have hb:XH S s.n=false:=by unfold XH;rw[hnn,e1];rfl
   refine(Jcg p F S s w h hb).mono ?_
   rintro e w' ⟨rfl,b⟩
   refine⟨Js ?_,b⟩
   rw[FY,hnn,e1]
   simp
  ·have hb:XH S s.n=true:=by
    unfold XH
    rw[hnn]
    cases hS:S.getD s.n.toNat [] with
    | nil=>exact absurd hS e1
    | cons=>rfl
   by_cases hi:0<=s.i
   ·refine(Jmy p F S s (J7 (S.getD s.n.toNat [])) w h hb (by unfold UW;rw[hnn,if_neg e1]) e3 hi).mono ?_
    rintro e w' ⟨rfl,b⟩
    refine⟨Js ?_,b⟩
    rw[FY,hnn,<- e4]
    simp only[decide_eq_true_eq]
    exact⟨fun h=>⟨e1,hi,h⟩,fun h=>h.2.2⟩
   ·refine(Jih p F S s w h hb (by omega)).mono ?_
    rintro e w' ⟨rfl,b⟩
    refine⟨Js ?_,b⟩
    rw[FY]
    simp[hi]
 ·have hnn:=FA S s.n ho
  have hb:XH S s.n=false:=by unfold XH;rw[hnn];rfl
  refine(Jcg p F S s w h hb).mono ?_
  rintro e w' ⟨rfl,b⟩
  refine⟨Js ?_,b⟩
  rw[FY,hnn]
  simp
theorem Jal (p:Nat) (F:Nat->Prop) (S:St) (s:Sl) (w:World) (h:Nds w p F S) (hs:s.Fits) :
  Calls Tryz.prog 105 #[.pointer (some ⟨p,0,none⟩),Jh s] w fun e w'=>e=.returned (.bool (!(Zg S s).isSome))/\Below w.heap.size w w':=by
 obtain⟨m,v,h⟩:=h
 have b1:=Jb w (Jo s)
 have h1:=h.below b1
 have a1:=AtS.new w s
 have hl1:Sem.run Tryz.prog _ (w.alloc (Jo s)).drew=_:=(h1.map.of_block (w':=(w.alloc (Jo s)).drew) rfl).look hs true
 have hl2:∀ o,Sem.run Tryz.prog _ ((w.alloc (Jo s)).alloc o).drew=_:=fun o=>(h1.map.of_block (w':=((w.alloc (Jo s)).alloc o).drew) (blk_alloc_lt _ _ _ h1.map.lt)).look hs true
 obtain⟨c0,c1⟩:=h1.cells
 obtain⟨s0,s1⟩:=a1.cells
 have c1':=Jx c1
 have s0':=Jx s0
 have s1':=Jx s1
 have B:Hid (Below w.heap.size w (w.alloc (Jo s))):=b1
 have Z:Hid (w.heap.size<=(w.alloc (Jo s)).heap.size):=(by simp:_<=_)
 generalize(Zg S s).isSome=q at *
 generalize(Zg S s).getD no=c at *
 simp only[Jh,Jg,Jo,if_true] at *
 go_enter Tryz.func105,Tryz.ntmps105
 go_wp2
 clear a1 b1 h1 h
 generalize w.alloc (.cells #[.int .i64 s.n,.int .i64 s.i] 80)=w1 at *
 generalize hr0:w.heap.size=r at *
 have HR:Hid (w.heap.size=r):=hr0
 clear hr0
 go_region
 all_goals go_wp2
 all_goals go_ret
 all_goals exact⟨rfl,by rw[HR.out];exact JH ((B.out).alloc Z.out _) 1⟩
theorem O3 (w:World) (o o':Obj):((w.alloc o).alloc o').heap[w.heap.size]? = some o/\((w.alloc o).alloc o').heap[w.heap.size+1]? = some o'/\((w.alloc o).alloc o').heap.size=w.heap.size+2/\Below w.heap.size w ((w.alloc o).alloc o'):=by
 refine⟨?_,?_,by simp,J0 w o o'⟩
 ·rw[blk_alloc_lt _ _ _ (by simp)]
  exact blk_alloc_new _ _
 ·have:=blk_alloc_new (w.alloc o) o'
  simpa using this
theorem Ja1 {S:St} (ok:Okay S) {s:Sl} {c:Cp} (h:JZ S s=some c):(Zg S s).getD no=c:=by
 unfold Zg
 rw[h]
 by_cases hk:c.k=0
 ·have e:=(ok.at h).2 hk
  subst e
  rfl
 ·simp[hk]
theorem ZF {B q:Nat} {w u:World} (h:Below B w u) (hq:B<=q) (a b c d e f:Value) :
  Below B w ((((((u.setCell ⟨q,0,none⟩ a).setCell ⟨q,1,none⟩ b).setCell ⟨q,2,none⟩ c).setCell ⟨q,3,none⟩ d).setCell ⟨q,4,none⟩ e).setCell ⟨q,5,none⟩ f):=
 (((((h.setCell (p:=⟨q,0,none⟩) hq a).setCell (p:=⟨q,1,none⟩) hq b).setCell (p:=⟨q,2,none⟩) hq c).setCell (p:=⟨q,3,none⟩) hq d).setCell (p:=⟨q,4,none⟩) hq e).setCell (p:=⟨q,5,none⟩) hq f
theorem Ab (p:Nat) (F:Nat->Prop) (S:St) (s:Sl) (w:World) (h:Nds w p F S) (hs:s.Fits) :
  Calls Tryz.prog 202 #[.pointer (some ⟨p,0,none⟩),Jh s] w fun e w'=>e=.returned (.tuple #[Jg (Vt S s),.int .i64 (UQ S s)])/\Below w.heap.size w w':=by
 have HS:Hid s.Fits:=hs
 have H:Hid (Nds w p F S):=h
 obtain⟨x1,x2,x3,x4⟩:=O3 w (Jo s) (Jn no)
 have tc:=fun W hW=>JN p F S s W hW
 have hc:Hid (Vt S s=(JZ S s).getD no/\UQ S s=if (JZ S s).isSome then 0 else 50):=⟨rfl,rfl⟩
 generalize hg:Vt S s=gc at *
 generalize he:UQ S s=ge at *
 clear hg he
 simp only[Jh,Jo,Jn,Jg,no] at *
 go_enter Tryz.func202,Tryz.ntmps202
 go_wp2_with fail
 refine(tc _ (H.out.below x4)).mono ?_
 rintro e w3 ⟨rfl,b3⟩
 clear tc h hs
 have a1:AtS w3 w.heap.size s:=(b3.block _ (by rw[x3];omega)).trans x1
 have a2:AtC w3 (w.heap.size+1) no:=(b3.block _ (by rw[x3];omega)).trans x2
 have B:Hid (Below w.heap.size w w3):=Below.then x4 b3 x4.size
 have H3:Hid (Nds w3 p F S):=(H.out.below x4).below b3
 clear x1 x2 x3 x4 b3 H
 obtain⟨s0,s1⟩:=a1.cells
 obtain⟨z0,z1,z2,z3,z4,z5⟩:=a2.cells
 have zf:=a2.frozen
 clear a1 a2
 generalize hr0:w.heap.size=r at *
 have HR:Hid (w.heap.size=r):=hr0
 clear hr0
 simp only[no] at *
 cases hq:JZ S s with
 | none =>
  rw[hq] at hc
  obtain⟨rfl,rfl⟩:=hc.out
  go_wp2
  refine bodyPost_ret (v:=.tuple #[Jg no,.int .i64 50]) ?_ rfl ⟨rfl,?_⟩
  ·simp[results,Tryz.f202,go_sem,Jg,no,z0,z1,z2,z3,z4,z5]
  ·rw[HR.out];exact ZF B.out (by omega) _ _ _ _ _ _
 | some c =>
  obtain⟨m,v,h3⟩:=H3.out
  rw[hq] at hc
  have hl1:Sem.run Tryz.prog _ w3.drew=_:=(h3.map.of_block (w':=w3.drew) rfl).look HS.out false
  rw[Ja1 h3.ok hq] at hl1
  obtain⟨c0,c1⟩:=h3.cells
  clear h3
  simp only[Jh,Jg] at *
  go_wp2
  go_region
  go_wp2
  obtain⟨rfl,rfl⟩:=hc.out
  refine bodyPost_ret (v:=.tuple #[Jg gc,.int .i64 0]) ?_ rfl ⟨rfl,?_⟩
  ·simp[results,Tryz.f202,go_sem,Jg,z0,z1,z2,z3,z4,z5]
  ·rw[HR.out];exact(ZF B.out (by omega) _ _ _ _ _ _).drew
def Leaves (w:World) (p:Nat) (F:Nat->Prop) (S:St) (w':World):Prop:=Nds w' p F S/\Turn F w w'
theorem Leaves.same {w w':World} {p:Nat} {F:Nat->Prop} {S:St} (h:Nds w p F S) (b:Below w.heap.size w w'):Leaves w p F S w':=⟨h.below b,Turn.of b F⟩
theorem PN.mapped {w w':World} {p m:Nat} {v:Value} {F:Nat->Prop} {S S':St} (h:PN w p m v F S) (g:w.grownBy w' (some m)) (k:MapIs w' m (Zg S')) (e:S'.map J7=S.map J7) (ok:Okay S'):PN w' p m v F S' where
 head:=(g.block _ (h.lt _ h.fp) fun e=>h.pm (Jqz e)).trans h.head
 row:=by
  have el:S'.length=S.length:=by simpa using congrArg List.length e
  have ev:S'.map EE=S.map EE:=by
   have:∀ T:St,T.map EE=(T.map J7).map fun n:Nat=>Value.int .i64 (n:Int):=fun T=>by rw[List.map_map];rfl
   rw[this,this,e]
  rw[el,ev]
  exact Jw h.row fun q hq=>g.block _ (h.lt _ (h.fv q hq).1) fun e=>(h.fv q hq).2.2 (Jqz e)
 map:=k
 fp:=h.fp
 fm:=h.fm
 fv:=h.fv
 pm:=h.pm
 lt:=fun x hx=>Jrb (h.lt x hx) g.size
 ok:=ok
theorem GZ {S:St} {s:Sl} {d:Cp} (h:JZ S s=some d) (c:Cp):(Xj S s c).map J7=S.map J7:=by
 obtain⟨_,_,h3,_⟩:=VD h
 unfold Xj
 rw[List.map_set]
 have e:J7 ((S.getD s.n.toNat []).set s.i.toNat c)=J7 (S.getD s.n.toNat []):=by unfold J7;rw[List.length_set]
 rw[e]
 apply List.ext_getElem?
 intro i
 rw[List.getElem?_set]
 split
 ·rename_i hi
  subst hi
  simp[h3]
 ·rfl
theorem PN.put {w w':World} {p m:Nat} {v:Value} {F:Nat->Prop} {S:St} (h:PN w p m v F S) {s:Sl} {d c:Cp} (hs:JZ S s=some d) (hc:c.Fits) (hk:c.k≠0) (g:w.grownBy w' (some m)) (k:MapIs w' m (UF (Zg S) s c)):PN w' p m v F (Xj S s c):=
 h.mapped g (k.congr fun t=>by rw[Fk hs];unfold UF;simp[hk]) (GZ hs c) (h.ok.set hs hc fun e=>absurd e hk)
theorem PN.del {w w':World} {p m:Nat} {v:Value} {F:Nat->Prop} {S:St} (h:PN w p m v F S) {s:Sl} {d:Cp} (hs:JZ S s=some d) (g:w.grownBy w' (some m)) (k:MapIs w' m (Mb (Zg S) s)):PN w' p m v F (Xj S s no):=
 h.mapped g (k.congr fun t=>by rw[Fk hs];unfold Mb;simp[no]) (GZ hs no) (h.ok.set hs MW fun _=>rfl)
theorem Jbh {w w':World} {p m:Nat} {v:Value} {F:Nat->Prop} {S:St} (h:PN w p m v F S) (g:w.grownBy w' (some m)):Turn F w w':=Turn.grown g fun k hk=>.inl (by cases hk;exact h.fm)
theorem Fl {S:St} {s:Sl} {d:Cp} (h:JZ S s=some d):(Zg S s).isSome=decide (d.k≠0):=by
 unfold Zg
 rw[h]
 by_cases hk:d.k=0<;>simp[hk]
theorem GH (p:Nat) (F:Nat->Prop) (S:St) (s:Sl) (c:Cp) (w:World) (h:Nds w p F S) (hs:s.Fits) (hc:c.Fits) :
  Calls Tryz.prog 40 #[.pointer (some ⟨p,0,none⟩),Jh s,Jg c] w fun e w'=>e=.returned (.int .i64 (VX S s c))/\Leaves w p F (ZL S s c) w':=by
 have HS:Hid (s.Fits/\c.Fits):=⟨hs,hc⟩
 have H:Hid (Nds w p F S):=h
 obtain⟨x1,x2,x3,x4⟩:=O3 w (Jo s) (Jn c)
 have HE:Hid (VX S s c=(match JZ S s with|none=>50|some d=>if Fine c then if c.k=0 then 1 else if d.k=0 then 0 else 51 else 40)/\ZL S s c=if VX S s c=0 then Xj S s c else S):=⟨rfl,rfl⟩
 generalize VX S s c=pe at *
 generalize ZL S s c=ps at *
 simp only[Jh,Jo,Jn,Jg] at *
 go_enter Tryz.func40,Tryz.ntmps40
 go_wp2_with fail
 refine(JN p F S s _ (H.out.below x4)).mono ?_
 rintro e w3 ⟨rfl,b3⟩
 clear h hs hc
 have a1:AtS w3 w.heap.size s:=(b3.block _ (by rw[x3];omega)).trans x1
 have a2:AtC w3 (w.heap.size+1) c:=(b3.block _ (by rw[x3];omega)).trans x2
 have B:Hid (Below w.heap.size w w3):=Below.then x4 b3 x4.size
 clear x1 x2 x3 x4 b3
 have A1:Hid (AtS w3 w.heap.size s):=a1
 have A2:Hid (AtC w3 (w.heap.size+1) c):=a2
 obtain⟨s0,s1⟩:=a1.cells
 obtain⟨z0,z1,z2,z3,z4,z5⟩:=a2.cells
 clear a1 a2
 generalize hr0:w.heap.size=r at *
 have HR:Hid (w.heap.size=r):=hr0
 clear hr0
 cases hq:JZ S s with
 | none =>
  rw[hq] at HE
  obtain⟨rfl,e2⟩:=HE.out
  obtain rfl:ps=S:=e2.trans (if_neg (show ¬ (50:Int)=0 by decide))
  clear e2 HE
  go_wp2
  go_ret
  exact⟨rfl,Leaves.same H.out (by rw[HR.out];exact B.out)⟩
 | some d =>
  rw[hq] at HE
  have HQ:Hid (JZ S s=some d):=hq
  clear hq
  go_wp2_with fail
  refine(J9 c _ HS.out.2).mono ?_
  rintro e w4 ⟨rfl,b4⟩
  have a1:=A1.out.below b4
  have a2:=A2.out.below b4
  have B4:Hid (Below r w w4):=Below.then B.out b4 (by have:=B.out.size;have:=HR.out;omega)
  clear s0 s1 z0 z1 z2 z3 z4 z5 A1 A2 B b4
  have A1:Hid (AtS w4 r s):=a1
  have A2:Hid (AtC w4 (r+1) c):=a2
  obtain⟨s0,s1⟩:=a1.cells
  obtain⟨z0,z1,z2,z3,z4,z5⟩:=a2.cells
  clear a1 a2
  by_cases hf:Fine c
  ·have hce:Zk c=0:=by simp[Zk,hf]
   rw[hce]
   by_cases hk:c.k=0
   ·obtain⟨e1,e2⟩:=HE.out
    simp only[hf,hk,if_true] at e1
    subst e1
    rw[if_neg (by decide)] at e2
    subst e2
    have hk':(c.k == 0)=true:=by simp[hk]
    clear hk
    go_wp2
    go_ret
    exact⟨rfl,Leaves.same H.out (by rw[HR.out];exact B4.out)⟩
   ·have hk':(c.k == 0)=false:=by simp[hk]
    have HK:Hid (¬ c.k=0):=hk
    clear hk hce
    go_wp2_with fail
    refine(Jal p F S s _ (H.out.below (by rw[HR.out];exact B4.out)) HS.out.1).mono ?_
    rintro e w5 ⟨rfl,b5⟩
    have a1:=A1.out.below b5
    have a2:=A2.out.below b5
    have B5:Hid (Below r w w5):=Below.then B4.out b5 (by have:=B4.out.size;have:=HR.out;omega)
    clear s0 s1 z0 z1 z2 z3 z4 z5 A1 A2 B4 b5
    obtain⟨s0,s1⟩:=a1.cells
    obtain⟨z0,z1,z2,z3,z4,z5⟩:=a2.cells
    clear a1 a2
    rw[Fl HQ.out]
    by_cases hd:d.k=0
    ·have hdd:decide (d.k≠0)=false:=by simp[hd]
     rw[hdd]
     obtain⟨e1,e2⟩:=HE.out
     simp only[hf,HK.out,hd,if_true,if_false] at e1
     subst e1
     rw[if_pos rfl] at e2
     subst e2
     clear hd hdd
     obtain⟨m,v,h5⟩:Nds w5 p F S:=H.out.below (by rw[HR.out];exact B5.out)
     obtain⟨c0,c1⟩:=h5.cells
     obtain⟨w6,hrun,k1,k2,k3⟩:=(h5.map.of_block (w':=w5.drew) rfl).store HS.out.1 c
     have K:Hid (Leaves w p F (Xj S s c) w6):=⟨⟨m,v,h5.put HQ.out HS.out.2 HK.out ⟨k2.os,k2.tape,k2.output,k2.size,k2.block⟩ k1⟩,by
      have t1:Turn F w w5:=Turn.of (by rw[HR.out];exact B5.out) F
      exact t1.trans (G:=F) (Jbh h5 ⟨k2.os,k2.tape,k2.output,k2.size,k2.block⟩) fun x hx=>.inl hx⟩
     clear k1 k2 k3 h5
     simp only[Jh,Jg] at *
     go_wp2
     go_region
     go_wp2
     go_ret
     exact⟨rfl,K.out⟩
    ·have hdd:decide (d.k≠0)=true:=by simp[hd]
     rw[hdd]
     obtain⟨e1,e2⟩:=HE.out
     simp only[hf,HK.out,hd,if_true,if_false] at e1
     subst e1
     rw[if_neg (by decide)] at e2
     subst e2
     clear hd hdd
     go_wp2
     go_ret
     exact⟨rfl,Leaves.same H.out (by rw[HR.out];exact B5.out)⟩
  ·have hce:Zk c=40:=by simp[Zk,hf]
   rw[hce]
   obtain⟨e1,e2⟩:=HE.out
   simp only[hf,if_false] at e1
   subst e1
   rw[if_neg (by decide)] at e2
   subst e2
   clear hce
   go_wp2
   go_ret
   exact⟨rfl,Leaves.same H.out (by rw[HR.out];exact B4.out)⟩
theorem Jd {w:World} {ops:Array Oper} {rest:List Oper} {o:Oper} {a:Act} {Q:Exit->Act->World->Prop} (hgd:o.guard=none) (s x:Operand) (t:TypeId)
  (ho:o.op=.call { callee:=.builtin .append,args:=#[s,x],argTypes:=#[t,t] }) (v y v':Value) (w':World) (hs:a.eval s=v) (hx:a.eval x=y)
  (hrun:(Builtin.append_ #[t,t] o.type #[v,y]).run Tryz.prog w=.ok v' w') (h:wpList Tryz.prog ops Q rest (a.put o.dst v') w'):wpList Tryz.prog ops Q (o::rest) a w:=by
 refine wpList_plain hgd fun K hK=>?_
 unfold Oper.wp
 simp[execOp,ho,resolve,invoke,builtin,hs,hx,hrun,Result.andThen]
 exact hK _ _ h
theorem Jmi (q:Nat) (u:World) (a b c d e f:Value):Turn (fun x=>x=q) u ((((((u.setCell ⟨q,0,none⟩ a).setCell ⟨q,1,none⟩ b).setCell ⟨q,2,none⟩ c).setCell ⟨q,3,none⟩ d).setCell ⟨q,4,none⟩ e).setCell ⟨q,5,none⟩ f):=by
 have s:∀ (w:World) (i:Nat) (v:Value),Turn (fun x=>x=q) w (w.setCell ⟨q,i,none⟩ v):=fun w i v=>Turn.setCell _ w ⟨q,i,none⟩ v rfl
 have t:∀ {a b c:World},Turn (fun x=>x=q) a b->Turn (fun x=>x=q) b c->Turn (fun x=>x=q) a c:=fun h k=>h.trans k fun x hx=>.inl hx
 exact t (t (t (t (t (s _ _ _) (s _ _ _)) (s _ _ _)) (s _ _ _)) (s _ _ _)) (s _ _ _)
theorem Leaves.then {w w' w'':World} {p q:Nat} {F:Nat->Prop} {S:St} (h:Leaves w p F S w') (t:Turn (fun x=>x=q) w' w'') (hF:∀ x,F x->x<w.heap.size) (hq:w.heap.size<=q):Leaves w p F S w'':=
 ⟨h.1.turn t fun x hx e=>by have:=hF x hx;omega,h.2.trans t fun x hx=>.inr (by omega)⟩
theorem OO {w w':World} {m k:Nat} (g:w.grownBy w' (some m)) (h:k<w.heap.size) (hn:k≠m):w'.heap[k]? = w.heap[k]?:=g.block k h fun e=>hn (Jqz e)
theorem Jcy {w w':World} {r:Option Nat} (g:w.drew.grownBy w' r):w.grownBy w' r:=⟨g.os,g.tape,g.output,g.size,g.block⟩
theorem UC (p:Nat) (F:Nat->Prop) (S:St) (s:Sl) (w:World) (h:Nds w p F S) (hs:s.Fits) :
  Calls Tryz.prog 308 #[.pointer (some ⟨p,0,none⟩),Jh s] w fun e w'=>e=.returned (.tuple #[Jg (Vm S s),.int .i64 (ZS S s)])/\Leaves w p F (takeS S s) w':=by
 have HS:Hid s.Fits:=hs
 have H:Hid (Nds w p F S):=h
 obtain⟨x1,x2,x3,x4⟩:=O3 w (Jo s) (Jn no)
 have HE:Hid (ZS S s=(match JZ S s with|none=>50|some d=>if d.k=0 then 52 else 0)/\Vm S s=(if ZS S s=0 then Vt S s else no)/\takeS S s=if ZS S s=0 then Xj S s no else S):=⟨rfl,rfl,rfl⟩
 generalize ZS S s=te at *
 generalize Vm S s=tc at *
 generalize takeS S s=ts at *
 simp only[Jh,Jo,Jn,Jg,no] at x1 x2 x3 x4 ⊢
 go_enter Tryz.func308,Tryz.ntmps308
 go_wp2_with fail
 refine(JN p F S s _ (H.out.below x4)).mono ?_
 rintro e w3 ⟨rfl,b3⟩
 clear h hs
 have a1:AtS w3 w.heap.size s:=(b3.block _ (by rw[x3];omega)).trans x1
 have a2:AtC w3 (w.heap.size+1) no:=(b3.block _ (by rw[x3];omega)).trans x2
 have B:Hid (Below w.heap.size w w3):=Below.then x4 b3 x4.size
 clear x1 x2 x3 x4 b3
 have A1:Hid (AtS w3 w.heap.size s):=a1
 have A2:Hid (AtC w3 (w.heap.size+1) no):=a2
 obtain⟨s0,s1⟩:=a1.cells
 obtain⟨z0,z1,z2,z3,z4,z5⟩:=a2.cells
 have zf:=a2.frozen
 clear a1 a2
 generalize hr0:w.heap.size=r at *
 have HR:Hid (w.heap.size=r):=hr0
 clear hr0
 cases hq:JZ S s with
 | none =>
  rw[hq] at HE
  obtain⟨rfl,e2,e3⟩:=HE.out
  obtain rfl:ts=S:=e3.trans (if_neg (show ¬ (50:Int)=0 by decide))
  obtain rfl:tc=no:=e2.trans (if_neg (show ¬ (50:Int)=0 by decide))
  clear e2 e3 HE
  simp only[no] at z0 z1 z2 z3 z4 z5
  go_wp2
  refine bodyPost_ret (v:=.tuple #[Jg no,.int .i64 50]) ?_ rfl ⟨rfl,?_⟩
  ·simp[results,Tryz.f308,go_sem,Jg,no,z0,z1,z2,z3,z4,z5]
  ·exact Leaves.same H.out (by rw[HR.out];exact ZF B.out (by omega) _ _ _ _ _ _)
 | some d =>
  rw[hq] at HE
  have HQ:Hid (JZ S s=some d):=hq
  clear hq
  go_wp2_with fail
  refine(Jal p F S s _ (H.out.below (by rw[HR.out];exact B.out)) HS.out).mono ?_
  rintro e w4 ⟨rfl,b4⟩
  have a1:=A1.out.below b4
  have a2:=A2.out.below b4
  have B4:Hid (Below r w w4):=Below.then B.out b4 (by have:=B.out.size;have:=HR.out;omega)
  clear s0 s1 z0 z1 z2 z3 z4 z5 zf A1 A2 B b4
  have A1:Hid (AtS w4 r s):=a1
  have A2:Hid (AtC w4 (r+1) no):=a2
  obtain⟨s0,s1⟩:=a1.cells
  rw[Fl HQ.out]
  by_cases hd:d.k=0
  ·obtain⟨z0,z1,z2,z3,z4,z5⟩:=a2.cells
   have zf:=a2.frozen
   have hdd:(!decide (d.k≠0))=true:=by simp[hd]
   rw[hdd]
   obtain⟨e1,e2,e3⟩:=HE.out
   simp only[hd,if_true] at e1
   subst e1
   obtain rfl:ts=S:=e3.trans (if_neg (show ¬ (52:Int)=0 by decide))
   obtain rfl:tc=no:=e2.trans (if_neg (show ¬ (52:Int)=0 by decide))
   clear e2 e3 HE hdd hd a1 a2
   simp only[no] at z0 z1 z2 z3 z4 z5
   go_wp2
   refine bodyPost_ret (v:=.tuple #[Jg no,.int .i64 52]) ?_ rfl ⟨rfl,?_⟩
   ·simp[results,Tryz.f308,go_sem,Jg,no,z0,z1,z2,z3,z4,z5]
   ·exact Leaves.same H.out (by rw[HR.out];exact ZF B4.out (by omega) _ _ _ _ _ _)
  ·have hdd:(!decide (d.k≠0))=false:=by simp[hd]
   rw[hdd]
   obtain⟨e1,e2,e3⟩:=HE.out
   simp only[hd,if_false] at e1
   subst e1
   obtain rfl:ts=Xj S s no:=e3.trans (if_pos rfl)
   obtain rfl:tc=d:=(e2.trans (if_pos rfl)).trans (by unfold Vt;rw[HQ.out];rfl)
   clear e2 e3 HE hdd hd
   obtain⟨m,v,h4⟩:Nds w4 p F S:=H.out.below (by rw[HR.out];exact B4.out)
   have hl1:Sem.run Tryz.prog _ w4.drew=_:=(h4.map.of_block (w':=w4.drew) rfl).look HS.out false
   have hl2:∀ o,Sem.run Tryz.prog _ (w4.alloc o).drew=_:=fun o=>(h4.map.of_block (w':=(w4.alloc o).drew) (blk_alloc_lt _ _ _ h4.map.lt)).look HS.out false
   rw[Ja1 h4.ok HQ.out] at hl1 hl2
   obtain⟨c0,c1⟩:=h4.cells
   have c1':=Jx c1
   have s0':=Jx s0
   have s1':=Jx s1
   have H4:Hid (PN w4 p m v F S):=h4
   clear h4 a1 a2
   simp only[Jh,Jg] at hl1 hl2
   go_wp2
   go_region
   clear hl1 hl2 c0 c1 c1' s0 s0' s1 s1'
   have bb:Below w4.heap.size w4 (w4.alloc (Jn tc)).drew:=(Jb w4 (Jn tc)).drew
   have h5:=H4.out.below bb
   have a1:AtS (w4.alloc (Jn tc)).drew r s:=A1.out.below bb
   have a2:AtC (w4.alloc (Jn tc)).drew (r+1) no:=A2.out.below bb
   have a3:AtC (w4.alloc (Jn tc)).drew w4.heap.size tc:=AtC.new w4 tc
   have B5:Hid (Below r w (w4.alloc (Jn tc)).drew):=Below.then B4.out bb (by have:=B4.out.size;have:=HR.out;omega)
   have L4:Hid (r+1<w4.heap.size):=A2.out.lt
   clear bb A1 A2 B4 H4
   simp only[Jn] at h5 a1 a2 a3 B5
   generalize(w4.alloc (.cells #[.int .i64 tc.k,.int .i64 tc.o,.int .i64 tc.r,.int .u64 tc.b,.int .u64 tc.g,.int .i64 tc.z] 82)).drew=w5 at *
   generalize hq0:w4.heap.size=q at *
   clear hq0
   obtain⟨c0,c1⟩:=h5.cells
   obtain⟨s0,s1⟩:=a1.cells
   obtain⟨w6,hrun,k1,k2,k3⟩:=(h5.map.of_block (w':=w5.drew) rfl).drop HS.out 0
   have g:=Jcy k2
   have hm:m<r:=by have:=H.out.lt m h5.fm;have:=HR.out;omega
   have d2:AtC w6 (r+1) no:=(OO g a2.lt (by omega)).trans a2
   have d3:AtC w6 q tc:=(OO g a3.lt (by have:=L4.out;omega)).trans a3
   have K:Hid (Leaves w p F (Xj S s no) w6):=⟨⟨m,v,h5.del HQ.out g k1⟩,by
    have t1:Turn F w w5:=Turn.of (by rw[HR.out];exact B5.out) F
    exact t1.trans (G:=F) (Jbh h5 g) fun x hx=>.inl hx⟩
   have ne:Hid (q≠r+1):=(by have:=L4.out;omega:q≠r+1)
   clear k1 k2 k3 h5 g a1 a2 a3 hm
   obtain⟨z0,z1,z2,z3,z4,z5⟩:=d2.cells
   have zf:=d2.frozen
   obtain⟨y0,y1,y2,y3,y4,y5⟩:=d3.cells
   clear d2 d3
   simp only[Jh,no] at *
   go_wp2
   go_region
   clear hrun c0 c1 s0 s1
   go_wp2
   refine bodyPost_ret (v:=.tuple #[Jg tc,.int .i64 0]) ?_ rfl ⟨rfl,?_⟩
   ·simp[results,Tryz.f308,go_sem,Jg,z0,z1,z2,z3,z4,z5]
   ·exact K.out.then (Jmi (r+1) w6 _ _ _ _ _ _) H.out.lt (by have:=HR.out;omega)
theorem Leaves.trans {a b c:World} {p:Nat} {F:Nat->Prop} {S T:St} (h:Leaves a p F S b) (k:Leaves b p F T c):Leaves a p F T c:=⟨k.1,h.2.trans k.2 fun _ hx=>.inl hx⟩
theorem Jlk:Okay []:=⟨by simp,by simp,by simp⟩
theorem IM (w:World):Calls Tryz.prog 96 #[] w fun e w'=>∃ q F,e=.returned (.pointer (some ⟨q,0,none⟩))/\Nds w' q F []/\(∀ x,F x->w.heap.size<=x)/\Below w.heap.size w w':=by
 have hmm:=@run_makeMap Tryz.prog
 obtain⟨x1,x2,x3,x4⟩:=O3 w (.map #[] 0) (.cells #[.slice none 0 0,.map (some w.heap.size)] 192)
 have K:Hid (∃ q F,(Ending.returned (.pointer (some ⟨w.heap.size+1,0,none⟩)):Ending)=.returned (.pointer (some ⟨q,0,none⟩))/\Nds ((w.alloc (.map #[] 0)).alloc (.cells #[.slice none 0 0,.map (some w.heap.size)] 192)) q F []/\(∀ x,F x->w.heap.size<=x)/\Below w.heap.size w ((w.alloc (.map #[] 0)).alloc (.cells #[.slice none 0 0,.map (some w.heap.size)] 192))):=by
  refine⟨w.heap.size+1,fun x=>x=w.heap.size\/x=w.heap.size+1,rfl,⟨w.heap.size,.slice none 0 0,?_⟩,fun x hx=>by omega,x4⟩
  exact { head:=x2,row:=World.ownsRow_nil _ _ _ _,map:=((MapIs.new w).of_block (blk_alloc_lt _ _ _ (by simp))).congr fun s=>(by simp[Zg,JZ]),fp:=.inr rfl,fm:=.inl rfl,fv:=fun k hk=>(by cases hk),pm:=(by omega),lt:=fun x hx=>(by rw[x3];omega),ok:=Jlk }
 clear x1 x2 x3 x4
 go_enter Tryz.func96,Tryz.ntmps96
 go_wp2
 go_ret
 exact K.out
theorem Jno (S:St) (l:List Cp) (s:Sl):JZ (S++[l]) s=if s.n=S.length then (if 0<=s.i then l[s.i.toNat]? else none) else JZ S s:=by
 unfold JZ
 by_cases hn:0<=s.n
 ·by_cases hi:0<=s.i
  ·simp only[hn,hi,and_self,if_true]
   rw[List.getD_eq_getElem?_getD,List.getElem?_append]
   by_cases h1:s.n.toNat<S.length
   ·rw[if_pos h1,if_neg (by omega),<- List.getD_eq_getElem?_getD]
   ·rw[if_neg h1]
    by_cases h2:s.n=S.length
    ·rw[if_pos h2]
     have:s.n.toNat - S.length=0:=by omega
     rw[this]
     rfl
    ·rw[if_neg h2]
     have e:S.getD s.n.toNat []=[]:=by rw[List.getD_eq_getElem?_getD,List.getElem?_eq_none (by omega)];rfl
     have e2:([l]:St)[s.n.toNat - S.length]? = none:=Jqy (by rw[List.length_singleton];omega)
     rw[e,e2]
     rfl
  ·simp[hi]
 ·have:¬ s.n=S.length:=by omega
  simp[hn,this]
theorem Jkb (S:St) (n:Nat) (s:Sl):Zg (S++[List.replicate n no]) s=Zg S s:=by
 unfold Zg
 rw[Jno]
 by_cases h:s.n=S.length
 ·have e:JZ S s=none:=by
   cases hq:JZ S s with
   | none=>rfl
   | some c =>
    have:=(VD hq).2.2.1
    omega
  rw[if_pos h,e]
  by_cases hi:0<=s.i
  ·rw[if_pos hi,List.getElem?_replicate]
   by_cases h2:s.i.toNat<n
   ·rw[if_pos h2];rfl
   ·rw[if_neg h2]
  ·rw[if_neg hi]
 ·rw[if_neg h]
theorem Jlj {S:St} (h:Okay S) (hl:S.length<64) (b:Nat) (b1:1<=b) (b2:b<=8):Okay (S++[List.replicate (2 ^ b) no]):=by
 refine⟨by simp;omega,fun l hl=>?_,fun l hl c hc=>?_⟩
 ·rcases Jrc.1 hl with hl|hl
  ·exact h.row l hl
  ·obtain rfl:=List.mem_singleton.1 hl
   exact .inr ⟨b,b1,b2,by simp⟩
 ·rcases Jrc.1 hl with hl|hl
  ·exact h.cap l hl c hc
  ·obtain rfl:=List.mem_singleton.1 hl
   obtain⟨_,rfl⟩:=List.mem_replicate.1 hc
   exact⟨MW,fun _=>rfl⟩
theorem Jx9:(Tryz.prog.info? 3).map (fun i=>(i.zero,i.size,i.bytes))=some (some (.int .i64 0),1,8):=by kernel_rfl
theorem Jcq (w:World) (ty:TypeId) (v:Value) (n:Nat) (xs:List Value) (x:Int) (hown:w.ownsRow 0 3 1 v n xs) (hl:n<=1000000) :
  ∃ v' w',(Builtin.append_ #[22,22] ty #[v,.slice (some ⟨w.heap.size,0,none⟩) 1 1]).run Tryz.prog (w.alloc (.cells #[.int .i64 x] 3))=.ok v' w'/\w'.ownsRow 0 3 1 v' (n+1) (xs++[.int .i64 x])/\w.grownBy w' v.ownBlock/\(v'.ownBlock=v.ownBlock\/v'.ownBlock=some (w.heap.size+1)):=by
 obtain⟨i,hi,hz⟩:=Jqt.1 Jx9
 simp only[Prod.mk.injEq] at hz
 obtain⟨v',w',r1,r2,r3,_,r5⟩:=run_append_own_at (P:=Tryz.prog) (w.alloc (.cells #[.int .i64 x] 3)) 0 22 ty 3 i _ 1 8 Tryz.underlying22 hi hz.1 hz.2.1 hz.2.2 rfl (by decide) v n xs (World.ownsRow.alloc hown _) ⟨w.heap.size,0,none⟩ 1 1 [.int .i64 x] rfl
  (cell_one_new _ _ _) (by simp[Value.oneCell']) (by unfold maxLen;omega) (by omega) (by omega)
 exact⟨v',w',r1,r2,(World.grownBy_alloc w _ _).trans r3,by simpa using r5⟩
def Il (w:World) (p:Nat) (F:Nat->Prop) (S:St) (w':World):Prop:=∃ F',Nds w' p F' S/\Turn F w w'/\Out F F' w
theorem Leaves.wide {w w':World} {p:Nat} {F:Nat->Prop} {S:St} (h:Leaves w p F S w'):Il w p F S w':=⟨F,h.1,h.2,Out.refl F w⟩
theorem Jov (p:Nat) (bits:Int) (w:World) (hb:¬ (1<=bits/\bits<=8)) :
  Calls Tryz.prog 33 #[.pointer (some ⟨p,0,none⟩),.int .i64 bits] w fun e w'=>e=.returned (.tuple #[.int .i64 0,.int .i64 1])/\w'=w:=by
 by_cases h1:bits<1
 ·clear hb
  go_enter Tryz.func33,Tryz.ntmps33
  go_wp2
  all_goals go_ret2
  all_goals exact⟨rfl,rfl⟩
 ·have h2:8<bits:=by omega
  clear hb
  go_enter Tryz.func33,Tryz.ntmps33
  go_wp2
  all_goals go_ret2
  all_goals exact⟨rfl,rfl⟩
theorem Jkz (p:Nat) (F:Nat->Prop) (S:St) (bits:Int) (w:World) (h:Nds w p F S) (hb:1<=bits/\bits<=8) (hl:¬ S.length<64) :
  Calls Tryz.prog 33 #[.pointer (some ⟨p,0,none⟩),.int .i64 bits] w fun e w'=>e=.returned (.tuple #[.int .i64 0,.int .i64 2])/\w'=w:=by
 obtain⟨m,v,h⟩:=h
 obtain⟨c0,c1⟩:=h.cells
 obtain⟨ao,cap,rfl,_⟩:=h.slice
 clear h
 obtain⟨b1,b2⟩:=hb
 have hl':(64:Int)<=(S.length:Int):=by omega
 clear hl
 generalize S.length=n at *
 go_enter Tryz.func33,Tryz.ntmps33
 go_wp2
 all_goals go_ret2
 all_goals exact⟨rfl,rfl⟩
theorem Jk2 (p:Nat) (F:Nat->Prop) (S:St) (b:Nat) (w:World) (h:Nds w p F S) (b1:1<=b) (b2:b<=8) (hl:S.length<64) :
  Calls Tryz.prog 33 #[.pointer (some ⟨p,0,none⟩),.int .i64 (b:Nat)] w fun e w'=>e=.returned (.tuple #[.int .i64 (S.length:Nat),.int .i64 0])/\Il w p F (S++[List.replicate (2 ^ b) no]) w':=by
 obtain⟨m,v,h⟩:=h
 have H:Hid (PN w p m v F S):=h
 obtain⟨v',w5,hrun,own5,g5,loc⟩:=Jcq w 22 v S.length (S.map EE) (b:Nat) h.row (by omega)
 obtain⟨c0,c1⟩:=h.cells
 have hp5:w5.heap[p]? = some (.cells #[v,.map (some m)] 192 (0,0)):=(g5.block _ (h.lt _ h.fp) fun e=>(h.fv p e.symm).2.1 rfl).trans h.head
 have vne:∀ k,v'.ownBlock=some k->k≠p/\k≠m:=fun k hk=>by
  rcases loc with e|e
  ·exact(h.fv k (e ▸ hk)).2
  ·rw[e] at hk
   cases hk
   have:=h.lt _ h.fp
   have:=h.lt _ h.fm
   omega
 have K:Hid (Il w p F (S++[List.replicate (2 ^ b) no]) (w5.setCell ⟨p,0,none⟩ v')):=by
  have hF:∀ x,(F x\/v'.ownBlock=some x)->F x\/w.heap.size<=x:=fun x hx=>by
   rcases hx with hx|hx
   ·exact .inl hx
   ·rcases loc with e|e
    ·exact .inl (h.fv x (e ▸ hx)).1
    ·rw[e] at hx
     cases hx
     exact .inr (by omega)
  have t5:Turn F w w5:=Turn.grown g5 fun k hk=>.inl (h.fv k hk).1
  refine⟨fun x=>F x\/v'.ownBlock=some x,⟨m,v',?_⟩,t5.trans (Turn.setCell F w5 ⟨p,0,none⟩ v' h.fp) fun x hx=>.inl hx,hF⟩
  exact {
   head:=by
    simp only[World.setCell,Array.getElem?_modify,hp5,Option.map_some]
    simp
   row:=by
    have e:(S++[List.replicate (2 ^ b) no]).map EE=S.map EE++[.int .i64 (b:Nat)]:=by
     simp[EE,J7,Nat.log2_two_pow]
    rw[e,List.length_append]
    exact Jw own5 fun g hg=>blk_setCell_other _ _ _ _ fun e=>(vne g hg).1 e
   map:=((h.map.of_block (g5.block _ (h.lt _ h.fm) fun e=>(h.fv m e.symm).2.2 rfl)).of_block (blk_setCell_other _ _ _ _ fun e=>h.pm e.symm)).congr fun s=>Jkb S _ s
   fp:=.inl h.fp
   fm:=.inl h.fm
   fv:=fun k hk=>⟨.inr hk,vne k hk⟩
   pm:=h.pm
   lt:=fun x hx=>by
    rw[nblk_setCell]
    rcases hx with hx|hx
    ·exact Jrb (h.lt x hx) g5.size
    ·exact(World.ownsRow.lt own5 x hx).2
   ok:=Jlj h.ok hl b b1 b2 }
 obtain⟨ao,cap,rfl,_⟩:=h.slice
 have e5:w5.cell? ⟨p,0,none⟩=some (.slice ao S.length cap):=by simp[World.cell?,hp5]
 have f5:w5.frozen? ⟨p,0,none⟩=false:=by simp[World.frozen?,hp5]
 have hv':∃ ao' cap',v'=.slice ao' (S.length+1) cap':=by
  rcases own5.2 with ⟨_,h0⟩|⟨g,cap',cur,e,_⟩
  ·omega
  ·exact⟨_,_,e⟩
 obtain⟨ao',cap',rfl⟩:=hv'
 have HRun:Hid _:=hrun
 have hl':(S.length:Int)<64:=by omega
 have hb1:(1:Int)<=(b:Int):=by omega
 have hb2:(b:Int)<=8:=by omega
 clear h own5 g5 loc hp5 vne hrun hl b1 b2
 generalize S.length=n at *
 go_enter Tryz.func33,Tryz.ntmps33
 go_wp2_with (at_builtin;refine Jd rfl (.tmp 22) (.tmp 24) 22 rfl _ _ _ _ rfl rfl HRun.out ?_)
 all_goals go_ret2
 all_goals exact⟨by simp,K.out⟩
theorem Jky (p:Nat) (F:Nat->Prop) (S:St) (bits:Int) (w:World) (h:Nds w p F S) :
  Calls Tryz.prog 33 #[.pointer (some ⟨p,0,none⟩),.int .i64 bits] w fun e w'=>e=.returned (.tuple #[.int .i64 (JW S bits),.int .i64 (JV S bits)])/\Il w p F (Zq S bits) w':=by
 by_cases hb:1<=bits/\bits<=8
 ·by_cases hl:S.length<64
  ·obtain⟨b,rfl⟩:=Jqg (show 0<=bits by omega)
   refine(Jk2 p F S b w h (by omega) (by omega) hl).mono ?_
   rintro e w' ⟨rfl,k⟩
   have e1:JV S (b:Int)=0:=by unfold JV;rw[if_pos hb,if_pos hl]
   refine⟨by rw[JW,e1,if_pos rfl],?_⟩
   rw[Zq,e1,if_pos rfl]
   simpa using k
  ·refine(Jkz p F S bits w h hb hl).mono ?_
   rintro e w' ⟨rfl,rfl⟩
   have e1:JV S bits=2:=by unfold JV;rw[if_pos hb,if_neg hl]
   refine⟨by rw[JW,e1];rfl,?_⟩
   rw[Zq,e1,if_neg (by decide)]
   exact(Leaves.same h (Below.refl _ _)).wide
 ·refine(Jov p bits w hb).mono ?_
  rintro e w' ⟨rfl,rfl⟩
  have e1:JV S bits=1:=by unfold JV;rw[if_neg hb]
  refine⟨by rw[JW,e1];rfl,?_⟩
  rw[Zq,e1,if_neg (by decide)]
  exact(Leaves.same h (Below.refl _ _)).wide
theorem Jjg (S:St) (j:Nat) (s:Sl):JZ (S.set j []) s=if s.n=(j:Int) then none else JZ S s:=by
 unfold JZ
 rw[Xt]
 by_cases hn:s.n=(j:Int)
 ·have e:s.n.toNat=j:=by omega
  rw[if_pos hn,e]
  by_cases hl:j<S.length
  ·simp[hl]
  ·have e2:S.getD j []=[]:=by rw[List.getD_eq_getElem?_getD,List.getElem?_eq_none (by omega)];rfl
   rw[e2]
   simp[hl]
 ·rw[if_neg hn]
  by_cases hp:0<=s.n/\0<=s.i
  ·have e:¬ s.n.toNat=j:=by omega
   simp[hp,e]
  ·simp[hp]
theorem Jgu {S:St} {j:Nat} (h:∀ c∈S.getD j [],c.k=0) (s:Sl):Zg (S.set j []) s=Zg S s:=by
 unfold Zg
 rw[Jjg]
 by_cases hn:s.n=(j:Int)
 ·rw[if_pos hn]
  cases hq:JZ S s with
  | none=>rfl
  | some c =>
   have:=(VD hq).2.2.2.2.1
   have e:s.n.toNat=j:=by omega
   rw[e] at this
   simp[h c (List.mem_of_getElem? this)]
 ·rw[if_neg hn]
theorem Jhp {S:St} (h:Okay S) (j:Nat):Okay (S.set j []):=by
 refine⟨by simpa using h.len,fun l hl=>?_,fun l hl c hc=>?_⟩
 ·rcases List.mem_or_eq_of_mem_set hl with hl|rfl
  ·exact h.row l hl
  ·exact .inl rfl
 ·rcases List.mem_or_eq_of_mem_set hl with hl|rfl
  ·exact h.cap l hl c hc
  ·cases hc
theorem PN.drop {w:World} {p m:Nat} {v:Value} {F:Nat->Prop} {S:St} (h:PN w p m v F S) {g j:Nat} (hg:v.ownBlock=some g) (_hj:j<S.length) (hk:∀ c∈S.getD j [],c.k=0):PN (w.setCell ⟨g,j,none⟩ (.int .i64 0)) p m v F (S.set j []) where
 head:=(blk_setCell_other _ _ _ _ fun e=>(h.fv g hg).2.1 e.symm).trans h.head
 row:=by
  have hr:=h.row
  obtain⟨h0,⟨rfl,_⟩|⟨g',cap,cur,rfl,hb,hc,h1,h2,h3,h4⟩⟩:=hr
  ·cases hg
  ·obtain rfl:g'=g:=by simpa [Value.ownBlock] using hg
   refine⟨by simp,.inr ⟨g',cap,cur.setIfInBounds j (.int .i64 0),by rw[List.length_set],hb,?_,by rw[List.length_set];exact h1,h2,by simpa using h3,?_⟩⟩
   ·simp only[World.setCell,Array.getElem?_modify,hc,Option.map_some]
    simp
   ·rw[List.map_set,<- h4,List.length_set,Array.toList_setIfInBounds,List.take_set]
    rfl
 map:=(h.map.of_block (blk_setCell_other _ _ _ _ fun e=>(h.fv g hg).2.2 e.symm)).congr fun s=>Jgu hk s
 fp:=h.fp
 fm:=h.fm
 fv:=h.fv
 pm:=h.pm
 lt:=fun x hx=>by rw[nblk_setCell];exact h.lt x hx
 ok:=Jhp h.ok j
open Go.Sort
def Vs (x:Sl×Cp):List Value:=[.int .i64 x.1.n,.int .i64 x.1.i,.int .i64 x.2.k,.int .i64 x.2.o,.int .i64 x.2.r,.int .u64 x.2.b,.int .u64 x.2.g,.int .i64 x.2.z]
def Grown (w W:World):Prop:=∃ q os,W=grow (w.drewN q) os
theorem Grown.drew {w W:World} (h:Grown w W):Grown w W.drew:=by
 obtain⟨q,os,rfl⟩:=h
 exact⟨q+1,os,rfl⟩
theorem Grown.alloc {w W:World} (h:Grown w W) (o:Obj):Grown w (W.alloc o):=by
 obtain⟨q,os,rfl⟩:=h
 exact⟨q,os++#[o],by rw[alloc_eq_grow,grow_grow]⟩
open Go.Shelf Go.Lib
variable [iSl:Inhabited Sl] [iCp:Inhabited Cp]
def XS (A:List (Sl×Cp)):List Value:=A.flatMap Vs
def OwnH (B:Nat) (w:World) (v:Value) (A:List (Sl×Cp)):Prop:=w.ownsRow B 84 8 v A.length (XS A)
end Sl
namespace Sl
open Go.RowKit Go.Deep Go.MapKept Go.Maps
variable [dCp:DecidableEq Cp] [dLim:∀ k,Decidable (ZV k)] [dBad:∀ k,Decidable (Xn k)] [dFit:∀ g z,Decidable (Fit g z)] [dFine:∀ c,Decidable (Fine c)] [dMint:∀ c v,Decidable (JK c v)] [dWho:∀ x y,Decidable (Zx x y)] [dSl:DecidableEq Sl] [dLt:∀ a b,Decidable (MC a b)] [iSl:Inhabited Sl] [iCp:Inhabited Cp]
theorem OwnH.grown {B:Nat} {w w':World} {v:Value} {A:List (Sl×Cp)} {r:Option Nat} (h:OwnH B w v A) (g:w.grownBy w' r) (hr:∀ k,r=some k->v.ownBlock≠some k):OwnH B w' v A:=
 Jw h fun q hq=>g.block q (World.ownsRow.lt h q hq).2 fun e=>hr q e.symm hq
theorem Ranges.grown {w w':World} {b r:Nat} {f:Sl->Option Cp} {A:List (Sl×Cp)} {cnt:Nat} {q:Option Nat} (h:Ranges w b r f A cnt) (g:w.grownBy w' q) (h1:q≠some b) (h2:q≠some r):Ranges w' b r f A cnt:=
 h.of_block (g.block _ h.lt.1 fun e=>h1 e.symm) (g.block _ h.lt.2 fun e=>h2 e.symm)
structure Has (w0:World) (r:Nat) (w:World) (p:Nat) (F:Nat->Prop) (S:St) (L:List (Nat×Obj)) (M:List (Value×List (Sl×Cp))):Prop where
 nds:Nds w p F S
 low:Below r w0 w
 own:∀ x,F x->r<=x
 size:r<=w.heap.size
 blk:∀ b∈L,w.heap[b.1]? = some b.2/\¬ F b.1
 row:∀ b∈M,OwnH r w b.1 b.2/\∀ k,b.1.ownBlock=some k->¬ F k
section
variable {w0:World} {r:Nat} {w w':World} {p:Nat} {F:Nat->Prop} {S T:St} {L:List (Nat×Obj)} {M:List (Value×List (Sl×Cp))}
theorem Has.turn (h:Has w0 r w p F S L M) {F':Nat->Prop} (n:Nds w' p F' T) (t:Turn F w w') (o:Out F F' w):Has w0 r w' p F' T L M where
 nds:=n
 low:=t.below h.low h.own h.size
 own:=fun x hx=>(o x hx).elim (h.own x) fun hx=>Jql h.size hx
 size:=Jql h.size t.size
 blk:=fun b hb=>by
  obtain⟨h1,h2⟩:=h.blk b hb
  have hl:b.1<w.heap.size:=(Jqf.1 h1).1
  exact⟨(t.block _ hl h2).trans h1,fun hx=>(o _ hx).elim h2 fun hx=>by omega⟩
 row:=fun b hb=>by
  obtain⟨h1,h2⟩:=h.row b hb
  exact⟨Jw h1 fun g hg=>t.block _ (World.ownsRow.lt h1 g hg).2 (h2 g hg),fun k hk hx=>(o _ hx).elim (h2 k hk) fun hx=>by have:=(World.ownsRow.lt h1 k hk).2;omega⟩
theorem Has.leaves (h:Has w0 r w p F S L M) (l:Leaves w p F T w'):Has w0 r w' p F T L M:=h.turn l.1 l.2 (Out.refl _ _)
theorem Has.wide (h:Has w0 r w p F S L M) (l:Il w p F T w'):∃ F',Has w0 r w' p F' T L M:=by
 obtain⟨F',n,t,o⟩:=l
 exact⟨F',h.turn n t o⟩
theorem Jk0 (bits:Int) (n e:Int) (T:St) (h:Has w0 r w p F S L M) (hn:JW S bits=n) (he:JV S bits=e) (hT:Zq S bits=T) :
  Calls Tryz.prog 33 #[.pointer (some ⟨p,0,none⟩),.int .i64 bits] w fun x w'=>x=.returned (.tuple #[.int .i64 n,.int .i64 e])/\∃ F',Has w0 r w' p F' T L M:=by
 subst hn he hT
 refine(Jky p F S bits w h.nds).mono ?_
 rintro x w' ⟨rfl,l⟩
 exact⟨rfl,h.wide l⟩
theorem Jpc (s:Sl) (c:Cp) (e:Int) (T:St) (h:Has w0 r w p F S L M) (hs:s.Fits) (hc:c.Fits) (he:VX S s c=e) (hT:ZL S s c=T) :
  Calls Tryz.prog 40 #[.pointer (some ⟨p,0,none⟩),Jh s,Jg c] w fun x w'=>x=.returned (.int .i64 e)/\Has w0 r w' p F T L M:=by
 subst he hT
 refine(GH p F S s c w h.nds hs hc).mono ?_
 rintro x w' ⟨rfl,l⟩
 exact⟨rfl,h.leaves l⟩
theorem Jmt (s:Sl) (c:Cp) (e:Int) (T:St) (h:Has w0 r w p F S L M) (hs:s.Fits) (hc:Vm S s=c) (he:ZS S s=e) (hT:takeS S s=T) :
  Calls Tryz.prog 308 #[.pointer (some ⟨p,0,none⟩),Jh s] w fun x w'=>x=.returned (.tuple #[Jg c,.int .i64 e])/\Has w0 r w' p F T L M:=by
 subst hc he hT
 refine(UC p F S s w h.nds hs).mono ?_
 rintro x w' ⟨rfl,l⟩
 exact⟨rfl,h.leaves l⟩
end
end Sl
namespace Sl
open Go.RowKit
variable [dCp:DecidableEq Cp] [dLim:∀ k,Decidable (ZV k)] [dBad:∀ k,Decidable (Xn k)] [dFit:∀ g z,Decidable (Fit g z)] [dFine:∀ c,Decidable (Fine c)] [dMint:∀ c v,Decidable (JK c v)] [dWho:∀ x y,Decidable (Zx x y)]
theorem Ij (a n:Int) (w:World) (h0:0<=a) (h1:0<=n) (h2:n<=64 - a) :
  Calls Tryz.prog 342 #[.int .i64 a,.int .i64 n] w fun e w'=>e=.returned (.bool true)/\w'=w:=by
 go_enter Tryz.func342,Tryz.ntmps342
 go_wp2
 go_ret
 exact⟨rfl,rfl⟩
theorem Oh (v a n:Int) (w:World) (v0:0<=v) (v1:v<=18446744073709551615) (h0:0<=a) (h1:0<=n) (h2:n<=64 - a) :
  Calls Tryz.prog 278 #[.int .u64 v,.int .i64 a,.int .i64 n] w fun e w'=>e=.returned (.tuple #[.int .u64 (VR v a n),.int .i64 0])/\w'=w:=by
 go_enter Tryz.func278,Tryz.ntmps278
 go_wp2_with (first|(go_at_call 343;refine(Vi _ _ (by omega) (by omega)).mono ?_;rintro e w' ⟨rfl,rfl⟩)|(go_at_call 342;refine(Ij _ _ _ (by omega) (by omega) (by omega)).mono ?_;rintro e w' ⟨rfl,rfl⟩))
 go_ret2
 exact⟨ZM (U8 v a n v0 v1 h0 h1 (by omega)) rfl,rfl⟩
end Sl
namespace Sl
open Go.RowKit Go.Deep Go.MapKept Go.Maps
variable [dCp:DecidableEq Cp] [dLim:∀ k,Decidable (ZV k)] [dBad:∀ k,Decidable (Xn k)] [dFit:∀ g z,Decidable (Fit g z)] [dFine:∀ c,Decidable (Fine c)] [dMint:∀ c v,Decidable (JK c v)] [dWho:∀ x y,Decidable (Zx x y)] [dSl:DecidableEq Sl] [dLt:∀ a b,Decidable (MC a b)] [dIsN:∀ S c,Decidable (Gq S c)] [dGuN:∀ a c d,Decidable (XT a c d)]
def Jhi (a d:Int):Obj:=.cells #[.int .u64 a,.int .i64 d] 310
def AtA (w:World) (q:Nat) (a d:Int):Prop:=w.heap[q]? = some (Jhi a d)
theorem AtA.lt {w:World} {q:Nat} {a d:Int} (h:AtA w q a d):q<w.heap.size:=(Jqf.1 h).1
theorem AtA.below {w w':World} {q:Nat} {a d:Int} (h:AtA w q a d) (u:Below w.heap.size w w'):AtA w' q a d:=(u.block _ h.lt).trans h
theorem AtA.cells {w:World} {q:Nat} {a d:Int} (h:AtA w q a d):w.cell? ⟨q,0,none⟩=some (.int .u64 a)/\w.cell? ⟨q,1,none⟩=some (.int .i64 d)/\w.frozen? ⟨q,0,none⟩=false/\w.frozen? ⟨q,1,none⟩=false:=by
 unfold AtA Jhi at h
 refine⟨?_,?_,?_,?_⟩<;>simp[World.cell?,World.frozen?,h]
theorem AtA.set1 {w:World} {q:Nat} {a d:Int} (h:AtA w q a d) (e:Int):AtA (w.setCell ⟨q,1,none⟩ (.int .i64 e)) q a e:=by
 unfold AtA Jhi at h ⊢
 simp only[World.setCell,Array.getElem?_modify,h,Option.map_some]
 simp
def One (q:Nat):Nat->Prop:=fun x=>x=q
theorem Jfz (q:Nat) (a d b:Int) (w:World) (h:AtA w q a d) (hb:d<b) :
  Calls Tryz.prog 200 #[.pointer (some ⟨q,0,none⟩),.int .i64 b] w fun e w'=>e=.returned (.tuple #[.int .u64 0,.bool false])/\w'=w:=by
 obtain⟨c0,c1,f0,f1⟩:=h.cells
 clear h
 go_enter Tryz.func200,Tryz.ntmps200
 go_wp2
 all_goals go_ret2
 all_goals exact⟨rfl,rfl⟩
theorem Jcf (q:Nat) (a d b:Int) (w:World) (h:AtA w q a d) (a0:0<=a) (a1:a<=18446744073709551615) (b0:0<=b) (hb:b<=d) (hd:d<=64) :
  Calls Tryz.prog 200 #[.pointer (some ⟨q,0,none⟩),.int .i64 b] w fun e w'=>e=.returned (.tuple #[.int .u64 (VR a (d - b) b),.bool true])/\AtA w' q a (d - b)/\Turn (One q) w w':=by
 obtain⟨c0,c1,f0,f1⟩:=h.cells
 have k:=h.set1 (d - b)
 have K:Hid (AtA (w.setCell ⟨q,1,none⟩ (.int .i64 (d - b))) q a (d - b)/\Turn (One q) w (w.setCell ⟨q,1,none⟩ (.int .i64 (d - b)))):=⟨k,Turn.setCell _ w ⟨q,1,none⟩ _ rfl⟩
 obtain⟨e0,e1,g0,g1⟩:=k.cells
 clear h k
 have fc:=fun W=>Oh a (d - b) b W a0 a1 (by omega) b0 (by omega)
 go_enter Tryz.func200,Tryz.ntmps200
 go_wp2
 generalize w.setCell ⟨q,1,none⟩ (.int .i64 (d - b))=w2 at *
 go_quiet ((go_at_call 278;refine Calls.quiet_of_same (fc _)))
 go_wp2
 go_ret2
 exact⟨rfl,K.out.1,K.out.2.os,K.out.2.tape,K.out.2.output,K.out.2.size,K.out.2.block⟩
def Ma (S:St) (c:Cp):Int:=if Gq S c then Xs S c else 0
theorem Jmj {S:St} {c:Cp} (h:J5 S c.o≠[]):UW S c.o=Xs S c/\XH S c.o=true:=by
 unfold UW XH Xs
 rw[if_neg h]
 refine⟨rfl,?_⟩
 cases hS:J5 S c.o with
 | nil=>exact absurd hS h
 | cons=>rfl
theorem Jmk {S:St} {c:Cp} (h:¬ J5 S c.o≠[]):UW S c.o=0/\XH S c.o=false:=by
 have h':J5 S c.o=[]:=Decidable.not_not.1 h
 unfold UW XH
 rw[h']
 exact⟨rfl,rfl⟩
theorem Jef (p:Nat) (F:Nat->Prop) (S:St) (c:Cp) (w:World) (h:Nds w p F S) (hf:c.Fits) :
  Calls Tryz.prog 279 #[.pointer (some ⟨p,0,none⟩),Jg c] w fun e w'=>e=.returned (.tuple #[.int .i64 (Ma S c),.bool (decide (Gq S c))])/\Below w.heap.size w w':=by
 have H:Hid (Nds w p F S/\c.Fits):=⟨h,hf⟩
 have b1:=Jb w (Jn c)
 have a1:=AtC.new w c
 have B1:Hid (Below w.heap.size w (w.alloc (Jn c))):=b1
 have A1:Hid (AtC (w.alloc (Jn c)) w.heap.size c):=a1
 obtain⟨z0,z1,z2,z3,z4,z5⟩:=a1.cells
 clear h hf a1 b1
 by_cases hk:c.k=2
 ·have hk':(c.k != 2)=false:=by simp[hk]
  have HK:Hid (c.k=2):=hk
  clear hk
  simp only[Jg,Jn] at *
  go_enter Tryz.func279,Tryz.ntmps279
  go_wp2_with fail
  refine(J9 c _ H.out.2).mono ?_
  rintro e w2 ⟨rfl,b2⟩
  have B2:Hid (Below w.heap.size w w2):=Below.then B1.out b2 B1.out.size
  have a2:=AtC.below A1.out b2
  clear z0 z1 z2 z3 z4 z5 A1 B1 b2
  generalize hr0:w.heap.size=r at *
  have HR:Hid (w.heap.size=r):=hr0
  clear hr0
  obtain⟨z0,z1,z2,z3,z4,z5⟩:=a2.cells
  clear a2
  by_cases hF:Fine c
  ·have e1:Zk c=0:=by simp[Zk,hF]
   rw[e1]
   have HF:Hid (Fine c):=hF
   clear e1 hF
   go_wp2_with fail
   refine(Vl p F S c.o w2 (H.out.1.below (by rw[HR.out];exact B2.out))).mono ?_
   rintro e w3 ⟨rfl,rfl⟩
   by_cases hn:J5 S c.o≠[]
   ·have hi:Gq S c:=⟨HK.out,HF.out,hn⟩
    obtain⟨e1,e2⟩:=Jmj hn
    rw[e1,e2]
    have e3:Ma S c=Xs S c:=by unfold Ma;rw[if_pos hi]
    have E:Hid (Ma S c=Xs S c/\decide (Gq S c)=true):=⟨e3,by simp[hi]⟩
    clear e1 e2 e3 hn hi
    go_wp2
    all_goals go_ret2
    all_goals exact⟨by rw[E.out.1,E.out.2];rfl,by rw[HR.out];exact B2.out⟩
   ·have hi:¬ Gq S c:=fun h=>hn h.2.2
    obtain⟨e1,e2⟩:=Jmk hn
    rw[e1,e2]
    have E:Hid (Ma S c=0/\decide (Gq S c)=false):=⟨by unfold Ma;rw[if_neg hi],by simp[hi]⟩
    clear e1 e2 hn hi
    go_wp2
    all_goals go_ret2
    all_goals exact⟨by rw[E.out.1,E.out.2];rfl,by rw[HR.out];exact B2.out⟩
  ·have e1:Zk c=40:=by simp[Zk,hF]
   rw[e1]
   have hi:¬ Gq S c:=fun h=>hF h.2.1
   have E:Hid (Ma S c=0/\decide (Gq S c)=false):=⟨by unfold Ma;rw[if_neg hi],by simp[hi]⟩
   clear e1 hF hi
   go_wp2
   all_goals go_ret2
   all_goals exact⟨by rw[E.out.1,E.out.2];rfl,by rw[HR.out];exact B2.out⟩
 ·have hk':(c.k != 2)=true:=by simp[hk]
  have hi:¬ Gq S c:=fun h=>hk h.1
  have E:Hid (Ma S c=0/\decide (Gq S c)=false):=⟨by unfold Ma;rw[if_neg hi],by simp[hi]⟩
  clear hi hk
  simp only[Jg,Jn] at *
  go_enter Tryz.func279,Tryz.ntmps279
  go_wp2
  all_goals go_ret2
  all_goals exact⟨by rw[E.out.1,E.out.2];rfl,B1.out⟩
section
variable {w w' u:World} {q x:Nat} {F:Nat->Prop}
theorem AtC.turn {c:Cp} (h:AtC w x c) (t:Turn F w w') (ne:¬ F x):AtC w' x c:=(t.block _ h.lt ne).trans h
theorem AtS.turn {s:Sl} (h:AtS w x s) (t:Turn F w w') (ne:¬ F x):AtS w' x s:=(t.block _ h.lt ne).trans h
theorem Turn.put (t:Turn F w u) (hx:w.heap.size<=x) (i:Nat) (v:Value):Turn F w (u.setCell ⟨x,i,none⟩ v):=
 t.trans (Turn.setCell (One x) u ⟨x,i,none⟩ v rfl) fun y hy=>.inr (by unfold One at hy;omega)
end
theorem AtS.frozen {w:World} {q:Nat} {s:Sl} (h:AtS w q s) (j:Nat):w.frozen? ⟨q,j,none⟩=false:=by
 unfold AtS Jo at h
 simp[World.frozen?,h]
theorem AtA.put {w:World} {q x:Nat} {a d:Int} (h:AtA w q a d) (ne:q≠x) (i:Nat) (v:Value):AtA (w.setCell ⟨x,i,none⟩ v) q a d:=(blk_setCell_other _ _ _ _ ne).trans h
theorem E0 (a d b:Nat) (hb:b<=d):VR (a:Int) ((d:Int) - (b:Int)) (b:Int)=((Zm a (d - b) b:Nat):Int):=by
 unfold VR
 simp only[Int.toNat_natCast]
 rw[show((d:Int) - (b:Int)).toNat=d - b by omega]
theorem Mr (p q:Nat) (F:Nat->Prop) (S:St) (c:Cp) (a d:Nat) (w:World) (h:Nds w p F S) (hA:AtA w q a d) (hq:¬ F q) (hf:c.Fits) (ha:a<18446744073709551616) (hd:d<=64) :
  Calls Tryz.prog 201 #[.pointer (some ⟨p,0,none⟩),Jg c,.func (.func 200) #[.pointer (some ⟨q,0,none⟩)] #[]] w fun e w'=>e=.returned (.tuple #[Jh (Uu S a c d),.int .i64 (Vh S a c d)])/\Turn (One q) w w'/\(Vh S a c d=0->AtA w' q a (XP S c d)):=by
 have H:Hid (Nds w p F S/\c.Fits/\¬ F q):=⟨h,hf,hq⟩
 have OK:=h.ok
 have hql:=hA.lt
 obtain⟨x1,x2,x3,x4⟩:=O3 w (Jn c) (Jo Vv)
 have sc:=fun W hW=>Jef p F S c W hW hf
 obtain⟨es,HN⟩:∃ es,Hid (es=Uu S a c d):=⟨_,rfl⟩
 obtain⟨en,HE⟩:∃ en,Hid (en=Vh S a c d):=⟨_,rfl⟩
 rw[<- HN.out,<- HE.out]
 have z2:∀ W,AtS W (w.heap.size+1) Vv->W.cell? ⟨w.heap.size+1,0,none⟩=some (.int .i64 0)/\W.cell? ⟨w.heap.size+1,1,none⟩=some (.int .i64 0):=fun W hW=>hW.cells
 have HA:Hid (AtA ((w.alloc (Jn c)).alloc (Jo Vv)) q a d):=hA.below x4
 clear h hq hA
 simp only[Jg,Jn,Jo,Vv] at *
 go_enter Tryz.func201,Tryz.ntmps201
 go_wp2_with fail
 refine(sc _ (H.out.1.below x4)).mono ?_
 rintro e w3 ⟨rfl,b3⟩
 have a1:AtC w3 w.heap.size c:=(b3.block _ (by rw[x3];omega)).trans x1
 have a2:AtS w3 (w.heap.size+1) Vv:=(b3.block _ (by rw[x3];omega)).trans x2
 have B:Hid (Below w.heap.size w w3):=Below.then x4 b3 x4.size
 have A3:Hid (AtA w3 q a d):=HA.out.below b3
 clear x1 x2 x3 x4 b3 HA sc
 have T3:Hid (Turn (One q) w w3):=Turn.of B.out _
 obtain⟨c0,c1,c2,c3,c4,c5⟩:=a1.cells
 obtain⟨s0,s1⟩:=z2 _ a2
 have sf:=a2.frozen
 have A1:Hid (AtC w3 w.heap.size c):=a1
 have A2:Hid (AtS w3 (w.heap.size+1) Vv):=a2
 clear a1 a2
 generalize hr0:w.heap.size=r at *
 have HR:Hid (w.heap.size=r):=hr0
 clear hr0
 by_cases hN:Gq S c
 ·have e1:Ma S c=Xs S c:=by unfold Ma;rw[if_pos hN]
  have e2:decide (Gq S c)=true:=by simp[hN]
  rw[e1,e2]
  obtain⟨g1,g2,g3⟩:=Jc6 hN.2.1
  obtain⟨r1,r2,r3,r4,r5,r6⟩:=Ec OK hN.2.2
  have hb1:1<=Xs S c:=r3
  have hb2:Xs S c<=8:=r4
  obtain⟨Z,hZ⟩:=Jqg g1
  have HE2:Hid (en=if XT a c d then if Xs S c<=d - c.z.toNat then 0 else 62 else 61):=by
   have:=HE.out
   unfold Vh at this
   rw[if_pos hN] at this
   exact this
  have HNs:Hid (es=if en=0 then V0 S a c d else Vv):=by rw[HE.out];exact HN.out
  have HZ:Hid (c.z.toNat=Z/\XP S c d=d - Z - Xs S c/\V0 S a c d=⟨c.o,((Zm a (d - Z - Xs S c) (Xs S c):Nat):Int)⟩):=by
   have e:c.z.toNat=Z:=by omega
   exact⟨e,by unfold XP;rw[e],by unfold V0 XP;rw[e]⟩
  clear e1 e2 g1 g3 r1 r2 r3 r4 r5 r6 HE HN
  rw[hZ] at c5
  generalize Xs S c=n at *
  by_cases hz:Z<=d
  ·have tc:=fun W hW=>Jcf q a d Z W hW (by omega) (by omega) (by omega) (by omega) (by omega)
   rw[E0 a d Z hz] at tc
   go_wp2_with fail
   refine(tc _ A3.out).mono ?_
   rintro e w4 ⟨rfl,k4,t4⟩
   clear tc
   have A4:Hid (AtA w4 q a ((d:Int) - (Z:Int))):=k4
   have T4:Hid (Turn (One q) w w4):=T3.out.trans t4 fun x hx=>.inl hx
   have a1:=A1.out.turn t4 (by unfold One;omega)
   have a2:=A2.out.turn t4 (by unfold One;omega)
   clear c0 c1 c2 c3 c4 c5 s0 s1 sf A1 A2 A3 T3 t4 k4 B
   obtain⟨c0,c1,c2,c3,c4,c5⟩:=a1.cells
   obtain⟨s0,s1⟩:=z2 _ a2
   have sf:=a2.frozen
   have A1:Hid (AtC w4 r c):=a1
   have A2:Hid (AtS w4 (r+1) Vv):=a2
   clear a1 a2
   by_cases hg:((Zm a (d - Z) Z:Nat):Int)=c.g
   ·have HG:Hid (XT a c d):=by
     unfold XT
     rw[HZ.out.1]
     exact⟨hz,hg⟩
    rw[hg]
    have hne:(c.g != c.g)=false:=by simp
    clear hg
    by_cases hn:n<=d - Z
    ·have en0:en=0:=by rw[HE2.out,if_pos HG.out,HZ.out.1,if_pos hn]
     have es0:es=⟨c.o,((Zm a (d - Z - n) n:Nat):Int)⟩:=by rw[HNs.out,if_pos en0];exact HZ.out.2.2
     subst en0
     have tc:=fun W hW=>Jcf q a ((d:Int) - (Z:Int)) n W hW (by omega) (by omega) (by omega) (by omega) (by omega)
     have ed:(d:Int) - (Z:Int)=((d - Z:Nat):Int):=by omega
     rw[ed] at tc A4
     rw[E0 a (d - Z) n hn] at tc
     have hlt:((Zm a (d - Z - n) n:Nat):Int)<256:=by
      have:=Og a (d - Z - n) n
      have:2 ^ n<=2 ^ 8:=Nat.pow_le_pow_right (by omega) hb2
      omega
     have h0:(0:Int)<=((Zm a (d - Z - n) n:Nat):Int):=by omega
     go_wp2_with fail
     refine(tc _ A4.out).mono ?_
     rintro e w5 ⟨rfl,k5,t5⟩
     clear tc
     have T5:Hid (Turn (One q) w w5):=T4.out.trans t5 fun x hx=>.inl hx
     have A5:Hid (AtA w5 q a (((d - Z:Nat):Int) - (n:Int))):=k5
     have a1:=A1.out.turn t5 (by unfold One;omega)
     have a2:=A2.out.turn t5 (by unfold One;omega)
     clear c0 c1 c2 c3 c4 c5 s0 s1 sf A1 A2 A4 T4 t5 k5
     obtain⟨c0,c1,c2,c3,c4,c5⟩:=a1.cells
     obtain⟨s0,s1⟩:=z2 _ a2
     have sf:=a2.frozen
     clear a1 a2
     have ES:Hid (es=⟨c.o,((Zm a (d - Z - n) n:Nat):Int)⟩):=es0
     clear es0
     generalize((Zm a (d - Z - n) n:Nat):Int)=fi at *
     go_wp2
     refine bodyPost_ret (v:=.tuple #[Jh es,.int .i64 0]) ?_ rfl ⟨rfl,(T5.out.put (by have:=HR.out;omega) _ _).put (by have:=HR.out;omega) _ _,?_⟩
     ·simp[results,Tryz.f201,go_sem,Jh,ES.out,s0,s1]
     ·have:((XP S c d:Nat):Int)=((d - Z:Nat):Int) - (n:Int):=by rw[HZ.out.2.1];omega
      rw[this]
      exact(A5.out.put (by omega) _ _).put (by omega) _ _
    ·have en0:en=62:=by rw[HE2.out,if_pos HG.out,HZ.out.1,if_neg hn]
     have es0:es=Vv:=by rw[HNs.out,en0];rfl
     subst en0 es0
     have tc:=fun W hW=>Jfz q a ((d:Int) - (Z:Int)) n W hW (by omega)
     go_wp2_with fail
     refine(tc _ A4.out).mono ?_
     rintro e w5 ⟨rfl,rfl⟩
     clear tc
     go_wp2
     refine bodyPost_ret (v:=.tuple #[Jh Vv,.int .i64 62]) ?_ rfl ⟨rfl,(T4.out.put (by have:=HR.out;omega) _ _).put (by have:=HR.out;omega) _ _,fun h=>by cases h⟩
     simp[results,Tryz.f201,go_sem,Jh,Vv,s0,s1]
   ·have HG:¬ XT a c d:=by
     unfold XT
     rw[HZ.out.1]
     exact fun h=>hg h.2
    have en0:en=61:=by rw[HE2.out,if_neg HG]
    have es0:es=Vv:=by rw[HNs.out,en0];rfl
    subst en0 es0
    have hne:(((Zm a (d - Z) Z:Nat):Int) != c.g)=true:=by simp[hg]
    clear hg HG
    generalize((Zm a (d - Z) Z:Nat):Int)=fi at *
    go_wp2
    refine bodyPost_ret (v:=.tuple #[Jh Vv,.int .i64 61]) ?_ rfl ⟨rfl,(T4.out.put (by have:=HR.out;omega) _ _).put (by have:=HR.out;omega) _ _,fun h=>by cases h⟩
    simp[results,Tryz.f201,go_sem,Jh,Vv,s0,s1]
  ·have HG:¬ XT a c d:=by
    unfold XT
    rw[HZ.out.1]
    exact fun h=>hz h.1
   have en0:en=61:=by rw[HE2.out,if_neg HG]
   have es0:es=Vv:=by rw[HNs.out,en0];rfl
   subst en0 es0
   clear HG
   have tc:=fun W hW=>Jfz q a d Z W hW (by omega)
   go_wp2_with fail
   refine(tc _ A3.out).mono ?_
   rintro e w5 ⟨rfl,rfl⟩
   clear tc
   go_wp2
   refine bodyPost_ret (v:=.tuple #[Jh Vv,.int .i64 61]) ?_ rfl ⟨rfl,(T3.out.put (by have:=HR.out;omega) _ _).put (by have:=HR.out;omega) _ _,fun h=>by cases h⟩
   simp[results,Tryz.f201,go_sem,Jh,Vv,s0,s1]
 ·have e1:Ma S c=0:=by unfold Ma;rw[if_neg hN]
  have e2:decide (Gq S c)=false:=by simp[hN]
  rw[e1,e2]
  have en0:en=60:=by rw[HE.out];unfold Vh;rw[if_neg hN]
  have es0:es=Vv:=by rw[HN.out];unfold Uu;rw[<- HE.out,en0];rfl
  subst en0 es0
  clear e1 e2 hN
  go_wp2
  refine bodyPost_ret (v:=.tuple #[Jh Vv,.int .i64 60]) ?_ rfl ⟨rfl,(T3.out.put (by have:=HR.out;omega) _ _).put (by have:=HR.out;omega) _ _,fun h=>by cases h⟩
  simp[results,Tryz.f201,go_sem,Jh,Vv,s0,s1]
def six (w:World) (q:Nat) (c:Cp):World:=(((((w.setCell ⟨q,0,none⟩ (.int .i64 c.k)).setCell ⟨q,1,none⟩ (.int .i64 c.o)).setCell ⟨q,2,none⟩ (.int .i64 c.r)).setCell ⟨q,3,none⟩ (.int .u64 c.b)).setCell ⟨q,4,none⟩ (.int .u64 c.g)).setCell ⟨q,5,none⟩ (.int .i64 c.z)
theorem AtC.six {w:World} {q:Nat} {c:Cp} (h:AtC w q c) (d:Cp):AtC (six w q d) q d:=by
 unfold AtC Jn at h ⊢
 unfold Go.Proofs.YtbfjjpdnoalojaaGreatDoor.Sl.six
 simp[World.setCell,Array.getElem?_modify,h]
theorem FL (w:World) (q:Nat) (c:Cp) (k:Nat) (hk:k≠q):(six w q c).heap[k]? = w.heap[k]?:=by
 unfold six
 rw[blk_setCell_other _ _ _ _ hk,blk_setCell_other _ _ _ _ hk,blk_setCell_other _ _ _ _ hk,blk_setCell_other _ _ _ _ hk,blk_setCell_other _ _ _ _ hk,blk_setCell_other _ _ _ _ hk]
theorem Jh6 {B q:Nat} {w u:World} (h:Below B w u) (hq:B<=q) (c:Cp):Below B w (six u q c):=ZF h hq _ _ _ _ _ _
def Aa (w:World) (q:Nat):Nat:=match w.cell? ⟨q,1,none⟩ with
 | some (.int _ d)=>d.toNat
 | _=>0
theorem AtA.depth {w:World} {q:Nat} {a:Int} {d:Nat} (h:AtA w q a d):Aa w q=d:=by
 unfold Aa
 rw[h.cells.2.1]
 simp
theorem J0y (w:World) (o o1 o2 o3:Obj):((((w.alloc o).alloc o1).alloc o2).alloc o3).heap[w.heap.size]? = some o/\((((w.alloc o).alloc o1).alloc o2).alloc o3).heap[w.heap.size+1]? = some o1/\((((w.alloc o).alloc o1).alloc o2).alloc o3).heap[w.heap.size+2]? = some o2/\((((w.alloc o).alloc o1).alloc o2).alloc o3).heap[w.heap.size+3]? = some o3/\Below w.heap.size w ((((w.alloc o).alloc o1).alloc o2).alloc o3):=by
 refine⟨?_,?_,?_,?_,?_⟩
 ·rw[blk_alloc_lt _ _ _ (by simp;omega),blk_alloc_lt _ _ _ (by simp;omega),blk_alloc_lt _ _ _ (by simp)]
  exact blk_alloc_new _ _
 ·rw[blk_alloc_lt _ _ _ (by simp),blk_alloc_lt _ _ _ (by simp)]
  have:=blk_alloc_new (w.alloc o) o1
  simpa using this
 ·rw[blk_alloc_lt _ _ _ (by simp)]
  have:=blk_alloc_new ((w.alloc o).alloc o1) o2
  simpa using this
 ·have:=blk_alloc_new (((w.alloc o).alloc o1).alloc o2) o3
  simpa using this
 ·exact(((J0 w o o1).alloc (by simp;omega) _).alloc (by simp;omega) _)
theorem Jc7 {s:Sl} (h:0<=s.n/\s.n<64/\0<=s.i/\s.i<256):s.Fits:=by
 constructor<;>constructor<;>omega
theorem Jmn (p:Nat) (S:St) (c:Cp) (a d:Int) (w:World) (hd:¬ (1<=d/\d<=64)) :
  Calls Tryz.prog 102 #[.pointer (some ⟨p,0,none⟩),Jg c,.int .u64 a,.int .i64 d] w fun e w'=>e=.returned (.tuple #[Jh (Ub S c a d).1,.int .i64 (Ub S c a d).2])/\Below w.heap.size w w':=by
 have e:Ub S c a d=(Vv,1):=by unfold Ub;rw[if_neg hd]
 rw[e]
 obtain⟨x1,x2,x3,x4⟩:=O3 w (Jn c) (Jo Vv)
 have B:Hid (Below w.heap.size w ((w.alloc (Jn c)).alloc (Jo Vv))):=x4
 obtain⟨s0,s1⟩:=AtS.cells (s:=Vv) x2
 have sf:=AtS.frozen (s:=Vv) x2
 clear e x1 x2 x3 x4
 simp only[Jg,Jn,Jo,Vv] at *
 by_cases h1:d<1
 ·clear hd
  go_enter Tryz.func102,Tryz.ntmps102
  go_wp2
  refine bodyPost_ret (v:=.tuple #[Jh Vv,.int .i64 1]) ?_ rfl ⟨rfl,B.out⟩
  simp[results,Tryz.f102,go_sem,Jh,Vv,s0,s1]
 ·have h2:64<d:=by omega
  clear hd
  go_enter Tryz.func102,Tryz.ntmps102
  go_wp2
  refine bodyPost_ret (v:=.tuple #[Jh Vv,.int .i64 1]) ?_ rfl ⟨rfl,B.out⟩
  simp[results,Tryz.f102,go_sem,Jh,Vv,s0,s1]
structure Lk (S:St) (a:Nat) (R:Sl×Int) (w:World) (r q1 q2 q3:Nat) (c:Cp) (d f:Nat) (W:World):Prop where
 low:Below r w W
 res:AtS W q1 Vv
 adr:AtA W q2 a d
 cap:AtC W q3 c
 fits:c.Fits
 d64:d<=64
 lt:d<f
 look:look S a f c d=R
theorem Ex {B q:Nat} {w u:World} (h:Below B w u) (hq:B<=q) (a b:Value):Below B w ((u.setCell ⟨q,0,none⟩ a).setCell ⟨q,1,none⟩ b):=
 (h.setCell (p:=⟨q,0,none⟩) hq a).setCell (p:=⟨q,1,none⟩) hq b
theorem Jpw (p:Nat) (F:Nat->Prop) (S:St) (c:Cp) (a d:Nat) (w:World) (h:Nds w p F S) (hf:c.Fits) (ha:a<18446744073709551616) (hd:1<=d/\d<=64) :
  Calls Tryz.prog 102 #[.pointer (some ⟨p,0,none⟩),Jg c,.int .u64 a,.int .i64 d] w fun e w'=>e=.returned (.tuple #[Jh (look S a 65 c d).1,.int .i64 (look S a 65 c d).2])/\Below w.heap.size w w':=by
 have H:Hid (Nds w p F S/\Okay S/\a<18446744073709551616/\∀ x,F x->x<w.heap.size):=⟨h,h.ok,ha,h.lt⟩
 obtain⟨x1,x2,x3,x4,x5⟩:=J0y w (Jn c) (Jo Vv) (Jhi a d) (Jn c)
 obtain⟨R,HR0⟩:∃ R,Hid (look S a 65 c d=R):=⟨_,rfl⟩
 rw[HR0.out]
 obtain⟨r,HR⟩:∃ r,Hid (w.heap.size=r):=⟨_,rfl⟩
 have hQ:r<=w.heap.size+1/\r<=w.heap.size+1+1/\r<=w.heap.size+1+1+1/\w.heap.size+1≠w.heap.size+1+1/\w.heap.size+1≠w.heap.size+1+1+1/\w.heap.size+1+1≠w.heap.size+1+1+1:=by have:=HR.out;omega
 have Q:Hid (r<=w.heap.size+1/\r<=w.heap.size+1+1/\r<=w.heap.size+1+1+1/\w.heap.size+1≠w.heap.size+1+1/\w.heap.size+1≠w.heap.size+1+1+1/\w.heap.size+1+1≠w.heap.size+1+1+1):=hQ
 have K:Hid (Lk S a R w r (w.heap.size+1) (w.heap.size+1+1) (w.heap.size+1+1+1) c d 65 ((((w.alloc (Jn c)).alloc (Jo Vv)).alloc (Jhi a d)).alloc (Jn c))):=⟨by rw[<- HR.out];exact x5,x2,x3,x4,hf,hd.2,by omega,HR0.out⟩
 have hmf:=Jhm
 have hd1:(1:Int)<=(d:Int):=by omega
 have hd2:(d:Int)<=64:=by omega
 clear h hf ha x1 x2 x3 x4 x5 HR0 hd hQ
 simp only[Jg,Jn,Jo,Jhi,Vv] at *
 go_enter Tryz.func102,Tryz.ntmps102
 go_wp2_with fail
 generalize(((w.alloc (.cells #[.int .i64 c.k,.int .i64 c.o,.int .i64 c.r,.int .u64 c.b,.int .u64 c.g,.int .i64 c.z] 82)).alloc (.cells #[.int .i64 0,.int .i64 0] 80)).alloc (.cells #[.int .u64 (a:Int),.int .i64 (d:Int)] 310)).alloc (.cells #[.int .i64 c.k,.int .i64 c.o,.int .i64 c.r,.int .u64 c.b,.int .u64 c.g,.int .i64 c.z] 82)=w1 at *
 generalize w.heap.size+1+1+1=q3 at *
 generalize w.heap.size+1+1=q2 at *
 generalize w.heap.size+1=q1 at *
 go_loopw [14] (fun _ wr=>∃ (c:Cp) (d f:Nat),Lk S a R w r q1 q2 q3 c d f wr) (fun _ wr=>Aa wr q2)
 case atStart=>exact⟨c,d,65,K.out⟩
 case round =>
  clear K
  obtain⟨c',d',f,hl⟩:=hrel
  have L:Hid (Lk S a R w r q1 q2 q3 c' d' f wr):=hl
  clear hl
  obtain⟨z0,z1,z2,z3,z4,z5⟩:=L.out.cap.cells
  go_wp2_with fail
  refine(Mr p q2 F S c' a d' wr (H.out.1.below (by rw[HR.out];exact L.out.low)) L.out.adr (fun hF=>by have:=H.out.2.2.2 _ hF;have:=HR.out;have:=Q.out;omega) L.out.fits H.out.2.2.1 L.out.d64).mono ?_
  rintro e w2 ⟨rfl,t2,k2⟩
  obtain⟨f,rfl⟩:∃ g,f=g+1:=⟨f - 1,by have:=L.out.lt;omega⟩
  have HL:Hid ((if Vh S a c' d'=0 then if XP S c' d'=0 then (V0 S a c' d',0) else if (Vt S (V0 S a c' d')).k=2 then look S a f (Vt S (V0 S a c' d')) (XP S c' d') else (Vv,62) else (Vv,Vh S a c' d'))=R/\(Vh S a c' d'=0->XP S c' d'<d')):=by
   refine⟨?_,fun h0=>Jpi H.out.2.1 h0⟩
   have:=L.out.look
   unfold look at this
   exact this
  obtain⟨ss,HS⟩:∃ ss,Hid (Uu S a c' d'=ss):=⟨_,rfl⟩
  obtain⟨en,HE⟩:∃ en,Hid (Vh S a c' d'=en):=⟨_,rfl⟩
  rw[HS.out,HE.out]
  rw[HE.out] at k2 HL
  have sfit:Hid (ss.Fits):=by rw[<- HS.out];exact Jc7 (Jdw H.out.2.1)
  have low2:Below r w w2:=t2.below L.out.low (fun x hx=>by unfold One at hx;have:=Q.out;omega) (by have:=L.out.low.size;have:=HR.out;omega)
  have LO:Hid (Below r w (w2.alloc (Jo ss))):=low2.alloc (by have:=low2.size;have:=HR.out;omega) _
  have bn:=Jb w2 (Jo ss)
  have e1:Hid (AtS (w2.alloc (Jo ss)) q1 Vv):=(L.out.res.turn t2 (by unfold One;have:=Q.out;omega)).below bn
  have e3:Hid (AtC (w2.alloc (Jo ss)) q3 c'):=(L.out.cap.turn t2 (by unfold One;have:=Q.out;omega)).below bn
  have e2:Hid (en=0->AtA (w2.alloc (Jo ss)) q2 a (XP S c' d')):=fun h0=>(k2 h0).below bn
  have e4:Hid (AtS (w2.alloc (Jo ss)) w2.heap.size ss):=AtS.new w2 ss
  have D:Hid (d'<=64/\Aa wr q2=d'/\d'<f+1):=⟨L.out.d64,L.out.adr.depth,L.out.lt⟩
  have hq4:Hid (r<=w2.heap.size):=by have:=low2.size;have:=HR.out;exact(by omega:r<=w2.heap.size)
  clear z0 z1 z2 z3 z4 z5 t2 k2 L low2 bn
  simp only[Jh,Jo] at *
  by_cases he:en=0
  ·subst he
   have HL1:=HL.out.1
   rw[if_pos rfl] at HL1
   have HLt:Hid (XP S c' d'<d'):=HL.out.2 rfl
   have A2:Hid (AtA (w2.alloc (.cells #[.int .i64 ss.n,.int .i64 ss.i] 80)) q2 a (XP S c' d')):=e2.out rfl
   have HSS:Hid (ss=V0 S a c' d'):=by
    have h1:Uu S a c' d'=V0 S a c' d':=by unfold Uu;rw[if_pos HE.out]
    exact HS.out.symm.trans h1
   rw[<- HSS.out] at HL1
   clear e2 HL HE HS
   obtain⟨y0,y1,_,_⟩:=A2.out.cells
   obtain⟨s0,s1⟩:=e4.out.cells
   obtain⟨t0,t1⟩:=e1.out.cells
   have tf:=e1.out.frozen
   generalize XP S c' d'=rd at *
   by_cases hr:rd=0
   ·subst hr
    rw[if_pos rfl] at HL1
    subst HL1
    simp only[Vv] at t0 t1
    go_wp2_with fail
    refine bodyPost_ret (v:=.tuple #[Jh ss,.int .i64 0]) ?_ rfl ⟨rfl,?_⟩
    ·simp[results,Tryz.f102,go_sem,Jh,t0,t1]
    ·rw[HR.out];exact Ex LO.out (by have:=Q.out;omega) _ _
   ·rw[if_neg hr] at HL1
    have hr':(((rd:Nat):Int) == 0)=false:=by simp;omega
    have HRd:Hid (¬ rd=0):=hr
    clear hr
    go_wp2_with fail
    refine(Ab p F S ss _ (H.out.1.below (by rw[HR.out];exact LO.out)) sfit.out).mono ?_
    rintro e w3 ⟨rfl,b3⟩
    have cf:Hid ((Vt S ss).Fits):=Jgp H.out.2.1 ss
    have LO3:Hid (Below r w w3):=Below.then LO.out b3 (by have:=LO.out.size;have:=HR.out;omega)
    have e1':Hid (AtS w3 q1 Vv):=e1.out.below b3
    have e2':Hid (AtA w3 q2 a rd):=A2.out.below b3
    have e3':Hid (AtC w3 q3 c'):=e3.out.below b3
    clear y0 y1 s0 s1 t0 t1 tf e1 e3 e4 A2 LO b3 sfit
    generalize Vt S ss=gc at *
    generalize UQ S ss=ge at *
    have LO4:Hid (Below r w (six w3 q3 gc)):=Jh6 LO3.out (by have:=Q.out;omega) gc
    have f1:Hid (AtS (six w3 q3 gc) q1 Vv):=(FL _ _ _ _ (by have:=Q.out;omega)).trans e1'.out
    have f2:Hid (AtA (six w3 q3 gc) q2 a rd):=(FL _ _ _ _ (by have:=Q.out;omega)).trans e2'.out
    have f3:Hid (AtC (six w3 q3 gc) q3 gc):=e3'.out.six gc
    obtain⟨z0,z1,z2,z3,z4,z5⟩:=e3'.out.cells
    have zf:=e3'.out.frozen
    obtain⟨g0,g1,g2,g3,g4,g5⟩:=f3.out.cells
    obtain⟨t0,t1⟩:=f1.out.cells
    have tf:=f1.out.frozen
    simp only[Vv] at t0 t1
    clear e1' e2' e3' LO3
    simp only[Jg] at *
    have SIX:Hid (six w3 q3 gc=(((((w3.setCell ⟨q3,0,none⟩ (.int .i64 gc.k)).setCell ⟨q3,1,none⟩ (.int .i64 gc.o)).setCell ⟨q3,2,none⟩ (.int .i64 gc.r)).setCell ⟨q3,3,none⟩ (.int .u64 gc.b)).setCell ⟨q3,4,none⟩ (.int .u64 gc.g)).setCell ⟨q3,5,none⟩ (.int .i64 gc.z)):=rfl
    go_upto_region 12 with fail
    rw[<- SIX.out]
    clear SIX z0 z1 z2 z3 z4 z5 zf
    generalize six w3 q3 gc=w4 at *
    by_cases hk:gc.k=2
    ·have hk':(gc.k != 2)=false:=by simp[hk]
     rw[if_pos hk] at HL1
     have HL2:Hid (look S a f gc rd=R):=HL1
     clear hk HL1
     go_wp2
     go_roundw
     case rel=>exact⟨gc,rd,f,LO4.out,f1.out,f2.out,f3.out,cf.out,by have:=D.out;have:=HLt.out;omega,by have:=D.out;have:=HLt.out;omega,HL2.out⟩
     case measure=>rw[f2.out.depth,D.out.2.1];exact HLt.out
    ·have hk':(gc.k != 2)=true:=by simp[hk]
     rw[if_neg hk] at HL1
     subst HL1
     clear hk
     go_wp2
     refine bodyPost_ret (v:=.tuple #[Jh Vv,.int .i64 62]) ?_ rfl ⟨rfl,?_⟩
     ·simp[results,Tryz.f102,go_sem,Jh,Vv,t0,t1]
     ·rw[HR.out];exact Ex LO4.out (by have:=Q.out;omega) _ _
  ·have HL1:=HL.out.1
   rw[if_neg he] at HL1
   have he':(en != 0)=true:=by simp[he]
   subst HL1
   clear he e2 HL HE
   obtain⟨t0,t1⟩:=e1.out.cells
   have tf:=e1.out.frozen
   simp only[Vv] at t0 t1
   go_wp2_with fail
   refine bodyPost_ret (v:=.tuple #[Jh Vv,.int .i64 en]) ?_ rfl ⟨rfl,?_⟩
   ·simp[results,Tryz.f102,go_sem,Jh,Vv,t0,t1]
   ·rw[HR.out];exact Ex LO.out (by have:=Q.out;omega) _ _
theorem Jmm (p:Nat) (F:Nat->Prop) (S:St) (c:Cp) (a d:Int) (w:World) (h:Nds w p F S) (hf:c.Fits) (ha:0<=a/\a<=18446744073709551615) :
  Calls Tryz.prog 102 #[.pointer (some ⟨p,0,none⟩),Jg c,.int .u64 a,.int .i64 d] w fun e w'=>e=.returned (.tuple #[Jh (Ub S c a d).1,.int .i64 (Ub S c a d).2])/\Below w.heap.size w w':=by
 by_cases hd:1<=d/\d<=64
 ·obtain⟨A,rfl⟩:=Jqg ha.1
  obtain⟨D,rfl⟩:=Jqg (show 0<=d by omega)
  have e:Ub S c (A:Int) (D:Int)=look S A 65 c D:=by unfold Ub;rw[if_pos hd];simp
  rw[e]
  exact Jpw p F S c A D w h hf (by omega) (by omega)
 ·exact Jmn p S c a d w hd
end Sl
end Go.Proofs.YtbfjjpdnoalojaaGreatDoor
