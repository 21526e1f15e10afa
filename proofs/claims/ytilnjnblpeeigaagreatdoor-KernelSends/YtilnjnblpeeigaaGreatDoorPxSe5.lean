/-
  KernelSends: a message goes from who sends to who waits for it: whatever the arguments, the statement's function returns true; the condition: that the three tables lie where they were laid.
-/
import Derived.Test.YtilnjnblpeeigaaGreatDoorPb1
import Derived.Test.YtilnjnblpeeigaaGreatDoorPb2
import Derived.Test.YtilnjnblpeeigaaGreatDoorPb3
import Derived.Test.YtilnjnblpeeigaaGreatDoorPb4
import Derived.Test.YtilnjnblpeeigaaGreatDoorPb5
import Derived.Test.YtilnjnblpeeigaaGreatDoorPb6
import Derived.Test.YtilnjnblpeeigaaGreatDoorPb7
import Derived.Test.YtilnjnblpeeigaaGreatDoorPb8
import Derived.Test.YtilnjnblpeeigaaGreatDoorPb9
import Derived.Test.YtilnjnblpeeigaaGreatDoorPb10
import Derived.Test.YtilnjnblpeeigaaGreatDoorPb11
import Derived.Test.YtilnjnblpeeigaaGreatDoorPb12
import Derived.Test.YtilnjnblpeeigaaGreatDoorPb13
import Derived.Test.YtilnjnblpeeigaaGreatDoorPb14
import Derived.Test.YtilnjnblpeeigaaGreatDoorPb15
import Derived.Test.YtilnjnblpeeigaaGreatDoorPb16
import Derived.Test.YtilnjnblpeeigaaGreatDoorPb17
import Derived.Test.YtilnjnblpeeigaaGreatDoorPb18
import Derived.Test.YtilnjnblpeeigaaGreatDoorPb19
import Derived.Test.YtilnjnblpeeigaaGreatDoorPb20
import Derived.Test.YtilnjnblpeeigaaGreatDoorPb21
import Derived.Test.YtilnjnblpeeigaaGreatDoorPb22
import Derived.Test.YtilnjnblpeeigaaGreatDoorPb23
import Derived.Test.YtilnjnblpeeigaaGreatDoorPb24
import Derived.Test.YtilnjnblpeeigaaGreatDoorPb25
import Derived.Test.YtilnjnblpeeigaaGreatDoorPb26
import Derived.Test.YtilnjnblpeeigaaGreatDoorPb27
import Derived.Test.YtilnjnblpeeigaaGreatDoorPb28
import Derived.Test.YtilnjnblpeeigaaGreatDoorPb29
import Derived.Test.YtilnjnblpeeigaaGreatDoorPb30
import Derived.Test.YtilnjnblpeeigaaGreatDoorPb31
import Derived.Test.YtilnjnblpeeigaaGreatDoorPb32
import Derived.Test.YtilnjnblpeeigaaGreatDoorPb33
import Derived.Test.YtilnjnblpeeigaaGreatDoorPxSe1
import Derived.Test.YtilnjnblpeeigaaGreatDoorPxSe2
import Derived.Test.YtilnjnblpeeigaaGreatDoorPxSe3
import Derived.Test.YtilnjnblpeeigaaGreatDoorPxSe4
import Derived.Below
import Derived.BigQuiet
import Derived.Deep.Cut
import Derived.Deep.CutRange
import Derived.Deep.DeepHandedRow
import Derived.Deep.OwnRows
import Derived.Deep.QuietTactic
import Derived.Deep.RegionHeld3
import Derived.Deep.RegionLaw
import Derived.Deep.RegionWith
import Derived.Deep.Slices
import Derived.Deep.WholeRow
import Derived.DeepKeys4
import Derived.KernelRfl
import Derived.LaidMore
import Derived.Laws.AppendOwnNone
import Derived.Laws.BitsAllLaws
import Derived.Laws.BitsLemmas
import Derived.Laws.CopyOwn
import Derived.Laws.IdiomArrays
import Derived.Laws.StructEq
import Derived.Lib.AppendZerosOnto
import Derived.Lib.LaidTab
import Derived.Lib.Overlaps
import Derived.Lib.SliceRun
import Derived.Lib.SmallJoins
import Derived.Lib.Walk
import Derived.Maps.AppendAt
import Derived.Maps.Range
import Derived.Maps.RangeWalk
import Derived.OpenShut
import Derived.ProofKit
import Derived.Shelf.Abstract
import Derived.Shelf.RegionOpenPlain
import Derived.Shelf.SlIterI.Nil
import Derived.Shelf.SlMaps.Clone
import Derived.Shelf.SlSortCmp.NoneTotal
import Derived.Shelf.SlSortCmp.WholeK
import Derived.Shelf.SlicesE.Clone
import Derived.Shelf.SortM.Plain
import Derived.Shelf.SortM.SortNone
import Derived.Sort.Grow
import Derived.Sort.Statements
import Derived.Test.YtilnjnblpeeigaaGreatDoorCards
import Derived.Test.YtilnjnblpeeigaaGreatDoorProg
import Derived.Test.YtilnjnblpeeigaaGreatDoorRows
import Derived.Test.YtilnjnblpeeigaaGreatDoorTie
import Derived.WalkKit
import Derived.WalkLawsBesides
import Derived.WideMake
namespace Go.Proofs.YtilnjnblpeeigaaGreatDoor
open Go.RowKit Go.Deep Go.Shelf
theorem wri {x:Int} (h1 : -9223372036854775808<=x) (h2:x<=9223372036854775807):IntKind.i64.wrap x=x:=by
 rw [IntKind.wrap_i64]
 omega
theorem wru {x:Int} (h1:0<=x) (h2:x<=1000000):IntKind.u64.wrap x=x:=by
 rw [u64_wrap]
 unfold u64
 omega
theorem sm (x:Int) (h:(decide (0<=x) && decide (x<=1000))=true):I64 x:=by
 rw [Bool.and_eq_true,decide_eq_true_eq,decide_eq_true_eq] at h
 exact small x h
open Classical
theorem go_nx {K K':Kr} {c:Cl} (h1:(goK K 0 c).1=K') (h2:(goK K 0 c).2.e=0):∃ t,doK K 0 c=(K',t)/\t.e=0:=
 ⟨(goK K 0 c).2,by rw [go_eq,<- h1],h2⟩
theorem go_nx2 {K K':Kr} {c:Cl} {t:Tl} (h:goK K 0 c=(K',t)) (h2:t.e=0):∃ t,doK K 0 c=(K',t)/\t.e=0:=
 ⟨t,by rw [go_eq,h],h2⟩
theorem cl_eta (c:Cl):c=⟨c.q,c.a,c.w,c.A,c.B,c.C⟩:=rfl
theorem wpList_lit_run {w w':World} {ops:Array Oper} {rest:List Oper} {o:Oper} {a:Act} {Q:Exit->Act->World->Prop} (hgd:o.guard=none) (t:TypeId) (n:Nat) (parts:Array (Nat×Operand)) (ho:o.op = .buildSlice t n parts) (vals:Array (Nat×Value)) (v:Value) (hv:parts.map (fun (i,x)=>(i,a.eval x))=vals) (hrun:(Instr.buildSlice t n vals).run Tryz.prog w = .ok v w') (h:wpList Tryz.prog ops Q rest (a.put o.dst v) w'):wpList Tryz.prog ops Q (o::rest) a w:=by
 refine wpList_plain hgd fun K' hK'=>?_
 unfold Oper.wp
 simp only [execOp,ho,hv]
 simp [hrun,Result.andThen]
 exact hK' _ _ h
theorem run_do {w0:World} (L:Lt w0) {n m:Nat} {K K':Kr} (v:Kv n m K) (hm:m<=100000) {core:Int} {c:Cl} (b:Cd c) {t:Tl} (hX:doK K core c=(K',t)) (p:Nat) (W:World) (Y:Ly) (T:List Th) (s:Sep w0 w0.heap.size W (kT p Y K::T)) :
  Calls Tryz.prog 9 #[ptr p,.int .i64 core,.agg #[.int .i64 c.q,.int .i64 c.a,.int .i64 c.w,.int .i64 c.A,.int .i64 c.B,.int .i64 c.C]] W fun r w'=>∃ ao cap Y',r = .returned (.agg #[.int .i64 t.e,.int .u64 t.w,.int .i64 t.k,.slice ao t.f.length cap])/\Sep w0 w0.heap.size w' (kT p Y' K'::lst elR (.slice ao t.f.length cap) t.f::T):=by
 exact do_law s L v hm core b (e:=t.e) (x:=t.w) (k:=t.k) (f:=t.f) hX
set_option maxRecDepth 100000 in
theorem s_last (b:Int):∃ t,doK (S4 b) 0 ⟨9,20,0,0,0,1⟩=(S5 b,t)/\t.e=0:=go_nx (K:=S4 b) (K':=S5 b) (c:=⟨9,20,0,0,0,1⟩) rfl (s5_ok b).1
def sK (b:Int):Nat->Kr
 | 0=>K0
 | 1=>K1
 | 2=>S1
 | 3=>S2 b
 | 4=>S3 b
 | 5=>S4 b
 | _=>S5 b
def sC (b:Int):Nat->Cl
 | 0=>⟨0,1,20,4,0,1⟩
 | 1=>⟨0,1,21,3,0,1⟩
 | 2=>⟨1,20,22,2,b,0⟩
 | 3=>⟨7,21,0,5,0,0⟩
 | 4=>⟨5,21,0,0,0,0⟩
 | _=>⟨9,20,0,0,0,1⟩
set_option maxHeartbeats 4000000 in
set_option maxRecDepth 100000 in
theorem s_step {b:Int} (hb:0<b/\b<=65536):∀ i,i<6->∃ t,doK (sK b i) 0 (sC b i)=(sK b (i+1),t)/\t.e=0:=by
 intro i hi
 rcases (by omega:i=0\/i=1\/i=2\/i=3\/i=4\/i=5) with rfl | rfl | rfl | rfl | rfl | rfl
 ·exact go_nx rfl k1_ok
 ·exact go_nx rfl s1_ok
 ·exact go_nx2 (s2_is hb) rfl
 ·exact go_nx rfl (s3_ok b)
 ·exact go_nx rfl (s4_ok b)
 ·exact s_last b
theorem s_cd {b:Int} (hb:0<b/\b<=65536):∀ i,i<6->Cd (sC b i):=by
 intro i hi
 rcases (by omega:i=0\/i=1\/i=2\/i=3\/i=4\/i=5) with rfl | rfl | rfl | rfl | rfl | rfl
 ·exact ⟨sm _ rfl,sm _ rfl,sm _ rfl,sm _ rfl,rfl⟩
 ·exact ⟨sm _ rfl,sm _ rfl,sm _ rfl,sm _ rfl,rfl⟩
 ·exact ⟨sm _ rfl,sm _ rfl,(show I64 b from ⟨by omega,by omega⟩),sm _ rfl,rfl⟩
 ·exact ⟨sm _ rfl,sm _ rfl,sm _ rfl,sm _ rfl,rfl⟩
 ·exact ⟨sm _ rfl,sm _ rfl,sm _ rfl,sm _ rfl,rfl⟩
 ·exact ⟨sm _ rfl,sm _ rfl,sm _ rfl,sm _ rfl,rfl⟩
theorem s_kv {b:Int} (hb:0<b/\b<=65536) (k0:Kv 1 0 (sK b 0)):∀ i,i<=6->∃ n,n<=1000/\Kv 1 n (sK b i):=by
 have a:∀ i,i<=6->Kv 1 (64*i) (sK b i):=by
  intro i
  induction i with
  | zero=>exact fun _=>k0
  | succ i ih =>
   intro hi
   obtain ⟨t,ht,-⟩:=s_step hb i (by omega)
   exact (ih (by omega)).call (by omega) (s_cd hb i (by omega)).B ht
 exact fun i hi=>⟨_,by omega,a i hi⟩
theorem thr_sep {w0 w:World} {r p:Nat} {Y:Ly} {K:Kr} {R:List Th} (s:Sep w0 r w (kT p Y K::R)) {x0 g0 g1 g2:Int} {T:List Int} (h:(Th.getT K.h 0).st=x0) (hg:(Th.getT K.h 0).g=g0::g1::g2::T) :
  Calls Tryz.prog 10 #[ptr p,.int .i64 0] w fun e w'=>∃ x1 x2 x3 y3 y4 y5 y6 y7 E,e = .returned (.tuple #[.agg #[.int .i64 x0,.int .i64 x1,.int .i64 x2,.int .i64 x3,.int .u64 g0,.int .u64 g1,.int .u64 g2,.int .u64 y3,.int .u64 y4,.int .u64 y5,.int .u64 y6,.int .u64 y7],.int .i64 E])/\Sep w0 r w' (kT p Y K::R):=by
 refine Calls.mono (Thread_sep s 0) ?_
 rintro e w' ⟨rfl,s'⟩
 refine ⟨((Th.getT K.h 0).p:Int),((Th.getT K.h 0).c:Int),((Th.getT K.h 0).l:Int),Th.rg (Th.getT K.h 0) 3,Th.rg (Th.getT K.h 0) 4,Th.rg (Th.getT K.h 0) 5,Th.rg (Th.getT K.h 0) 6,Th.rg (Th.getT K.h 0) 7,Th.getE K.h 0,?_,s'⟩
 unfold Th.encT Th.rg
 rw [h,hg]
 rfl
theorem thr_any {w0 w:World} {r p:Nat} {Y:Ly} {K:Kr} {R:List Th} (s:Sep w0 r w (kT p Y K::R)) {x0:Int} (h:(Th.getT K.h 0).st=x0) :
  Calls Tryz.prog 10 #[ptr p,.int .i64 0] w fun e w'=>∃ x1 x2 x3 g0 g1 g2 y3 y4 y5 y6 y7 E,e = .returned (.tuple #[.agg #[.int .i64 x0,.int .i64 x1,.int .i64 x2,.int .i64 x3,.int .u64 g0,.int .u64 g1,.int .u64 g2,.int .u64 y3,.int .u64 y4,.int .u64 y5,.int .u64 y6,.int .u64 y7],.int .i64 E])/\Sep w0 r w' (kT p Y K::R):=by
 refine Calls.mono (Thread_sep s 0) ?_
 rintro e w' ⟨rfl,s'⟩
 refine ⟨((Th.getT K.h 0).p:Int),((Th.getT K.h 0).c:Int),((Th.getT K.h 0).l:Int),Th.rg (Th.getT K.h 0) 0,Th.rg (Th.getT K.h 0) 1,Th.rg (Th.getT K.h 0) 2,Th.rg (Th.getT K.h 0) 3,Th.rg (Th.getT K.h 0) 4,Th.rg (Th.getT K.h 0) 5,Th.rg (Th.getT K.h 0) 6,Th.rg (Th.getT K.h 0) 7,Th.getE K.h 0,?_,s'⟩
 unfold Th.encT
 rw [h]
end Go.Proofs.YtilnjnblpeeigaaGreatDoor
namespace Go.Proofs.YtilnjnblpeeigaaGreatDoor.kernelSends
open Go.RowKit Go.Deep Go.Shelf
open Classical
set_option maxHeartbeats 8000000 in
set_option maxRecDepth 100000 in
theorem walk (a0 a1 a2:Int) (W:World) (L:Lt W) (_h0 : -9223372036854775808<=a0/\a0<=9223372036854775807) (_h1 : -9223372036854775808<=a1/\a1<=9223372036854775807) (_h2 : -9223372036854775808<=a2/\a2<=9223372036854775807) :
  Calls Tryz.prog 3 #[.int .i64 a0,.int .i64 a1,.int .i64 a2] W fun e W'=>e = .returned (.bool true)/\Below W.heap.size W W':=by
 obtain ⟨bb,hb16,hbb⟩:=mask64k a2
 obtain ⟨b,hb⟩:∃ b:Int,1+(bb:Int)=b:=⟨_,rfl⟩
 have hb2:0<b/\b<=65536:=by omega
 have w1:IntKind.i64.wrap (1+(bb:Int))=b:=by rw [<- hb];exact wri (by omega) (by omega)
 have k0:Kv 1 0 K0:=by
  have h:=boot_kv (n:=1) (m:=0) (b:=12) (Q:=[5]) rfl rfl
  rw [beg_eq] at h
  exact h
 have kV:=s_kv hb2 k0
 obtain ⟨tz,htz⟩:∃ t,(goK (S5 b) 0 ⟨8,22,0,a0,a1,0⟩).2=t:=⟨_,rfl⟩
 have HBo:Hid (∀ (g:Nat) (V:World) (T:List Th),Sep W W.heap.size V (Ta.lstI (.slice (some ⟨g,0,none⟩) 1 1) [5]::T)->Calls Tryz.prog 8 #[.agg #[.int .i64 1,.int .i64 12,.int .i64 0,.slice (some ⟨g,0,none⟩) 1 1]] V fun r w'=>∃ p,r = .returned (.tuple #[ptr p,.int .i64 0])/\∃ Y,Sep W W.heap.size w' (kT p Y K0::T)):=fun g V T s=>by
  have h:=Boot_ok s (fun u b=>L.t.below b) (n:=1) (m:=0) (b:=12) rfl rfl
  rw [beg_eq] at h
  refine Calls.mono h ?_
  rintro r w' ⟨p,rfl,Y,s'⟩
  exact ⟨p,rfl,Y,s'.drop2⟩
 have HD:Hid (∀ (i:Nat),i<6->∀ (p:Nat) (V:World) (Y:Ly) (T:List Th),Sep W W.heap.size V (kT p Y (sK b i)::T)->Calls Tryz.prog 9 #[ptr p,.int .i64 0,.agg #[.int .i64 (sC b i).q,.int .i64 (sC b i).a,.int .i64 (sC b i).w,.int .i64 (sC b i).A,.int .i64 (sC b i).B,.int .i64 (sC b i).C]] V fun r w'=>∃ x k ao ln cap,r = .returned (.agg #[.int .i64 0,.int .u64 x,.int .i64 k,.slice ao ln cap])/\∃ Y',Sep W W.heap.size w' (kT p Y' (sK b (i+1))::T)):=fun i hi p V Y T s=>by
  obtain ⟨n,hn,kv⟩:=kV i (by omega)
  obtain ⟨t,ht,te⟩:=s_step hb2 i hi
  refine Calls.mono (run_do L kv (by omega) (s_cd hb2 i hi) ht p V Y T s) ?_
  rintro r w' ⟨ao,cap,Y',rfl,s'⟩
  rw [te]
  exact ⟨_,_,_,_,_,rfl,_,s'.drop2⟩
 have HC:Hid (∀ (g:Nat) (V:World) (T:List Th),Sep W W.heap.size V (blk g (.cells #[.int .i64 0,.int .i64 1,.int .i64 20,.int .i64 4,.int .i64 0,.int .i64 1,.int .i64 0,.int .i64 1,.int .i64 21,.int .i64 3,.int .i64 0,.int .i64 1,.int .i64 1,.int .i64 20,.int .i64 22,.int .i64 2,.int .i64 b,.int .i64 0,.int .i64 7,.int .i64 21,.int .i64 0,.int .i64 5,.int .i64 0,.int .i64 0,.int .i64 5,.int .i64 21,.int .i64 0,.int .i64 0,.int .i64 0,.int .i64 0,.int .i64 9,.int .i64 20,.int .i64 0,.int .i64 0,.int .i64 0,.int .i64 1] 30)::T)->∀ i,i<6->V.cell? ⟨g,i*6,none⟩=some (.int .i64 (sC b i).q)/\V.cell? ⟨g,i*6+1,none⟩=some (.int .i64 (sC b i).a)/\V.cell? ⟨g,i*6+2,none⟩=some (.int .i64 (sC b i).w)/\V.cell? ⟨g,i*6+3,none⟩=some (.int .i64 (sC b i).A)/\V.cell? ⟨g,i*6+4,none⟩=some (.int .i64 (sC b i).B)/\V.cell? ⟨g,i*6+5,none⟩=some (.int .i64 (sC b i).C)):=fun g V T s i hi=>by
  have h:=fun j=>(s.blkCell (p:=g) List.mem_cons_self j).1
  rcases (by omega:i=0\/i=1\/i=2\/i=3\/i=4\/i=5) with rfl | rfl | rfl | rfl | rfl | rfl
  ·exact ⟨h 0,h 1,h 2,h 3,h 4,h 5⟩
  ·exact ⟨h 6,h 7,h 8,h 9,h 10,h 11⟩
  ·exact ⟨h 12,h 13,h 14,h 15,h 16,h 17⟩
  ·exact ⟨h 18,h 19,h 20,h 21,h 22,h 23⟩
  ·exact ⟨h 24,h 25,h 26,h 27,h 28,h 29⟩
  ·exact ⟨h 30,h 31,h 32,h 33,h 34,h 35⟩
 obtain ⟨e6,k6,st6⟩:=s6_ok b a0 a1
 have g6:=s6_regs b a0 a1
 obtain ⟨-,st5,rb5,rn5⟩:=s5_ok b
 have HT:Hid (∀ (p:Nat) (V:World) (Y:Ly) (T:List Th),Sep W W.heap.size V (kT p Y (S5 b)::T)->Calls Tryz.prog 10 #[ptr p,.int .i64 0] V fun e w'=>∃ x1 x2 x3 g0 g1 g2 y3 y4 y5 y6 y7 E,e = .returned (.tuple #[.agg #[.int .i64 3,.int .i64 x1,.int .i64 x2,.int .i64 x3,.int .u64 g0,.int .u64 g1,.int .u64 g2,.int .u64 y3,.int .u64 y4,.int .u64 y5,.int .u64 y6,.int .u64 y7],.int .i64 E])/\Sep W W.heap.size w' (kT p Y (S5 b)::T)):=fun p V Y T s=>thr_any s st5
 have HR:Hid (∀ (p:Nat) (V:World) (Y:Ly) (T:List Th),Sep W W.heap.size V (kT p Y (S5 b)::T)->Calls Tryz.prog 11 #[ptr p,.int .i64 0] V fun e w'=>e = .returned (.tuple #[.int .i64 1,.bool true])/\Sep W W.heap.size w' (kT p Y (S5 b)::T)):=fun p V Y T s=>by
  have h:=Runs_sep s 0
  rw [rb5,rn5] at h
  exact h
 obtain ⟨K6,hK6⟩:∃ K,(goK (S5 b) 0 ⟨8,22,0,a0,a1,0⟩).1=K:=⟨_,rfl⟩
 have HE:Hid (∀ (p:Nat) (V:World) (Y:Ly) (T:List Th),Sep W W.heap.size V (kT p Y (S5 b)::T)->Calls Tryz.prog 9 #[ptr p,.int .i64 0,.agg #[.int .i64 8,.int .i64 22,.int .i64 0,.int .i64 a0,.int .i64 a1,.int .i64 0]] V fun r w'=>∃ x ao ln cap,r = .returned (.agg #[.int .i64 0,.int .u64 x,.int .i64 0,.slice ao ln cap])/\∃ Y',Sep W W.heap.size w' (kT p Y' K6::T)):=fun p V Y T s=>by
  obtain ⟨n,hn,kv0⟩:=kV 6 (by decide)
  have kv:Kv 1 n (S5 b):=kv0
  refine Calls.mono (run_do L kv (by omega) (c:=⟨8,22,0,a0,a1,0⟩) ⟨sm _ rfl,_h0,_h1,sm _ rfl,rfl⟩ (t:=tz) (K':=K6) (by rw [go_eq,<- hK6,<- htz]) p V Y T s) ?_
  rintro r w' ⟨ao,cap,Y',rfl,s'⟩
  rw [<- htz,e6,k6]
  exact ⟨_,_,_,_,rfl,_,s'.drop2⟩
 rw [hK6] at st6 g6
 have HT6:Hid (∀ (p:Nat) (V:World) (Y:Ly) (T:List Th),Sep W W.heap.size V (kT p Y K6::T)->Calls Tryz.prog 10 #[ptr p,.int .i64 0] V fun e w'=>∃ x1 x2 x3 y3 y4 y5 y6 y7 E,e = .returned (.tuple #[.agg #[.int .i64 1,.int .i64 x1,.int .i64 x2,.int .i64 x3,.int .u64 b,.int .u64 (u64 a0),.int .u64 (u64 a1),.int .u64 y3,.int .u64 y4,.int .u64 y5,.int .u64 y6,.int .u64 y7],.int .i64 E])/\Sep W W.heap.size w' (kT p Y K6::T)):=fun p V Y T s=>thr_sep s st6 g6
 have u0:IntKind.u64.wrap a0=u64 a0:=u64_wrap a0
 have u1:IntKind.u64.wrap a1=u64 a1:=u64_wrap a1
 have u2:IntKind.u64.wrap b=b:=by rw [u64_wrap];unfold u64;omega
 have S0:Hid (Sep W W.heap.size (W.alloc (.cells #[.int .i64 5] 3)) [Ta.lstI (.slice (some ⟨W.heap.size,0,none⟩) 1 1) [5]]):=Sep.lit (E:=Ta.elI) Ta.okI (sep_nil W) [5] (by simp) #[.int .i64 5] rfl
 have HL:=hid L
 have HLit:Hid (∀ V:World,(Instr.buildSlice 31 6 #[(0,.agg #[.int .i64 0,.int .i64 1,.int .i64 20,.int .i64 4,.int .i64 0,.int .i64 1]),(1,.agg #[.int .i64 0,.int .i64 1,.int .i64 21,.int .i64 3,.int .i64 0,.int .i64 1]),(2,.agg #[.int .i64 1,.int .i64 20,.int .i64 22,.int .i64 2,.int .i64 b,.int .i64 0]),(3,.agg #[.int .i64 7,.int .i64 21,.int .i64 0,.int .i64 5,.int .i64 0,.int .i64 0]),(4,.agg #[.int .i64 5,.int .i64 21,.int .i64 0,.int .i64 0,.int .i64 0,.int .i64 0]),(5,.agg #[.int .i64 9,.int .i64 20,.int .i64 0,.int .i64 0,.int .i64 0,.int .i64 1])]).run Tryz.prog V = .ok (.slice (some ⟨V.heap.size,0,none⟩) 6 6) (V.alloc (.cells #[.int .i64 0,.int .i64 1,.int .i64 20,.int .i64 4,.int .i64 0,.int .i64 1,.int .i64 0,.int .i64 1,.int .i64 21,.int .i64 3,.int .i64 0,.int .i64 1,.int .i64 1,.int .i64 20,.int .i64 22,.int .i64 2,.int .i64 b,.int .i64 0,.int .i64 7,.int .i64 21,.int .i64 0,.int .i64 5,.int .i64 0,.int .i64 0,.int .i64 5,.int .i64 21,.int .i64 0,.int .i64 0,.int .i64 0,.int .i64 0,.int .i64 9,.int .i64 20,.int .i64 0,.int .i64 0,.int .i64 0,.int .i64 1] 30))):=fun V=>by kernel_rfl
 clear L kV k0 e6 k6 st6 g6 st5 rb5 rn5 hK6 htz
 go_enter Tryz.func3,Tryz.ntmps3
 go_wp2_with (first
  | (go_at_call 8;(with_reducible refine Calls.mono (HBo.out _ _ _ S0.out) ?_);rintro e v0 ⟨p,rfl,Y0,s0⟩;have T0:Hid (∃ Y,Sep W W.heap.size _ [kT p Y K0,blk v0.heap.size (.cells #[.int .i64 0,.int .i64 1,.int .i64 20,.int .i64 4,.int .i64 0,.int .i64 1,.int .i64 0,.int .i64 1,.int .i64 21,.int .i64 3,.int .i64 0,.int .i64 1,.int .i64 1,.int .i64 20,.int .i64 22,.int .i64 2,.int .i64 b,.int .i64 0,.int .i64 7,.int .i64 21,.int .i64 0,.int .i64 5,.int .i64 0,.int .i64 0,.int .i64 5,.int .i64 21,.int .i64 0,.int .i64 0,.int .i64 0,.int .i64 0,.int .i64 9,.int .i64 20,.int .i64 0,.int .i64 0,.int .i64 0,.int .i64 1] 30)]):=⟨_,(s0.box (.cells #[.int .i64 0,.int .i64 1,.int .i64 20,.int .i64 4,.int .i64 0,.int .i64 1,.int .i64 0,.int .i64 1,.int .i64 21,.int .i64 3,.int .i64 0,.int .i64 1,.int .i64 1,.int .i64 20,.int .i64 22,.int .i64 2,.int .i64 b,.int .i64 0,.int .i64 7,.int .i64 21,.int .i64 0,.int .i64 5,.int .i64 0,.int .i64 0,.int .i64 5,.int .i64 21,.int .i64 0,.int .i64 0,.int .i64 0,.int .i64 0,.int .i64 9,.int .i64 20,.int .i64 0,.int .i64 0,.int .i64 0,.int .i64 1] 30)).swap⟩;clear s0)
  | (refine wpList_lit_run rfl 31 6 #[(0,.tmp 35),(1,.tmp 36),(2,.tmp 38),(3,.tmp 39),(4,.tmp 40),(5,.tmp 41)] rfl #[(0,.agg #[.int .i64 0,.int .i64 1,.int .i64 20,.int .i64 4,.int .i64 0,.int .i64 1]),(1,.agg #[.int .i64 0,.int .i64 1,.int .i64 21,.int .i64 3,.int .i64 0,.int .i64 1]),(2,.agg #[.int .i64 1,.int .i64 20,.int .i64 22,.int .i64 2,.int .i64 b,.int .i64 0]),(3,.agg #[.int .i64 7,.int .i64 21,.int .i64 0,.int .i64 5,.int .i64 0,.int .i64 0]),(4,.agg #[.int .i64 5,.int .i64 21,.int .i64 0,.int .i64 0,.int .i64 0,.int .i64 0]),(5,.agg #[.int .i64 9,.int .i64 20,.int .i64 0,.int .i64 0,.int .i64 0,.int .i64 1])] _ rfl (HLit.out v0) ?_)
  | fail)
 generalize hg:v0.heap.size=g at *
 clear hg
 go_loopw [11] (fun sv wr=>∃ i:Nat,i<=6/\sv = .int .i64 i/\∃ Y,Sep W W.heap.size wr [kT p Y (sK b i),blk g (.cells #[.int .i64 0,.int .i64 1,.int .i64 20,.int .i64 4,.int .i64 0,.int .i64 1,.int .i64 0,.int .i64 1,.int .i64 21,.int .i64 3,.int .i64 0,.int .i64 1,.int .i64 1,.int .i64 20,.int .i64 22,.int .i64 2,.int .i64 b,.int .i64 0,.int .i64 7,.int .i64 21,.int .i64 0,.int .i64 5,.int .i64 0,.int .i64 0,.int .i64 5,.int .i64 21,.int .i64 0,.int .i64 0,.int .i64 0,.int .i64 0,.int .i64 9,.int .i64 20,.int .i64 0,.int .i64 0,.int .i64 0,.int .i64 1] 30)]) (fun sv _=>6 - (intOf sv).toNat)
 case atStart=>exact ⟨0,Nat.zero_le _,rfl,T0.out⟩
 case round =>
  clear T0
  obtain ⟨i,hi,rfl,Y,s2⟩:=hrel
  have S2:=hid s2
  clear s2
  by_cases hlt:i<6
  ·have hltz:(i:Int)<6:=by omega
   have HI:=hid hlt
   have HS:Hid (∀ (V:World) (T:List Th) (u:Th),Sep W W.heap.size V (u::blk g (.cells #[.int .i64 0,.int .i64 1,.int .i64 20,.int .i64 4,.int .i64 0,.int .i64 1,.int .i64 0,.int .i64 1,.int .i64 21,.int .i64 3,.int .i64 0,.int .i64 1,.int .i64 1,.int .i64 20,.int .i64 22,.int .i64 2,.int .i64 b,.int .i64 0,.int .i64 7,.int .i64 21,.int .i64 0,.int .i64 5,.int .i64 0,.int .i64 0,.int .i64 5,.int .i64 21,.int .i64 0,.int .i64 0,.int .i64 0,.int .i64 0,.int .i64 9,.int .i64 20,.int .i64 0,.int .i64 0,.int .i64 0,.int .i64 1] 30)::T)->V.cell? ⟨g,i*6,none⟩=some (.int .i64 (sC b i).q)/\V.cell? ⟨g,i*6+1,none⟩=some (.int .i64 (sC b i).a)/\V.cell? ⟨g,i*6+2,none⟩=some (.int .i64 (sC b i).w)/\V.cell? ⟨g,i*6+3,none⟩=some (.int .i64 (sC b i).A)/\V.cell? ⟨g,i*6+4,none⟩=some (.int .i64 (sC b i).B)/\V.cell? ⟨g,i*6+5,none⟩=some (.int .i64 (sC b i).C)):=fun V T u s=>HC.out g V T s.drop i HI.out
   have HDi:=hid (HD.out i HI.out)
   obtain ⟨c,hc⟩:∃ c,sC b i=c:=⟨_,rfl⟩
   rw [hc] at HS HDi
   obtain ⟨q,a,w,A,B,C⟩:=c
   simp only at HS HDi
   clear hc
   obtain ⟨d0,d1,d2,d3,d4,d5⟩:=HS.out _ _ _ S2.out
   go_wp2_with (first
    | (go_at_call 9;(with_reducible refine Calls.mono (HDi.out _ _ _ _ S2.out) ?_);rintro e v3 ⟨x3,k3,ao3,ln3,cap3,rfl,Y3,s3⟩;have s4:=(s3.box (.cells #[.int .i64 0,.int .u64 x3,.int .i64 k3,.slice ao3 ln3 cap3] 35)).swap;have f1:=(s4.blkCell (p:=v3.heap.size) (List.mem_cons_of_mem _ List.mem_cons_self) 0).1;have S4:=hid s4.drop2;clear s3 s4)
    | fail)
   go_round
   case rel=>exact ⟨i+1,by have:=HI.out;omega,by go_num,_,S4.out⟩
   case measure=>simp [intOf];have:=HI.out;omega
  ·have hltz:¬ ((i:Int)<6):=by omega
   obtain rfl:i=6:=by omega
   have T2:Hid (Sep W W.heap.size _ [kT p Y (S5 b)]):=S2.out.drop2
   clear S2
   go_wp2_with (first
    | (go_at_call 10;(with_reducible refine Calls.mono (HT.out _ _ _ _ T2.out) ?_);rintro e v3 ⟨x1,x2,x3,g0,g1,g2,y3,y4,y5,y6,y7,E,rfl,s3⟩;have T3:=hid ((s3.box (.cells #[.int .i64 3,.int .i64 x1,.int .i64 x2,.int .i64 x3,.int .u64 g0,.int .u64 g1,.int .u64 g2,.int .u64 y3,.int .u64 y4,.int .u64 y5,.int .u64 y6,.int .u64 y7] 39)).swap);clear s3)
    | (go_at_call 11;(with_reducible refine Calls.mono (HR.out _ _ _ _ T3.out) ?_);rintro e v4 ⟨rfl,s4⟩;have T4:=hid s4;clear s4)
    | (go_at_call 9;(with_reducible refine Calls.mono (HE.out _ _ _ _ T4.out) ?_);rintro e v5 ⟨xt,ao5,ln5,cap5,rfl,Y5,s5⟩;have T5:=hid ((s5.box (.cells #[.int .i64 0,.int .u64 xt,.int .i64 0,.slice ao5 ln5 cap5] 35)).swap);clear s5)
    | (go_at_call 10;(with_reducible refine Calls.mono (HT6.out _ _ _ _ T5.out) ?_);rintro e v6 ⟨x61,x62,x63,z3,z4,z5,z6,z7,E6,rfl,s6⟩;have s7:=(s6.box (.cells #[.int .i64 1,.int .i64 x61,.int .i64 x62,.int .i64 x63,.int .u64 b,.int .u64 (u64 a0),.int .u64 (u64 a1),.int .u64 z3,.int .u64 z4,.int .u64 z5,.int .u64 z6,.int .u64 z7] 39)).swap;have f1:=(s7.blkCell (p:=v3.heap.size) mm3 0).1;have f2:=(s7.blkCell (p:=v5.heap.size) mm2 0).1;have f3:=(s7.blkCell (p:=v5.heap.size) mm2 2).1;have f4:=(s7.blkCell (p:=v6.heap.size) mm1 0).1;have f5:=(s7.blkCell (p:=v6.heap.size) mm1 4).1;have f6:=(s7.blkCell (p:=v6.heap.size) mm1 5).1;have f7:=(s7.blkCell (p:=v6.heap.size) mm1 6).1;have T7:=hid s7;clear s6 s7)
    | (go_at_call 12;refine Calls.mono (fixed_any _ (HL.out.below T7.out.low)) ?_;rintro e w8 ⟨rfl,b8⟩;have B8:=hid (T7.out.below b8).low;clear b8)
    | fail)
   go_ret
   exact ⟨rfl,B8.out⟩
open Go.ChangeShapes Go.WideShapes Go.ChangeAt Go.RowKit Go.Joins
set_option maxRecDepth 100000 in
theorem contract (H:Type) (enc:TypeId×Value->H) (W:World) (base:Nat) (args:Array Value) (ds gs:List (DataW H)) (before:List MemPlace)
  (hval:∀ (j:Nat) t v,Tryz.f3.params[j]? = some t->args[j]? = some v->Value.okWide Tryz.prog W .any base t v)
  (hW:DataW.Whole enc Tryz.prog Tryz.f3.params.toList Rows.kernelSendsSpec.vars false W args.toList ds gs before) (hL:laidMetH Tryz.prog Rows.kernelSendsRow.laid W) :
  Calls Tryz.prog 3 args W fun e W'=>∃ v,e = .returned v/\Rows.kernelSendsSpec.post enc Tryz.prog Tryz.f3 false true false false W args v W':=by
 have hW':=hW
 obtain ⟨p,q,hA0,hV,rfl,hfz,hnd⟩:=hW
 have hA:DataW.TrodAll enc Tryz.prog W 0 (fun _=>true) true Tryz.f3.params.toList args.toList ds p:=hA0
 rw [Tryz.params3] at hA hval
 obtain ⟨v0,vs0,d0,ds0,p0,q0,hargs,rfl,rfl,h0,r0⟩:=trodAll_cons hA
 obtain ⟨v1,vs1,d1,ds1,p1,q1,rfl,rfl,rfl,h1,r1⟩:=trodAll_cons r0
 obtain ⟨v2,vs2,d2,ds2,p2,q2,rfl,rfl,rfl,h2,r2⟩:=trodAll_cons r1
 obtain ⟨rfl,rfl,rfl⟩:=trodAll_nil r2
 obtain rfl:args=#[v0,v1,v2]:=by cases args;simp_all
 obtain ⟨rfl,rfl⟩:=trodVars_none hV
 have k0:=h0
 have lt0:∀ x∈p0,x.block<W.heap.size:=by obtain ⟨m,hm⟩:=k0;exact DataW.trod_lt m _ _ _ hm
 have k1:=h1
 have lt1:∀ x∈p1,x.block<W.heap.size:=by obtain ⟨m,hm⟩:=k1;exact DataW.trod_lt m _ _ _ hm
 have k2:=h2
 have lt2:∀ x∈p2,x.block<W.heap.size:=by obtain ⟨m,hm⟩:=k2;exact DataW.trod_lt m _ _ _ hm
 obtain ⟨a0,rfl,_,_,w0⟩:=open_int Tryz.underlying3 (hval 0 3 v0 rfl rfl) h0
 obtain ⟨a1,rfl,_,_,w1⟩:=open_int Tryz.underlying3 (hval 1 3 v1 rfl rfl) h1
 obtain ⟨a2,rfl,_,_,w2⟩:=open_int Tryz.underlying3 (hval 2 3 v2 rfl rfl) h2
 clear hA0
 refine (walk a0 a1 a2 W (table hL) (bounds_i64 w0) (bounds_i64 w1) (bounds_i64 w2)).mono fun e W' ⟨he,bel⟩=>?_
 subst he
 exact ⟨_,rfl,_,_,_,[],_,[],hW',trodAll_mk1 (shut_bool Tryz.underlying4 _),(trodAll_cons_mk (Below.trod laidOut (by kernel_rfl) (of_decide_eq_true (by kernel_rfl)) k0 bel lt0) (trodAll_cons_mk (Below.trod laidOut (by kernel_rfl) (of_decide_eq_true (by kernel_rfl)) k1 bel lt1) (trodAll_cons_mk (Below.trod laidOut (by kernel_rfl) (of_decide_eq_true (by kernel_rfl)) k2 bel lt2) trodAll_mk0))),rfl,bel.frame _,fun h=>by cases h⟩
theorem laid_met (os:Os):laidMet Tryz.prog Rows.kernelSendsRow.laid ((World.doorLaid Tryz.prog 40 os).forCall (fun _ _=>0) ⟨#[],#[.int .i64 0,.int .i64 0,.int .i64 0],[]⟩).memory:=
 laidMet_of_run' 8 (by kernel_rfl) (by kernel_rfl)
theorem reads (os:Os) {H:Type} (enc:TypeId×Value->H):∃ places,DataW.whole enc Tryz.prog ((World.doorLaid Tryz.prog 40 os).forCall (fun _ _=>0) ⟨#[],#[.int .i64 0,.int .i64 0,.int .i64 0],[]⟩).memory Tryz.f3.params.toList Rows.kernelSendsSpec.vars false (#[.int .i64 0,.int .i64 0,.int .i64 0]:Array Value).toList 8=some ([.lit (.int .i64 0),.lit (.int .i64 0),.lit (.int .i64 0)],[],places):=
 ⟨[],by kernel_rfl⟩
set_option maxRecDepth 100000 in
theorem lifted (os:Os) (started:os.Started) (H:Type) (enc:TypeId×Value->H) (F:Stop.Interp) :
  ReturnsInHanded {} Tryz.checked os 3 .any ((OpenSpec.ofChange Rows.kernelSendsSpec).preRow enc Tryz.prog Tryz.f3 Rows.kernelSendsRow.domain false Rows.kernelSendsRow.laid) (((OpenSpec.ofChange Rows.kernelSendsSpec).at F).post enc Tryz.prog Tryz.f3 false true false false):=by
 obtain ⟨places,hx⟩:=reads os enc
 refine returnsInHanded_of_row (C:=Tryz.checked) (s:=OpenSpec.ofChange Rows.kernelSendsSpec) ownK started (by kernel_rfl) Tryz.func3
  (witness_row_at (enc:=enc) (C:=Tryz.checked) false (World.doorLaid Tryz.prog 40 os) #[.int .i64 0,.int .i64 0,.int .i64 0] rfl (by kernel_rfl) (by kernel_rfl) (by kernel_rfl)
   (OpenSpec.preRow_of_cond 8 hx (by kernel_rfl) (fun k hk=>by cases hk) (by kernel_rfl) (laid_met os))) ?_
 intro W base args ds gs before hval hW _ _ _ hL _ _
 exact contract H enc W base args ds gs before hval hW hL
theorem said:Rows.KernelSendsSaid:=
 OpenClaim.holds_of_cond 3 Tryz.f3 rfl rfl rfl rfl rfl rfl rfl ⟨rfl,rfl,rfl,rfl,rfl⟩ rfl rfl rfl rfl rfl (by kernel_rfl) Tryz.func3 (by kernel_rfl)
  (of_decide_eq_true (by kernel_rfl)) (by unfold Func.isWrapper;first | (rw [if_pos (by decide +kernel)];kernel_rfl) | (rw [if_neg (by decide +kernel)];exact ⟨rfl,rfl⟩))
  (fun os started H enc _ F=>by rw [OpenClaim.pre_eq_preRow];exact lifted os started H enc F)
theorem plain (f:FuncId) (fn:Func) (hf:Tryz.pinned.checked.prog.funcNamed "buttress/buttresslaw18.KernelSends" = some f) (hfn:Tryz.pinned.checked.prog.funcs[f]? = some fn) :
  false=Tryz.pinned.checked.prog.looks []/\∀ (j:Nat) t,fn.params[j]? = some t->Tryz.pinned.checked.prog.wantsStandIn t=false:=by
 obtain rfl:f=3:=Option.some.inj ((show Tryz.prog.funcNamed "buttress/buttresslaw18.KernelSends" = some 3 by kernel_rfl).symm.trans hf) |>.symm
 obtain rfl:fn=Tryz.f3:=(Option.some.inj (Tryz.func3.symm.trans hfn)).symm
 refine ⟨by kernel_rfl,fun j t ht=>?_⟩
 rw [Tryz.params3] at ht
 have hm:t∈[3,3,3]:=by simpa using Array.mem_of_getElem? ht
 have hall:([3,3,3].all fun u => !Tryz.prog.wantsStandIn u)=true:=by kernel_rfl
 exact (show Tryz.prog.wantsStandIn t=false by simpa using List.all_eq_true.1 hall t hm)
end Go.Proofs.YtilnjnblpeeigaaGreatDoor.kernelSends
namespace Go.Proofs.YtilnjnblpeeigaaGreatDoor
theorem kernelSends_card:Rows.KernelSendsCardSaid:=
 Claim7.holds_tied_plain_at .later [] _ _ _ _ kernelSends.said (fun _ h=>by cases h) (by kernel_rfl) (fun _ h=>by cases h) kernelSends_row_tie rfl ⟨rfl,rfl⟩ (by kernel_rfl) rfl kernelSends.plain (by kernel_rfl)
end Go.Proofs.YtilnjnblpeeigaaGreatDoor
