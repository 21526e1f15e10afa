/-
  KernelPages: a frame that is mapped with some rights has no more than its capability has; when its last capability goes it is mapped nowhere: whatever the arguments, the statement's function returns true; the condition: that the three tables lie where they were laid.
-/
import Derived.Test.YtilnjnblpeeigaaGreatDoorPb1
import Derived.Test.YtilnjnblpeeigaaGreatDoorPb2
import Derived.Test.YtilnjnblpeeigaaGreatDoorPb3
import Derived.Test.YtilnjnblpeeigaaGreatDoorPb4
import Derived.Test.YtilnjnblpeeigaaGreatDoorPb5
import Derived.Test.YtilnjnblpeeigaaGreatDoorPb6
import Derived.Test.YtilnjnblpeeigaaGreatDoorPb7
import Derived.Test.YtilnjnblpeeigaaGreatDoorPb8
import Derived.Test.YtilnjnblpeeigaaGreatDoorPb9
import Derived.Test.YtilnjnblpeeigaaGreatDoorPb10
import Derived.Test.YtilnjnblpeeigaaGreatDoorPb11
import Derived.Test.YtilnjnblpeeigaaGreatDoorPb12
import Derived.Test.YtilnjnblpeeigaaGreatDoorPb13
import Derived.Test.YtilnjnblpeeigaaGreatDoorPb14
import Derived.Test.YtilnjnblpeeigaaGreatDoorPb15
import Derived.Test.YtilnjnblpeeigaaGreatDoorPb16
import Derived.Test.YtilnjnblpeeigaaGreatDoorPb17
import Derived.Test.YtilnjnblpeeigaaGreatDoorPb18
import Derived.Test.YtilnjnblpeeigaaGreatDoorPb19
import Derived.Test.YtilnjnblpeeigaaGreatDoorPb20
import Derived.Test.YtilnjnblpeeigaaGreatDoorPb21
import Derived.Test.YtilnjnblpeeigaaGreatDoorPb22
import Derived.Test.YtilnjnblpeeigaaGreatDoorPb23
import Derived.Test.YtilnjnblpeeigaaGreatDoorPb24
import Derived.Test.YtilnjnblpeeigaaGreatDoorPb25
import Derived.Test.YtilnjnblpeeigaaGreatDoorPb26
import Derived.Test.YtilnjnblpeeigaaGreatDoorPb27
import Derived.Test.YtilnjnblpeeigaaGreatDoorPb28
import Derived.Test.YtilnjnblpeeigaaGreatDoorPb29
import Derived.Test.YtilnjnblpeeigaaGreatDoorPb30
import Derived.Test.YtilnjnblpeeigaaGreatDoorPb31
import Derived.Test.YtilnjnblpeeigaaGreatDoorPb32
import Derived.Test.YtilnjnblpeeigaaGreatDoorPb33
import Derived.Test.YtilnjnblpeeigaaGreatDoorPxPa1
import Derived.Test.YtilnjnblpeeigaaGreatDoorPxPa2
import Derived.Test.YtilnjnblpeeigaaGreatDoorPxPa3
import Derived.Below
import Derived.BigQuiet
import Derived.Deep.Cut
import Derived.Deep.CutRange
import Derived.Deep.DeepHandedRow
import Derived.Deep.OwnRows
import Derived.Deep.QuietTactic
import Derived.Deep.RegionHeld3
import Derived.Deep.RegionLaw
import Derived.Deep.RegionWith
import Derived.Deep.Slices
import Derived.Deep.WholeRow
import Derived.DeepKeys4
import Derived.KernelRfl
import Derived.LaidMore
import Derived.Laws.AppendOwnNone
import Derived.Laws.BitsAllLaws
import Derived.Laws.BitsLemmas
import Derived.Laws.CopyOwn
import Derived.Laws.IdiomArrays
import Derived.Laws.StructEq
import Derived.Lib.AppendZerosOnto
import Derived.Lib.LaidTab
import Derived.Lib.Overlaps
import Derived.Lib.SliceRun
import Derived.Lib.SmallJoins
import Derived.Lib.Walk
import Derived.Maps.AppendAt
import Derived.Maps.Range
import Derived.Maps.RangeWalk
import Derived.OpenShut
import Derived.ProofKit
import Derived.Shelf.Abstract
import Derived.Shelf.RegionOpenPlain
import Derived.Shelf.SlIterI.Nil
import Derived.Shelf.SlMaps.Clone
import Derived.Shelf.SlSortCmp.NoneTotal
import Derived.Shelf.SlSortCmp.WholeK
import Derived.Shelf.SlicesE.Clone
import Derived.Shelf.SortM.Plain
import Derived.Shelf.SortM.SortNone
import Derived.Sort.Grow
import Derived.Sort.Statements
import Derived.Test.YtilnjnblpeeigaaGreatDoorCards
import Derived.Test.YtilnjnblpeeigaaGreatDoorProg
import Derived.Test.YtilnjnblpeeigaaGreatDoorRows
import Derived.Test.YtilnjnblpeeigaaGreatDoorTie
import Derived.WalkKit
import Derived.WalkLawsBesides
import Derived.WideMake
namespace Go.Proofs.YtilnjnblpeeigaaGreatDoor
open Go.RowKit Go.Deep Go.Shelf
theorem wri {x:Int} (h1 : -9223372036854775808<=x) (h2:x<=9223372036854775807):IntKind.i64.wrap x=x:=by
 rw [IntKind.wrap_i64]
 omega
theorem wru {x:Int} (h1:0<=x) (h2:x<=1000000):IntKind.u64.wrap x=x:=by
 rw [u64_wrap]
 unfold u64
 omega
theorem sm (x:Int) (h:(decide (0<=x) && decide (x<=1000))=true):I64 x:=by
 rw [Bool.and_eq_true,decide_eq_true_eq,decide_eq_true_eq] at h
 exact small x h
open Classical
theorem go_nx {K K':Kr} {c:Cl} (h1:(goK K 0 c).1=K') (h2:(goK K 0 c).2.e=0):∃ t,doK K 0 c=(K',t)/\t.e=0:=
 ⟨(goK K 0 c).2,by rw [go_eq,<- h1],h2⟩
theorem go_nx2 {K K':Kr} {c:Cl} {t:Tl} (h:goK K 0 c=(K',t)) (h2:t.e=0):∃ t,doK K 0 c=(K',t)/\t.e=0:=
 ⟨t,by rw [go_eq,h],h2⟩
theorem cl_eta (c:Cl):c=⟨c.q,c.a,c.w,c.A,c.B,c.C⟩:=rfl
theorem run_do {w0:World} (L:Lt w0) {n m:Nat} {K K':Kr} (v:Kv n m K) (hm:m<=100000) {core:Int} {c:Cl} (b:Cd c) {t:Tl} (hX:doK K core c=(K',t)) (p:Nat) (W:World) (Y:Ly) (T:List Th) (s:Sep w0 w0.heap.size W (kT p Y K::T)) :
  Calls Tryz.prog 9 #[ptr p,.int .i64 core,.agg #[.int .i64 c.q,.int .i64 c.a,.int .i64 c.w,.int .i64 c.A,.int .i64 c.B,.int .i64 c.C]] W fun r w'=>∃ ao cap Y',r = .returned (.agg #[.int .i64 t.e,.int .u64 t.w,.int .i64 t.k,.slice ao t.f.length cap])/\Sep w0 w0.heap.size w' (kT p Y' K'::lst elR (.slice ao t.f.length cap) t.f::T):=by
 exact do_law s L v hm core b (e:=t.e) (x:=t.w) (k:=t.k) (f:=t.f) hX
def pK (s p r:Int):Nat->Kr
 | 0=>K0
 | 1=>P1
 | 2=>P2
 | 3=>P3
 | 4=>P4 s
 | _=>P5 s p (rtP s r)
def pC (s p r:Int):Nat->Cl
 | 0=>⟨0,1,20,6,0,1⟩
 | 1=>⟨0,1,21,7,0,1⟩
 | 2=>⟨12,21,3,0,0,0⟩
 | 3=>⟨1,20,22,s,0,0⟩
 | _=>⟨13,22,3,p,r,0⟩
set_option maxRecDepth 100000 in
theorem pg_step {s p r:Int} (hs:0<=s/\s<=7) (hp:0<=p/\p<64) (hr:0<=r/\r<=7):∀ i,i<5->∃ t,doK (pK s p r i) 0 (pC s p r i)=(pK s p r (i+1),t)/\t.e=0:=by
 intro i hi
 rcases (by omega:i=0\/i=1\/i=2\/i=3\/i=4) with rfl | rfl | rfl | rfl | rfl
 ·exact go_nx rfl p3_ok.1
 ·exact go_nx rfl p3_ok.2.1
 ·exact go_nx rfl p3_ok.2.2
 ·exact go_nx2 (p4_is hs) rfl
 ·exact go_nx2 (p5_is hs hr hp) rfl
theorem pg_cd {s p r:Int} (hs:0<=s/\s<=7) (hp:0<=p/\p<64) (hr:0<=r/\r<=7):∀ i,i<5->Cd (pC s p r i):=by
 intro i hi
 rcases (by omega:i=0\/i=1\/i=2\/i=3\/i=4) with rfl | rfl | rfl | rfl | rfl
 ·exact ⟨sm _ rfl,sm _ rfl,sm _ rfl,sm _ rfl,rfl⟩
 ·exact ⟨sm _ rfl,sm _ rfl,sm _ rfl,sm _ rfl,rfl⟩
 ·exact ⟨sm _ rfl,sm _ rfl,sm _ rfl,sm _ rfl,rfl⟩
 ·exact ⟨sm _ rfl,small s (by omega),sm _ rfl,sm _ rfl,rfl⟩
 ·exact ⟨sm _ rfl,small p (by omega),small r (by omega),sm _ rfl,rfl⟩
theorem pg_kv {s p r:Int} (hs:0<=s/\s<=7) (hp:0<=p/\p<64) (hr:0<=r/\r<=7) (k0:Kv 1 0 (pK s p r 0)):∀ i,i<=5->∃ n,n<=1000/\Kv 1 n (pK s p r i):=by
 have a:∀ i,i<=5->Kv 1 (64*i) (pK s p r i):=by
  intro i
  induction i with
  | zero=>exact fun _=>k0
  | succ i ih =>
   intro hi
   obtain ⟨t,ht,-⟩:=pg_step hs hp hr i (by omega)
   exact (ih (by omega)).call (by omega) (pg_cd hs hp hr i (by omega)).B ht
 exact fun i hi=>⟨_,by omega,a i hi⟩
theorem rt_raw (x y:Int):rtP (bits .and .i64 x 7) (bits .and .i64 y 7)=bits .and .i64 (bits .and .i64 y x) 7:=by
 have w:∀ z:BitVec 64,BitVec.ofInt 64 (IntKind.i64.wrap (z.toNat:Int))=z:=fun z=>by
  apply BitVec.eq_of_toNat_eq
  rw [BitVec.toNat_ofInt,IntKind.wrap_i64]
  have hz:=z.isLt
  rw [show ((2 ^ 64:Nat):Int)=18446744073709551616 from rfl]
  omega
 have e:∀ a b:Int,bits .and .i64 a b=IntKind.i64.wrap ((BitVec.ofInt 64 a &&& BitVec.ofInt 64 b).toNat:Int):=fun _ _=>rfl
 have q:∀ (a b c:BitVec 64),(c &&& (a &&& c)) &&& (b &&& c)=(b &&& a) &&& c:=fun a b c=>by
  ext i h
  simp only [BitVec.getElem_and]
  cases a[i] <;> cases b[i] <;> cases c[i] <;> rfl
 unfold rtP
 rw [e (bits .and .i64 7 (bits .and .i64 x 7)),e 7 (bits .and .i64 x 7),e x 7,e y 7,e (bits .and .i64 y x) 7,e y x]
 simp only [w]
 rw [q]
end Go.Proofs.YtilnjnblpeeigaaGreatDoor
namespace Go.Proofs.YtilnjnblpeeigaaGreatDoor.kernelPages
open Go.RowKit Go.Deep Go.Shelf
open Classical
set_option maxHeartbeats 8000000 in
set_option maxRecDepth 100000 in
theorem walk (a0 a1 a2:Int) (W:World) (L:Lt W) (_h0 : -9223372036854775808<=a0/\a0<=9223372036854775807) (_h1 : -9223372036854775808<=a1/\a1<=9223372036854775807) (_h2 : -9223372036854775808<=a2/\a2<=9223372036854775807) :
  Calls Tryz.prog 4 #[.int .i64 a0,.int .i64 a1,.int .i64 a2] W fun e W'=>e = .returned (.bool true)/\Below W.heap.size W W':=by
 obtain ⟨pp,hp64,hp⟩:=mask63 a0
 obtain ⟨rr,hr8,hr⟩:=mask7 a1
 obtain ⟨ss,hs8,hs⟩:=mask7 a2
 have hrt:bits .and .i64 (bits .and .i64 a1 a2) 7=rtP (ss:Int) (rr:Int):=by rw [<- rt_raw,hr,hs]
 obtain ⟨pq,hpq⟩:∃ x:Int,(pp:Int)=x:=⟨_,rfl⟩
 obtain ⟨ri,hrq⟩:∃ x:Int,(rr:Int)=x:=⟨_,rfl⟩
 obtain ⟨si,hsq⟩:∃ x:Int,(ss:Int)=x:=⟨_,rfl⟩
 have hpb:0<=pq/\pq<64:=by omega
 have hrb:0<=ri/\ri<=7:=by omega
 have hsb:0<=si/\si<=7:=by omega
 rw [hpq] at hp
 rw [hrq] at hr hrt
 rw [hsq] at hs hrt
 obtain ⟨y,hy⟩:∃ y,rtP si ri=y:=⟨_,rfl⟩
 rw [hy] at hrt
 have k0:Kv 1 0 K0:=by
  have h:=boot_kv (n:=1) (m:=0) (b:=12) (Q:=[5]) rfl rfl
  rw [beg_eq] at h
  exact h
 have kV:=pg_kv hsb hpb hrb k0
 have HBo:Hid (∀ (g:Nat) (V:World) (T:List Th),Sep W W.heap.size V (Ta.lstI (.slice (some ⟨g,0,none⟩) 1 1) [5]::T)->Calls Tryz.prog 8 #[.agg #[.int .i64 1,.int .i64 12,.int .i64 0,.slice (some ⟨g,0,none⟩) 1 1]] V fun r w'=>∃ p,r = .returned (.tuple #[ptr p,.int .i64 0])/\∃ Y,Sep W W.heap.size w' (kT p Y K0::T)):=fun g V T s=>by
  have h:=Boot_ok s (fun u b=>L.t.below b) (n:=1) (m:=0) (b:=12) rfl rfl
  rw [beg_eq] at h
  refine Calls.mono h ?_
  rintro r w' ⟨p,rfl,Y,s'⟩
  exact ⟨p,rfl,Y,s'.drop2⟩
 have HD:Hid (∀ (i:Nat),i<5->∀ (p:Nat) (V:World) (Y:Ly) (T:List Th),Sep W W.heap.size V (kT p Y (pK si pq ri i)::T)->Calls Tryz.prog 9 #[ptr p,.int .i64 0,.agg #[.int .i64 (pC si pq ri i).q,.int .i64 (pC si pq ri i).a,.int .i64 (pC si pq ri i).w,.int .i64 (pC si pq ri i).A,.int .i64 (pC si pq ri i).B,.int .i64 (pC si pq ri i).C]] V fun r w'=>∃ x k ao ln cap,r = .returned (.agg #[.int .i64 0,.int .u64 x,.int .i64 k,.slice ao ln cap])/\∃ Y',Sep W W.heap.size w' (kT p Y' (pK si pq ri (i+1))::T)):=fun i hi p V Y T s=>by
  obtain ⟨n,hn,kv⟩:=kV i (by omega)
  obtain ⟨t,ht,te⟩:=pg_step hsb hpb hrb i hi
  refine Calls.mono (run_do L kv (by omega) (pg_cd hsb hpb hrb i hi) ht p V Y T s) ?_
  rintro r w' ⟨ao,cap,Y',rfl,s'⟩
  rw [te]
  exact ⟨_,_,_,_,_,rfl,_,s'.drop2⟩
 have HC:Hid (∀ (g:Nat) (V:World) (T:List Th),Sep W W.heap.size V (blk g (.cells #[.int .i64 0,.int .i64 1,.int .i64 20,.int .i64 6,.int .i64 0,.int .i64 1,.int .i64 0,.int .i64 1,.int .i64 21,.int .i64 7,.int .i64 0,.int .i64 1,.int .i64 12,.int .i64 21,.int .i64 3,.int .i64 0,.int .i64 0,.int .i64 0,.int .i64 1,.int .i64 20,.int .i64 22,.int .i64 si,.int .i64 0,.int .i64 0,.int .i64 13,.int .i64 22,.int .i64 3,.int .i64 pq,.int .i64 ri,.int .i64 0] 30)::T)->∀ i,i<5->V.cell? ⟨g,i*6,none⟩=some (.int .i64 (pC si pq ri i).q)/\V.cell? ⟨g,i*6+1,none⟩=some (.int .i64 (pC si pq ri i).a)/\V.cell? ⟨g,i*6+2,none⟩=some (.int .i64 (pC si pq ri i).w)/\V.cell? ⟨g,i*6+3,none⟩=some (.int .i64 (pC si pq ri i).A)/\V.cell? ⟨g,i*6+4,none⟩=some (.int .i64 (pC si pq ri i).B)/\V.cell? ⟨g,i*6+5,none⟩=some (.int .i64 (pC si pq ri i).C)):=fun g V T s i hi=>by
  have h:=fun j=>(s.blkCell (p:=g) List.mem_cons_self j).1
  rcases (by omega:i=0\/i=1\/i=2\/i=3\/i=4) with rfl | rfl | rfl | rfl | rfl
  ·exact ⟨h 0,h 1,h 2,h 3,h 4,h 5⟩
  ·exact ⟨h 6,h 7,h 8,h 9,h 10,h 11⟩
  ·exact ⟨h 12,h 13,h 14,h 15,h 16,h 17⟩
  ·exact ⟨h 18,h 19,h 20,h 21,h 22,h 23⟩
  ·exact ⟨h 24,h 25,h 26,h 27,h 28,h 29⟩
 obtain ⟨n5,hn5,kv5⟩:=kV 5 (by decide)
 have kv5':Kv 1 n5 (P5 si pq y):=by rw [<- hy];exact kv5
 have hp4:0<=pq/\pq<4096:=by omega
 have x6:doK (P5 si pq y) 0 ⟨3,20,0,0,0,0⟩=(P6 si pq y,⟨0,0,-1,[]⟩):=by rw [go_eq];exact p6_is si pq y
 have kv6:=kv5'.call (by omega) (sm _ rfl) x6
 obtain ⟨e7,D7,hD7,hA7⟩:=p7_is (s:=si) (y:=y) hp4
 obtain ⟨K7,hK7⟩:∃ K,(goK (P6 si pq y) 0 ⟨3,22,0,0,0,0⟩).1=K:=⟨_,rfl⟩
 rw [hK7] at hD7
 have x7:doK (P6 si pq y) 0 ⟨3,22,0,0,0,0⟩=(K7,⟨0,0,-1,[⟨0,pq,0,y⟩]⟩):=by rw [go_eq,<- hK7,<- e7]
 have HPa:Hid (∀ (p:Nat) (V:World) (Y:Ly) (T:List Th),Sep W W.heap.size V (kT p Y (P5 si pq y)::T)->Calls Tryz.prog 13 #[ptr p,.int .i64 0] V fun e w'=>∃ ao cap,e = .returned (.slice ao 1 cap)/\Sep W W.heap.size w' (kT p Y (P5 si pq y)::Ta.lstL (.slice ao 1 cap) [(pq,⟨0,y⟩)]::T)):=fun p V Y T s0=>by
  have h:=Pages_yes s0 (n:=0) (i:=0) rfl (S:=D5 pq y) rfl
  rw [show Ta.allP (D5 pq y).f=[(pq,⟨0,y⟩)] from one_page hp4 _] at h
  exact h
 have HD1:Hid (∀ (p:Nat) (V:World) (Y:Ly) (T:List Th),Sep W W.heap.size V (kT p Y (P5 si pq y)::T)->Calls Tryz.prog 9 #[ptr p,.int .i64 0,.agg #[.int .i64 3,.int .i64 20,.int .i64 0,.int .i64 0,.int .i64 0,.int .i64 0]] V fun r w'=>∃ ao cap Y',r = .returned (.agg #[.int .i64 0,.int .u64 0,.int .i64 (-1),.slice ao 0 cap])/\Sep W W.heap.size w' (kT p Y' (P6 si pq y)::T)):=fun p V Y T s0 =>
  fx_do L kv5' (by omega) (c:=⟨3,20,0,0,0,0⟩) ⟨sm _ rfl,sm _ rfl,sm _ rfl,sm _ rfl,rfl⟩ x6 p V Y T s0
 have HD2:Hid (∀ (p:Nat) (V:World) (Y:Ly) (T:List Th),Sep W W.heap.size V (kT p Y (P6 si pq y)::T)->Calls Tryz.prog 9 #[ptr p,.int .i64 0,.agg #[.int .i64 3,.int .i64 22,.int .i64 0,.int .i64 0,.int .i64 0,.int .i64 0]] V fun r w'=>∃ ao cap Y',r = .returned (.agg #[.int .i64 0,.int .u64 0,.int .i64 (-1),.slice ao 1 cap])/\Sep W W.heap.size w' (kT p Y' K7::lst elR (.slice ao 1 cap) [⟨0,pq,0,y⟩]::T)):=fun p V Y T s0 =>
  run_do L kv6 (by omega) (c:=⟨3,22,0,0,0,0⟩) ⟨sm _ rfl,sm _ rfl,sm _ rfl,sm _ rfl,rfl⟩ x7 p V Y T s0
 have HPb:Hid (∀ (p:Nat) (V:World) (Y:Ly) (T:List Th),Sep W W.heap.size V (kT p Y K7::T)->Calls Tryz.prog 13 #[ptr p,.int .i64 0] V fun e w'=>∃ ao cap,e = .returned (.slice ao 0 cap)/\Sep W W.heap.size w' (kT p Y K7::T)):=fun p V Y T s0=>by
  have h:=Pages_yes s0 (n:=0) (i:=0) rfl (S:=D7) (by rw [hD7];rfl)
  rw [hA7] at h
  refine Calls.mono h ?_
  rintro e w' ⟨ao,cap,rfl,s'⟩
  exact ⟨ao,cap,rfl,s'.drop2⟩
 have HY:Hid (P5 si pq (rtP si ri)=P5 si pq y):=by show _=_;rw [hy]
 clear hy
 have S0:Hid (Sep W W.heap.size (W.alloc (.cells #[.int .i64 5] 3)) [Ta.lstI (.slice (some ⟨W.heap.size,0,none⟩) 1 1) [5]]):=Sep.lit (E:=Ta.elI) Ta.okI (sep_nil W) [5] (by simp) #[.int .i64 5] rfl
 have HL:=hid L
 clear L kV k0 kv5 kv5' kv6 x6 x7 hD7 hA7 e7 hK7
 go_enter Tryz.func4,Tryz.ntmps4
 go_wp2_with (first
  | (go_at_call 8;(with_reducible refine Calls.mono (HBo.out _ _ _ S0.out) ?_);rintro e v0 ⟨p,rfl,Y0,s0⟩;have T0:Hid (∃ Y,Sep W W.heap.size _ [kT p Y K0,blk v0.heap.size (.cells #[.int .i64 0,.int .i64 1,.int .i64 20,.int .i64 6,.int .i64 0,.int .i64 1,.int .i64 0,.int .i64 1,.int .i64 21,.int .i64 7,.int .i64 0,.int .i64 1,.int .i64 12,.int .i64 21,.int .i64 3,.int .i64 0,.int .i64 0,.int .i64 0,.int .i64 1,.int .i64 20,.int .i64 22,.int .i64 si,.int .i64 0,.int .i64 0,.int .i64 13,.int .i64 22,.int .i64 3,.int .i64 pq,.int .i64 ri,.int .i64 0] 30)]):=⟨_,(s0.box (.cells #[.int .i64 0,.int .i64 1,.int .i64 20,.int .i64 6,.int .i64 0,.int .i64 1,.int .i64 0,.int .i64 1,.int .i64 21,.int .i64 7,.int .i64 0,.int .i64 1,.int .i64 12,.int .i64 21,.int .i64 3,.int .i64 0,.int .i64 0,.int .i64 0,.int .i64 1,.int .i64 20,.int .i64 22,.int .i64 si,.int .i64 0,.int .i64 0,.int .i64 13,.int .i64 22,.int .i64 3,.int .i64 pq,.int .i64 ri,.int .i64 0] 30)).swap⟩;clear s0)
  | fail)
 generalize hg:v0.heap.size=g at *
 clear hg
 go_loopw [11] (fun sv wr=>∃ i:Nat,i<=5/\sv = .int .i64 i/\∃ Y,Sep W W.heap.size wr [kT p Y (pK si pq ri i),blk g (.cells #[.int .i64 0,.int .i64 1,.int .i64 20,.int .i64 6,.int .i64 0,.int .i64 1,.int .i64 0,.int .i64 1,.int .i64 21,.int .i64 7,.int .i64 0,.int .i64 1,.int .i64 12,.int .i64 21,.int .i64 3,.int .i64 0,.int .i64 0,.int .i64 0,.int .i64 1,.int .i64 20,.int .i64 22,.int .i64 si,.int .i64 0,.int .i64 0,.int .i64 13,.int .i64 22,.int .i64 3,.int .i64 pq,.int .i64 ri,.int .i64 0] 30)]) (fun sv _=>5 - (intOf sv).toNat)
 case atStart=>exact ⟨0,Nat.zero_le _,rfl,T0.out⟩
 case round =>
  clear T0
  obtain ⟨i,hi,rfl,Y,s2⟩:=hrel
  have S2:=hid s2
  clear s2
  by_cases hlt:i<5
  ·have hltz:(i:Int)<5:=by omega
   have HI:=hid hlt
   have HS:Hid (∀ (V:World) (T:List Th) (u:Th),Sep W W.heap.size V (u::blk g (.cells #[.int .i64 0,.int .i64 1,.int .i64 20,.int .i64 6,.int .i64 0,.int .i64 1,.int .i64 0,.int .i64 1,.int .i64 21,.int .i64 7,.int .i64 0,.int .i64 1,.int .i64 12,.int .i64 21,.int .i64 3,.int .i64 0,.int .i64 0,.int .i64 0,.int .i64 1,.int .i64 20,.int .i64 22,.int .i64 si,.int .i64 0,.int .i64 0,.int .i64 13,.int .i64 22,.int .i64 3,.int .i64 pq,.int .i64 ri,.int .i64 0] 30)::T)->V.cell? ⟨g,i*6,none⟩=some (.int .i64 (pC si pq ri i).q)/\V.cell? ⟨g,i*6+1,none⟩=some (.int .i64 (pC si pq ri i).a)/\V.cell? ⟨g,i*6+2,none⟩=some (.int .i64 (pC si pq ri i).w)/\V.cell? ⟨g,i*6+3,none⟩=some (.int .i64 (pC si pq ri i).A)/\V.cell? ⟨g,i*6+4,none⟩=some (.int .i64 (pC si pq ri i).B)/\V.cell? ⟨g,i*6+5,none⟩=some (.int .i64 (pC si pq ri i).C)):=fun V T u s=>HC.out g V T s.drop i HI.out
   have HDi:=hid (HD.out i HI.out)
   obtain ⟨c,hc⟩:∃ c,pC si pq ri i=c:=⟨_,rfl⟩
   rw [hc] at HS HDi
   obtain ⟨q,a,w,A,B,C⟩:=c
   simp only at HS HDi
   clear hc
   obtain ⟨d0,d1,d2,d3,d4,d5⟩:=HS.out _ _ _ S2.out
   go_wp2_with (first
    | (go_at_call 9;(with_reducible refine Calls.mono (HDi.out _ _ _ _ S2.out) ?_);rintro e v3 ⟨x3,k3,ao3,ln3,cap3,rfl,Y3,s3⟩;have s4:=(s3.box (.cells #[.int .i64 0,.int .u64 x3,.int .i64 k3,.slice ao3 ln3 cap3] 35)).swap;have f1:=(s4.blkCell (p:=v3.heap.size) (List.mem_cons_of_mem _ List.mem_cons_self) 0).1;have S4:=hid s4.drop2;clear s3 s4)
    | fail)
   go_round
   case rel=>exact ⟨i+1,by have:=HI.out;omega,by go_num,_,S4.out⟩
   case measure=>simp [intOf];have:=HI.out;omega
  ·have hltz:¬ ((i:Int)<5):=by omega
   obtain rfl:i=5:=by omega
   have T2:Hid (Sep W W.heap.size wr [kT p Y (P5 si pq y)]):=by rw [<- HY.out];exact S2.out.drop2
   clear S2
   go_wp2_with (first
    | (go_at_call 13;(with_reducible refine Calls.mono (HPa.out _ _ _ _ T2.out) ?_);rintro e v3 ⟨ao3,cap3,rfl,s3⟩;(obtain ⟨g3,rfl,hg3⟩:=s3.listAt Ta.okL mm1 (k:=0) rfl);have T3:=hid s3;clear s3 hg3)
    | (go_at_call 9;(with_reducible refine Calls.mono (HD1.out _ _ _ _ T3.out) ?_);rintro e v4 ⟨ao4,cap4,Y4,rfl,s4⟩;have T4:=hid ((s4.box (.cells #[.int .i64 0,.int .u64 0,.int .i64 (-1),.slice ao4 0 cap4] 35)).swap);clear s4)
    | (go_at_call 9;(with_reducible refine Calls.mono (HD2.out _ _ _ _ T4.out) ?_);rintro e v5 ⟨ao5,cap5,Y5,rfl,s5⟩;(obtain ⟨g5,rfl,hg5⟩:=s5.listAt okR mm1 (k:=0) rfl);clear hg5;have s6:=(s5.box (.cells #[.int .i64 0,.int .u64 0,.int .i64 (-1),.slice (some ⟨g5,0,none⟩) 1 cap5] 35)).swap;(obtain ⟨_,e3,hg3⟩:=s6.listAt Ta.okL mm4 (k:=0) rfl);cases e3;(obtain ⟨_,e5,hg5⟩:=s6.listAt okR mm2 (k:=0) rfl);cases e5;have c1:=hg3 0 _ rfl;have c2:=hg3 2 _ rfl;have c3:=hg5 1 _ rfl;simp only [Nat.zero_mul,Nat.zero_add,Nat.add_zero] at c1 c2 c3;have f1:=(s6.blkCell (p:=v4.heap.size) mm3 0).1;have f2:=(s6.blkCell (p:=v4.heap.size) mm3 3).1;have f3:=(s6.blkCell (p:=v5.heap.size) mm1 0).1;have f4:=(s6.blkCell (p:=v5.heap.size) mm1 3).1;have T6:=hid s6;clear s5 s6 hg3 hg5)
    | (go_at_call 13;(with_reducible refine Calls.mono (HPb.out _ _ _ _ T6.out) ?_);rintro e v7 ⟨ao7,cap7,rfl,s7⟩;have T7:=hid s7;clear s7)
    | (go_at_call 12;refine Calls.mono (fixed_any _ (HL.out.below T7.out.low)) ?_;rintro e w8 ⟨rfl,b8⟩;have B8:=hid (T7.out.below b8).low;clear b8)
    | fail)
   go_ret
   exact ⟨rfl,B8.out⟩
open Go.ChangeShapes Go.WideShapes Go.ChangeAt Go.RowKit Go.Joins
set_option maxRecDepth 100000 in
theorem contract (H:Type) (enc:TypeId×Value->H) (W:World) (base:Nat) (args:Array Value) (ds gs:List (DataW H)) (before:List MemPlace)
  (hval:∀ (j:Nat) t v,Tryz.f4.params[j]? = some t->args[j]? = some v->Value.okWide Tryz.prog W .any base t v)
  (hW:DataW.Whole enc Tryz.prog Tryz.f4.params.toList Rows.kernelPagesSpec.vars false W args.toList ds gs before) (hL:laidMetH Tryz.prog Rows.kernelPagesRow.laid W) :
  Calls Tryz.prog 4 args W fun e W'=>∃ v,e = .returned v/\Rows.kernelPagesSpec.post enc Tryz.prog Tryz.f4 false true false false W args v W':=by
 have hW':=hW
 obtain ⟨p,q,hA0,hV,rfl,hfz,hnd⟩:=hW
 have hA:DataW.TrodAll enc Tryz.prog W 0 (fun _=>true) true Tryz.f4.params.toList args.toList ds p:=hA0
 rw [Tryz.params4] at hA hval
 obtain ⟨v0,vs0,d0,ds0,p0,q0,hargs,rfl,rfl,h0,r0⟩:=trodAll_cons hA
 obtain ⟨v1,vs1,d1,ds1,p1,q1,rfl,rfl,rfl,h1,r1⟩:=trodAll_cons r0
 obtain ⟨v2,vs2,d2,ds2,p2,q2,rfl,rfl,rfl,h2,r2⟩:=trodAll_cons r1
 obtain ⟨rfl,rfl,rfl⟩:=trodAll_nil r2
 obtain rfl:args=#[v0,v1,v2]:=by cases args;simp_all
 obtain ⟨rfl,rfl⟩:=trodVars_none hV
 have k0:=h0
 have lt0:∀ x∈p0,x.block<W.heap.size:=by obtain ⟨m,hm⟩:=k0;exact DataW.trod_lt m _ _ _ hm
 have k1:=h1
 have lt1:∀ x∈p1,x.block<W.heap.size:=by obtain ⟨m,hm⟩:=k1;exact DataW.trod_lt m _ _ _ hm
 have k2:=h2
 have lt2:∀ x∈p2,x.block<W.heap.size:=by obtain ⟨m,hm⟩:=k2;exact DataW.trod_lt m _ _ _ hm
 obtain ⟨a0,rfl,_,_,w0⟩:=open_int Tryz.underlying3 (hval 0 3 v0 rfl rfl) h0
 obtain ⟨a1,rfl,_,_,w1⟩:=open_int Tryz.underlying3 (hval 1 3 v1 rfl rfl) h1
 obtain ⟨a2,rfl,_,_,w2⟩:=open_int Tryz.underlying3 (hval 2 3 v2 rfl rfl) h2
 clear hA0
 refine (walk a0 a1 a2 W (table hL) (bounds_i64 w0) (bounds_i64 w1) (bounds_i64 w2)).mono fun e W' ⟨he,bel⟩=>?_
 subst he
 exact ⟨_,rfl,_,_,_,[],_,[],hW',trodAll_mk1 (shut_bool Tryz.underlying4 _),(trodAll_cons_mk (Below.trod laidOut (by kernel_rfl) (of_decide_eq_true (by kernel_rfl)) k0 bel lt0) (trodAll_cons_mk (Below.trod laidOut (by kernel_rfl) (of_decide_eq_true (by kernel_rfl)) k1 bel lt1) (trodAll_cons_mk (Below.trod laidOut (by kernel_rfl) (of_decide_eq_true (by kernel_rfl)) k2 bel lt2) trodAll_mk0))),rfl,bel.frame _,fun h=>by cases h⟩
theorem laid_met (os:Os):laidMet Tryz.prog Rows.kernelPagesRow.laid ((World.doorLaid Tryz.prog 40 os).forCall (fun _ _=>0) ⟨#[],#[.int .i64 0,.int .i64 0,.int .i64 0],[]⟩).memory:=
 laidMet_of_run' 8 (by kernel_rfl) (by kernel_rfl)
theorem reads (os:Os) {H:Type} (enc:TypeId×Value->H):∃ places,DataW.whole enc Tryz.prog ((World.doorLaid Tryz.prog 40 os).forCall (fun _ _=>0) ⟨#[],#[.int .i64 0,.int .i64 0,.int .i64 0],[]⟩).memory Tryz.f4.params.toList Rows.kernelPagesSpec.vars false (#[.int .i64 0,.int .i64 0,.int .i64 0]:Array Value).toList 8=some ([.lit (.int .i64 0),.lit (.int .i64 0),.lit (.int .i64 0)],[],places):=
 ⟨[],by kernel_rfl⟩
set_option maxRecDepth 100000 in
theorem lifted (os:Os) (started:os.Started) (H:Type) (enc:TypeId×Value->H) (F:Stop.Interp) :
  ReturnsInHanded {} Tryz.checked os 4 .any ((OpenSpec.ofChange Rows.kernelPagesSpec).preRow enc Tryz.prog Tryz.f4 Rows.kernelPagesRow.domain false Rows.kernelPagesRow.laid) (((OpenSpec.ofChange Rows.kernelPagesSpec).at F).post enc Tryz.prog Tryz.f4 false true false false):=by
 obtain ⟨places,hx⟩:=reads os enc
 refine returnsInHanded_of_row (C:=Tryz.checked) (s:=OpenSpec.ofChange Rows.kernelPagesSpec) ownK started (by kernel_rfl) Tryz.func4
  (witness_row_at (enc:=enc) (C:=Tryz.checked) false (World.doorLaid Tryz.prog 40 os) #[.int .i64 0,.int .i64 0,.int .i64 0] rfl (by kernel_rfl) (by kernel_rfl) (by kernel_rfl)
   (OpenSpec.preRow_of_cond 8 hx (by kernel_rfl) (fun k hk=>by cases hk) (by kernel_rfl) (laid_met os))) ?_
 intro W base args ds gs before hval hW _ _ _ hL _ _
 exact contract H enc W base args ds gs before hval hW hL
theorem said:Rows.KernelPagesSaid:=
 OpenClaim.holds_of_cond 4 Tryz.f4 rfl rfl rfl rfl rfl rfl rfl ⟨rfl,rfl,rfl,rfl,rfl⟩ rfl rfl rfl rfl rfl (by kernel_rfl) Tryz.func4 (by kernel_rfl)
  (of_decide_eq_true (by kernel_rfl)) (by unfold Func.isWrapper;first | (rw [if_pos (by decide +kernel)];kernel_rfl) | (rw [if_neg (by decide +kernel)];exact ⟨rfl,rfl⟩))
  (fun os started H enc _ F=>by rw [OpenClaim.pre_eq_preRow];exact lifted os started H enc F)
theorem plain (f:FuncId) (fn:Func) (hf:Tryz.pinned.checked.prog.funcNamed "buttress/buttresslaw18.KernelPages" = some f) (hfn:Tryz.pinned.checked.prog.funcs[f]? = some fn) :
  false=Tryz.pinned.checked.prog.looks []/\∀ (j:Nat) t,fn.params[j]? = some t->Tryz.pinned.checked.prog.wantsStandIn t=false:=by
 obtain rfl:f=4:=Option.some.inj ((show Tryz.prog.funcNamed "buttress/buttresslaw18.KernelPages" = some 4 by kernel_rfl).symm.trans hf) |>.symm
 obtain rfl:fn=Tryz.f4:=(Option.some.inj (Tryz.func4.symm.trans hfn)).symm
 refine ⟨by kernel_rfl,fun j t ht=>?_⟩
 rw [Tryz.params4] at ht
 have hm:t∈[3,3,3]:=by simpa using Array.mem_of_getElem? ht
 have hall:([3,3,3].all fun u => !Tryz.prog.wantsStandIn u)=true:=by kernel_rfl
 exact (show Tryz.prog.wantsStandIn t=false by simpa using List.all_eq_true.1 hall t hm)
end Go.Proofs.YtilnjnblpeeigaaGreatDoor.kernelPages
namespace Go.Proofs.YtilnjnblpeeigaaGreatDoor
theorem kernelPages_card:Rows.KernelPagesCardSaid:=
 Claim7.holds_tied_plain_at .later [] _ _ _ _ kernelPages.said (fun _ h=>by cases h) (by kernel_rfl) (fun _ h=>by cases h) kernelPages_row_tie rfl ⟨rfl,rfl⟩ (by kernel_rfl) rfl kernelPages.plain (by kernel_rfl)
end Go.Proofs.YtilnjnblpeeigaaGreatDoor
