/-
  KernelIrqs: a line that is bound signals its notification with its badge, once, until it was heard: whatever the arguments, the statement's function returns true; the condition: that the three tables lie where they were laid.
-/
import Derived.Test.YtilnjnblpeeigaaGreatDoorPb33
import Derived.Test.YtilnjnblpeeigaaGreatDoorPxIr6
set_option maxHeartbeats 16000000
set_option maxRecDepth 100000
namespace Go.Proofs.YtilnjnblpeeigaaGreatDoor
section
open Go.RowKit Go.Deep Go.Shelf
theorem ZM {x:Int} (h1 : -9223372036854775808<=x) (h2:x<=9223372036854775807):IntKind.i64.wrap x=x:=by
 rw[IntKind.wrap_i64]
 omega
theorem ZN {x:Int} (h1:0<=x) (h2:x<=1000000):IntKind.u64.wrap x=x:=by
 rw[u64_wrap]
 unfold u64
 omega
theorem sm (x:Int) (h:(decide (0<=x) && decide (x<=1000))=true):I64 x:=by
 rw[Bool.and_eq_true,decide_eq_true_eq,decide_eq_true_eq] at h
 exact small x h
open Classical
theorem JO {K K':Kr} {c:Cl} (h1:(goK K 0 c).1=K') (h2:(goK K 0 c).2.e=0):∃ t,doK K 0 c=(K',t)/\t.e=0:=
 ⟨(goK K 0 c).2,by rw[go_eq,<- h1],h2⟩
theorem Zk {K K':Kr} {c:Cl} {t:Tl} (h:goK K 0 c=(K',t)) (h2:t.e=0):∃ t,doK K 0 c=(K',t)/\t.e=0:=
 ⟨t,by rw[go_eq,h],h2⟩
theorem ZE (c:Cl):c=⟨c.q,c.a,c.w,c.A,c.B,c.C⟩:=rfl
theorem JV {w0:World} (L:Lt w0) {n m:Nat} {K K':Kr} (v:Kv n m K) (hm:m<=100000) {core:Int} {c:Cl} (b:Cd c) {t:Tl} (hX:doK K core c=(K',t)) (p:Nat) (W:World) (Y:Ly) (T:List Th) (s:Sep w0 w0.heap.size W (kT p Y K::T)) :
  Calls Tryz.prog 9 #[ptr p,.int .i64 core,.agg #[.int .i64 c.q,.int .i64 c.a,.int .i64 c.w,.int .i64 c.A,.int .i64 c.B,.int .i64 c.C]] W fun r w'=>∃ ao cap Y',r=.returned (.agg #[.int .i64 t.e,.int .u64 t.w,.int .i64 t.k,.slice ao t.f.length cap])/\Sep w0 w0.heap.size w' (kT p Y' K'::lst elR (.slice ao t.f.length cap) t.f::T):=by
 exact JM s L v hm core b (e:=t.e) (x:=t.w) (k:=t.k) (f:=t.f) hX
def iK (b:Int):Nat->Kr
 | 0=>I0
 | 1=>I1
 | 2=>I2 b
 | 3=>I3 b
 | _=>I4 b
def iC (b:Int):Nat->Cl
 | 0=>⟨0,1,20,5,0,1⟩
 | 1=>⟨1,20,21,7,b,0⟩
 | 2=>⟨15,4,21,0,0,0⟩
 | _=>⟨11,20,0,0,0,1⟩
theorem JP {b:Int} (hb:0<b/\b<=65536):∀ i,i<4->∃ t,doK (iK b i) 0 (iC b i)=(iK b (i+1),t)/\t.e=0:=by
 intro i hi
 rcases(by omega:i=0\/i=1\/i=2\/i=3) with rfl|rfl|rfl|rfl
 ·exact JO rfl Zv
 ·exact Zk (Zw hb) rfl
 ·exact JO rfl (Zx b)
 ·exact JO rfl (Zc b).1
theorem ZB {b:Int} (hb:0<b/\b<=65536):∀ i,i<4->Cd (iC b i):=by
 intro i hi
 rcases(by omega:i=0\/i=1\/i=2\/i=3) with rfl|rfl|rfl|rfl
 ·exact⟨sm _ rfl,sm _ rfl,sm _ rfl,sm _ rfl,rfl⟩
 ·exact⟨sm _ rfl,sm _ rfl,(show I64 b from ⟨by omega,by omega⟩),sm _ rfl,rfl⟩
 ·exact⟨sm _ rfl,sm _ rfl,sm _ rfl,sm _ rfl,rfl⟩
 ·exact⟨sm _ rfl,sm _ rfl,sm _ rfl,sm _ rfl,rfl⟩
theorem ZF {b:Int} (hb:0<b/\b<=65536) (k0:Kv 1 0 (iK b 0)):∀ i,i<=4->∃ n,n<=1000/\Kv 1 n (iK b i):=by
 have a:∀ i,i<=4->Kv 1 (64*i) (iK b i):=by
  intro i
  induction i with
  | zero=>exact fun _=>k0
  | succ i ih =>
   intro hi
   obtain⟨t,ht,-⟩:=JP hb i (by omega)
   exact(ih (by omega)).call (by omega) (ZB hb i (by omega)).B ht
 exact fun i hi=>⟨_,by omega,a i hi⟩
theorem J7 {w0 w:World} {r p:Nat} {Y:Ly} {K:Kr} {R:List Th} (s:Sep w0 r w (kT p Y K::R)) {x0 g0 g1 g2:Int} {T:List Int} (h:(Th.getT K.h 0).st=x0) (hg:(Th.getT K.h 0).g=g0::g1::g2::T) :
  Calls Tryz.prog 10 #[ptr p,.int .i64 0] w fun e w'=>∃ x1 x2 x3 y3 y4 y5 y6 y7 E,e=.returned (.tuple #[.agg #[.int .i64 x0,.int .i64 x1,.int .i64 x2,.int .i64 x3,.int .u64 g0,.int .u64 g1,.int .u64 g2,.int .u64 y3,.int .u64 y4,.int .u64 y5,.int .u64 y6,.int .u64 y7],.int .i64 E])/\Sep w0 r w' (kT p Y K::R):=by
 refine Calls.mono (Ju s 0) ?_
 rintro e w' ⟨rfl,s'⟩
 refine⟨((Th.getT K.h 0).p:Int),((Th.getT K.h 0).c:Int),((Th.getT K.h 0).l:Int),Th.rg (Th.getT K.h 0) 3,Th.rg (Th.getT K.h 0) 4,Th.rg (Th.getT K.h 0) 5,Th.rg (Th.getT K.h 0) 6,Th.rg (Th.getT K.h 0) 7,Th.getE K.h 0,?_,s'⟩
 unfold Th.encT Th.rg
 rw[h,hg]
 rfl
theorem JE (t:Nat):∀ K:Kr,Jq (t+1) K=Jf (Jq t K) 0:=by
 induction t with
 | zero=>exact fun _=>rfl
 | succ t ih=>exact fun K=>ih (Jf K 0)
def iJ (b:Int) (i:Nat):Kr:=Jq i (Jf (I4 b) 0)
theorem Jy (b:Int) (i:Nat):Jf (iJ b i) 0=iJ b (i+1):=(JE i _).symm
theorem ZA {b:Int} {n:Nat} (k:Kv 1 n (I4 b)):∀ i,Kv 1 n (iJ b i):=by
 intro i
 induction i with
 | zero=>exact k.irq 0
 | succ i ih =>
  rw[<- Jy]
  exact ih.irq 0
end
namespace kernelIrqs
open Go.RowKit Go.Deep Go.Shelf
open Classical
theorem walk (a0 a1:Int) (W:World) (L:Lt W) (_h0 : -9223372036854775808<=a0/\a0<=9223372036854775807) (_h1 : -9223372036854775808<=a1/\a1<=9223372036854775807) :
  Calls Tryz.prog 5 #[.int .i64 a0,.int .i64 a1] W fun e W'=>e=.returned (.bool true)/\Below W.heap.size W W':=by
 obtain⟨bb,hb16,hbb⟩:=JA a0
 obtain⟨t,ht8,ht⟩:=ZC a1
 obtain⟨b,hb⟩:∃ b:Int,1+(bb:Int)=b:=⟨_,rfl⟩
 have hb2:0<b/\b<=65536:=by omega
 have w1:IntKind.i64.wrap (1+(bb:Int))=b:=by rw[<- hb];exact ZM (by omega) (by omega)
 have k0:Kv 1 0 I0:=by
  have h:=boot_kv (n:=1) (m:=1) (b:=12) (Q:=[5]) rfl rfl
  rw[beg_eq] at h
  exact h
 have kV:=ZF hb2 k0
 have HBo:Hid (∀ (g:Nat) (V:World) (T:List Th),Sep W W.heap.size V (Ta.lstI (.slice (some ⟨g,0,none⟩) 1 1) [5]::T)->Calls Tryz.prog 8 #[.agg #[.int .i64 1,.int .i64 12,.int .i64 1,.slice (some ⟨g,0,none⟩) 1 1]] V fun r w'=>∃ p,r=.returned (.tuple #[ptr p,.int .i64 0])/\∃ Y,Sep W W.heap.size w' (kT p Y I0::T)):=fun g V T s=>by
  have h:=Boot_ok s (fun u b=>L.t.below b) (n:=1) (m:=1) (b:=12) rfl rfl
  rw[beg_eq] at h
  refine Calls.mono h ?_
  rintro r w' ⟨p,rfl,Y,s'⟩
  exact⟨p,rfl,Y,s'.drop2⟩
 have HD:Hid (∀ (i:Nat),i<4->∀ (p:Nat) (V:World) (Y:Ly) (T:List Th),Sep W W.heap.size V (kT p Y (iK b i)::T)->Calls Tryz.prog 9 #[ptr p,.int .i64 0,.agg #[.int .i64 (iC b i).q,.int .i64 (iC b i).a,.int .i64 (iC b i).w,.int .i64 (iC b i).A,.int .i64 (iC b i).B,.int .i64 (iC b i).C]] V fun r w'=>∃ x k ao ln cap,r=.returned (.agg #[.int .i64 0,.int .u64 x,.int .i64 k,.slice ao ln cap])/\∃ Y',Sep W W.heap.size w' (kT p Y' (iK b (i+1))::T)):=fun i hi p V Y T s=>by
  obtain⟨n,hn,kv⟩:=kV i (by omega)
  obtain⟨t,ht,te⟩:=JP hb2 i hi
  refine Calls.mono (JV L kv (by omega) (ZB hb2 i hi) ht p V Y T s) ?_
  rintro r w' ⟨ao,cap,Y',rfl,s'⟩
  rw[te]
  exact⟨_,_,_,_,_,rfl,_,s'.drop2⟩
 have HC:Hid (∀ (g:Nat) (V:World) (T:List Th),Sep W W.heap.size V (blk g (.cells #[.int .i64 0,.int .i64 1,.int .i64 20,.int .i64 5,.int .i64 0,.int .i64 1,.int .i64 1,.int .i64 20,.int .i64 21,.int .i64 7,.int .i64 b,.int .i64 0,.int .i64 15,.int .i64 4,.int .i64 21,.int .i64 0,.int .i64 0,.int .i64 0,.int .i64 11,.int .i64 20,.int .i64 0,.int .i64 0,.int .i64 0,.int .i64 1] 30)::T)->∀ i,i<4->V.cell? ⟨g,i*6,none⟩=some (.int .i64 (iC b i).q)/\V.cell? ⟨g,i*6+1,none⟩=some (.int .i64 (iC b i).a)/\V.cell? ⟨g,i*6+2,none⟩=some (.int .i64 (iC b i).w)/\V.cell? ⟨g,i*6+3,none⟩=some (.int .i64 (iC b i).A)/\V.cell? ⟨g,i*6+4,none⟩=some (.int .i64 (iC b i).B)/\V.cell? ⟨g,i*6+5,none⟩=some (.int .i64 (iC b i).C)):=fun g V T s i hi=>by
  have h:=fun j=>(s.blkCell (p:=g) List.mem_cons_self j).1
  rcases(by omega:i=0\/i=1\/i=2\/i=3) with rfl|rfl|rfl|rfl
  ·exact⟨h 0,h 1,h 2,h 3,h 4,h 5⟩
  ·exact⟨h 6,h 7,h 8,h 9,h 10,h 11⟩
  ·exact⟨h 12,h 13,h 14,h 15,h 16,h 17⟩
  ·exact⟨h 18,h 19,h 20,h 21,h 22,h 23⟩
 obtain⟨st,g,hN,e,hN2⟩:=Zz b t ht8
 obtain⟨-,rb⟩:=Zc b
 obtain⟨qe,qn⟩:=Zy b
 obtain⟨n4,hn4,kv4⟩:=kV 4 (by decide)
 have kJ:=ZA kv4
 obtain⟨KA,hKA⟩:∃ K,(goK (iJ b t) 0 ⟨16,4,0,0,0,0⟩).1=K:=⟨_,rfl⟩
 obtain⟨ta,hta⟩:∃ K,(goK (iJ b t) 0 ⟨16,4,0,0,0,0⟩).2=K:=⟨_,rfl⟩
 have xA:doK (iJ b t) 0 ⟨16,4,0,0,0,0⟩=(KA,ta):=by rw[go_eq,<- hKA,<- hta]
 have hN2':KA.N=(if t=0 then [⟨false,0,[]⟩] else [⟨true,No.orI 0 b,[]⟩]):=by rw[<- hKA];exact hN2
 have te:ta.e=0:=by rw[<- hta];exact e
 have HR:Hid (∀ (p:Nat) (V:World) (Y:Ly) (T:List Th),Sep W W.heap.size V (kT p Y (I4 b)::T)->Calls Tryz.prog 11 #[ptr p,.int .i64 0] V fun e w'=>∃ z,e=.returned (.tuple #[.int .i64 z,.bool false])/\Sep W W.heap.size w' (kT p Y (I4 b)::T)):=fun p V Y T s=>by
  have h:=JI s 0
  rw[rb] at h
  exact Calls.mono h fun _ _ x=>⟨_,x⟩
 have HI0:Hid (∀ (p:Nat) (V:World) (Y:Ly) (T:List Th),Sep W W.heap.size V (kT p Y (I4 b)::T)->Calls Tryz.prog 14 #[ptr p,.int .i64 0] V fun e w'=>e=.returned (.tuple #[.int .i64 0,.int .i64 0])/\∃ Y',Sep W W.heap.size w' (kT p Y' (iJ b 0)::T)):=fun p V Y T s=>by
  have h:=Jz s kv4.v 0
  rw[qe,qn] at h
  exact h
 have HIi:Hid (∀ (i p:Nat) (V:World) (Y:Ly) (T:List Th),Sep W W.heap.size V (kT p Y (iJ b i)::T)->Calls Tryz.prog 14 #[ptr p,.int .i64 0] V fun e w'=>∃ x y,e=.returned (.tuple #[.int .i64 x,.int .i64 y])/\∃ Y',Sep W W.heap.size w' (kT p Y' (iJ b (i+1))::T)):=fun i p V Y T s=>by
  have h:=Jz s (kJ i).v 0
  rw[Jy] at h
  exact Calls.mono h fun _ _ x=>⟨_,_,x⟩
 have HT:Hid (∀ (p:Nat) (V:World) (Y:Ly) (T:List Th),Sep W W.heap.size V (kT p Y (iJ b t)::T)->Calls Tryz.prog 10 #[ptr p,.int .i64 0] V fun e w'=>∃ x1 x2 x3 y3 y4 y5 y6 y7 E,e=.returned (.tuple #[.agg #[.int .i64 1,.int .i64 x1,.int .i64 x2,.int .i64 x3,.int .u64 b,.int .u64 0,.int .u64 0,.int .u64 y3,.int .u64 y4,.int .u64 y5,.int .u64 y6,.int .u64 y7],.int .i64 E])/\Sep W W.heap.size w' (kT p Y (iJ b t)::T)):=fun p V Y T s=>J7 s st g
 have HW:Hid (∀ (p:Nat) (V:World) (Y:Ly) (T:List Th),Sep W W.heap.size V (kT p Y (iJ b t)::T)->Calls Tryz.prog 15 #[ptr p,.int .i64 0] V fun e w'=>e=.returned (.tuple #[.int .u64 0,.bool false])/\Sep W W.heap.size w' (kT p Y (iJ b t)::T)):=fun p V Y T s=>Jj s (n:=0) (i:=0) rfl (S:=⟨false,0,[]⟩) (by rw[show(iJ b t).N=[⟨false,0,[]⟩] from hN];rfl)
 have HA:Hid (∀ (p:Nat) (V:World) (Y:Ly) (T:List Th),Sep W W.heap.size V (kT p Y (iJ b t)::T)->Calls Tryz.prog 9 #[ptr p,.int .i64 0,.agg #[.int .i64 16,.int .i64 4,.int .i64 0,.int .i64 0,.int .i64 0,.int .i64 0]] V fun r w'=>∃ x k ao ln cap,r=.returned (.agg #[.int .i64 0,.int .u64 x,.int .i64 k,.slice ao ln cap])/\∃ Y',Sep W W.heap.size w' (kT p Y' KA::T)):=fun p V Y T s=>by
  refine Calls.mono (JV L (kJ t) (by omega) (c:=⟨16,4,0,0,0,0⟩) ⟨sm _ rfl,sm _ rfl,sm _ rfl,sm _ rfl,rfl⟩ xA p V Y T s) ?_
  rintro r w' ⟨ao,cap,Y',rfl,s'⟩
  rw[te]
  exact⟨_,_,_,_,_,rfl,_,s'.drop2⟩
 have HV:Hid (∃ (v:Int) (got:Bool),((t=0/\v=0/\got=false)\/(0<t/\v=b/\got=true))/\∀ (p:Nat) (V:World) (Y:Ly) (T:List Th),Sep W W.heap.size V (kT p Y KA::T)->Calls Tryz.prog 15 #[ptr p,.int .i64 0] V fun e w'=>e=.returned (.tuple #[.int .u64 v,.bool got])/\Sep W W.heap.size w' (kT p Y KA::T)):=by
  by_cases h0:t=0
  ·rw[if_pos h0] at hN2'
   exact⟨0,false,.inl ⟨h0,rfl,rfl⟩,fun p V Y T s=>Jj s (n:=0) (i:=0) rfl (S:=⟨false,0,[]⟩) (by rw[hN2'];rfl)⟩
  ·rw[if_neg h0] at hN2'
   have hz:No.orI 0 b=b:=No.Zb (show 0<=b/\b<=18446744073709551615 by omega)
   rw[hz] at hN2'
   exact⟨b,true,.inr ⟨by omega,rfl,rfl⟩,fun p V Y T s=>Jj s (n:=0) (i:=0) rfl (S:=⟨true,b,[]⟩) (by rw[hN2'];rfl)⟩
 have u2:IntKind.u64.wrap b=b:=by rw[u64_wrap];unfold u64;omega
 have S0:Hid (Sep W W.heap.size (W.alloc (.cells #[.int .i64 5] 3)) [Ta.lstI (.slice (some ⟨W.heap.size,0,none⟩) 1 1) [5]]):=Sep.lit (E:=Ta.elI) Ta.okI (sep_nil W) [5] (by simp) #[.int .i64 5] rfl
 have HL:=hid L
 clear L kV k0 kv4 kJ st g hN e hN2 hN2' hKA hta xA te rb qe qn
 go_enter Tryz.func5,Tryz.ntmps5
 go_wp2_with (first
  | (go_at_call 8;(with_reducible refine Calls.mono (HBo.out _ _ _ S0.out) ?_);rintro e v0 ⟨p,rfl,Y0,s0⟩;have T0:Hid (∃ Y,Sep W W.heap.size _ [kT p Y I0,blk v0.heap.size (.cells #[.int .i64 0,.int .i64 1,.int .i64 20,.int .i64 5,.int .i64 0,.int .i64 1,.int .i64 1,.int .i64 20,.int .i64 21,.int .i64 7,.int .i64 b,.int .i64 0,.int .i64 15,.int .i64 4,.int .i64 21,.int .i64 0,.int .i64 0,.int .i64 0,.int .i64 11,.int .i64 20,.int .i64 0,.int .i64 0,.int .i64 0,.int .i64 1] 30)]):=⟨_,(s0.box (.cells #[.int .i64 0,.int .i64 1,.int .i64 20,.int .i64 5,.int .i64 0,.int .i64 1,.int .i64 1,.int .i64 20,.int .i64 21,.int .i64 7,.int .i64 b,.int .i64 0,.int .i64 15,.int .i64 4,.int .i64 21,.int .i64 0,.int .i64 0,.int .i64 0,.int .i64 11,.int .i64 20,.int .i64 0,.int .i64 0,.int .i64 0,.int .i64 1] 30)).swap⟩;clear s0)
  | fail)
 generalize hg:v0.heap.size=g at *
 clear hg
 go_loopw [9] (fun sv wr=>∃ i:Nat,i<=4/\sv=.int .i64 i/\∃ Y,Sep W W.heap.size wr [kT p Y (iK b i),blk g (.cells #[.int .i64 0,.int .i64 1,.int .i64 20,.int .i64 5,.int .i64 0,.int .i64 1,.int .i64 1,.int .i64 20,.int .i64 21,.int .i64 7,.int .i64 b,.int .i64 0,.int .i64 15,.int .i64 4,.int .i64 21,.int .i64 0,.int .i64 0,.int .i64 0,.int .i64 11,.int .i64 20,.int .i64 0,.int .i64 0,.int .i64 0,.int .i64 1] 30)]) (fun sv _=>4 - (intOf sv).toNat)
 case atStart=>exact⟨0,Nat.zero_le _,rfl,T0.out⟩
 case round =>
  clear T0
  obtain⟨i,hi,rfl,Y,s2⟩:=hrel
  have S2:=hid s2
  clear s2
  by_cases hlt:i<4
  ·have hltz:(i:Int)<4:=by omega
   have HI:=hid hlt
   have HS:Hid (∀ (V:World) (T:List Th) (u:Th),Sep W W.heap.size V (u::blk g (.cells #[.int .i64 0,.int .i64 1,.int .i64 20,.int .i64 5,.int .i64 0,.int .i64 1,.int .i64 1,.int .i64 20,.int .i64 21,.int .i64 7,.int .i64 b,.int .i64 0,.int .i64 15,.int .i64 4,.int .i64 21,.int .i64 0,.int .i64 0,.int .i64 0,.int .i64 11,.int .i64 20,.int .i64 0,.int .i64 0,.int .i64 0,.int .i64 1] 30)::T)->V.cell? ⟨g,i*6,none⟩=some (.int .i64 (iC b i).q)/\V.cell? ⟨g,i*6+1,none⟩=some (.int .i64 (iC b i).a)/\V.cell? ⟨g,i*6+2,none⟩=some (.int .i64 (iC b i).w)/\V.cell? ⟨g,i*6+3,none⟩=some (.int .i64 (iC b i).A)/\V.cell? ⟨g,i*6+4,none⟩=some (.int .i64 (iC b i).B)/\V.cell? ⟨g,i*6+5,none⟩=some (.int .i64 (iC b i).C)):=fun V T u s=>HC.out g V T s.drop i HI.out
   have HDi:=hid (HD.out i HI.out)
   obtain⟨c,hc⟩:∃ c,iC b i=c:=⟨_,rfl⟩
   rw[hc] at HS HDi
   obtain⟨q,a,w,A,B,C⟩:=c
   simp only at HS HDi
   clear hc
   obtain⟨d0,d1,d2,d3,d4,d5⟩:=HS.out _ _ _ S2.out
   go_wp2_with (first
    | (go_at_call 9;(with_reducible refine Calls.mono (HDi.out _ _ _ _ S2.out) ?_);rintro e v3 ⟨x3,k3,ao3,ln3,cap3,rfl,Y3,s3⟩;have s4:=(s3.box (.cells #[.int .i64 0,.int .u64 x3,.int .i64 k3,.slice ao3 ln3 cap3] 35)).swap;have f1:=(s4.blkCell (p:=v3.heap.size) (List.mem_cons_of_mem _ List.mem_cons_self) 0).1;have S4:=hid s4.drop2;clear s3 s4)
    | fail)
   go_round
   case rel=>exact⟨i+1,by have:=HI.out;omega,by go_num,_,S4.out⟩
   case measure=>simp[intOf];have:=HI.out;omega
  ·have hltz:¬ ((i:Int)<4):=by omega
   obtain rfl:i=4:=by omega
   have T2:Hid (Sep W W.heap.size _ [kT p Y (I4 b)]):=S2.out.drop2
   clear S2
   go_wp2_with (first
    | (go_at_call 11;(with_reducible refine Calls.mono (HR.out _ _ _ _ T2.out) ?_);rintro e v3 ⟨zr,rfl,s3⟩;have T3:=hid s3;clear s3)
    | (go_at_call 14;(with_reducible refine Calls.mono (HI0.out _ _ _ _ T3.out) ?_);rintro e v4 ⟨rfl,Y4,s4⟩;have T4:=hid s4;clear s4)
    | fail)
   go_loopw [15] (fun si wr=>∃ i:Nat,(i<=t/\i<8)/\si=.int .i64 i/\∃ Y,Sep W W.heap.size wr [kT p Y (iJ b i)]) (fun si _=>t - (intOf si).toNat)
   case atStart=>exact⟨0,⟨Nat.zero_le _,by decide⟩,rfl,_,T4.out⟩
   case round =>
    clear T2 T3 T4
    obtain⟨i,⟨hi,hi8⟩,rfl,Y5,s5⟩:=hrel
    have S5:=hid s5
    clear s5
    by_cases hlt:i<t
    ·have hltz:(i:Int)<(t:Int):=by omega
     go_wp2_with (first
      | (go_at_call 14;(with_reducible refine Calls.mono (HIi.out _ _ _ _ _ S5.out) ?_);rintro e v6 ⟨x6,y6,rfl,Y6,s6⟩;have S6:=hid s6;clear s6)
      | fail)
     go_round
     case rel=>exact⟨i+1,⟨by omega,by omega⟩,by go_num,Y6,S6.out⟩
     case measure=>simp[intOf];omega
    ·have hltz:¬ ((i:Int)<(t:Int)):=by omega
     obtain rfl:i=t:=by omega
     obtain⟨v,got,hc,hv⟩:=HV.out
     have HVo:=hid hv
     clear hv HV
     rcases hc with ⟨h0,hv0,hg0⟩|⟨h0,hv0,hg0⟩
     ·subst hv0 hg0
      have hag:¬ ((i:Int) > 0):=by omega
      go_wp2_with (first
       | (go_at_call 10;(with_reducible refine Calls.mono (HT.out _ _ _ _ S5.out) ?_);rintro e v7 ⟨x1,x2,x3,z3,z4,z5,z6,z7,E7,rfl,s7⟩;have T7:=hid ((s7.box (.cells #[.int .i64 1,.int .i64 x1,.int .i64 x2,.int .i64 x3,.int .u64 b,.int .u64 0,.int .u64 0,.int .u64 z3,.int .u64 z4,.int .u64 z5,.int .u64 z6,.int .u64 z7] 39)).swap);clear s7)
       | (go_at_call 15;(with_reducible refine Calls.mono (HW.out _ _ _ _ T7.out) ?_);rintro e v8 ⟨rfl,s8⟩;have T8:=hid s8;clear s8)
       | (go_at_call 9;(with_reducible refine Calls.mono (HA.out _ _ _ _ T8.out) ?_);rintro e v9 ⟨xa,ka,ao9,ln9,cap9,rfl,Y9,s9⟩;have T9:=hid ((s9.box (.cells #[.int .i64 0,.int .u64 xa,.int .i64 ka,.slice ao9 ln9 cap9] 35)).swap);clear s9)
       | (go_at_call 15;(with_reducible refine Calls.mono (HVo.out _ _ _ _ T9.out) ?_);rintro e v10 ⟨rfl,s10⟩;have f1:=(s10.blkCell (p:=v7.heap.size) ZD 0).1;have f2:=(s10.blkCell (p:=v7.heap.size) ZD 4).1;have f3:=(s10.blkCell (p:=v9.heap.size) ZH 0).1;have T10:=hid s10;clear s10)
       | (go_at_call 12;refine Calls.mono (Jm _ (HL.out.below T10.out.low)) ?_;rintro e w11 ⟨rfl,b11⟩;have B11:=hid (T10.out.below b11).low;clear b11)
       | fail)
      go_ret
      exact⟨rfl,B11.out⟩
     ·subst hg0
      rw[hv0] at HVo
      clear hv0
      have hag:(i:Int) > 0:=by omega
      go_wp2_with (first
       | (go_at_call 10;(with_reducible refine Calls.mono (HT.out _ _ _ _ S5.out) ?_);rintro e v7 ⟨x1,x2,x3,z3,z4,z5,z6,z7,E7,rfl,s7⟩;have T7:=hid ((s7.box (.cells #[.int .i64 1,.int .i64 x1,.int .i64 x2,.int .i64 x3,.int .u64 b,.int .u64 0,.int .u64 0,.int .u64 z3,.int .u64 z4,.int .u64 z5,.int .u64 z6,.int .u64 z7] 39)).swap);clear s7)
       | (go_at_call 15;(with_reducible refine Calls.mono (HW.out _ _ _ _ T7.out) ?_);rintro e v8 ⟨rfl,s8⟩;have T8:=hid s8;clear s8)
       | (go_at_call 9;(with_reducible refine Calls.mono (HA.out _ _ _ _ T8.out) ?_);rintro e v9 ⟨xa,ka,ao9,ln9,cap9,rfl,Y9,s9⟩;have T9:=hid ((s9.box (.cells #[.int .i64 0,.int .u64 xa,.int .i64 ka,.slice ao9 ln9 cap9] 35)).swap);clear s9)
       | (go_at_call 15;(with_reducible refine Calls.mono (HVo.out _ _ _ _ T9.out) ?_);rintro e v10 ⟨rfl,s10⟩;have f1:=(s10.blkCell (p:=v7.heap.size) ZD 0).1;have f2:=(s10.blkCell (p:=v7.heap.size) ZD 4).1;have f3:=(s10.blkCell (p:=v9.heap.size) ZH 0).1;have T10:=hid s10;clear s10)
       | (go_at_call 12;refine Calls.mono (Jm _ (HL.out.below T10.out.low)) ?_;rintro e w11 ⟨rfl,b11⟩;have B11:=hid (T10.out.below b11).low;clear b11)
       | fail)
      go_ret
      exact⟨rfl,B11.out⟩
open Go.ChangeShapes Go.WideShapes Go.ChangeAt Go.Joins
theorem contract (H:Type) (enc:TypeId×Value->H) (W:World) (base:Nat) (args:Array Value) (ds gs:List (DataW H)) (before:List MemPlace)
  (hval:∀ (j:Nat) t v,Tryz.f5.params[j]? = some t->args[j]? = some v->Value.okWide Tryz.prog W .any base t v)
  (hW:DataW.Whole enc Tryz.prog Tryz.f5.params.toList Rows.kernelIrqsSpec.vars false W args.toList ds gs before) (hL:laidMetH Tryz.prog Rows.kernelIrqsRow.laid W) :
  Calls Tryz.prog 5 args W fun e W'=>∃ v,e=.returned v/\Rows.kernelIrqsSpec.post enc Tryz.prog Tryz.f5 false true false false W args v W':=by
 have hW':=hW
 obtain⟨p,q,hA0,hV,rfl,hfz,hnd⟩:=hW
 have hA:DataW.TrodAll enc Tryz.prog W 0 (fun _=>true) true Tryz.f5.params.toList args.toList ds p:=hA0
 rw[Tryz.params5] at hA hval
 obtain⟨v0,vs0,d0,ds0,p0,q0,hargs,rfl,rfl,h0,r0⟩:=trodAll_cons hA
 obtain⟨v1,vs1,d1,ds1,p1,q1,rfl,rfl,rfl,h1,r1⟩:=trodAll_cons r0
 obtain⟨rfl,rfl,rfl⟩:=trodAll_nil r1
 obtain rfl:args=#[v0,v1]:=by cases args;simp_all
 obtain⟨rfl,rfl⟩:=trodVars_none hV
 have k0:=h0
 have lt0:∀ x∈p0,x.block<W.heap.size:=by obtain⟨m,hm⟩:=k0;exact DataW.trod_lt m _ _ _ hm
 have k1:=h1
 have lt1:∀ x∈p1,x.block<W.heap.size:=by obtain⟨m,hm⟩:=k1;exact DataW.trod_lt m _ _ _ hm
 obtain⟨a0,rfl,_,_,w0⟩:=open_int Tryz.underlying3 (hval 0 3 v0 rfl rfl) h0
 obtain⟨a1,rfl,_,_,w1⟩:=open_int Tryz.underlying3 (hval 1 3 v1 rfl rfl) h1
 clear hA0
 refine(walk a0 a1 W (table hL) (bounds_i64 w0) (bounds_i64 w1)).mono fun e W' ⟨he,bel⟩=>?_
 subst he
 exact⟨_,rfl,_,_,_,[],_,[],hW',trodAll_mk1 (shut_bool Tryz.underlying4 _),(trodAll_cons_mk (Below.trod laidOut (by kernel_rfl) (of_decide_eq_true (by kernel_rfl)) k0 bel lt0) (trodAll_cons_mk (Below.trod laidOut (by kernel_rfl) (of_decide_eq_true (by kernel_rfl)) k1 bel lt1) trodAll_mk0)),rfl,bel.frame _,fun h=>by cases h⟩
theorem laid_met (os:Os):laidMet Tryz.prog Rows.kernelIrqsRow.laid ((World.doorLaid Tryz.prog 40 os).forCall (fun _ _=>0) ⟨#[],#[.int .i64 0,.int .i64 0],[]⟩).memory:=
 laidMet_of_run' 8 (by kernel_rfl) (by kernel_rfl)
theorem reads (os:Os) {H:Type} (enc:TypeId×Value->H):∃ places,DataW.whole enc Tryz.prog ((World.doorLaid Tryz.prog 40 os).forCall (fun _ _=>0) ⟨#[],#[.int .i64 0,.int .i64 0],[]⟩).memory Tryz.f5.params.toList Rows.kernelIrqsSpec.vars false (#[.int .i64 0,.int .i64 0]:Array Value).toList 8=some ([.lit (.int .i64 0),.lit (.int .i64 0)],[],places):=
 ⟨[],by kernel_rfl⟩
theorem lifted (os:Os) (started:os.Started) (H:Type) (enc:TypeId×Value->H) (F:Stop.Interp) :
  ReturnsInHanded {} Tryz.checked os 5 .any ((OpenSpec.ofChange Rows.kernelIrqsSpec).preRow enc Tryz.prog Tryz.f5 Rows.kernelIrqsRow.domain false Rows.kernelIrqsRow.laid) (((OpenSpec.ofChange Rows.kernelIrqsSpec).at F).post enc Tryz.prog Tryz.f5 false true false false):=by
 obtain⟨places,hx⟩:=reads os enc
 refine returnsInHanded_of_row (C:=Tryz.checked) (s:=OpenSpec.ofChange Rows.kernelIrqsSpec) ZI started (by kernel_rfl) Tryz.func5
  (witness_row_at (enc:=enc) (C:=Tryz.checked) false (World.doorLaid Tryz.prog 40 os) #[.int .i64 0,.int .i64 0] rfl (by kernel_rfl) (by kernel_rfl) (by kernel_rfl)
   (OpenSpec.preRow_of_cond 8 hx (by kernel_rfl) (fun k hk=>by cases hk) (by kernel_rfl) (laid_met os))) ?_
 intro W base args ds gs before hval hW _ _ _ hL _ _
 exact contract H enc W base args ds gs before hval hW hL
theorem said:Rows.KernelIrqsSaid:=
 OpenClaim.holds_of_cond 5 Tryz.f5 rfl rfl rfl rfl rfl rfl rfl ⟨rfl,rfl,rfl,rfl,rfl⟩ rfl rfl rfl rfl rfl (by kernel_rfl) Tryz.func5 (by kernel_rfl)
  (of_decide_eq_true (by kernel_rfl)) (by unfold Func.isWrapper;first|(rw[if_pos (by decide +kernel)];kernel_rfl)|(rw[if_neg (by decide +kernel)];exact⟨rfl,rfl⟩))
  (fun os started H enc _ F=>by rw[OpenClaim.pre_eq_preRow];exact lifted os started H enc F)
theorem plain (f:FuncId) (fn:Func) (hf:Tryz.pinned.checked.prog.funcNamed "buttress/buttresslaw18.KernelIrqs" = some f) (hfn:Tryz.pinned.checked.prog.funcs[f]? = some fn) :
  false=Tryz.pinned.checked.prog.looks []/\∀ (j:Nat) t,fn.params[j]? = some t->Tryz.pinned.checked.prog.wantsStandIn t=false:=by
 obtain rfl:f=5:=Option.some.inj ((show Tryz.prog.funcNamed "buttress/buttresslaw18.KernelIrqs" = some 5 by kernel_rfl).symm.trans hf) |>.symm
 obtain rfl:fn=Tryz.f5:=(Option.some.inj (Tryz.func5.symm.trans hfn)).symm
 refine⟨by kernel_rfl,fun j t ht=>?_⟩
 rw[Tryz.params5] at ht
 have hm:t∈[3,3]:=by simpa using Array.mem_of_getElem? ht
 have hall:([3,3].all fun u => !Tryz.prog.wantsStandIn u)=true:=by kernel_rfl
 exact(show Tryz.prog.wantsStandIn t=false by simpa using List.all_eq_true.1 hall t hm)
end kernelIrqs
section
theorem kernelIrqs_card:Rows.KernelIrqsCardSaid:=
 Claim7.holds_tied_plain_at .later [] _ _ _ _ kernelIrqs.said (fun _ h=>by cases h) (by kernel_rfl) (fun _ h=>by cases h) kernelIrqs_row_tie rfl ⟨rfl,rfl⟩ (by kernel_rfl) rfl kernelIrqs.plain (by kernel_rfl)
end
end Go.Proofs.YtilnjnblpeeigaaGreatDoor
