/-
  KernelMakes: objects that are made have one capability each, in slots that were free; they are as many as were asked for, and go again: whatever the arguments, the statement's function returns true; the condition: that the three tables lie where they were laid.
-/
import Derived.Test.YtbfjjpdnoalojaaGreatDoorPa33
import Derived.Test.YtbfjjpdnoalojaaGreatDoorPxMk6
import Derived.Test.YtbfjjpdnoalojaaGreatDoorPxMk7
import Derived.Test.YtbfjjpdnoalojaaGreatDoorPxMk8
set_option maxHeartbeats 16000000
set_option maxRecDepth 100000
namespace Go.Proofs.YtbfjjpdnoalojaaGreatDoor
section
open Go.RowKit Go.Deep Go.Shelf
theorem wri {x:Int} (h1 : -9223372036854775808<=x) (h2:x<=9223372036854775807):IntKind.i64.wrap x=x:=by
 rw[IntKind.wrap_i64]
 omega
theorem wru {x:Int} (h1:0<=x) (h2:x<=1000000):IntKind.u64.wrap x=x:=by
 rw[Jci]
 unfold VI
 omega
theorem sm (x:Int) (h:(decide (0<=x) && decide (x<=1000))=true):VC x:=by
 rw[Bool.and_eq_true,decide_eq_true_eq,decide_eq_true_eq] at h
 exact small x h
open Classical
def mkC:Nat->Int
 | 0=>4
 | 1=>5
 | 2=>6
 | 3=>7
 | 4=>8
 | _=>3
theorem J2w {q m w:Nat} (hq:q<6) (hm:m<8) (hw:w<32):J09 (mkC q) (m+1) (w+10)=true:=by
 rcases(by omega:q=0\/q=1\/q=2\/q=3\/q=4\/q=5) with rfl|rfl|rfl|rfl|rfl|rfl
 ·exact J27 m w hm hw
 ·exact J28 m w hm hw
 ·exact J29 m w hm hw
 ·exact J3a m w hm hw
 ·exact J3b m w hm hw
 ·exact J26 m w hm hw
theorem J1g {c:Int} {m w:Nat} (h:J09 c m w=true):(Gg K0 0 ⟨0,1,w,c,0,m⟩).2.e=0/\Sl.JX (Gg K0 0 ⟨0,1,w,c,0,m⟩).1.S=Sl.JX K0.S++J1a c (J3d c) w m/\(Gg (Gg K0 0 ⟨0,1,w,c,0,m⟩).1 0 ⟨4,1,0,0,0,0⟩).2.e=0/\(Gg (Gg K0 0 ⟨0,1,w,c,0,m⟩).1 0 ⟨4,1,0,0,0,0⟩).2.w=(m:Int)/\Sl.JX (Gg (Gg K0 0 ⟨0,1,w,c,0,m⟩).1 0 ⟨4,1,0,0,0,0⟩).1.S=Sl.JX K0.S:=by
 unfold J09 at h
 simp only[Bool.and_eq_true,beq_iff_eq] at h
 obtain⟨⟨⟨⟨h1,h2⟩,h3⟩,h4⟩,h5⟩:=h
 exact⟨h1,J1c h2,h3,h4,J1c h5⟩
theorem J1b:(Sl.JX K0.S).length=4:=by kernel_rfl
theorem J22 (c o:Int) (w m i:Nat) (h:i<m):(Sl.JX K0.S++J1a c o w m)[4+i]? = some (sl ((w+i:Nat):Int),⟨c,o+(i:Int),7,0,0,0⟩):=by
 rw[List.getElem?_append_right (by rw[J1b];omega),J1b,show 4+i - 4=i by omega]
 unfold J1a
 rw[List.getElem?_map,List.getElem?_range h]
 rfl
theorem J3g {w0:World} (L:Lt w0) {n m:Nat} {K K':Kr} (v:Kv n m K) (hm:m<=100000) {core:Int} {c:Cl} (b:Cd c) {t:Tl} (hX:doK K core c=(K',t)) (p:Nat) (W:World) (Y:Ly) (T:List Th) (s:Sep w0 w0.heap.size W (kT p Y K::T)) :
  Calls Tryz.prog 13 #[Je p,.int .i64 core,.agg #[.int .i64 c.q,.int .i64 c.a,.int .i64 c.w,.int .i64 c.A,.int .i64 c.B,.int .i64 c.C]] W fun r w'=>∃ ao ln cap Y',r=.returned (.agg #[.int .i64 t.e,.int .u64 t.w,.int .i64 t.k,.slice ao ln cap])/\Sep w0 w0.heap.size w' (kT p Y' K'::T):=by
 refine Jqa (J2y s L v hm core b (e:=t.e) (x:=t.w) (k:=t.k) (f:=t.f) hX) ?_
 rintro r w' ⟨ao,cap,Y',rfl,s'⟩
 exact⟨ao,_,cap,Y',rfl,s'.drop2⟩
theorem J23 {A:List (Sl.Sl×Sl.Cp)} {n:Nat} (hA:A.length=n) (hl:n<=1000) {V:World} {ao ao':Option Addr} (cap cap':Nat) (h:SeeC 8 Sl.Vs V ao A) (h':SeeC 8 Sl.Vs V ao' A) :
  Calls Tryz.prog 28 #[.slice ao n cap,.slice ao' n cap'] V fun e w'=>e=.returned (.bool true)/\Below V.heap.size V w':=by
 subst hA
 exact J1h V ao ao' cap cap' A h h' (by omega)
theorem J3f {α:Type} {E:El α} {w:World} {ao:Option Addr} {n cap:Nat} {A:List α} (h:Row E w (.slice ao n cap) A):n<=cap/\cap<=9223372036854775807:=by
 obtain⟨ao',cap',e,h1,h2,_⟩:=Row.slice h
 injection e with _ e2 e3
 subst e2 e3
 exact⟨h1,h2⟩
end
namespace kernelMakes
open Go.RowKit Go.Deep Go.Shelf
open Classical
theorem walk (a0 a1 a2:Int) (W:World) (L:Lt W) (_h0 : -9223372036854775808<=a0/\a0<=9223372036854775807) (_h1 : -9223372036854775808<=a1/\a1<=9223372036854775807) (_h2 : -9223372036854775808<=a2/\a2<=9223372036854775807) :
  Calls Tryz.prog 8 #[.int .i64 a0,.int .i64 a1,.int .i64 a2] W fun e W'=>e=.returned (.bool true)/\Below W.heap.size W W':=by
 obtain⟨q1,hq1,hqb⟩:=J3c a0
 obtain⟨q,hq6,hqr⟩:=J3e q1 6 (by decide)
 have hq:q<6:=by omega
 have hqz:(q:Int)<6:=hq6
 obtain⟨m7,hm7,hmb⟩:=J3m a1
 obtain⟨w5,hw5,hwb⟩:∃ p:Nat,p<32/\bits .and .i64 a2 31=(p:Int):=J1f a2 5 (by decide)
 obtain⟨m,hm⟩:∃ m,m7+1=m:=⟨_,rfl⟩
 obtain⟨w,hw⟩:∃ w,w5+10=w:=⟨_,rfl⟩
 obtain⟨c,hc⟩:∃ c,mkC q=c:=⟨_,rfl⟩
 have hF:=J1g (J2w hq hm7 hw5)
 rw[hm,hw,hc] at hF
 have wm:IntKind.i64.wrap (1+(m7:Int))=(m:Int):=by rw[<- hm,wri (by omega) (by omega)];omega
 have ww:IntKind.i64.wrap (10+(w5:Int))=(w:Int):=by rw[<- hw,wri (by omega) (by omega)];omega
 have hm8:1<=m/\m<=8:=by omega
 have hw42:10<=w/\w<42:=by omega
 have hc9:3<=c/\c<=8:=by
  rw[<- hc]
  rcases(by omega:q=0\/q=1\/q=2\/q=3\/q=4\/q=5) with rfl|rfl|rfl|rfl|rfl|rfl<;>exact⟨by decide,by decide⟩
 have hcell:∀ V:World,(V.alloc (.cells #[.int .i64 4,.int .i64 5,.int .i64 6,.int .i64 7,.int .i64 8,.int .i64 3] 3)).cell? ⟨V.heap.size,q,none⟩=some (.int .i64 c):=fun V=>by
  have h:=fun j=>(((GL V).box (.cells #[.int .i64 4,.int .i64 5,.int .i64 6,.int .i64 7,.int .i64 8,.int .i64 3] 3)).blkCell (p:=V.heap.size) mm0 j).1
  rw[<- hc]
  rcases(by omega:q=0\/q=1\/q=2\/q=3\/q=4\/q=5) with rfl|rfl|rfl|rfl|rfl|rfl
  ·exact h 0
  ·exact h 1
  ·exact h 2
  ·exact h 3
  ·exact h 4
  ·exact h 5
 obtain⟨K1,hK1⟩:∃ K,(Gg K0 0 ⟨0,1,w,c,0,m⟩).1=K:=⟨_,rfl⟩
 obtain⟨t1,ht1⟩:∃ K,(Gg K0 0 ⟨0,1,w,c,0,m⟩).2=K:=⟨_,rfl⟩
 have x1:doK K0 0 ⟨0,1,w,c,0,m⟩=(K1,t1):=by rw[Jx6,<- hK1,<- ht1]
 rw[hK1,ht1] at hF
 obtain⟨K2,hK2⟩:∃ K,(Gg K1 0 ⟨4,1,0,0,0,0⟩).1=K:=⟨_,rfl⟩
 obtain⟨t2,ht2⟩:∃ K,(Gg K1 0 ⟨4,1,0,0,0,0⟩).2=K:=⟨_,rfl⟩
 have x2:doK K1 0 ⟨4,1,0,0,0,0⟩=(K2,t2):=by rw[Jx6,<- hK2,<- ht2]
 rw[hK2,ht2] at hF
 obtain⟨f1,f2,f3,f4,f5⟩:=hF
 obtain⟨o,ho⟩:∃ o,J3d c=o:=⟨_,rfl⟩
 have ho1:0<=o/\o<=1:=by
  rw[<- ho]
  unfold J3d
  split<;>omega
 rw[ho] at f2
 obtain⟨A,hA⟩:∃ A,Sl.JX K0.S=A:=⟨_,rfl⟩
 have hA4:A.length=4:=by rw[<- hA];exact J1b
 obtain⟨B,hB⟩:∃ B,J1a c o w m=B:=⟨_,rfl⟩
 obtain⟨N,hN⟩:∃ N,4+m=N:=⟨_,rfl⟩
 have hBat:Hid (∀ i,i<m->(A++B)[4+i]? = some (sl ((w+i:Nat):Int),⟨c,o+(i:Int),7,0,0,0⟩)):=by
  rw[<- hA,<- hB]
  exact fun i hi=>J22 c o w m i hi
 have hABl:(A++B).length=N:=by
  rw[List.length_append,hA4,<- hB,<- hN]
  unfold J1a
  rw[List.length_map,List.length_range]
 rw[hA,hB] at f2
 rw[hA] at f5
 have k0:Kv 1 0 K0:=by
  have h:=J0t (n:=1) (m:=0) (b:=12) (Q:=[5]) rfl rfl
  rw[J0x] at h
  exact h
 have k1:=k0.call (by omega) (sm _ rfl) x1
 have HBo:Hid (∀ (g:Nat) (V:World) (T:List Th),Sep W W.heap.size V (Ta.Xa (.slice (some ⟨g,0,none⟩) 1 1) [5]::T)->Calls Tryz.prog 10 #[.agg #[.int .i64 1,.int .i64 12,.int .i64 0,.slice (some ⟨g,0,none⟩) 1 1]] V fun r w'=>∃ p,r=.returned (.tuple #[Je p,.int .i64 0])/\∃ Y,Sep W W.heap.size w' (kT p Y K0::T)):=fun g V T s=>by
  have h:=J0r s (fun u b=>L.t.below b) (n:=1) (m:=0) (b:=12) rfl rfl
  rw[J0x] at h
  refine Jqa h ?_
  rintro r w' ⟨p,rfl,Y,s'⟩
  exact⟨p,rfl,Y,s'.drop2⟩
 have HD1:Hid (∀ (p:Nat) (V:World) (Y:Ly) (T:List Th),Sep W W.heap.size V (kT p Y K0::T)->Calls Tryz.prog 13 #[Je p,.int .i64 0,.agg #[.int .i64 0,.int .i64 1,.int .i64 w,.int .i64 c,.int .i64 0,.int .i64 m]] V fun r w'=>∃ x k ao ln cap,r=.returned (.agg #[.int .i64 0,.int .u64 x,.int .i64 k,.slice ao ln cap])/\∃ Y',Sep W W.heap.size w' (kT p Y' K1::T)):=fun p V Y T s=>by
  refine Jqa (J3g L k0 (by omega) (c:=⟨0,1,w,c,0,m⟩) ⟨small (w:Int) (by omega),small c (by omega),sm _ rfl,small (m:Int) (by omega),rfl⟩ x1 p V Y T s) ?_
  rintro r w' ⟨ao,ln,cap,Y',rfl,s'⟩
  rw[f1]
  exact⟨_,_,_,_,_,rfl,_,s'⟩
 have HD2:Hid (∀ (p:Nat) (V:World) (Y:Ly) (T:List Th),Sep W W.heap.size V (kT p Y K1::T)->Calls Tryz.prog 13 #[Je p,.int .i64 0,.agg #[.int .i64 4,.int .i64 1,.int .i64 0,.int .i64 0,.int .i64 0,.int .i64 0]] V fun r w'=>∃ k ao ln cap,r=.returned (.agg #[.int .i64 0,.int .u64 m,.int .i64 k,.slice ao ln cap])/\∃ Y',Sep W W.heap.size w' (kT p Y' K2::T)):=fun p V Y T s=>by
  refine Jqa (J3g L k1 (by omega) (c:=⟨4,1,0,0,0,0⟩) ⟨sm _ rfl,sm _ rfl,sm _ rfl,sm _ rfl,rfl⟩ x2 p V Y T s) ?_
  rintro r w' ⟨ao,ln,cap,Y',rfl,s'⟩
  rw[f3,f4]
  exact⟨_,_,_,_,rfl,_,s'⟩
 have HH0:Hid (∀ (p:Nat) (V:World) (Y:Ly) (T:List Th),Sep W W.heap.size V (kT p Y K0::T)->Calls Tryz.prog 23 #[Je p] V fun e w'=>∃ ao cap,e=.returned (.slice ao 4 cap)/\Sep W W.heap.size w' (kT p Y K0::Jv elH (.slice ao 4 cap) A::T)):=fun p V Y T s=>by
  have h:=Jv8 s
  rw[hA,hA4] at h
  exact h
 have HH1:Hid (∀ (p:Nat) (V:World) (Y:Ly) (T:List Th),Sep W W.heap.size V (kT p Y K1::T)->Calls Tryz.prog 23 #[Je p] V fun e w'=>∃ ao cap,e=.returned (.slice ao N cap)/\Sep W W.heap.size w' (kT p Y K1::Jv elH (.slice ao N cap) (A++B)::T)):=fun p V Y T s=>by
  have h:=Jv8 s
  rw[f2,hABl] at h
  exact h
 have HH2:Hid (∀ (p:Nat) (V:World) (Y:Ly) (T:List Th),Sep W W.heap.size V (kT p Y K2::T)->Calls Tryz.prog 23 #[Je p] V fun e w'=>∃ ao cap,e=.returned (.slice ao 4 cap)/\Sep W W.heap.size w' (kT p Y K2::Jv elH (.slice ao 4 cap) A::T)):=fun p V Y T s=>by
  have h:=Jv8 s
  rw[f5,hA4] at h
  exact h
 have HSm:Hid (∀ (V:World) (ao ao':Option Addr) (cap cap':Nat),SeeC 8 Sl.Vs V ao A->SeeC 8 Sl.Vs V ao' A->Calls Tryz.prog 28 #[.slice ao 4 cap,.slice ao' 4 cap'] V fun e w'=>e=.returned (.bool true)/\Below V.heap.size V w'):=fun V ao ao' cap cap' h h'=>J23 hA4 (by decide) cap cap' h h'
 have wN:IntKind.i64.wrap (4+(m:Int))=(N:Int):=by rw[<- hN,wri (by omega) (by omega)];omega
 have hN12:5<=N/\N<=12:=by omega
 have um:IntKind.u64.wrap (m:Int)=(m:Int):=by rw[Jci];unfold VI;omega
 have S0:Hid (Sep W W.heap.size (W.alloc (.cells #[.int .i64 5] 3)) [Ta.Xa (.slice (some ⟨W.heap.size,0,none⟩) 1 1) [5]]):=Sep.lit (E:=Ta.Ui) Ta.okI (GL W) [5] (by simp) #[.int .i64 5] rfl
 have HL:=Ja L
 have HN:=Ja hN
 have HA4:=Ja hA4
 have HW:=Ja hw42
 clear L hA hB hABl hA4 f1 f2 f3 f4 f5 x1 x2 k0 k1 hK1 ht1 hK2 ht2 ho hc hm hw hN hm7 hw5 hq1 hq6 hw42
 go_enter Tryz.func8,Tryz.ntmps8
 go_wp2_with (first
  | (go_at_call 10;(with_reducible refine Jqa (HBo.out _ _ _ S0.out) ?_);rintro e v0 ⟨p,rfl,Y0,s0⟩;have T0:=Ja (s0.box (.cells #[.int .i64 4,.int .i64 5,.int .i64 6,.int .i64 7,.int .i64 8,.int .i64 3] 3)).drop;clear s0)
  | (go_at_call 23;(with_reducible refine Jqa (HH0.out _ _ _ _ T0.out) ?_);rintro e v1 ⟨ao1,cap1,rfl,s1⟩;have T1:=Ja s1;clear s1)
  | (go_at_call 13;(with_reducible refine Jqa (HD1.out _ _ _ _ T1.out) ?_);rintro e v2 ⟨x2,k2,ao2,ln2,cap2,rfl,Y2,s2⟩;have T2:=Ja ((s2.box (.cells #[.int .i64 0,.int .u64 x2,.int .i64 k2,.slice ao2 ln2 cap2] 42)).swap);clear s2)
  | (go_at_call 23;(with_reducible refine Jqa (HH1.out _ _ _ _ T2.out) ?_);rintro e v3 ⟨ao3,cap3,rfl,s3⟩;(obtain⟨g3,rfl,-⟩:=s3.listAt okH mm1 (k:=4+0) (hBat.out 0 (by omega)));have f1:=(s3.blkCell (p:=v2.heap.size) mm2 0).1;have hcap:(4:Int)<=(cap3:Int):=(by have:=J3f (s3.each _ mm1).1;omega);have T3:=Ja s3;clear s3)
  | (go_at_call 28;refine Jqa (HSm.out _ _ _ _ _ (SeeC.head (SeeC.of okH T3.out mm1)) (SeeC.of okH T3.out mm3)) ?_;rintro e v4 ⟨rfl,b4⟩;have T4:=Ja (T3.out.below b4);clear b4)
  | fail)
 obtain⟨_,g4,hg4,-⟩:∃ x,∃ g4,ao1=some ⟨g4,0,none⟩/\x=g4:=by
  obtain⟨g,e,-⟩:=T4.out.listAt okH mm3 (k:=0) (Jqc (by have:=HA4.out;omega))
  exact⟨g,g,e,rfl⟩
 subst hg4
 generalize hgt:v2.heap.size=gt at *
 clear hgt f1 hcap T0 T1 T2 T3 S0
 go_loopw [15] (fun s15 wr=>∃ i:Nat,i<=m/\s15=.int .i64 i/\Sep W W.heap.size wr [kT p Y2 K1,Jv elH (.slice (some ⟨g3,0,none⟩) N cap3) (A++B),blk gt (.cells #[.int .i64 0,.int .u64 x2,.int .i64 k2,.slice ao2 ln2 cap2] 42),Jv elH (.slice (some ⟨g4,0,none⟩) 4 cap1) A]) (fun s15 _=>m - (intOf s15).toNat)
 case atStart=>exact⟨0,Jqp _,rfl,T4.out⟩
 case round =>
  clear T4
  obtain⟨i,hi,rfl,s1⟩:=hrel
  by_cases hlt:i<m
  ·have hltz:(i:Int)<(m:Int):=by omega
   obtain⟨j,hj⟩:∃ j,4+i=j:=⟨_,rfl⟩
   have hjN:j<N:=by have:=HN.out;omega
   have hjz:(j:Int)<(N:Int):=by omega
   have w1:IntKind.i64.wrap (4+(i:Int))=(j:Int):=by rw[<- hj,wri (by omega) (by omega)];omega
   obtain⟨zi,hzi⟩:∃ z,w+i=z:=⟨_,rfl⟩
   have w2:IntKind.i64.wrap ((w:Int)+(i:Int))=(zi:Int):=by have:=HW.out;rw[<- hzi,wri (by omega) (by omega)];omega
   have hx:=hBat.out i hlt
   rw[hj,hzi,show sl (zi:Int)=⟨0,(zi:Int)⟩ from rfl] at hx
   obtain⟨oi,hoi⟩:∃ x:Int,o+(i:Int)=x:=⟨_,rfl⟩
   rw[hoi] at hx
   obtain⟨_,e3,hc⟩:=s1.listAt okH mm1 hx
   cases e3
   have c0:=hc 0 _ rfl
   have c1:=hc 1 _ rfl
   have c2:=hc 2 _ rfl
   have c3:=hc 3 _ rfl
   have c4:=hc 4 _ rfl
   have c5:=hc 5 _ rfl
   have c6:=hc 6 _ rfl
   have c7:=hc 7 _ rfl
   simp only[elH,Nat.add_zero] at c0 c1 c2 c3 c4 c5 c6 c7
   have S1:=Ja s1
   have HI:=Ja hlt
   have S2:=Ja (s1.box (.cells #[.int .i64 0,.int .i64 (zi:Int),.int .i64 c,.int .i64 oi,.int .i64 7,.int .u64 0,.int .u64 0,.int .i64 0] 84)).drop
   have HJ:=Ja hj
   have HOI:=Ja hoi
   clear hlt hc hx s1 hi hj hzi hoi
   by_cases hi0:i=0
   ·have hz1:decide (0<i)=false:=decide_eq_false (by omega)
    clear hi0
    go_wp2_with fail
    go_quiet (fail)
    go_wp2
    go_round
    case rel=>exact⟨i+1,HI.out,by go_num,S2.out.drewN _⟩
    case measure=>simp[intOf];have:=HI.out;omega
   ·have hpos:0<i:=by omega
    obtain⟨i1,hi1⟩:∃ i1,i1+1=i:=⟨i - 1,by omega⟩
    obtain⟨j1,hj1⟩:∃ j1,4+i1=j1:=⟨_,rfl⟩
    have w3:IntKind.i64.wrap ((j:Int) - 1)=(j1:Int):=by have:=HJ.out;rw[<- hj1,wri (by omega) (by omega)];omega
    have hj1z:(j1:Int)<(N:Int):=by have:=HJ.out;omega
    have hj1N:j1<N:=by omega
    have hx1:=hBat.out i1 (by have:=HI.out;omega)
    rw[hj1] at hx1
    obtain⟨oa,hoa⟩:∃ x:Int,o+(i1:Int)=x:=⟨_,rfl⟩
    rw[hoa] at hx1
    have w4:IntKind.i64.wrap (oa+1)=oi:=by have:=HOI.out;have:=HI.out;rw[<- hoa,wri (by omega) (by omega)];omega
    obtain⟨_,e3,hc1⟩:=S2.out.listAt okH mm1 hx1
    cases e3
    have d3:=hc1 3 _ rfl
    simp only[elH] at d3
    clear hc1 hx1 hi1 hj1 hoa hi0
    go_wp2_with fail
    go_quiet (fail)
    go_wp2
    go_round
    case rel=>exact⟨i+1,HI.out,by go_num,S2.out.drewN _⟩
    case measure=>simp[intOf];have:=HI.out;omega
  ·obtain rfl:i=m:=by omega
   have hltz:¬ ((i:Int)<(i:Int)):=by omega
   have S1:=Ja s1
   clear s1
   go_wp2_with (first
    | (go_at_call 13;(with_reducible refine Jqa (HD2.out _ _ _ _ S1.out) ?_);rintro e v5 ⟨k5,ao5,ln5,cap5,rfl,Y5,s5⟩;have s6:=(s5.box (.cells #[.int .i64 0,.int .u64 i,.int .i64 k5,.slice ao5 ln5 cap5] 42)).swap;have f1:=(s6.blkCell (p:=v5.heap.size) mm1 0).1;have f2:=(s6.blkCell (p:=v5.heap.size) mm1 1).1;have T6:=Ja s6;clear s5 s6)
    | (go_at_call 23;(with_reducible refine Jqa (HH2.out _ _ _ _ T6.out) ?_);rintro e v7 ⟨ao7,cap7,rfl,s7⟩;have T7:=Ja s7;clear s7)
    | (go_at_call 28;refine Jqa (HSm.out _ _ _ _ _ (SeeC.of okH T7.out mm1) (SeeC.of okH T7.out mm5)) ?_;rintro e v8 ⟨rfl,b8⟩;have T8:=Ja (T7.out.below b8);clear b8)
    | (go_at_call 21;refine Jqa (J1i _ (HL.out.below T8.out.low)) ?_;rintro e w9 ⟨rfl,b9⟩;have B9:=Ja (T8.out.below b9).low;clear b9)
    | fail)
   go_ret
   exact⟨rfl,B9.out⟩
open Go.ChangeShapes Go.WideShapes Go.ChangeAt Go.Joins
theorem contract (H:Type) (enc:TypeId×Value->H) (W:World) (base:Nat) (args:Array Value) (ds gs:List (DataW H)) (before:List MemPlace)
  (hval:∀ (j:Nat) t v,Tryz.f8.params[j]? = some t->args[j]? = some v->Value.okWide Tryz.prog W .any base t v)
  (hW:DataW.Whole enc Tryz.prog Tryz.f8.params.toList Rows.kernelMakesSpec.vars false W args.toList ds gs before) (hL:laidMetH Tryz.prog Rows.kernelMakesRow.laid W) :
  Calls Tryz.prog 8 args W fun e W'=>∃ v,e=.returned v/\Rows.kernelMakesSpec.post enc Tryz.prog Tryz.f8 false true false false W args v W':=by
 have hW':=hW
 obtain⟨p,q,hA0,hV,rfl,hfz,hnd⟩:=hW
 have hA:DataW.TrodAll enc Tryz.prog W 0 (fun _=>true) true Tryz.f8.params.toList args.toList ds p:=hA0
 rw[Tryz.params8] at hA hval
 obtain⟨v0,vs0,d0,ds0,p0,q0,hargs,rfl,rfl,h0,r0⟩:=trodAll_cons hA
 obtain⟨v1,vs1,d1,ds1,p1,q1,rfl,rfl,rfl,h1,r1⟩:=trodAll_cons r0
 obtain⟨v2,vs2,d2,ds2,p2,q2,rfl,rfl,rfl,h2,r2⟩:=trodAll_cons r1
 obtain⟨rfl,rfl,rfl⟩:=trodAll_nil r2
 obtain rfl:args=#[v0,v1,v2]:=by cases args;simp_all
 obtain⟨rfl,rfl⟩:=trodVars_none hV
 have k0:=h0
 have lt0:∀ x∈p0,x.block<W.heap.size:=by obtain⟨m,hm⟩:=k0;exact DataW.trod_lt m _ _ _ hm
 have k1:=h1
 have lt1:∀ x∈p1,x.block<W.heap.size:=by obtain⟨m,hm⟩:=k1;exact DataW.trod_lt m _ _ _ hm
 have k2:=h2
 have lt2:∀ x∈p2,x.block<W.heap.size:=by obtain⟨m,hm⟩:=k2;exact DataW.trod_lt m _ _ _ hm
 obtain⟨a0,rfl,_,_,w0⟩:=open_int Tryz.underlying3 (hval 0 3 v0 rfl rfl) h0
 obtain⟨a1,rfl,_,_,w1⟩:=open_int Tryz.underlying3 (hval 1 3 v1 rfl rfl) h1
 obtain⟨a2,rfl,_,_,w2⟩:=open_int Tryz.underlying3 (hval 2 3 v2 rfl rfl) h2
 clear hA0
 refine(walk a0 a1 a2 W (J08 hL) (bounds_i64 w0) (bounds_i64 w1) (bounds_i64 w2)).mono fun e W' ⟨he,bel⟩=>?_
 subst he
 exact⟨_,rfl,_,_,_,[],_,[],hW',trodAll_mk1 (shut_bool Tryz.underlying4 _),(trodAll_cons_mk (Below.trod Jol (by kernel_rfl) (of_decide_eq_true (by kernel_rfl)) k0 bel lt0) (trodAll_cons_mk (Below.trod Jol (by kernel_rfl) (of_decide_eq_true (by kernel_rfl)) k1 bel lt1) (trodAll_cons_mk (Below.trod Jol (by kernel_rfl) (of_decide_eq_true (by kernel_rfl)) k2 bel lt2) trodAll_mk0))),rfl,bel.frame _,fun h=>by cases h⟩
theorem laid_met (os:Os):laidMet Tryz.prog Rows.kernelMakesRow.laid ((World.doorLaid Tryz.prog 40 os).forCall (fun _ _=>0) ⟨#[],#[.int .i64 0,.int .i64 0,.int .i64 0],[]⟩).memory:=
 laidMet_of_run' 8 (by kernel_rfl) (by kernel_rfl)
theorem reads (os:Os) {H:Type} (enc:TypeId×Value->H):∃ places,DataW.whole enc Tryz.prog ((World.doorLaid Tryz.prog 40 os).forCall (fun _ _=>0) ⟨#[],#[.int .i64 0,.int .i64 0,.int .i64 0],[]⟩).memory Tryz.f8.params.toList Rows.kernelMakesSpec.vars false (#[.int .i64 0,.int .i64 0,.int .i64 0]:Array Value).toList 8=some ([.lit (.int .i64 0),.lit (.int .i64 0),.lit (.int .i64 0)],[],places):=
 ⟨[],by kernel_rfl⟩
theorem lifted (os:Os) (started:os.Started) (H:Type) (enc:TypeId×Value->H) (F:Stop.Interp) :
  ReturnsInHanded {} Tryz.checked os 8 .any ((OpenSpec.ofChange Rows.kernelMakesSpec).preRow enc Tryz.prog Tryz.f8 Rows.kernelMakesRow.domain false Rows.kernelMakesRow.laid) (((OpenSpec.ofChange Rows.kernelMakesSpec).at F).post enc Tryz.prog Tryz.f8 false true false false):=by
 obtain⟨places,hx⟩:=reads os enc
 refine returnsInHanded_of_row (C:=Tryz.checked) (s:=OpenSpec.ofChange Rows.kernelMakesSpec) J3n started (by kernel_rfl) Tryz.func8
  (witness_row_at (enc:=enc) (C:=Tryz.checked) false (World.doorLaid Tryz.prog 40 os) #[.int .i64 0,.int .i64 0,.int .i64 0] rfl (by kernel_rfl) (by kernel_rfl) (by kernel_rfl)
   (OpenSpec.preRow_of_cond 8 hx (by kernel_rfl) (fun k hk=>by cases hk) (by kernel_rfl) (laid_met os))) ?_
 intro W base args ds gs before hval hW _ _ _ hL _ _
 exact contract H enc W base args ds gs before hval hW hL
theorem said:Rows.KernelMakesSaid:=
 OpenClaim.holds_of_cond 8 Tryz.f8 rfl rfl rfl rfl rfl rfl rfl ⟨rfl,rfl,rfl,rfl,rfl⟩ rfl rfl rfl rfl rfl (by kernel_rfl) Tryz.func8 joined
  (of_decide_eq_true (by kernel_rfl)) (by unfold Func.isWrapper;first|(rw[if_pos (by decide +kernel)];kernel_rfl)|(rw[if_neg (by decide +kernel)];exact⟨rfl,rfl⟩))
  (fun os started H enc _ F=>by rw[OpenClaim.pre_eq_preRow];exact lifted os started H enc F)
theorem plain (f:FuncId) (fn:Func) (hf:Tryz.pinned.checked.prog.funcNamed "buttress/buttresslaw18.KernelMakes" = some f) (hfn:Tryz.pinned.checked.prog.funcs[f]? = some fn) :
  true=Tryz.pinned.checked.prog.looks []/\∀ (j:Nat) t,fn.params[j]? = some t->Tryz.pinned.checked.prog.wantsStandIn t=false:=by
 obtain rfl:f=8:=Jqz ((show Tryz.prog.funcNamed "buttress/buttresslaw18.KernelMakes" = some 8 by kernel_rfl).symm.trans hf) |>.symm
 obtain rfl:fn=Tryz.f8:=(Jqz (Tryz.func8.symm.trans hfn)).symm
 refine⟨by kernel_rfl,fun j t ht=>?_⟩
 rw[Tryz.params8] at ht
 have hm:t∈[3,3,3]:=by simpa using Array.mem_of_getElem? ht
 have hall:([3,3,3].all fun u => !Tryz.prog.wantsStandIn u)=true:=by kernel_rfl
 exact(show Tryz.prog.wantsStandIn t=false by simpa using List.all_eq_true.1 hall t hm)
end kernelMakes
section
theorem kernelMakes_card:Rows.KernelMakesCardSaid:=
 Claim7.holds_tied_plain_at .later [] _ _ _ _ kernelMakes.said (fun _ h=>by cases h) (by kernel_rfl) (fun _ h=>by cases h) kernelMakes_row_tie rfl ⟨rfl,rfl⟩ (by kernel_rfl) rfl kernelMakes.plain kernelMakes.goes
end
end Go.Proofs.YtbfjjpdnoalojaaGreatDoor
