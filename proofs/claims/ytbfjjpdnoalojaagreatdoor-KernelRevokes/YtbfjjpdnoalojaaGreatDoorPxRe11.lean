/- Below: KBg KBgS KSame KrRev; no condition. -/
import Derived.Test.YtbfjjpdnoalojaaGreatDoorPxRe10
set_option maxHeartbeats 16000000
set_option maxRecDepth 100000
set_option linter.unusedSectionVars false
namespace Go.Proofs.YtbfjjpdnoalojaaGreatDoor
section
open Go.RowKit Go.Deep Go.Shelf
open Classical
abbrev Ints (W:World) (ao:Option Addr) (X:List Int):Prop:=SeeK 1 (fun x:Int=>[.int .i64 x]) VC W ao X
theorem Ints.at {W:World} {ao:Option Addr} {X:List Int} (h:Ints W ao X) {i:Nat} {x:Int} (hx:X[i]? = some x):∃ b o,ao=some ⟨b,o,none⟩/\W.cell? ⟨b,o+i,none⟩=some (.int .i64 x):=by
 obtain⟨_,b,o,e,_,hc⟩:=h i x hx
 have:=hc 0 _ rfl
 rw[Nat.mul_one,Nat.add_zero] at this
 exact⟨b,o,e,this⟩
theorem J4w (x:Int):∃ p:Nat,p<256/\bits .and .i64 x 255=(p:Int):=J1l x 8 (by decide)
theorem J23 (W:World) (c bi li:Int) (ao:Option Addr) (L:List Int) (cap:Nat) (hL:Ints W ao L) :
  Calls Tryz.prog 9 #[.agg #[.int .i64 c,.int .i64 bi,.int .i64 li,.slice ao L.length cap]] W fun e w'=>∃ (n m:Nat) (b:Int) (Q:List Int) (v:Value),e=.returned (Jgd n b m v)/\Q.length=n/\(1<=n/\n<=3)/\Ao n b m Q=true/\Sep W W.heap.size w' [Ta.Xa v Q]:=by
 obtain⟨c1,hc1,hmc⟩:=J2y c
 obtain⟨c2,hc2,hrc⟩:=J20 c1 3 (by decide)
 obtain⟨b1,hb1,hmb⟩:=J2y bi
 obtain⟨b2,hb2,hrb⟩:=J20 b1 7 (by decide)
 obtain⟨m,hm,hml⟩:=J5x li
 obtain⟨N,hN⟩:∃ N:Nat,N=1+c2:=⟨_,rfl⟩
 obtain⟨B,hB⟩:∃ B:Nat,B=6+b2:=⟨_,rfl⟩
 have hw1:IntKind.i64.wrap (1+(c2:Int))=(N:Int):=by
  rw[IntKind.wrap_i64]
  omega
 have hw2:IntKind.i64.wrap (6+(b2:Int))=(B:Int):=by
  rw[IntKind.wrap_i64]
  omega
 have hN3:1<=N/\N<=3:=by omega
 have hB12:6<=B/\B<=12:=by omega
 clear hN hB hc1 hc2 hb1 hb2
 have HL:=Ja hL
 clear hL
 go_enter Tryz.func9,Tryz.ntmps9
 go_wp2_with fail
 simp only[hrc,hrb]
 clear hrc hrb
 have S1:Hid (Sep W W.heap.size (((W.alloc (.cells #[.int .i64 c,.int .i64 bi,.int .i64 li,.slice ao L.length cap] 24)).alloc (.cells #[.int .i64 0,.int .i64 0,.int .i64 0,.slice none 0 0] 24)).alloc (.cells #[.int .i64 (N:Int),.int .i64 (B:Int),.int .i64 (m:Int),.slice none 0 0] 24)) [Ta.Xa (.slice none 0 0) [],blk (W.heap.size+1+1) (.cells #[.int .i64 (N:Int),.int .i64 (B:Int),.int .i64 (m:Int),.slice none 0 0] 24),blk (W.heap.size+1) (.cells #[.int .i64 0,.int .i64 0,.int .i64 0,.slice none 0 0] 24),blk W.heap.size (.cells #[.int .i64 c,.int .i64 bi,.int .i64 li,.slice ao L.length cap] 24)]):=by
  have h:=((((GL W).box (.cells #[.int .i64 c,.int .i64 bi,.int .i64 li,.slice ao L.length cap] 24)).box (.cells #[.int .i64 0,.int .i64 0,.int .i64 0,.slice none 0 0] 24)).box (.cells #[.int .i64 (N:Int),.int .i64 (B:Int),.int .i64 (m:Int),.slice none 0 0] 24)).nil (E:=Ta.Ui)
  have a1:∀ (u:World) (o:Obj),(u.alloc o).heap.size=u.heap.size+1:=fun u o=>by simp
  simp only[a1] at h
  exact h
 generalize hr:W.heap.size=r at *
 have HR:=Ja hr
 clear hr
 go_loopw [5,6] (fun s5 _ wr=>∃ i:Nat,i<=N/\s5=.int .i64 i/\Hid (∃ Q:List Int,Q.length=i/\(∀ q∈Q,0<=q/\q<256)/\∃ v:Value,Sep W r wr [Ta.Xa v Q,blk (r+1+1) (.cells #[.int .i64 (N:Int),.int .i64 (B:Int),.int .i64 (m:Int),v] 24),blk (r+1) (.cells #[.int .i64 0,.int .i64 0,.int .i64 0,.slice none 0 0] 24),blk r (.cells #[.int .i64 c,.int .i64 bi,.int .i64 li,.slice ao L.length cap] 24)])) (fun s5 _ _=>N - (intOf s5).toNat)
 case atStart=>exact⟨0,Jqp _,rfl,[],rfl,by simp,_,S1.out⟩
 case round =>
  clear S1
  obtain⟨i,hi,rfl,Q,hq,hQ,v,s1⟩:=hrel
  obtain⟨a5,c5,rfl⟩:=s1.listIs (E:=Ta.Ui) (v:=v) (A:=Q) (by simp)
  rw[hq] at s1
  have d3:=(s1.blkCell (p:=r) mm3 3).1
  have e3:=(s1.blkCell (p:=r+1+1) mm1 3)
  have e0:=(s1.blkCell (p:=r+1+1) mm1 0)
  have e1:=(s1.blkCell (p:=r+1+1) mm1 1)
  have e2:=(s1.blkCell (p:=r+1+1) mm1 2)
  have z0:=(s1.blkCell (p:=r+1) mm2 0)
  have z1:=(s1.blkCell (p:=r+1) mm2 1)
  have z2:=(s1.blkCell (p:=r+1) mm2 2)
  have z3:=(s1.blkCell (p:=r+1) mm2 3)
  have SD:=Ja (s1.below (Below.refl _ _)).low
  by_cases hlt:i<N
  ·have hltz:(i:Int)<(N:Int):=by omega
   have tail:∀ x:Int,0<=x/\x<256->∃ v4 w4 n6,Hid ((Builtin.append_ #[22,22] 22 #[.slice a5 i c5,.slice (some ⟨wr.heap.size,0,none⟩) 1 1]).run Tryz.prog (wr.alloc (.cells #[.int .i64 x] 3))=.ok v4 w4)/\Hid (Sep W r w4 [Ta.Xa v4 (Q++[x]),blk (r+1+1) (.cells #[.int .i64 (N:Int),.int .i64 (B:Int),.int .i64 (m:Int),.slice a5 i c5] 24),blk (r+1) (.cells #[.int .i64 0,.int .i64 0,.int .i64 0,.slice none 0 0] 24),blk r (.cells #[.int .i64 c,.int .i64 bi,.int .i64 li,.slice ao L.length cap] 24)])/\(Q++[x]).length=n6/\n6=i+1/\∀ q∈Q++[x],0<=q/\q<256:=fun x hx=>by
    obtain⟨v4,w4,r4,s4⟩:=s1.more Ta.okI 22 x (C:=#[.int .i64 x]) rfl (by omega)
    refine⟨v4,w4,i+1,r4,s4,by simp[hq],rfl,fun q h=>?_⟩
    rcases Jrc.1 h with h|h
    ·exact hQ q h
    ·rw[List.mem_singleton.1 h]
     exact hx
   by_cases hin:i<L.length
   ·have hinz:(i:Int)<(L.length:Int):=by omega
    obtain⟨x,hx⟩:∃ x,L[i]? = some x:=⟨_,Jqc hin⟩
    obtain⟨g,o,rfl,cx⟩:=Ints.at (SeeK.below HL.out SD.out (by rw[HR.out];exact Jqd _)) hx
    obtain⟨y,hy,hmy⟩:=J4w x
    have cx2:=Jx cx (.cells #[.int .i64 (y:Int)] 3)
    obtain⟨v4,w4,n6,R4,S4,h6,rfl,hQ4⟩:=tail (y:Int) (by omega)
    obtain⟨a6,c6,rfl⟩:=S4.out.listIs (E:=Ta.Ui) (v:=v4) (A:=Q++[(y:Int)]) (by simp)
    have f4:=(S4.out.blkCell (p:=r+1+1) mm1 3)
    have S5:=Ja ((S4.out.swap.putB 3 (.slice a6 (Q++[(y:Int)]).length c6)).swap)
    clear tail s1 S4 hQ
    rw[h6] at R4 S5
    go_wp2_with (at_builtin;refine Jd rfl _ _ _ _ rfl _ _ _ _ rfl rfl R4.out ?_)
    go_round
    case rel=>exact⟨i+1,by omega,by go_num,Q++[(y:Int)],h6,hQ4,_,S5.out⟩
    case measure=>simp[intOf];omega
   ·have hinz:¬ ((i:Int)<(L.length:Int)):=by omega
    obtain⟨v4,w4,n6,R4,S4,h6,rfl,hQ4⟩:=tail 5 (by omega)
    obtain⟨a6,c6,rfl⟩:=S4.out.listIs (E:=Ta.Ui) (v:=v4) (A:=Q++[5]) (by simp)
    have f4:=(S4.out.blkCell (p:=r+1+1) mm1 3)
    have S5:=Ja ((S4.out.swap.putB 3 (.slice a6 (Q++[5]).length c6)).swap)
    clear tail s1 S4 hQ
    rw[h6] at R4 S5
    go_wp2_with (at_builtin;refine Jd rfl _ _ _ _ rfl _ _ _ _ rfl rfl R4.out ?_)
    go_round
    case rel=>exact⟨i+1,by omega,by go_num,Q++[5],h6,hQ4,_,S5.out⟩
    case measure=>simp[intOf];omega
  ·obtain rfl:i=N:=by omega
   have hltz:¬ ((i:Int)<(i:Int)):=by omega
   go_wp2_with fail
   have S6:Hid (Sep W r ((((wr.setCell ⟨r+1,0,none⟩ (.int .i64 (i:Int))).setCell ⟨r+1,1,none⟩ (.int .i64 (B:Int))).setCell ⟨r+1,2,none⟩ (.int .i64 (m:Int))).setCell ⟨r+1,3,none⟩ (.slice a5 i c5)) [blk (r+1) (.cells #[.int .i64 (i:Int),.int .i64 (B:Int),.int .i64 (m:Int),.slice a5 i c5] 24),Ta.Xa (.slice a5 i c5) Q,blk (r+1+1) (.cells #[.int .i64 (i:Int),.int .i64 (B:Int),.int .i64 (m:Int),.slice a5 i c5] 24),blk r (.cells #[.int .i64 c,.int .i64 bi,.int .i64 li,.slice ao L.length cap] 24)]):=
    ((((s1.perm (List.perm_middle (l₁:=[_,_]) (l₂:=[_]))).putB 0 (.int .i64 (i:Int))).putB 1 (.int .i64 (B:Int))).putB 2 (.int .i64 (m:Int))).putB 3 (.slice a5 i c5)
   generalize(((wr.setCell ⟨r+1,0,none⟩ (.int .i64 (i:Int))).setCell ⟨r+1,1,none⟩ (.int .i64 (B:Int))).setCell ⟨r+1,2,none⟩ (.int .i64 (m:Int))).setCell ⟨r+1,3,none⟩ (.slice a5 i c5)=w6 at *
   have q0:=(S6.out.blkCell (p:=r+1) mm0 0).1
   have q1:=(S6.out.blkCell (p:=r+1) mm0 1).1
   have q2:=(S6.out.blkCell (p:=r+1) mm0 2).1
   have q3:=(S6.out.blkCell (p:=r+1) mm0 3).1
   refine bodyPost_ret (v:=.agg #[.int .i64 (i:Int),.int .i64 (B:Int),.int .i64 (m:Int),.slice a5 i c5]) ?_ rfl ?_
   ·simp[results,Tryz.f9,go_sem,q0,q1,q2,q3]
   ·refine⟨i,m,(B:Int),Q,.slice a5 i c5,rfl,hq,hN3,?_,by rw[HR.out];exact S6.out.drop.drop2.drop2⟩
    have hb:Q.any UY=false:=List.any_eq_false.2 fun q h=>by
     have:=hQ q h
     unfold UY
     simp
     omega
    unfold Ao
    rw[hb,decide_eq_true (by omega),decide_eq_true (by omega),decide_eq_true (by omega),decide_eq_true (by omega)]
    rfl
theorem Sep.base {w0 w1 w:World} {r r1:Nat} {R:List Th} (h:Sep w1 r1 w R) (k:Below r w0 w1) (hr:r<=r1):Sep w0 r w R:=
 ⟨k.trans (h.low.mono hr),Jql hr h.size,fun t ht=>⟨(h.each t ht).1,fun x hx=>Jql hr ((h.each t ht).2 x hx)⟩,h.apart⟩
theorem J4t {w0 w:World} {r p n m:Nat} {Y:Ly} {K:Kr} {R:List Th} (s:Sep w0 r w (kT p Y K::R)) (v:Iv n m K) (o:Int) :
  Calls Tryz.prog 16 #[Je p,.int .i64 o] w fun e w'=>e=.returned (.tuple #[.int .i64 (J5i K o),.int .i64 (J5h K o)])/\KS w0 r w' p (J18 K o) R:=by
 unfold J5i J5h J18
 by_cases hb:Ir.J05 Ir.isO K.l o=true
 ·rw[if_pos hb,if_pos hb]
  have h:=J4d v J1o hb
  have hg:=Jpz v J1o o
  exact J4l s hb v.few h.1 h.2 hg (Jps hg)
 ·rw[if_neg hb,if_neg hb]
  exact J45 s (by simpa using hb)
structure Ox where
 k:Int
 o:Int
 c:Cl
def cX (x:Ox):List Value:=[.int .i64 x.k,.int .i64 x.o,.int .i64 x.c.q,.int .i64 x.c.a,.int .i64 x.c.w,.int .i64 x.c.A,.int .i64 x.c.B,.int .i64 x.c.C]
def OxI (x:Ox):Prop:=VC x.k/\VC x.o/\VC x.c.q/\VC x.c.a/\VC x.c.w/\VC x.c.A/\VC x.c.B/\VC x.c.C
abbrev Oxs (W:World) (ao:Option Addr) (X:List Ox):Prop:=SeeK 8 cX OxI W ao X
def OxC (V:World) (b o:Nat) (x:Ox):Prop:=V.cell? ⟨b,o,none⟩=some (.int .i64 x.k)/\V.cell? ⟨b,o+1,none⟩=some (.int .i64 x.o)/\V.cell? ⟨b,o+2,none⟩=some (.int .i64 x.c.q)/\V.cell? ⟨b,o+3,none⟩=some (.int .i64 x.c.a)/\V.cell? ⟨b,o+4,none⟩=some (.int .i64 x.c.w)/\V.cell? ⟨b,o+5,none⟩=some (.int .i64 x.c.A)/\V.cell? ⟨b,o+6,none⟩=some (.int .i64 x.c.B)/\V.cell? ⟨b,o+7,none⟩=some (.int .i64 x.c.C)
theorem Oxs.at {W:World} {ao:Option Addr} {X:List Ox} (h:Oxs W ao X) {i:Nat} {x:Ox} (hx:X[i]? = some x):OxI x/\∃ b o,ao=some ⟨b,o,none⟩/\b<W.heap.size/\OxC W b (o+i*8) x:=by
 obtain⟨h1,b,o,e,hb,hc⟩:=h i x hx
 exact⟨h1,b,o,e,hb,hc 0 _ rfl,hc 1 _ rfl,hc 2 _ rfl,hc 3 _ rfl,hc 4 _ rfl,hc 5 _ rfl,hc 6 _ rfl,hc 7 _ rfl⟩
theorem OxC.below {W V:World} {b o:Nat} {x:Ox} (h:OxC W b o x) (hb:b<W.heap.size) (k:Below W.heap.size W V):OxC V b o x:=by
 obtain⟨h0,h1,h2,h3,h4,h5,h6,h7⟩:=h
 have c:∀ j,V.cell? ⟨b,j,none⟩=W.cell? ⟨b,j,none⟩:=fun j=>k.cell (p:=⟨b,j,none⟩) hb
 refine⟨?_,?_,?_,?_,?_,?_,?_,?_⟩
 all_goals
  rw[c]
  assumption
def J3q (W:World) (w':World) (p:Nat) (m:Nat):Prop:=∃ (n:Nat) (K:Kr) (Y:Ly),(1<=n/\n<=3)/\Kv n m K/\Sep W W.heap.size w' [kT p Y K]
theorem J4r {w0 w:World} {p n m:Nat} {Y:Ly} {K:Kr} {R:List Th} (s:Sep w0 w0.heap.size w (kT p Y K::R)) (L:Lt w0) (v:Kv n m K) (hm:m<=100000) (core:Int) {c:Cl} (b:Cd c) :
  Calls Tryz.prog 13 #[Je p,.int .i64 core,.agg #[.int .i64 c.q,.int .i64 c.a,.int .i64 c.w,.int .i64 c.A,.int .i64 c.B,.int .i64 c.C]] w fun r w'=>∃ t K' Y',doK K core c=(K',t)/\Kv n (m+64) K'/\∃ ao cap,r=.returned (.agg #[.int .i64 t.e,.int .u64 t.w,.int .i64 t.k,.slice ao t.f.length cap])/\Sep w0 w0.heap.size w' (kT p Y' K'::Jv Vq (.slice ao t.f.length cap) t.f::R):=by
 obtain⟨⟨K',t⟩,hX⟩:∃ x,doK K core c=x:=⟨_,rfl⟩
 refine Jqa (J14 s L v hm core b (e:=t.e) (x:=t.w) (k:=t.k) (f:=t.f) hX) ?_
 rintro r w' ⟨ao,cap,Y',rfl,s'⟩
 exact⟨t,K',Y',hX,v.call hm b.B hX,ao,cap,rfl,s'⟩
theorem J25 (W:World) (L:Lt W) (c bi li:Int) (ao:Option Addr) (Q:List Int) (cap:Nat) (hQ:Ints W ao Q) (so:Option Addr) (X:List Ox) (cap2:Nat) (hX:Oxs W so X) :
  Calls Tryz.prog 24 #[.agg #[.int .i64 c,.int .i64 bi,.int .i64 li,.slice ao Q.length cap],.slice so X.length cap2] W fun e w'=>∃ p,e=.returned (Je p)/\J3q W w' p 2560:=by
 have HQ:=Ja hQ
 have HX:=Ja hX
 have HL:=Ja L
 have b0:=Jb W (.cells #[.int .i64 c,.int .i64 bi,.int .i64 li,.slice ao Q.length cap] 24)
 have hsz:W.heap.size<=(W.alloc (.cells #[.int .i64 c,.int .i64 bi,.int .i64 li,.slice ao Q.length cap] 24)).heap.size:=b0.size
 have B0:=Ja b0
 clear hQ hX L b0
 obtain⟨z,hz⟩:∃ z,X.length=z:=⟨_,rfl⟩
 go_enter Tryz.func24,Tryz.ntmps24
 go_wp2_with (first
  | (go_at_call 9;refine Jqa (J23 _ c bi li ao Q cap (SeeK.below HQ.out B0.out (Jqd _))) ?_;rintro e w1 ⟨n,m,b,Q1,v1,rfl,h1,h3,h2,s1⟩;have S1:=Ja (s1.base B0.out hsz);have HB:=Ja (And.intro h1 (And.intro h3 h2));clear s1 h1 h2 h3 hsz)
  | (go_at_call 10;refine Jqa (J0r S1.out (fun u b=>HL.out.t.below b) HB.out.1 HB.out.2.2) ?_;rintro e w2 ⟨p,rfl,Y,s2⟩;have S2:Hid (J3q W w2 p 0):=⟨n,_,Y,HB.out.2.1,J0t HB.out.1 HB.out.2.2,s2.drop2⟩;clear s2 S1)
  | fail)
 generalize hr:W.heap.size=r at *
 have HR:=Ja hr
 clear hr
 go_loopw [7] (fun s7 wr=>∃ i:Nat,(i<=z/\i<=40)/\s7=.int .i64 i/\J3q W wr p (64*i)) (fun s7 _=>40 - (intOf s7).toNat)
 case atStart=>exact⟨0,⟨Jqp _,Jqp _⟩,rfl,S2.out⟩
 case round =>
  clear S2
  obtain⟨i,⟨hi,hi40⟩,rfl,hb⟩:=hrel
  by_cases hlt:i<z
  ·have hltz:(i:Int)<(z:Int):=by omega
   by_cases hl4:i<40
   ·have hl4z:(i:Int)<40:=by omega
    obtain⟨n,K,Y,hn3,kv,s0⟩:=hb
    have S0:=Ja s0
    obtain⟨x,hx⟩:∃ x,X[i]? = some x:=⟨_,Jqc (by omega)⟩
    obtain⟨hI,g,o,rfl,hg,hc⟩:=Oxs.at HX.out hx
    obtain⟨d0,d1,d2,d3,d4,d5,d6,d7⟩:=hc.below hg s0.low
    have HC:=Ja hc
    have HG:=Ja hg
    clear s0 hx hg hc
    obtain⟨k,co,⟨q,a,w,A,B,C⟩⟩:=x
    simp only at d0 d1 d2 d3 d4 d5 d6 d7
    have HI:=Ja hI
    clear hI
    by_cases h0:k=0
    ·subst h0
     have HS:Hid (∀ (V:World) (T:List Th),Sep W W.heap.size V T->V.cell? ⟨g,o+i*8+1,none⟩=some (.int .i64 co)/\V.cell? ⟨g,o+i*8+2,none⟩=some (.int .i64 q)/\V.cell? ⟨g,o+i*8+3,none⟩=some (.int .i64 a)/\V.cell? ⟨g,o+i*8+4,none⟩=some (.int .i64 w)/\V.cell? ⟨g,o+i*8+5,none⟩=some (.int .i64 A)/\V.cell? ⟨g,o+i*8+6,none⟩=some (.int .i64 B)/\V.cell? ⟨g,o+i*8+7,none⟩=some (.int .i64 C)):=fun V T s=>(HC.out.below HG.out s.low).2
     have hS:=HS.out _ _ S0.out.drew
     have HQ0:Hid (∀ (V:World) (T:List Th),Sep W W.heap.size V (kT p Y K::T)->Calls Tryz.prog 13 #[Je p,.int .i64 co,.agg #[.int .i64 q,.int .i64 a,.int .i64 w,.int .i64 A,.int .i64 B,.int .i64 C]] V fun e w'=>∃ v K' Y',e=.returned v/\Kv n (64*i+64) K'/\Sep W W.heap.size w' (kT p Y' K'::T)):=fun V T s=>by
      refine Jqa (J4r s HL.out kv (by omega) co (c:=⟨q,a,w,A,B,C⟩) ⟨HI.out.2.2.2.2.1,HI.out.2.2.2.2.2.1,HI.out.2.2.2.2.2.2.1,HI.out.2.2.2.2.2.2.2,J4y q⟩) ?_
      rintro e w' ⟨t,K',Y',-,kv',ao',cap',rfl,s'⟩
      exact⟨_,K',Y',rfl,kv',s'.drop2⟩
     clear kv
     go_wp2_with fail
     go_region_held3 (fun V=>V.cell? ⟨g,o+i*8+1,none⟩=some (.int .i64 co)/\V.cell? ⟨g,o+i*8+2,none⟩=some (.int .i64 q)/\V.cell? ⟨g,o+i*8+3,none⟩=some (.int .i64 a)/\V.cell? ⟨g,o+i*8+4,none⟩=some (.int .i64 w)/\V.cell? ⟨g,o+i*8+5,none⟩=some (.int .i64 A)/\V.cell? ⟨g,o+i*8+6,none⟩=some (.int .i64 B)/\V.cell? ⟨g,o+i*8+7,none⟩=some (.int .i64 C)) (first|with_reducible assumption|with_reducible exact hS) (first|(go_at_call 13;refine Jqa (HQ0.out _ _ S0.out.drew) ?_;rintro e w4 ⟨v4,K',Y',rfl,kv',s4⟩;have hS4:=HS.out _ _ s4;have KV:=Ja kv';have S4:=Ja s4;clear s4 kv'))
     clear hS hS4
     go_wp2_with fail
     go_round
     case rel=>exact⟨i+1,⟨by omega,by omega⟩,by go_num,n,K',Y',hn3,⟨KV.out.v.more (by omega),KV.out.fu⟩,S4.out⟩
     case measure=>simp[intOf];omega
    ·by_cases h1:k=1
     ·subst h1
      have HQ1:Hid (∀ (V:World) (T:List Th),Sep W W.heap.size V (kT p Y K::T)->Calls Tryz.prog 16 #[Je p,.int .i64 co] V fun e w'=>e=.returned (.tuple #[.int .i64 (J5i K co),.int .i64 (J5h K co)])/\∃ Y',Sep W W.heap.size w' (kT p Y' (J18 K co)::T)):=fun V T s=>J4t s kv.v co
      have KV:=Ja (kv.irq co)
      clear kv
      go_wp2_with (first|(go_at_call 16;refine Jqa (HQ1.out _ _ S0.out) ?_;rintro e w4 ⟨rfl,Y',s4⟩;have S4:=Ja s4;clear s4)|fail)
      go_round
      case rel=>exact⟨i+1,⟨by omega,by omega⟩,by go_num,n,_,Y',hn3,⟨KV.out.v.more (by omega),KV.out.fu⟩,S4.out⟩
      case measure=>simp[intOf];omega
     ·by_cases h2:k=2
      ·subst h2
       have HQ2:Hid (∀ (V:World) (T:List Th),Sep W W.heap.size V (kT p Y K::T)->Calls Tryz.prog 18 #[Je p,.int .i64 co] V fun e w'=>e=.returned (.bool (Th.Xm K.h co))/\∃ Y',Sep W W.heap.size w' (kT p Y' (J22 K co)::T)):=fun V T s=>J3r s (fun u b=>HL.out.t.below b) co
       have KV:=Ja (kv.tick co)
       clear kv
       go_wp2_with (first|(go_at_call 18;refine Jqa (HQ2.out _ _ S0.out) ?_;rintro e w4 ⟨rfl,Y',s4⟩;have S4:=Ja s4;clear s4)|fail)
       go_round
       case rel=>exact⟨i+1,⟨by omega,by omega⟩,by go_num,n,_,Y',hn3,⟨KV.out.v.more (by omega),KV.out.fu⟩,S4.out⟩
       case measure=>simp[intOf];omega
      ·have KV:=Ja kv
       clear kv
       go_wp2_with fail
       go_round
       case rel=>exact⟨i+1,⟨by omega,by omega⟩,by go_num,n,_,Y,hn3,⟨KV.out.v.more (by omega),KV.out.fu⟩,S0.out⟩
       case measure=>simp[intOf];omega
   ·have hl4z:¬ ((i:Int)<40):=by omega
    have HE:=Ja hb
    clear hb
    go_wp2_with fail
    go_ret
    obtain⟨n,K,Y,hn3,kv,s0⟩:=HE.out
    exact⟨p,rfl,n,K,Y,hn3,⟨kv.v.more (by omega),kv.fu⟩,s0⟩
  ·have hltz:¬ ((i:Int)<(z:Int)):=by omega
   have HE:=Ja hb
   clear hb
   go_wp2_with fail
   go_ret
   obtain⟨n,K,Y,hn3,kv,s0⟩:=HE.out
   exact⟨p,rfl,n,K,Y,hn3,⟨kv.v.more (by omega),kv.fu⟩,s0⟩
end
section
open Go.ChangeShapes Go.WideShapes Go.ChangeAt Go.RowKit Go.Joins Go.Deep
section
variable {H:Type} {enc:TypeId×Value->H} {W:World} {r:Reach} {b0 base:Nat} {sp:Nat->Bool} {JX:Bool} {v:Value} {d:DataW H} {p:List MemPlace}
theorem J3j {α:Type} {k:Nat} (hk:0<k) (code:α->List Value) (hlen:∀ x,(code x).length=k) (P:α->Prop) (z:α) (t e:TypeId) (ht:Tryz.prog.underlying t=some (.slice e)) (ck:Tryz.prog.cellsOf e=k)
  (dec:∀ fuel cs x,DataW.trod enc Tryz.prog W 0 (fun _=>true) JX fuel e cs=some x->∃ y,cs=code y/\P y)
  {fuel:Nat} {c:Value} {x:DataW H×List MemPlace} (hf:DataW.trod enc Tryz.prog W 0 (fun _=>true) JX fuel t [c]=some x) :
  ∃ (ao:Option Addr) (X:List α) (cap:Nat),c=.slice ao X.length cap/\SeeK k code P W ao X/\X.length<=9223372036854775807:=by
 rcases open_slice ht hf with ⟨hcs,_⟩|⟨x,len0,cap0,m,n,D,Pl,hcs,_,hl,hm,hmm,_,hx⟩
 ·simp only[List.cons.injEq,and_true] at hcs
  subst hcs
  exact⟨none,[],0,rfl,fun i x hx=>by simp at hx,by simp⟩
 ·simp only[List.cons.injEq,and_true] at hcs
  subst hcs
  simp only[if_true] at hmm
  obtain⟨b,off,spot⟩:=x
  have each:∀ i,i<len0->∃ x:α,P x/\∀ j v,(code x)[j]? = some v->W.cell? ((⟨b,off,spot⟩:Addr).add (i*k+j))=some v:=by
   intro i hi
   obtain⟨cs',h1,h2⟩:=hx i (by omega)
   rw[ck] at h1
   obtain⟨_,hl2,hcell⟩:=World.cells?_some h1
   obtain⟨x,rfl,hP⟩:=dec _ _ _ h2
   refine⟨x,hP,fun j v hj=>?_⟩
   have hj':=(Jqb.1 hj).1
   rw[hlen] at hj'
   have e:=hcell j (by omega)
   rw[add_add] at e
   rw[e]
   exact hj
  obtain⟨X,hX,hXe⟩:∃ X:List α,X.length=len0/\∀ (i:Nat) (x:α),X[i]? = some x->P x/\∀ j v,(code x)[j]? = some v->W.cell? ((⟨b,off,spot⟩:Addr).add (i*k+j))=some v:=by
   refine⟨(List.range len0).map fun i=>if h:i<len0 then (each i h).choose else z,by simp,fun i x hx=>?_⟩
   have hi:i<len0:=by
    have:=(Jqb.1 hx).1
    simpa using this
   simp only[List.getElem?_map,List.getElem?_range hi,Option.map_some,dif_pos hi,Option.some.injEq] at hx
   rw[<- hx]
   exact(each i hi).choose_spec
  refine⟨some ⟨b,off,spot⟩,X,cap0,by rw[hX],fun i x hx=>?_,by rw[hX];unfold maxLen at hm;omega⟩
  obtain⟨hP,hc⟩:=hXe i x hx
  have hX0:0<X.length:=by have:=(Jqb.1 hx).1;omega
  have hpos:0<(code X[0]).length:=by rw[hlen];exact hk
  have z0:=(hXe 0 _ (Jqc hX0)).2 0 _ (Jqc hpos)
  have hspot:spot=none:=by
   have:=World.cell?_spot z0
   simpa [Addr.add] using this
  subst hspot
  have ea:∀ j,(⟨b,off,none⟩:Addr).add j=⟨b,off+j,none⟩:=fun j=>by unfold Addr.add;split<;>simp_all
  rw[ea] at z0
  refine⟨hP,b,off,rfl,World.block_lt_of_cell? W _ z0,fun j v hj=>?_⟩
  have:=hc j v hj
  rw[ea] at this
  rw[<- this]
  congr 2
  omega
theorem J2g {fuel:Nat} {cs:List Value} {x:DataW H×List MemPlace} (h:DataW.trod enc Tryz.prog W base sp JX fuel 36 cs=some x) :
  ∃ c:Cl,cs=[.int .i64 c.q,.int .i64 c.a,.int .i64 c.w,.int .i64 c.A,.int .i64 c.B,.int .i64 c.C]/\VC c.q/\VC c.a/\VC c.w/\VC c.A/\VC c.B/\VC c.C:=by
 obtain⟨xs,m,_,_,hl,hlen,hf⟩:=DataW.trod_struct Tryz.underlying36 h
 have c2:Tryz.prog.cellsOf 36 = 6:=by kernel_rfl
 have ci:Tryz.prog.cellsOf 3 = 1:=by kernel_rfl
 rw[c2] at hl
 match cs,hl with
 | [c0,c1,c2,c3,c4,c5],_ =>
  have h2:xs.length=6:=hlen
  match xs,h2 with
  | [x0,x1,x2,x3,x4,x5],_ =>
   have e0:DataW.trod enc Tryz.prog W base sp JX m 3 (([c0,c1,c2,c3,c4,c5].drop 0).take (Tryz.prog.cellsOf 3))=some x0:=hf 0 _ rfl
   have e1:DataW.trod enc Tryz.prog W base sp JX m 3 (([c0,c1,c2,c3,c4,c5].drop 1).take (Tryz.prog.cellsOf 3))=some x1:=hf 1 _ rfl
   have e2:DataW.trod enc Tryz.prog W base sp JX m 3 (([c0,c1,c2,c3,c4,c5].drop 2).take (Tryz.prog.cellsOf 3))=some x2:=hf 2 _ rfl
   have e3:DataW.trod enc Tryz.prog W base sp JX m 3 (([c0,c1,c2,c3,c4,c5].drop 3).take (Tryz.prog.cellsOf 3))=some x3:=hf 3 _ rfl
   have e4:DataW.trod enc Tryz.prog W base sp JX m 3 (([c0,c1,c2,c3,c4,c5].drop 4).take (Tryz.prog.cellsOf 3))=some x4:=hf 4 _ rfl
   have e5:DataW.trod enc Tryz.prog W base sp JX m 3 (([c0,c1,c2,c3,c4,c5].drop 5).take (Tryz.prog.cellsOf 3))=some x5:=hf 5 _ rfl
   rw[ci] at e0 e1 e2 e3 e4 e5
   obtain⟨k0,q0,g0⟩:=J1b (show DataW.trod enc Tryz.prog W base sp JX m 3 [c0]=some x0 from e0)
   obtain⟨k1,q1,g1⟩:=J1b (show DataW.trod enc Tryz.prog W base sp JX m 3 [c1]=some x1 from e1)
   obtain⟨k2,q2,g2⟩:=J1b (show DataW.trod enc Tryz.prog W base sp JX m 3 [c2]=some x2 from e2)
   obtain⟨k3,q3,g3⟩:=J1b (show DataW.trod enc Tryz.prog W base sp JX m 3 [c3]=some x3 from e3)
   obtain⟨k4,q4,g4⟩:=J1b (show DataW.trod enc Tryz.prog W base sp JX m 3 [c4]=some x4 from e4)
   obtain⟨k5,q5,g5⟩:=J1b (show DataW.trod enc Tryz.prog W base sp JX m 3 [c5]=some x5 from e5)
   simp only[List.cons.injEq,and_true] at q0 q1 q2 q3 q4 q5
   subst q0 q1 q2 q3 q4 q5
   exact⟨⟨k0,k1,k2,k3,k4,k5⟩,rfl,g0,g1,g2,g3,g4,g5⟩
theorem J2p {fuel:Nat} {cs:List Value} {x:DataW H×List MemPlace} (h:DataW.trod enc Tryz.prog W base sp JX fuel 38 cs=some x):∃ x:Ox,cs=cX x/\OxI x:=by
 obtain⟨xs,m,_,_,hl,hlen,hf⟩:=DataW.trod_struct Tryz.underlying38 h
 have c2:Tryz.prog.cellsOf 38 = 8:=by kernel_rfl
 have ci:Tryz.prog.cellsOf 3 = 1:=by kernel_rfl
 have cc:Tryz.prog.cellsOf 36 = 6:=by kernel_rfl
 rw[c2] at hl
 match cs,hl with
 | [c0,c1,c2,c3,c4,c5,c6,c7],_ =>
  have h2:xs.length=3:=hlen
  match xs,h2 with
  | [x0,x1,x2],_ =>
   have e0:DataW.trod enc Tryz.prog W base sp JX m 3 (([c0,c1,c2,c3,c4,c5,c6,c7].drop 0).take (Tryz.prog.cellsOf 3))=some x0:=hf 0 _ rfl
   have e1:DataW.trod enc Tryz.prog W base sp JX m 3 (([c0,c1,c2,c3,c4,c5,c6,c7].drop 1).take (Tryz.prog.cellsOf 3))=some x1:=hf 1 _ rfl
   have e2:DataW.trod enc Tryz.prog W base sp JX m 36 (([c0,c1,c2,c3,c4,c5,c6,c7].drop 2).take (Tryz.prog.cellsOf 36))=some x2:=hf 2 _ rfl
   rw[ci] at e0 e1
   rw[cc] at e2
   obtain⟨k0,q0,g0⟩:=J1b (show DataW.trod enc Tryz.prog W base sp JX m 3 [c0]=some x0 from e0)
   obtain⟨k1,q1,g1⟩:=J1b (show DataW.trod enc Tryz.prog W base sp JX m 3 [c1]=some x1 from e1)
   obtain⟨c,q2,g2⟩:=J2g (show DataW.trod enc Tryz.prog W base sp JX m 36 [c2,c3,c4,c5,c6,c7]=some x2 from e2)
   simp only[List.cons.injEq,and_true] at q0 q1 q2
   obtain⟨rfl,rfl,rfl,rfl,rfl,rfl⟩:=q2
   subst q0 q1
   exact⟨⟨k0,k1,c⟩,rfl,g0,g1,g2⟩
theorem J2k (hv:Value.okWide Tryz.prog W r b0 25 v) (h:DataW.Trod enc Tryz.prog W 0 (fun _=>true) JX 25 v d p) :
  ∃ (ao:Option Addr) (X:List Ox) (cap:Nat),v=.slice ao X.length cap/\Oxs W ao X/\X.length<=9223372036854775807:=
 J3d (k:=8) (by omega) cX (fun _=>rfl) OxI ⟨0,0,⟨0,0,0,0,0,0⟩⟩ 25 38 Tryz.underlying25 (by kernel_rfl) (fun _ _ _ h=>J2p h) hv h
theorem J13 {fuel:Nat} {cs:List Value} {x:DataW H×List MemPlace} (h:DataW.trod enc Tryz.prog W 0 (fun _=>true) JX fuel 24 cs=some x) :
  ∃ (a b c:Int) (ao:Option Addr) (L:List Int) (cap:Nat),cs=[.int .i64 a,.int .i64 b,.int .i64 c,.slice ao L.length cap]/\VC a/\VC b/\VC c/\Ints W ao L/\L.length<=9223372036854775807:=by
 obtain⟨xs,m,_,_,hl,hlen,hf⟩:=DataW.trod_struct Tryz.underlying24 h
 have c2:Tryz.prog.cellsOf 24 = 4:=by kernel_rfl
 have ci:Tryz.prog.cellsOf 3 = 1:=by kernel_rfl
 have cy:Tryz.prog.cellsOf 22 = 1:=by kernel_rfl
 rw[c2] at hl
 match cs,hl with
 | [c0,c1,c2,c3],_ =>
  have h2:xs.length=4:=hlen
  match xs,h2 with
  | [x0,x1,x2,x3],_ =>
   have e0:DataW.trod enc Tryz.prog W 0 (fun _=>true) JX m 3 (([c0,c1,c2,c3].drop 0).take (Tryz.prog.cellsOf 3))=some x0:=hf 0 _ rfl
   have e1:DataW.trod enc Tryz.prog W 0 (fun _=>true) JX m 3 (([c0,c1,c2,c3].drop 1).take (Tryz.prog.cellsOf 3))=some x1:=hf 1 _ rfl
   have e2:DataW.trod enc Tryz.prog W 0 (fun _=>true) JX m 3 (([c0,c1,c2,c3].drop 2).take (Tryz.prog.cellsOf 3))=some x2:=hf 2 _ rfl
   have e3:DataW.trod enc Tryz.prog W 0 (fun _=>true) JX m 22 (([c0,c1,c2,c3].drop 3).take (Tryz.prog.cellsOf 22))=some x3:=hf 3 _ rfl
   rw[ci] at e0 e1 e2
   rw[cy] at e3
   obtain⟨k0,q0,g0⟩:=J1b (show DataW.trod enc Tryz.prog W 0 (fun _=>true) JX m 3 [c0]=some x0 from e0)
   obtain⟨k1,q1,g1⟩:=J1b (show DataW.trod enc Tryz.prog W 0 (fun _=>true) JX m 3 [c1]=some x1 from e1)
   obtain⟨k2,q2,g2⟩:=J1b (show DataW.trod enc Tryz.prog W 0 (fun _=>true) JX m 3 [c2]=some x2 from e2)
   obtain⟨ao,L,cap,rfl,hL,lL⟩:=J3j (k:=1) (by omega) (fun x:Int=>[.int .i64 x]) (fun _=>rfl) VC 0 22 3 Tryz.underlying22 (by kernel_rfl) (fun _ _ _ h=>J1b h) (show DataW.trod enc Tryz.prog W 0 (fun _=>true) JX m 22 [c3]=some x3 from e3)
   simp only[List.cons.injEq,and_true] at q0 q1 q2
   subst q0 q1 q2
   exact⟨k0,k1,k2,ao,L,cap,rfl,g0,g1,g2,hL,lL⟩
theorem J2a (hv:Value.okWide Tryz.prog W r b0 24 v) (h:DataW.Trod enc Tryz.prog W 0 (fun _=>true) JX 24 v d p) :
  ∃ (a b c:Int) (ao:Option Addr) (L:List Int) (cap:Nat),v=.agg #[.int .i64 a,.int .i64 b,.int .i64 c,.slice ao L.length cap]/\VC a/\VC b/\VC c/\Ints W ao L/\L.length<=9223372036854775807:=by
 obtain⟨cs,rfl,_⟩:=okWide_struct Tryz.underlying24 hv
 obtain⟨fuel,hf⟩:=h
 obtain⟨a,b,c,ao,L,cap,e,q⟩:=J13 hf
 refine⟨a,b,c,ao,L,cap,?_,q⟩
 have:cs.toList=[.int .i64 a,.int .i64 b,.int .i64 c,.slice ao L.length cap]:=by simpa [Value.cells] using e
 rw[<- Array.toArray_toList (xs:=cs),this]
end
end
section
open Go.RowKit Go.Deep Go.Shelf
def SeeC {α:Type} (k:Nat) (enc:α->List Value) (W:World) (ao:Option Addr) (A:List α):Prop:=∀ i x,A[i]? = some x->∃ g,ao=some ⟨g,0,none⟩/\∀ j c,(enc x)[j]? = some c->W.cell? ⟨g,i*k+j,none⟩=some c
theorem SeeC.of {α:Type} {E:El α} (ok:El.Ok E) {w0 w:World} {r n cap:Nat} {R:List Th} {ao:Option Addr} {A:List α} (s:Sep w0 r w R) (hm:Jv E (.slice ao n cap) A∈R):SeeC E.k E.enc w ao A:=fun _ _ hk=>s.listAt ok hm hk
theorem J5g (d:Nat) (w:World) (a b a' b':Int):(Op.equalIn (d+2) 80 (.agg #[.int .i64 a,.int .i64 b]) (.agg #[.int .i64 a',.int .i64 b'])).run Tryz.prog w=.ok (decide (a=a'/\b=b')) w:=by
 have u3:=Tryz.underlying3
 have a3:=Tryz.isAgg3
 have z3:=Tryz.sizeOf3
 have hS:Tryz.prog.underlying 80 = some (.struct (Tryz.prog.fieldsOf 80)):=by kernel_rfl
 have hp:Tryz.prog.stoodInHeld 80 = false:=by kernel_rfl
 rw[run_equalIn_agg w (d+1) 80 _ _ hS hp]
 simp only[Program.fieldsOf,Tryz.underlying80]
 go_simp
 by_cases h1:a=a'<;>by_cases h2:b=b'<;>simp[h1,h2]
theorem J5f (d:Nat) (w:World) (k o r b g z k' o' r' b' g' z':Int):(Op.equalIn (d+2) 82 (.agg #[.int .i64 k,.int .i64 o,.int .i64 r,.int .u64 b,.int .u64 g,.int .i64 z]) (.agg #[.int .i64 k',.int .i64 o',.int .i64 r',.int .u64 b',.int .u64 g',.int .i64 z'])).run Tryz.prog w=.ok (decide (k=k'/\o=o'/\r=r'/\b=b'/\g=g'/\z=z')) w:=by
 have u3:=Tryz.underlying3
 have u4:=Tryz.underlying39
 have a3:=Tryz.isAgg3
 have a4:=Tryz.isAgg39
 have z3:=Tryz.sizeOf3
 have z4:=Tryz.sizeOf39
 have hS:Tryz.prog.underlying 82 = some (.struct (Tryz.prog.fieldsOf 82)):=by kernel_rfl
 have hp:Tryz.prog.stoodInHeld 82 = false:=by kernel_rfl
 rw[run_equalIn_agg w (d+1) 82 _ _ hS hp]
 simp only[Program.fieldsOf,Tryz.underlying82]
 go_simp
 by_cases h1:k=k'<;>by_cases h2:o=o'<;>by_cases h3:r=r'<;>by_cases h4:b=b'<;>by_cases h5:g=g'<;>by_cases h6:z=z'<;>simp[h1,h2,h3,h4,h5,h6]
theorem J16 (w:World) (n i k o r b g z n' i' k' o' r' b' g' z':Int):(Op.equalIn 10000 84 (.agg #[.int .i64 n,.int .i64 i,.int .i64 k,.int .i64 o,.int .i64 r,.int .u64 b,.int .u64 g,.int .i64 z]) (.agg #[.int .i64 n',.int .i64 i',.int .i64 k',.int .i64 o',.int .i64 r',.int .u64 b',.int .u64 g',.int .i64 z'])).run Tryz.prog w=.ok (decide (n=n'/\i=i') && decide (k=k'/\o=o'/\r=r'/\b=b'/\g=g'/\z=z')) w:=by
 have a1:=Tryz.isAgg80
 have a2:=Tryz.isAgg82
 have z1:=Tryz.sizeOf80
 have z2:=Tryz.sizeOf82
 have hS:Tryz.prog.underlying 84 = some (.struct (Tryz.prog.fieldsOf 84)):=by kernel_rfl
 have hp:Tryz.prog.stoodInHeld 84 = false:=by kernel_rfl
 have e1:=fun W=>J5g 9997 W n i n' i'
 have e2:=fun W=>J5f 9997 W k o r b g z k' o' r' b' g' z'
 generalize decide (n=n'/\i=i')=p at *
 generalize decide (k=k'/\o=o'/\r=r'/\b=b'/\g=g'/\z=z')=q at *
 rw[show(10000:Nat)=9999+1 from rfl,run_equalIn_agg w 9999 84 _ _ hS hp]
 simp only[Program.fieldsOf,Tryz.underlying84]
 go_simp
 cases p<;>cases q<;>rfl
theorem J15 (w:World) (x:Sl.Sl×Sl.Cp):(Op.equalIn 10000 84 (.agg #[.int .i64 x.1.n,.int .i64 x.1.i,.int .i64 x.2.k,.int .i64 x.2.o,.int .i64 x.2.r,.int .u64 x.2.b,.int .u64 x.2.g,.int .i64 x.2.z]) (.agg #[.int .i64 x.1.n,.int .i64 x.1.i,.int .i64 x.2.k,.int .i64 x.2.o,.int .i64 x.2.r,.int .u64 x.2.b,.int .u64 x.2.g,.int .i64 x.2.z])).run Tryz.prog w=.ok true w:=by
 rw[J16,decide_eq_true ⟨rfl,rfl⟩,decide_eq_true ⟨rfl,rfl,rfl,rfl,rfl,rfl⟩]
 rfl
theorem J2l (w:World) (ao ao':Option Addr) (cap cap':Nat) (A:List (Sl.Sl×Sl.Cp)) (h:SeeC 8 Sl.Vs w ao A) (h':SeeC 8 Sl.Vs w ao' A) (hl:A.length<=1000000) :
  Calls Tryz.prog 28 #[.slice ao A.length cap,.slice ao' A.length cap'] w fun e w'=>e=.returned (.bool true)/\Below w.heap.size w w':=by
 have H1:=Ja h
 have H2:=Ja h'
 clear h h'
 have hl':(A.length:Int)<=1000000:=by omega
 have hne:((A.length:Int) != (A.length:Int))=false:=by simp
 go_enter Tryz.func28,Tryz.ntmps28
 go_wp2
 go_loopw [5] (fun i wr=>∃ k j:Nat,k<=A.length/\i=.int .i64 k/\wr=w.drewN j) (fun i _=>A.length - (intOf i).toNat)
 case atStart=>exact⟨0,0,Jqp _,rfl,rfl⟩
 case round =>
  obtain⟨k,j,hk,rfl,rfl⟩:=hrel
  by_cases hlt:k<A.length
  ·obtain⟨x,hx⟩:∃ x,A[k]? = some x:=⟨_,Jqc hlt⟩
   obtain⟨g,rfl,c⟩:=H1.out k x hx
   obtain⟨g',rfl,d⟩:=H2.out k x hx
   have c0:w.cell? ⟨g,k*8,none⟩=some (.int .i64 x.1.n):=c 0 _ rfl
   have d0:w.cell? ⟨g',k*8,none⟩=some (.int .i64 x.1.n):=d 0 _ rfl
   have c1:w.cell? ⟨g,k*8+1,none⟩=some (.int .i64 x.1.i):=c 1 _ rfl
   have d1:w.cell? ⟨g',k*8+1,none⟩=some (.int .i64 x.1.i):=d 1 _ rfl
   have c2:w.cell? ⟨g,k*8+2,none⟩=some (.int .i64 x.2.k):=c 2 _ rfl
   have d2:w.cell? ⟨g',k*8+2,none⟩=some (.int .i64 x.2.k):=d 2 _ rfl
   have c3:w.cell? ⟨g,k*8+3,none⟩=some (.int .i64 x.2.o):=c 3 _ rfl
   have d3:w.cell? ⟨g',k*8+3,none⟩=some (.int .i64 x.2.o):=d 3 _ rfl
   have c4:w.cell? ⟨g,k*8+4,none⟩=some (.int .i64 x.2.r):=c 4 _ rfl
   have d4:w.cell? ⟨g',k*8+4,none⟩=some (.int .i64 x.2.r):=d 4 _ rfl
   have c5:w.cell? ⟨g,k*8+5,none⟩=some (.int .u64 x.2.b):=c 5 _ rfl
   have d5:w.cell? ⟨g',k*8+5,none⟩=some (.int .u64 x.2.b):=d 5 _ rfl
   have c6:w.cell? ⟨g,k*8+6,none⟩=some (.int .u64 x.2.g):=c 6 _ rfl
   have d6:w.cell? ⟨g',k*8+6,none⟩=some (.int .u64 x.2.g):=d 6 _ rfl
   have c7:w.cell? ⟨g,k*8+7,none⟩=some (.int .i64 x.2.z):=c 7 _ rfl
   have d7:w.cell? ⟨g',k*8+7,none⟩=some (.int .i64 x.2.z):=d 7 _ rfl
   clear c d
   have HQ:=fun W=>J15 W x
   have hlt':(k:Int)<(A.length:Int):=by omega
   have HL:Hid (k<A.length):=hlt
   clear hlt hk hx H1 H2
   generalize hAl:A.length=n at *
   have HA:Hid (A.length=n):=hAl
   clear hAl
   go_wp2
   go_quiet (fail)
   go_wp2
   go_roundw
   case rel=>exact⟨k+1,_,HL.out,by go_num,rfl⟩
   case measure=>simp[intOf];have:=HL.out;omega
  ·have hlt':¬ ((k:Int)<(A.length:Int)):=by omega
   clear hlt hk
   go_wp2
   go_ret
   exact⟨rfl,⟨rfl,rfl,rfl,Jqd _,fun _ _=>rfl⟩⟩
section
variable [dCp:DecidableEq Sl.Cp] [dLim:∀ k,Decidable (Sl.ZV k)] [dBad:∀ k,Decidable (Sl.Xn k)] [dFit:∀ g z,Decidable (Sl.Fit g z)] [dF:∀ c:Sl.Cp,Decidable (Sl.Fine c)] [dMi:∀ c v,Decidable (Sl.JK c v)] [dWho:∀ x y,Decidable (Sl.Zx x y)] [dSl:DecidableEq Sl.Sl] [dLt:∀ a b,Decidable (Sl.MC a b)]
variable [dT:DecidableEq Tr.Sl] [dL:∀ k:Int,Decidable (Ca.ZV k)] [dC:∀ c:Ca.Cp,Decidable (Ca.Fine c)] [dM:∀ (c:Ca.Cp) (v:Int),Decidable (Ca.JK c v)] [dCc:DecidableEq Ca.Cp] [dCb:∀ k,Decidable (Ca.Xn k)] [dCf:∀ g z,Decidable (Ca.Fit g z)] [dCw:∀ x y,Decidable (Ca.Zx x y)]
theorem J2v (K:Kr) (core a:Int):((doK K core ⟨4,a,0,0,0,0⟩).2.e≠0)\/doK K core ⟨4,a,0,0,0,0⟩=(V9 (JQ K core) a (Jk K a),⟨0,(Zc K a).length,-1,(goneAll (JQ K core) (Zc K a)).2⟩):=by
 unfold doK
 split
 ·rw[if_pos (show(0:Int)<=4/\(4:Int)<=17 by decide),if_neg (show ¬ (4:Int)=17 by decide)]
  split
  ·right
   unfold Ay
   rw[if_neg (show ¬ (4:Int)=0 by decide),if_neg (show ¬ (4:Int)=1 by decide),if_neg (show ¬ (4:Int)=2 by decide),if_neg (show ¬ (4:Int)=3 by decide),if_pos rfl]
   rfl
  ·left
   show(181:Int)≠0
   decide
 ·left
  show(182:Int)≠0
  decide
theorem J28 {K:Kr} (t:Ts K.S K.E) (core a:Int):((doK K core ⟨4,a,0,0,0,0⟩).2.e≠0/\Sl.JX (doK K core ⟨4,a,0,0,0,0⟩).1.S=Sl.JX K.S)\/((doK K core ⟨4,a,0,0,0,0⟩).2.e=0/\∃ (p:Sl.Sl×Sl.Cp->Bool) (g:Nat),Sl.JX (doK K core ⟨4,a,0,0,0,0⟩).1.S=(Sl.JX K.S).filter p/\((Sl.JX K.S).filter p).length+g=(Sl.JX K.S).length/\(doK K core ⟨4,a,0,0,0,0⟩).2.w=(g:Int)/\Zc (doK K core ⟨4,a,0,0,0,0⟩).1 a=[]):=by
 by_cases he:(doK K core ⟨4,a,0,0,0,0⟩).2.e≠0
 ·left
  refine⟨he,?_⟩
  rw[(J5e he).1.S]
 ·right
  rcases J2v K core a with h|h
  ·exact absurd h he
  ·have t':Ts (JQ K core).S (JQ K core).E:=t
   obtain⟨r1,r2,-,r4⟩:=J4z t' a (Jk K a)
   rw[h]
   refine⟨rfl,(fun y=>(Zc K a).all fun i => !decide (y.1=sl i)),(Zc K a).length,r1,?_,rfl,r4⟩
   have e1:(Sl.JX (V9 (JQ K core) a (Jk K a)).S).length=((Sl.JX K.S).filter fun y=>(Zc K a).all fun i => !decide (y.1=sl i)).length:=congrArg List.length r1
   rw[<- e1]
   exact r2
theorem J3y {K:Kr} (core a:Int) (h:Zc K a=[]):(doK K core ⟨4,a,0,0,0,0⟩).2.e≠0\/((doK K core ⟨4,a,0,0,0,0⟩).2.e=0/\(doK K core ⟨4,a,0,0,0,0⟩).2.w=0):=by
 rcases J2v K core a with h1|h1
 ·exact .inl h1
 ·right
  rw[h1,h]
  exact⟨rfl,rfl⟩
end
end
end Go.Proofs.YtbfjjpdnoalojaaGreatDoor
