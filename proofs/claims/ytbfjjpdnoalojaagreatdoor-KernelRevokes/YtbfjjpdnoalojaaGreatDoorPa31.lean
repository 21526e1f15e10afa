/- Below: KH10 KH11 KDo1 KDo4 KDo5 KBo1 KBo2; no condition. -/
import Derived.Test.YtbfjjpdnoalojaaGreatDoorPa29
import Derived.Test.YtbfjjpdnoalojaaGreatDoorPa30
set_option maxHeartbeats 16000000
set_option maxRecDepth 100000
namespace Go.Proofs.YtbfjjpdnoalojaaGreatDoor
section
open Go.RowKit Go.Deep Go.Shelf
open Classical
section
variable {w0 w w':World} {r p:Nat} {Y:Ly} {K:Kr} {R:List Th}
theorem Jj1 (s:Sep w0 r w (kT p Y K::R)) (h6:(K.S.getD 0 []).length=64) {n:Int} (hn:VC n) {E:Int} (hE:J4 K n 1=E) :
  Calls Tryz.prog 221 #[Je p,.int .i64 n,.int .i64 1] w fun e w'=>∃ ao len cap,e=.returned (.tuple #[.slice ao len cap,.int .i64 E])/\∃ L,(E=0->len=1/\L=[⟨0,n⟩])/\Sep w0 r w' (kT p Y K::Jv Vr (.slice ao len cap) L::R):=by
 subst hE
 refine Jqa (Jam (m:=1) s h6 (by decide) (by decide) hn) ?_
 rintro e w' ⟨v,rfl,L,hL,h⟩
 obtain⟨ao,cap,rfl⟩:=h.listIs (E:=Vr) (v:=v) (A:=L) (by simp)
 refine⟨ao,L.length,cap,rfl,L,fun e=>?_,h⟩
 obtain rfl:=hL e
 exact⟨rfl,by simp[ZN]⟩
theorem Jo2 (s:Sep w0 r w (kT p Y K::R)) (d:De) (hk:d.x.k=1) :
  Calls Tryz.prog 126 #[Je p,JD d] w fun e w'=>e=.returned (Jf 181 0 (-1) (.slice none 0 0))/\KS w0 r w' p K R:=by
 have S1:=Ja (s.deed d)
 obtain⟨w1,hw⟩:∃ w1,(w.alloc (Jp d)).alloc (Ji 0 0 0 (.slice none 0 0))=w1:=⟨_,rfl⟩
 rw[hw] at S1
 have HW:=Ja hw
 unfold Jp Ji at HW
 clear s hw
 have hq:(d.x.k == 1)=true:=by simpa using hk
 have hq2:decide (d.x.k=1)=true:=by simpa using hk
 clear hk
 unfold JD
 have dc10:w1.cell? ⟨w.heap.size,10,none⟩=some (.int .i64 d.x.k):=(S1.out.blkCell (p:=w.heap.size) (Jmc (Jmc (Jms))) 10).1
 go_enter Tryz.func126,Tryz.ntmps126
 go_wp2_with (first|rw[HW.out]|(go_at_call 60;refine Jqa (JI _ _) ?_;rintro e w9 ⟨rfl,b9⟩;have s9:=(S1.out.below b9);obtain⟨t0,t1,t2,t3,f0,f1,f2,f3⟩:=s9.swap.cells4 (Jms);have s10:=s9.swap.put4 181 0 (-1) (.slice none 0 0);have S10:=Ja s10;clear s9 s10;simp only[Jf])|fail)
 obtain⟨g0,g1,g2,g3,-⟩:=S10.out.cells4 (Jms)
 have G10:=Ja (And.intro (And.intro g0 g1) (And.intro g2 g3))
 clear g0 g1 g2 g3
 go_wp2
 refine bodyPost_ret (v:=Jf 181 0 (-1) (.slice none 0 0)) ?_ rfl ⟨rfl,_,S10.out.drop.drop2⟩
 simp[results,Tryz.f126,go_sem,Jf,G10.out.1.1,G10.out.1.2,G10.out.2.1,G10.out.2.2]
theorem Jhb (s:Sep w0 r w (kT p Y K::R)) (d:De) (hk:¬ d.x.k=1) (h6:(K.S.getD 0 []).length=64) (hn:VC d.c.w) (he:¬ J4 K d.c.w 1=0) :
  Calls Tryz.prog 126 #[Je p,JD d] w fun e w'=>e=.returned (Jf (J4 K d.c.w 1) 0 (-1) (.slice none 0 0))/\KS w0 r w' p K R:=by
 have S1:=Ja (s.deed d)
 obtain⟨w1,hw⟩:∃ w1,(w.alloc (Jp d)).alloc (Ji 0 0 0 (.slice none 0 0))=w1:=⟨_,rfl⟩
 rw[hw] at S1
 have HW:=Ja hw
 unfold Jp Ji at HW
 clear s hw
 have hq:(d.x.k == 1)=false:=by simpa using hk
 have hq2:decide (d.x.k=1)=false:=by simpa using hk
 clear hk
 obtain⟨FE,hfe⟩:∃ FE,J4 K d.c.w 1=FE:=⟨_,rfl⟩
 have HFE:=Ja hfe
 have HA:=Ja (And.intro h6 hn)
 clear h6 hn
 rw[hfe] at he ⊢
 have he2:(FE == 0)=false:=by simpa using he
 have he3:(FE != 0)=true:=by simpa using he
 clear he hfe
 unfold JD
 have dc10:w1.cell? ⟨w.heap.size,10,none⟩=some (.int .i64 d.x.k):=(S1.out.blkCell (p:=w.heap.size) (Jmc (Jmc (Jms))) 10).1
 have dc2:w1.cell? ⟨w.heap.size,2,none⟩=some (.int .i64 d.c.w):=(S1.out.blkCell (p:=w.heap.size) (Jmc (Jmc (Jms))) 2).1
 go_enter Tryz.func126,Tryz.ntmps126
 go_wp2_with (first|rw[HW.out]|(go_at_call 221;refine Jqa (Jj1 S1.out HA.out.1 HA.out.2 HFE.out) ?_;rintro e w2 ⟨ao,len,cap,rfl,L,hL,s2⟩;have S2:=Ja (s2.swap.to4);have HLL:=Ja hL;clear s2 hL;clear dc2 dc10)|(go_at_call 60;refine Jqa (JI _ _) ?_;rintro e w9 ⟨rfl,b9⟩;have s9:=(S2.out.below b9);obtain⟨t0,t1,t2,t3,f0,f1,f2,f3⟩:=s9.swap.cells4 (Jms);have s10:=s9.swap.put4 FE 0 (-1) (.slice none 0 0);have S10:=Ja s10;clear s9 s10;simp only[Jf])|fail)
 obtain⟨g0,g1,g2,g3,-⟩:=S10.out.cells4 (Jms)
 have G10:=Ja (And.intro (And.intro g0 g1) (And.intro g2 g3))
 clear g0 g1 g2 g3
 go_wp2
 refine bodyPost_ret (v:=Jf FE 0 (-1) (.slice none 0 0)) ?_ rfl ⟨rfl,_,S10.out.drop.drop2.drop2⟩
 simp[results,Tryz.f126,go_sem,Jf,G10.out.1.1,G10.out.1.2,G10.out.2.1,G10.out.2.2]
theorem Jk9 (s:Sep w0 r w (kT p Y K::R)) (d:De) (hk:¬ d.x.k=1) (h6:(K.S.getD 0 []).length=64) (hn:VC d.c.w) (hx:(Xf d.x).Fits) (he:J4 K d.c.w 1=0) (hm:¬ (Ca.Zb (Xf d.x) d.c.A (VI d.c.B))=0) :
  Calls Tryz.prog 126 #[Je p,JD d] w fun e w'=>e=.returned (Jf (Ca.Zb (Xf d.x) d.c.A (VI d.c.B)) 0 (-1) (.slice none 0 0))/\KS w0 r w' p K R:=by
 have S1:=Ja (s.deed d)
 obtain⟨w1,hw⟩:∃ w1,(w.alloc (Jp d)).alloc (Ji 0 0 0 (.slice none 0 0))=w1:=⟨_,rfl⟩
 rw[hw] at S1
 have HW:=Ja hw
 unfold Jp Ji at HW
 clear s hw
 have hq:(d.x.k == 1)=false:=by simpa using hk
 have hq2:decide (d.x.k=1)=false:=by simpa using hk
 clear hk
 obtain⟨FE,hfe⟩:∃ FE,J4 K d.c.w 1=FE:=⟨_,rfl⟩
 have HFE:=Ja hfe
 have HA:=Ja (And.intro h6 hn)
 clear h6 hn
 rw[hfe] at he
 subst he
 obtain⟨u,hu⟩:∃ u,VI d.c.B=u:=⟨_,rfl⟩
 have hu2:IntKind.u64.wrap d.c.B=u:=by rw[IntKind.wrap_u64];exact hu
 obtain⟨ME,hme⟩:∃ ME,Ca.Zb (Xf d.x) d.c.A u=ME:=⟨_,rfl⟩
 obtain⟨x,hmr⟩:∃ x,EP (Ca.Vx (Xf d.x) d.c.A u)=x:=⟨_,rfl⟩
 have hmk:∀ W:World,Calls Tryz.prog 225 #[.agg #[.int .i64 d.x.k,.int .i64 d.x.o,.int .i64 d.x.r,.int .u64 d.x.b,.int .u64 d.x.g,.int .i64 d.x.z],.int .i64 d.c.A,.int .u64 u] W fun e w'=>e=.returned (.tuple #[.agg #[.int .i64 x.k,.int .i64 x.o,.int .i64 x.r,.int .u64 x.b,.int .u64 x.g,.int .i64 x.z],.int .i64 ME])/\Below W.heap.size W w':=fun W=>by
  subst hmr hme
  exact Ca.Jbn (Xf d.x) d.c.A u W hx
 have HMK:=Ja hmk
 clear hmk
 rw[hu,hme] at hm ⊢
 have hm2:(ME == 0)=false:=by simpa using hm
 have hm3:(ME != 0)=true:=by simpa using hm
 clear hfe hx hu hme hmr hm
 unfold JD
 have dc10:w1.cell? ⟨w.heap.size,10,none⟩=some (.int .i64 d.x.k):=(S1.out.blkCell (p:=w.heap.size) (Jmc (Jmc (Jms))) 10).1
 have dc2:w1.cell? ⟨w.heap.size,2,none⟩=some (.int .i64 d.c.w):=(S1.out.blkCell (p:=w.heap.size) (Jmc (Jmc (Jms))) 2).1
 go_enter Tryz.func126,Tryz.ntmps126
 go_wp2_with (first|rw[HW.out]|(go_at_call 221;refine Jqa (Jj1 S1.out HA.out.1 HA.out.2 HFE.out) ?_;rintro e w2 ⟨ao,len,cap,rfl,L,hL,s2⟩;have S2:=Ja (s2.swap.to4);have HLL:=Ja hL;clear s2 hL;clear dc2 dc10;have dd3:w2.cell? ⟨w.heap.size,3,none⟩=some (.int .i64 d.c.A):=(S2.out.blkCell (p:=w.heap.size) (Jmc (Jmc (Jms))) 3).1;have dd4:w2.cell? ⟨w.heap.size,4,none⟩=some (.int .i64 d.c.B):=(S2.out.blkCell (p:=w.heap.size) (Jmc (Jmc (Jms))) 4).1;have dd10:w2.cell? ⟨w.heap.size,10,none⟩=some (.int .i64 d.x.k):=(S2.out.blkCell (p:=w.heap.size) (Jmc (Jmc (Jms))) 10).1;have dd11:w2.cell? ⟨w.heap.size,11,none⟩=some (.int .i64 d.x.o):=(S2.out.blkCell (p:=w.heap.size) (Jmc (Jmc (Jms))) 11).1;have dd12:w2.cell? ⟨w.heap.size,12,none⟩=some (.int .i64 d.x.r):=(S2.out.blkCell (p:=w.heap.size) (Jmc (Jmc (Jms))) 12).1;have dd13:w2.cell? ⟨w.heap.size,13,none⟩=some (.int .u64 d.x.b):=(S2.out.blkCell (p:=w.heap.size) (Jmc (Jmc (Jms))) 13).1;have dd14:w2.cell? ⟨w.heap.size,14,none⟩=some (.int .u64 d.x.g):=(S2.out.blkCell (p:=w.heap.size) (Jmc (Jmc (Jms))) 14).1;have dd15:w2.cell? ⟨w.heap.size,15,none⟩=some (.int .i64 d.x.z):=(S2.out.blkCell (p:=w.heap.size) (Jmc (Jmc (Jms))) 15).1)|(go_at_call 225;refine Jqa (HMK.out _) ?_;rintro e w3 ⟨rfl,b3⟩;have S3:=Ja (((S2.out.below b3).box (.cells #[.int .i64 x.k,.int .i64 x.o,.int .i64 x.r,.int .u64 x.b,.int .u64 x.g,.int .i64 x.z] 82)).to4);clear b3 dd3 dd4 dd10 dd11 dd12 dd13 dd14 dd15)|(go_at_call 60;refine Jqa (JI _ _) ?_;rintro e w9 ⟨rfl,b9⟩;have s9:=(S3.out.below b9);obtain⟨t0,t1,t2,t3,f0,f1,f2,f3⟩:=s9.swap.cells4 (Jms);have s10:=s9.swap.put4 ME 0 (-1) (.slice none 0 0);have S10:=Ja s10;clear s9 s10;simp only[Jf])|fail)
 obtain⟨g0,g1,g2,g3,-⟩:=S10.out.cells4 (Jms)
 have G10:=Ja (And.intro (And.intro g0 g1) (And.intro g2 g3))
 clear g0 g1 g2 g3
 go_wp2
 refine bodyPost_ret (v:=Jf ME 0 (-1) (.slice none 0 0)) ?_ rfl ⟨rfl,_,S10.out.drop.drop2.drop2.drop2⟩
 simp[results,Tryz.f126,go_sem,Jf,G10.out.1.1,G10.out.1.2,G10.out.2.1,G10.out.2.2]
theorem Jo1 (s:Sep w0 r w (kT p Y K::R)) (d:De) (hk:¬ d.x.k=1) (h6:(K.S.getD 0 []).length=64) (hn:VC d.c.w) (hx:(Xf d.x).Fits) (he:J4 K d.c.w 1=0) (hm:(Ca.Zb (Xf d.x) d.c.A (VI d.c.B))=0) (hl:K.E.length<=1000) (ha:0<=d.f/\d.f<=63) (hw2:0<=d.c.w/\d.c.w<=63) (hf:(EP (Ca.Vx (Xf d.x) d.c.A (VI d.c.B))).Fits) :
  Calls Tryz.prog 126 #[Je p,JD d] w fun e w'=>e=.returned (Jf 0 0 (-1) (.slice none 0 0))/\KS w0 r w' p (Id K d.f d.c.w (EP (Ca.Vx (Xf d.x) d.c.A (VI d.c.B)))) R:=by
 have S1:=Ja (s.deed d)
 obtain⟨w1,hw⟩:∃ w1,(w.alloc (Jp d)).alloc (Ji 0 0 0 (.slice none 0 0))=w1:=⟨_,rfl⟩
 rw[hw] at S1
 have HW:=Ja hw
 unfold Jp Ji at HW
 clear s hw
 have hq:(d.x.k == 1)=false:=by simpa using hk
 have hq2:decide (d.x.k=1)=false:=by simpa using hk
 clear hk
 obtain⟨FE,hfe⟩:∃ FE,J4 K d.c.w 1=FE:=⟨_,rfl⟩
 have HFE:=Ja hfe
 have HA:=Ja (And.intro h6 hn)
 clear h6 hn
 rw[hfe] at he
 subst he
 obtain⟨u,hu⟩:∃ u,VI d.c.B=u:=⟨_,rfl⟩
 have hu2:IntKind.u64.wrap d.c.B=u:=by rw[IntKind.wrap_u64];exact hu
 obtain⟨ME,hme⟩:∃ ME,Ca.Zb (Xf d.x) d.c.A u=ME:=⟨_,rfl⟩
 obtain⟨x,hmr⟩:∃ x,EP (Ca.Vx (Xf d.x) d.c.A u)=x:=⟨_,rfl⟩
 have hmk:∀ W:World,Calls Tryz.prog 225 #[.agg #[.int .i64 d.x.k,.int .i64 d.x.o,.int .i64 d.x.r,.int .u64 d.x.b,.int .u64 d.x.g,.int .i64 d.x.z],.int .i64 d.c.A,.int .u64 u] W fun e w'=>e=.returned (.tuple #[.agg #[.int .i64 x.k,.int .i64 x.o,.int .i64 x.r,.int .u64 x.b,.int .u64 x.g,.int .i64 x.z],.int .i64 ME])/\Below W.heap.size W w':=fun W=>by
  subst hmr hme
  exact Ca.Jbn (Xf d.x) d.c.A u W hx
 have HMK:=Ja hmk
 clear hmk
 rw[hu,hme] at hm
 rw[hu,hmr] at hf ⊢
 subst hm
 have HZ:=Ja (And.intro (And.intro hl ha) (And.intro hw2 hf))
 clear hfe hx hu hme hmr hl ha hw2 hf
 unfold JD
 have dc10:w1.cell? ⟨w.heap.size,10,none⟩=some (.int .i64 d.x.k):=(S1.out.blkCell (p:=w.heap.size) (Jmc (Jmc (Jms))) 10).1
 have dc2:w1.cell? ⟨w.heap.size,2,none⟩=some (.int .i64 d.c.w):=(S1.out.blkCell (p:=w.heap.size) (Jmc (Jmc (Jms))) 2).1
 go_enter Tryz.func126,Tryz.ntmps126
 go_wp2_with (first|rw[HW.out]|(go_at_call 221;refine Jqa (Jj1 S1.out HA.out.1 HA.out.2 HFE.out) ?_;rintro e w2 ⟨ao,len,cap,rfl,L,hL,s2⟩;have S2:=Ja (s2.swap.to4);have HLL:=Ja hL;clear s2 hL;clear dc2 dc10;have dd3:w2.cell? ⟨w.heap.size,3,none⟩=some (.int .i64 d.c.A):=(S2.out.blkCell (p:=w.heap.size) (Jmc (Jmc (Jms))) 3).1;have dd4:w2.cell? ⟨w.heap.size,4,none⟩=some (.int .i64 d.c.B):=(S2.out.blkCell (p:=w.heap.size) (Jmc (Jmc (Jms))) 4).1;have dd10:w2.cell? ⟨w.heap.size,10,none⟩=some (.int .i64 d.x.k):=(S2.out.blkCell (p:=w.heap.size) (Jmc (Jmc (Jms))) 10).1;have dd11:w2.cell? ⟨w.heap.size,11,none⟩=some (.int .i64 d.x.o):=(S2.out.blkCell (p:=w.heap.size) (Jmc (Jmc (Jms))) 11).1;have dd12:w2.cell? ⟨w.heap.size,12,none⟩=some (.int .i64 d.x.r):=(S2.out.blkCell (p:=w.heap.size) (Jmc (Jmc (Jms))) 12).1;have dd13:w2.cell? ⟨w.heap.size,13,none⟩=some (.int .u64 d.x.b):=(S2.out.blkCell (p:=w.heap.size) (Jmc (Jmc (Jms))) 13).1;have dd14:w2.cell? ⟨w.heap.size,14,none⟩=some (.int .u64 d.x.g):=(S2.out.blkCell (p:=w.heap.size) (Jmc (Jmc (Jms))) 14).1;have dd15:w2.cell? ⟨w.heap.size,15,none⟩=some (.int .i64 d.x.z):=(S2.out.blkCell (p:=w.heap.size) (Jmc (Jmc (Jms))) 15).1)|(go_at_call 225;refine Jqa (HMK.out _) ?_;rintro e w3 ⟨rfl,b3⟩;have S3:=Ja (((S2.out.below b3).box (.cells #[.int .i64 x.k,.int .i64 x.o,.int .i64 x.r,.int .u64 x.b,.int .u64 x.g,.int .i64 x.z] 82)).to4);clear b3 dd3 dd4 dd10 dd11 dd12 dd13 dd14 dd15)|fail)
 obtain⟨hl1,hl2⟩:=HLL.out (by simp)
 subst hl1
 subst hl2
 obtain⟨g,rfl,hgc⟩:=S3.out.listAt Jli (ao:=ao) (n:=1) (cap:=cap) (A:=[⟨0,d.c.w⟩]) (by simp) (k:=0) (x:=⟨0,d.c.w⟩) rfl
 clear hgc HLL
 generalize w.heap.size+1=q2 at *
 generalize w.heap.size=q at *
 obtain⟨w4,hw4⟩:∃ w4,w3.alloc (.cells #[.int .i64 x.k,.int .i64 x.o,.int .i64 x.r,.int .u64 x.b,.int .u64 x.g,.int .i64 x.z] 82)=w4:=⟨_,rfl⟩
 rw[hw4] at S3
 try rw[hw4]
 clear hw4
 generalize w3.heap.size=k at *
 have HS:Hid (∀ (W:World) (Y':Ly) (K':Kr) (o:Obj),Sep w0 r W (kT p Y' K'::blk q2 o::blk q (Jp d)::blk k (.cells #[.int .i64 x.k,.int .i64 x.o,.int .i64 x.r,.int .u64 x.b,.int .u64 x.g,.int .i64 x.z] 82)::Jv Vr (.slice (some ⟨g,0,none⟩) 1 cap) [⟨0,d.c.w⟩]::R)->W.cell? ⟨q,8,none⟩=some (.int .i64 0)/\W.cell? ⟨q,9,none⟩=some (.int .i64 d.f)/\W.cell? ⟨g,0,none⟩=some (.int .i64 0)/\W.cell? ⟨g,1,none⟩=some (.int .i64 d.c.w)/\W.cell? ⟨k,0,none⟩=some (.int .i64 x.k)/\W.cell? ⟨k,1,none⟩=some (.int .i64 x.o)/\W.cell? ⟨k,2,none⟩=some (.int .i64 x.r)/\W.cell? ⟨k,3,none⟩=some (.int .u64 x.b)/\W.cell? ⟨k,4,none⟩=some (.int .u64 x.g)/\W.cell? ⟨k,5,none⟩=some (.int .i64 x.z)):=fun W Y' K' o s=>by
  have cq:=fun j=>(s.blkCell (p:=q) (Jmc (Jmc (Jms))) j).1
  have ck:=fun j=>(s.blkCell (p:=k) (Jmc (Jmc (Jmc (Jms)))) j).1
  obtain⟨g',eg,hgc⟩:=s.listAt Jli (ao:=some ⟨g,0,none⟩) (n:=1) (cap:=cap) (A:=[⟨0,d.c.w⟩]) (by simp) (k:=0) (x:=⟨0,d.c.w⟩) rfl
  cases eg
  have c0:=hgc 0 (.int .i64 0) rfl
  have c1:=hgc 1 (.int .i64 d.c.w) rfl
  rw[Nat.zero_mul,Nat.zero_add] at c0 c1
  exact⟨cq 8,cq 9,c0,c1,ck 0,ck 1,ck 2,ck 3,ck 4,ck 5⟩
 have hS:=HS.out _ _ _ _ S3.out.drew
 have HC:=Ja (Ja2 S3.out.drew HZ.out.1.1 x HZ.out.1.2 HZ.out.2.1 HZ.out.2.2)
 go_region_held3 (fun W=>W.cell? ⟨q,8,none⟩=some (.int .i64 0)/\W.cell? ⟨q,9,none⟩=some (.int .i64 d.f)/\W.cell? ⟨g,0,none⟩=some (.int .i64 0)/\W.cell? ⟨g,1,none⟩=some (.int .i64 d.c.w)/\W.cell? ⟨k,0,none⟩=some (.int .i64 x.k)/\W.cell? ⟨k,1,none⟩=some (.int .i64 x.o)/\W.cell? ⟨k,2,none⟩=some (.int .i64 x.r)/\W.cell? ⟨k,3,none⟩=some (.int .u64 x.b)/\W.cell? ⟨k,4,none⟩=some (.int .u64 x.g)/\W.cell? ⟨k,5,none⟩=some (.int .i64 x.z)) (first|with_reducible assumption|with_reducible exact hS) (first|(go_at_call 223;refine Jqa HC.out ?_;rintro e w5 ⟨rfl,Y5,s5⟩;have hS5:=HS.out _ _ _ _ s5;have S5:=Ja s5;clear s5))
 clear hS hS5 HS
 go_wp2_with (first|(go_at_call 60;refine Jqa (JI _ _) ?_;rintro e w9 ⟨rfl,b9⟩;have s9:=(S5.out.below b9);obtain⟨t0,t1,t2,t3,f0,f1,f2,f3⟩:=s9.swap.cells4 (Jms);have s10:=s9.swap.put4 0 0 (-1) (.slice none 0 0);have S10:=Ja s10;clear s9 s10;simp only[Jf])|fail)
 obtain⟨g0,g1,g2,g3,-⟩:=S10.out.cells4 (Jms)
 have G10:=Ja (And.intro (And.intro g0 g1) (And.intro g2 g3))
 clear g0 g1 g2 g3
 go_wp2
 refine bodyPost_ret (v:=Jf 0 0 (-1) (.slice none 0 0)) ?_ rfl ⟨rfl,_,S10.out.drop.drop2.drop2.drop2⟩
 simp[results,Tryz.f126,go_sem,Jf,G10.out.1.1,G10.out.1.2,G10.out.2.1,G10.out.2.2]
end
section
variable {w0 w w':World} {r p n m:Nat} {Y:Ly} {K:Kr} {R:List Th} {d:De}
theorem DR.plain {F:Nat} {args:Array Value} {e0 k0 x0:Int} {K':Kr} (h:Calls Tryz.prog F args w fun e w'=>e=.returned (Jf e0 x0 k0 (.slice none 0 0))/\KS w0 r w' p K' R):Calls Tryz.prog F args w (DR w0 r p R (K',⟨e0,x0,k0,[]⟩)):=by
 refine Jqa h ?_
 rintro e w' ⟨rfl,Y,s⟩
 exact⟨_,rfl,Y,s.nil.swap⟩
structure Dd (w0:World) (r n m:Nat) (K:Kr) (d:De):Prop where
 v:Iv n m K
 hm:m<=100000
 fu:Full K.S
 T:Un.Tab w0
 hr:2 < r
 ht:∀ u,Below r w0 u->Th.Tab u
 who:Tid K.h d.who
 core:Th.OQ K.h d.core
 A:VC d.c.A
 B:VC d.c.B
 C:VC d.c.C
 w:VC d.c.w
 f:d.f=d.c.a
 x:d.x=Jk K d.c.a
 k:(Jk K d.c.a).k≠0
theorem Dd.n0 (o:Dd w0 r n m K d):0<=d.x.o:=by rw[o.x];exact Jex o.v o.k
theorem Dd.f0 (o:Dd w0 r n m K d):0<=d.f/\d.f<=63:=by rw[o.f];exact Jjq o.k
theorem Dd.nat (o:Dd w0 r n m K d):∃ i:Nat,d.x.o=(i:Int):=⟨d.x.o.toNat,by have:=o.n0;omega⟩
theorem Dd.few (o:Dd w0 r n m K d):K.E.length<=1000:=by have:=IX o.v.ts;omega
theorem Jx0 (s:Sep w0 r w (kT p Y K::R)) (o:Dd w0 r n m K d) (hk:d.x.k=1):Calls Tryz.prog 125 #[Je p,JD d] w (DR w0 r p R (Ze K d.core d.c d.x.o,Ii (Zt K d.c d.x.o))):=by
 obtain⟨i,hi⟩:=o.nat
 have hlt:d.x.o<(K.U.length:Int):=by
  have h:=(MJ o.v o.k).u
  rw[<- o.x] at h
  exact h hk
 obtain⟨u,hu⟩:∃ u,K.U[i]? = some u:=⟨_,Jqc (by omega)⟩
 rw[hi]
 exact DR.plain (Jbz s d o.T o.hr o.v (by have:=o.hm;omega) o.fu hi hu o.f o.k o.w o.B o.C o.core)
theorem J0z (s:Sep w0 r w (kT p Y K::R)) (o:Dd w0 r n m K d):Calls Tryz.prog 126 #[Je p,JD d] w (DR w0 r p R (if d.x.k=1 then (K,Ii 181) else (Fy K d.c d.x,Ii (Zb K d.c d.x)))):=by
 by_cases hk:d.x.k=1
 ·rw[if_pos hk]
  exact DR.plain (Jo2 s d hk)
 ·rw[if_neg hk]
  have hf:d.x.Fits:=by rw[o.x];exact Mj o.v o.k
  have hn:Sl.Fine d.x:=by rw[o.x];exact Au o.v o.k
  unfold Fy Zb
  by_cases he:J4 K d.c.w 1=0
  ·have hw:=(AK o.v he).1
   rw[if_neg (not_not_intro he)]
   by_cases hm:Ca.Zb (Xf d.x) d.c.A (VI d.c.B)=0
   ·rw[if_pos hm,hm,<- o.f]
    exact DR.plain (Jo1 s d hk o.v.ts.n0 o.w ⟨hf.k,hf.o,hf.r,hf.b,hf.g,hf.z⟩ he hm o.few o.f0 hw (Jo0 hf hn hm))
   ·rw[if_neg hm]
    exact DR.plain (Jk9 s d hk o.v.ts.n0 o.w ⟨hf.k,hf.o,hf.r,hf.b,hf.g,hf.z⟩ he hm)
  ·rw[if_pos he,if_neg he]
   exact DR.plain (Jhb s d hk o.v.ts.n0 o.w he)
theorem Jx1 (s:Sep w0 r w (kT p Y K::R)) (o:Dd w0 r n m K d):Calls Tryz.prog 129 #[Je p,JD d] w (DR w0 r p R (V9 K d.c.a d.x,⟨0,(Zc K d.c.a).length,-1,(goneAll K (Zc K d.c.a)).2⟩)):=by
 have hL:Zc K d.f=Zc K d.c.a:=by rw[o.f]
 have hn:=Jin o.v d.c.a
 have hst:∀ j,(goneAll K ((Zc K d.c.a).take j)).1.E.length<=1000/\Few (goneAll K ((Zc K d.c.a).take j)).1/\(goneAll K ((Zc K d.c.a).take j)).1.D.length<=1000000:=fun j=>by
  have v:=Iv.goneAll ((Zc K d.c.a).take j) o.v
  have:=IX v.ts
  have:=v.cd
  have:=o.hm
  exact⟨by omega,v.few,by omega⟩
 have hfl:∀ j,(goneAll K ((Zc K d.c.a).take j)).2.length<=64000000000:=fun j=>by
  have h:=ON ((Zc K d.c.a).take j) K
  have h1:((Zc K d.c.a).take j).length<=64:=by rw[List.length_take];omega
  have h2:=o.v.cd
  have h3:=o.hm
  have h4:((Zc K d.c.a).take j).length*(4096*K.D.length)<=64*(4096*100001):=Nat.mul_le_mul h1 (by omega)
  omega
 have hU:=Jm7 o.v d.f
 unfold V9
 by_cases hk:d.x.k=1
 ·rw[if_pos hk]
  obtain⟨i,hi⟩:=o.nat
  have hlt:d.x.o<(K.U.length:Int):=by
   have h:=(MJ o.v o.k).u
   rw[<- o.x] at h
   exact h hk
  have hu:K.U[i]? = some (FQ K (i:Int)):=by
   unfold FQ
   rw[Int.toNat_natCast,List.getD_eq_getElem?_getD,List.getElem?_eq_getElem (by omega)]
   rfl
  have h:=Jh0 s d hk hi (u:=FQ K (i:Int)) (by rw[(Fe _ K).1];exact hu) hL hU (by omega) hst hfl
  unfold setU
  rw[hi]
  exact h
 ·rw[if_neg hk]
  exact Jhz s d hk hL hU (by omega) hst hfl
theorem Jv3 (s:Sep w0 r w (kT p Y K::R)) (o:Dd w0 r n m K d):Calls Tryz.prog 131 #[Je p,JD d] w (DR w0 r p R ({ freed K d.x.o with h:=Th.JM K.h d.x.o },Ii (Th.JY K.h d.x.o))):=
 DR.plain (GM s d o.v.few)
theorem J01 (s:Sep w0 r w (kT p Y K::R)) (o:Dd w0 r n m K d) (hk:d.x.k=4):Calls Tryz.prog 133 #[Je p,JD d] w (DR w0 r p R (FK K d.core d.who d.c d.x)):=by
 obtain⟨i,hi⟩:=o.nat
 have hlt:d.x.o<(K.P.length:Int):=by
  have h:=(MJ o.v o.k).p
  rw[<- o.x] at h
  exact h hk
 obtain⟨S,hS⟩:∃ S,K.P[i]? = some S:=⟨_,Jqc (by omega)⟩
 have hl:=Jc4 o.v.th (o.v.ep S (Jqi hS))
 have hb:U6 d.x.b:=by rw[o.x];exact(Mj o.v o.k).b
 have hms:=Jfw (S:=S) (who:=d.who) (x:=⟨d.c.A,VI d.c.B,0,0,0,d.x.b,false⟩) ⟨hb,Ez _⟩
 have h:=DR.plain (Jh3 s d hS hi (by omega) o.ht hms.1 hms.2 rfl)
 unfold FK
 rw[hi,Jjw hS]
 unfold Fx at h
 by_cases he:En.J8 S d.who=0
 ·rw[if_pos he]
  rw[if_neg (not_not_intro he)] at h
  unfold OW
  unfold setP
  rw[Int.toNat_natCast,<- Jew]
  split at h
  ·rename_i hmi
   simp only[if_pos hmi]
   exact h
  ·rename_i hmi
   simp only[if_neg hmi]
   exact h
 ·rw[if_neg he]
  rw[if_pos he,Jpq he,OX hS] at h
  exact h
theorem J00 (s:Sep w0 r w (kT p Y K::R)) (o:Dd w0 r n m K d) (hk:d.x.k=4):Calls Tryz.prog 134 #[Je p,JD d] w (DR w0 r p R (FH K d.core d.who d.c d.x)):=by
 obtain⟨i,hi⟩:=o.nat
 have hlt:d.x.o<(K.P.length:Int):=by
  have h:=(MJ o.v o.k).p
  rw[<- o.x] at h
  exact h hk
 obtain⟨S,hS⟩:∃ S,K.P[i]? = some S:=⟨_,Jqc (by omega)⟩
 have hep:=o.v.ep S (Jqi hS)
 have hl:=Jc4 o.v.th hep
 have hms:=Jfp hep (who:=d.who)
 have h:=DR.plain (GJ s d hS hi (by omega) o.ht hms.1 hms.2 rfl)
 unfold FH
 rw[hi,Jjw hS]
 unfold Fx at h
 by_cases he:En.J8 S d.who=0
 ·rw[if_pos he]
  rw[if_neg (not_not_intro he)] at h
  unfold OW
  unfold setP
  rw[Int.toNat_natCast,<- Jew]
  split at h
  ·rename_i hmi
   simp only[if_pos hmi]
   exact h
  ·rename_i hmi
   simp only[if_neg hmi]
   exact h
 ·rw[if_neg he]
  rw[if_pos he,Jpf he,OX hS] at h
  exact h
end
theorem Jv9 {r:Int} (h:0<=r/\r<=7):(bits .and .i64 r 0 != 0)=false:=by
 have:r=0\/r=1\/r=2\/r=3\/r=4\/r=5\/r=6\/r=7:=by omega
 rcases this with rfl|rfl|rfl|rfl|rfl|rfl|rfl|rfl<;>rfl
theorem Jw0 {r:Int} (h:0<=r/\r<=7):(bits .and .i64 r 1 != 1) = !(r % 2 == 1):=by
 have:r=0\/r=1\/r=2\/r=3\/r=4\/r=5\/r=6\/r=7:=by omega
 rcases this with rfl|rfl|rfl|rfl|rfl|rfl|rfl|rfl<;>rfl
theorem Jw1 {r:Int} (h:0<=r/\r<=7):(bits .and .i64 r 2 != 2) = !(r / 2 % 2 == 1):=by
 have:r=0\/r=1\/r=2\/r=3\/r=4\/r=5\/r=6\/r=7:=by omega
 rcases this with rfl|rfl|rfl|rfl|rfl|rfl|rfl|rfl<;>rfl
def atB (x:Sl.Cp) (i:Nat):Bool:=(x.k != 0) && (nK i == 0 || x.k == nK i) && !(bits .and .i64 x.r (nR i) != nR i)
theorem Jk5 {c:Cl} {x:Sl.Cp} {i:Nat} (hq:c.q=(i:Int)) (hi:i<17) (hr:0<=x.r/\x.r<=7):Jk4 c x=(atB x i && !(c.q == 1 && x.k == 1)):=by
 have a0:=Jv9 hr
 have a1:=Jw0 hr
 have a2:=Jw1 hr
 have hcs:i=0\/i=1\/i=2\/i=3\/i=4\/i=5\/i=6\/i=7\/i=8\/i=9\/i=10\/i=11\/i=12\/i=13\/i=14\/i=15\/i=16:=by omega
 unfold Jk4 atB
 rcases hcs with rfl|rfl|rfl|rfl|rfl|rfl|rfl|rfl|rfl|rfl|rfl|rfl|rfl|rfl|rfl|rfl|rfl
 all_goals
  rw[hq]
  simp only[Jla,nK,nR,IL,List.getD_cons_zero,List.getD_cons_succ,Nat.reduceMul,Nat.reduceAdd,a0,a1,a2]
  cases h1:(x.k == 0)<;>cases h2:(x.k == 1)<;>simp[bne,h1,h2]
section
variable {w0 w w':World} {r p n m:Nat} {Y:Ly} {K:Kr} {R:List Th} {d:De}
structure Kd (w0:World) (r n m:Nat) (K:Kr):Prop where
 v:Iv n m K
 hm:m<=100000
 fu:Full K.S
 T:Un.Tab w0
 hr:2 < r
 N:NTab w0
 hn:0 < r
 ht:∀ u,Below r w0 u->Th.Tab u
theorem J06 {x:Sl.Cp} {i:Nat} (h:atB x i=true):x.k≠0/\(nK i=0\/x.k=nK i):=by
 unfold atB at h
 simp only[Bool.and_eq_true,Bool.or_eq_true,bne_iff_ne,beq_iff_eq] at h
 exact⟨h.1.1,h.1.2⟩
theorem Jjz (K:Kr) (c:Cl) (i:Nat):IA K c i=(atB (Jk K c.a) i && (nW i == 0 || (((Jk K c.w).k != 0) && (nW i == 0 || (Jk K c.w).k == nW i)))):=rfl
theorem Jw5 (v:Iv n m K) {a:Int}:0<=(Jk K a).r/\(Jk K a).r<=7:=by
 by_cases h:(Jk K a).k=0
 ·have e:Jk K a=Sl.no\/∃ c,Sl.JZ K.S (sl a)=some c/\Jk K a=c:=by
   unfold Jk
   split
   ·unfold Sl.Vt
    cases e:Sl.JZ K.S (sl a) with
    | none=>exact .inl rfl
    | some c=>exact .inr ⟨c,rfl,rfl⟩
   ·exact .inl rfl
  rcases e with e|⟨c,hc,e⟩
  ·rw[e]
   decide
  ·rw[e]
   rcases v.ts.fine a c hc with h2|⟨_,_,h2,_⟩
   ·rw[h2]
    decide
   ·exact h2
 ·rcases Au v h with h2|⟨_,_,h2,_⟩
  ·rw[h2]
   decide
  ·exact h2
theorem Jx4 (v:Iv n m K) {c:Cl} {i:Nat} (hq:c.q=(i:Int)) (hi:i<17) (hB:IA K c i=false) (core who:Int):(if Jk4 c (Jk K c.a)=true then Ay K core who c (Jk K c.a) else (K,Ii 181))=(K,Ii 181):=by
 rw[Jk5 hq hi (Jw5 v)]
 rw[Jjz] at hB
 by_cases hat:atB (Jk K c.a) i=true
 ·rw[hat,Bool.true_and] at hB
  have hw:nW i≠0/\(Jk K c.w).k≠nW i:=by
   simp only[Bool.or_eq_false_iff,beq_eq_false_iff_ne,Bool.and_eq_false_iff,bne_eq_false_iff_eq] at hB
   refine⟨hB.1,?_⟩
   rcases hB.2 with h|h
   ·rw[h]
    exact fun e=>hB.1 e.symm
   ·exact h.2
  have hcs:i=0\/i=1\/i=2\/i=3\/i=4\/i=5\/i=6\/i=7\/i=8\/i=9\/i=10\/i=11\/i=12\/i=13\/i=14\/i=15\/i=16:=by omega
  have h3:i=12\/i=13\/i=15:=by
   rcases hcs with rfl|rfl|rfl|rfl|rfl|rfl|rfl|rfl|rfl|rfl|rfl|rfl|rfl|rfl|rfl|rfl|rfl
   all_goals first|exact absurd rfl hw.1|omega
  split
  ·unfold Ay
   rcases h3 with rfl|rfl|rfl
   ·rw[hq]
    show(if (Jk K c.w).k=8 then _ else _)=_
    exact if_neg hw.2
   ·rw[hq]
    show(if (Jk K c.w).k=8 then _ else _)=_
    exact if_neg hw.2
   ·rw[hq]
    show(if (Jk K c.w).k=5 then _ else _)=_
    exact if_neg hw.2
  ·rfl
 ·rw[if_neg]
  rw[Bool.eq_false_iff.2 hat]
  simp
end
section
variable {w0 w w':World} {r p:Nat} {R:List Th}
theorem MD (n a b:Int) (w:World):Calls Tryz.prog 93 #[.int .i64 n,.int .i64 a,.int .i64 b] w fun e w'=>e=.returned (.bool (decide (a<=n/\n<=b)))/\w'=w:=by
 by_cases h1:a<=n
 ·have g1:n ≥ a:=h1
  by_cases h2:n<=b
  ·have e:decide (a<=n/\n<=b)=true:=decide_eq_true ⟨h1,h2⟩
   rw[e]
   go_enter Tryz.func93,Tryz.ntmps93
   go_wp2
   go_ret
   exact⟨rfl,rfl⟩
  ·have e:decide (a<=n/\n<=b)=false:=decide_eq_false fun h=>h2 h.2
   rw[e]
   go_enter Tryz.func93,Tryz.ntmps93
   go_wp2
   go_ret
   exact⟨rfl,rfl⟩
 ·have e:decide (a<=n/\n<=b)=false:=decide_eq_false fun h=>h1 h.1
  have g1:¬ n ≥ a:=h1
  rw[e]
  go_enter Tryz.func93,Tryz.ntmps93
  go_wp2
  go_ret
  exact⟨rfl,rfl⟩
def UY (p:Int):Bool:=!decide (0<=p/\p<=255)
theorem Jlq (x:Int) (w:World):Calls Tryz.prog 95 #[.int .i64 x] w fun e w'=>e=.returned (.bool (UY x))/\w'=w:=by
 unfold UY
 have HC:=Ja (MD x 0 255)
 generalize decide (0<=x/\x<=255)=b at *
 go_enter Tryz.func95,Tryz.ntmps95
 go_wp2_with (go_at_call 93;refine Jqa (HC.out _) ?_;rintro e w3 ⟨rfl,rfl⟩)
 go_ret
 exact⟨rfl,rfl⟩
theorem Jgx {v:Value} {Z:List Int} (s:Sep w0 r w (Ta.Xa v Z::R)) :
  Calls Tryz.prog 193 #[v,.func (.func 95) #[] #[]] w fun e w'=>e=.returned (.int .i64 (O4 UY Z))/\Sep w0 r w' (Ta.Xa v Z::R):=by
 obtain⟨ao,cap,rfl⟩:=s.listIs (E:=Ta.Ui) (v:=v) (A:=Z) (by simp)
 have hzm:Z.length<=9223372036854775807:=by
  obtain⟨ao',cap',e,h1,h2,-⟩:=Row.slice (s.each (Ta.Xa (.slice ao Z.length cap) Z) (by simp)).1
  exact Jql h1 h2
 have S1:=Ja s
 clear s
 generalize hN:Z.length=N at *
 have HN:=Ja hN
 clear hN
 go_enter Tryz.func193,Tryz.ntmps193
 go_wp2
 go_loopw [5,8] (fun _ s8 wr=>∃ kk:Nat,kk<=N/\s8=.int .i64 kk/\Sep w0 r wr (Ta.Xa (.slice ao N cap) Z::R)/\Hid (∀ j y,j<kk->Z[j]? = some y->UY y=false)) (fun _ s8 _=>N - (intOf s8).toNat)
 case atStart=>exact⟨0,Jqp _,rfl,S1.out,fun j y hj=>absurd hj (Nat.not_lt_zero _)⟩
 case round =>
  clear S1
  obtain⟨kk,hkk,rfl,s2,A⟩:=hrel
  by_cases hlt:kk<N
  ·have hltz:(kk:Int)<(N:Int):=by omega
   obtain⟨x,hx⟩:∃ x,Z[kk]? = some x:=⟨_,Jqc (by have:=HN.out;omega)⟩
   obtain⟨g,rfl,hc⟩:=s2.listAt Ta.okI (ao:=ao) (n:=N) (cap:=cap) (A:=Z) (by simp) hx
   have d0:=hc 0 (.int .i64 x) rfl
   rw[show Ta.Ui.k=1 from rfl,Nat.mul_one,Nat.add_zero] at d0
   have HX:=Ja hx
   have HL:=Ja hlt
   have S2:=Ja s2
   have hcall:=Jlq x wr
   clear s2 hc hx hlt
   cases hq:UY x with
   | true =>
    rw[hq] at hcall
    have HC:=Ja hcall
    have HR:=Ja (AR HX.out hq A.out)
    clear hcall hq
    go_wp2_with (go_at_call 95;refine HC.out.mono ?_;rintro e w3 ⟨rfl,rfl⟩)
    go_ret
    exact⟨Jm HR.out.symm,S2.out⟩
   | false =>
    rw[hq] at hcall
    have HC:=Ja hcall
    have HQ:Hid (UY x=false):=hq
    clear hcall hq
    go_wp2_with (go_at_call 95;refine HC.out.mono ?_;rintro e w3 ⟨rfl,rfl⟩)
    go_roundw
    case rel =>
     refine⟨kk+1,by have:=HL.out;omega,by go_num,S2.out,fun j z hj hz=>?_⟩
     by_cases e:j=kk
     ·subst e
      rw[HX.out] at hz
      cases hz
      exact HQ.out
     ·exact A.out j z (by omega) hz
    case measure=>simp[intOf];have:=HL.out;omega
  ·have hltz:¬ (kk:Int)<(N:Int):=by omega
   have HE:=Ja (Ot (p:=UY) (Z:=Z) fun j y hj=>A.out j y (by have:=(Jqb.1 hj).1;have:=HN.out;omega) hj)
   have S2:=Ja s2
   clear hlt hkk A s2
   go_wp2
   go_ret
   exact⟨Jm HE.out.symm,S2.out⟩
theorem FZ {v:Value} {Z:List Int} (s:Sep w0 r w (Ta.Xa v Z::R)) :
  Calls Tryz.prog 94 #[v,.func (.func 95) #[] #[]] w fun e w'=>e=.returned (.bool (Z.any UY))/\Sep w0 r w' (Ta.Xa v Z::R):=by
 have HI:=Ja (Jgx s)
 have hd:=AQ UY Z
 obtain⟨ao,cap,rfl⟩:=s.listIs (E:=Ta.Ui) (v:=v) (A:=Z) (by simp)
 clear s
 generalize Z.any UY=b at *
 generalize O4 UY Z=z at *
 generalize Z.length=N at *
 go_enter Tryz.func94,Tryz.ntmps94
 go_wp2_with (go_at_call 193;refine Jqa HI.out ?_;rintro e w3 ⟨rfl,s3⟩;have S3:=Ja s3;clear s3)
 go_ret
 exact⟨rfl,S3.out⟩
def Jgd (n b m:Int) (v:Value):Value:=.agg #[.int .i64 n,.int .i64 b,.int .i64 m,v]
def Zs (n b m:Int) (v:Value):Obj:=.cells #[.int .i64 n,.int .i64 b,.int .i64 m,v] 24
def Ao (n b m:Int) (Q:List Int):Bool:=decide (1<=n/\n<=8) && decide (4<=b/\b<=20) && decide (0<=m/\m<=8) && decide ((Q.length:Int)=n) && !Q.any UY
theorem Sep.bootCells {q:Nat} {n b m:Int} {v:Value} (s:Sep w0 r w R) (h:blk q (Zs n b m v)∈R):w.cell? ⟨q,0,none⟩=some (.int .i64 n)/\w.cell? ⟨q,1,none⟩=some (.int .i64 b)/\w.cell? ⟨q,2,none⟩=some (.int .i64 m)/\w.cell? ⟨q,3,none⟩=some v:=
 ⟨(s.blkCell h 0).1,(s.blkCell h 1).1,(s.blkCell h 2).1,(s.blkCell h 3).1⟩
theorem MH {v:Value} {Q:List Int} (s:Sep w0 r w (Ta.Xa v Q::R)) (n b m:Int) :
  Calls Tryz.prog 31 #[Jgd n b m v] w fun e w'=>e=.returned (.bool (Ao n b m Q))/\Sep w0 r w' (Ta.Xa v Q::R):=by
 obtain⟨ao,cap,rfl⟩:=s.listIs (E:=Ta.Ui) (v:=v) (A:=Q) (by simp)
 have s1:=(s.box (Zs n b m (.slice ao Q.length cap))).swap
 have hct:=FZ s1
 obtain⟨c0,c1,c2,c3⟩:=s1.bootCells (q:=w.heap.size) (n:=n) (b:=b) (m:=m) (v:=.slice ao Q.length cap) (by simp)
 have S1:=Ja s1
 have A1:=Ja (MD n 1 8)
 have A2:=Ja (MD b 4 20)
 have A3:=Ja (MD m 0 8)
 have hle:((Q.length:Int) == n)=decide ((Q.length:Int)=n):=by
  by_cases h:(Q.length:Int)=n
  ·rw[decide_eq_true h,beq_iff_eq.2 h]
  ·rw[decide_eq_false h,beq_eq_false_iff_ne.2 h]
 unfold Ao
 generalize decide (1<=n/\n<=8)=b1 at *
 generalize decide (4<=b/\b<=20)=b2 at *
 generalize decide (0<=m/\m<=8)=b3 at *
 generalize decide ((Q.length:Int)=n)=b4 at *
 generalize Q.any UY=b5 at *
 have HCT:=Ja hct
 have S2:=Ja s
 clear s s1 hct
 generalize hN:Q.length=N at *
 clear hN
 unfold Jgd
 unfold Zs at *
 obtain⟨w1,hw1⟩:∃ w1,w.alloc (.cells #[.int .i64 n,.int .i64 b,.int .i64 m,.slice ao N cap] 24)=w1:=⟨_,rfl⟩
 rw[hw1] at c0 c1 c2 c3 S1 HCT
 have HW:=Ja hw1
 clear hw1
 cases b1
 ·clear A2 A3 HCT
  go_enter Tryz.func31,Tryz.ntmps31
  go_wp2_with (first|rw[HW.out]|(go_at_call 93;(with_reducible refine Jqa (A1.out _) ?_);rintro e w3 ⟨rfl,rfl⟩)|fail)
  go_ret
  exact⟨rfl,S1.out.drop2⟩
 ·cases b2
  ·clear A3 HCT
   go_enter Tryz.func31,Tryz.ntmps31
   go_wp2_with (first|rw[HW.out]|(go_at_call 93;(with_reducible refine Jqa (A1.out _) ?_);rintro e w3 ⟨rfl,rfl⟩)|(go_at_call 93;(with_reducible refine Jqa (A2.out _) ?_);rintro e w3 ⟨rfl,rfl⟩)|fail)
   go_ret
   exact⟨rfl,S1.out.drop2⟩
  ·cases b3
   ·clear HCT
    go_enter Tryz.func31,Tryz.ntmps31
    go_wp2_with (first|rw[HW.out]|(go_at_call 93;(with_reducible refine Jqa (A1.out _) ?_);rintro e w3 ⟨rfl,rfl⟩)|(go_at_call 93;(with_reducible refine Jqa (A2.out _) ?_);rintro e w3 ⟨rfl,rfl⟩)|(go_at_call 93;(with_reducible refine Jqa (A3.out _) ?_);rintro e w3 ⟨rfl,rfl⟩)|fail)
    go_ret
    exact⟨rfl,S1.out.drop2⟩
   ·cases b4
    ·clear HCT
     go_enter Tryz.func31,Tryz.ntmps31
     go_wp2_with (first|rw[HW.out]|(go_at_call 93;(with_reducible refine Jqa (A1.out _) ?_);rintro e w3 ⟨rfl,rfl⟩)|(go_at_call 93;(with_reducible refine Jqa (A2.out _) ?_);rintro e w3 ⟨rfl,rfl⟩)|(go_at_call 93;(with_reducible refine Jqa (A3.out _) ?_);rintro e w3 ⟨rfl,rfl⟩)|fail)
     go_ret
     exact⟨rfl,S1.out.drop2⟩
    ·cases b5
     ·skip
      go_enter Tryz.func31,Tryz.ntmps31
      go_wp2_with (first|rw[HW.out]|(go_at_call 93;(with_reducible refine Jqa (A1.out _) ?_);rintro e w3 ⟨rfl,rfl⟩)|(go_at_call 93;(with_reducible refine Jqa (A2.out _) ?_);rintro e w3 ⟨rfl,rfl⟩)|(go_at_call 93;(with_reducible refine Jqa (A3.out _) ?_);rintro e w3 ⟨rfl,rfl⟩)|(go_at_call 94;refine Jqa HCT.out ?_;rintro e w4 ⟨rfl,s4⟩;have S4:=Ja s4;clear s4)|fail)
      go_ret
      exact⟨rfl,S4.out.drop2⟩
     ·skip
      go_enter Tryz.func31,Tryz.ntmps31
      go_wp2_with (first|rw[HW.out]|(go_at_call 93;(with_reducible refine Jqa (A1.out _) ?_);rintro e w3 ⟨rfl,rfl⟩)|(go_at_call 93;(with_reducible refine Jqa (A2.out _) ?_);rintro e w3 ⟨rfl,rfl⟩)|(go_at_call 93;(with_reducible refine Jqa (A3.out _) ?_);rintro e w3 ⟨rfl,rfl⟩)|(go_at_call 94;refine Jqa HCT.out ?_;rintro e w4 ⟨rfl,s4⟩;have S4:=Ja s4;clear s4)|fail)
      go_ret
      exact⟨rfl,S4.out.drop2⟩
end
section
variable {w0 w w':World} {r p:Nat} {Y:Ly} {K:Kr} {R:List Th}
theorem Jhh (s:Sep w0 r w R):Calls Tryz.prog 96 #[] w fun e w'=>∃ q F,e=.returned (Je q)/\Sep w0 r w' (nT q F []::R):=by
 refine Jqa (Sl.IM w) ?_
 rintro e w' ⟨q,F,rfl,h,hF,hb⟩
 exact⟨q,F,rfl,s.new (t:=nT q F []) h hb hF⟩
theorem Jm3 (s:Sep w0 r w R):Calls Tryz.prog 97 #[] w fun e w'=>∃ q,e=.returned (Je q)/\Sep w0 r w' (eT q (.slice none 0 0) []::R):=by
 refine Jqa (Tr.IM w) ?_
 rintro e w' ⟨rfl,rfl⟩
 refine⟨_,rfl,s.new (t:=eT w.heap.size (.slice none 0 0) []) ?_ (Jb _ _) ?_⟩
 ·refine⟨blk_alloc_new _ _,⟨by simp[Jc],.inl ⟨rfl,rfl⟩⟩,by simp[Value.ownBlock],⟨fun i j hi=>absurd hi (Nat.not_lt_zero _),fun i hi=>absurd hi (Nat.not_lt_zero _),fun h=>absurd h (Nat.not_lt_zero _),fun i hi=>absurd hi (Nat.not_lt_zero _)⟩⟩
 ·rintro x (rfl|h)
  ·exact Jqd _
  ·cases h
def kr0 (n:Nat):Kr:=⟨[],[],Th.Vu n,List.replicate 8 Ir.ln0,[],[],[],[],0,0⟩
def zK (q t:Nat) (a b:Value):Obj:=.cells #[Je q,Je t,a,b,.slice none 0 0,.slice none 0 0,.slice none 0 0,.slice none 0 0,.int .i64 0,.int .i64 0] 96
theorem Sep.kr0 {q t h l k n:Nat} {F hF:Nat->Prop} {lv:Value} (s:Sep w0 r w (Ir.lnT l lv (List.replicate 8 Ir.ln0)::Th.tT h hF (Th.Vu n)::blk k (zK q t (Je h) (Je l))::eT t (.slice none 0 0) []::nT q F []::R)):KS w0 r w k (kr0 n) R:=by
 have s1:=s.perm (.cons _ (.cons _ (List.perm_middle (l₁:=[_,_])).symm))
 have s2:=(((s1.nil (E:=EI)).nil (E:=Mc)).nil (E:=Ml)).nil (E:=MN)
 have s3:=s2.perm ((List.reverse_perm [blk k (zK q t (Je h) (Je l)),nT q F [],eT t (.slice none 0 0) [],Th.tT h hF (Th.Vu n),Ir.lnT l lv (List.replicate 8 Ir.ln0),Jv EI (.slice none 0 0) [],Jv Mc (.slice none 0 0) [],Jv Ml (.slice none 0 0) [],Jv MN (.slice none 0 0) []]).append_right R)
 exact⟨⟨q,F,t,.slice none 0 0,h,hF,l,lv,.slice none 0 0,.slice none 0 0,[],.slice none 0 0,[],.slice none 0 0,[]⟩,Sep.shut ⟨rfl,rfl,rfl⟩ s3⟩
theorem Jgc (s:Sep w0 r w R) (n:Nat) (h1:1<=n) (h8:n<=8) :
  Calls Tryz.prog 32 #[.int .i64 (n:Int)] w fun e w'=>∃ p,e=.returned (Je p)/\KS w0 r w' p (Go.Proofs.YtbfjjpdnoalojaaGreatDoor.kr0 n) R:=by
 have S0:=Ja s
 have HN:=Ja (And.intro h1 h8)
 clear s h1 h8
 go_enter Tryz.func32,Tryz.ntmps32
 go_wp2_with (first
  | (go_at_call 96;refine Jqa (Jhh S0.out) ?_;rintro e w1 ⟨q,F,rfl,s1⟩;have S1:=Ja s1;clear s1)
  | (go_at_call 97;refine Jqa (Jm3 S1.out) ?_;rintro e w2 ⟨t,rfl,s2⟩;have S3:=Ja (s2.box (zK q t (.pointer none) (.pointer none)));clear s2)
  | (go_at_call 98;refine Jqa (Th.Jlc S3.out n HN.out.1 HN.out.2) ?_;rintro e w4 ⟨h,hF,rfl,s4⟩;obtain⟨z2,y2⟩:=s4.blkCell (p:=w2.heap.size) (Jmc (Jms)) 2;have S5:=Ja (((s4.swap).putB 2 (Je h)).swap);clear s4)
  | (go_at_call 99;refine Jqa (Ir.V8 S5.out 8 (by decide) (by decide)) ?_;rintro e w6 ⟨l,lv,rfl,s6⟩;obtain⟨z3,y3⟩:=s6.blkCell (p:=w2.heap.size) (Jmc (Jmc (Jms))) 3;have S7:=Ja ((((s6.third.third).putB 3 (Je l))));clear s6)
  | fail)
 go_ret
 refine⟨_,rfl,?_⟩
 have s8:=S7.out.third
 exact Sep.kr0 (q:=q) (t:=t) (h:=h) (l:=l) (F:=F) (hF:=hF) (lv:=lv) s8
theorem Jf5 (s:Sep w0 r w (kT p Y K::R)) (ht:∀ u,Below r w0 u->Th.Tab u) (prio core:Int) :
  Calls Tryz.prog 36 #[Je p,.int .i64 prio,.int .i64 core] w fun e w'=>e=.returned (.int .i64 (Th.JW K.h prio core))/\KS w0 r w' p { K with h:=Th.JB (Th.JR (Th.JS K.h prio core) (Th.JW K.h prio core)) core } R:=by
 have c2:=s.k2
 have h1:=Jfd s prio core
 obtain⟨N,hN⟩:∃ N,Th.JW K.h prio core=N:=⟨_,rfl⟩
 rw[hN] at h1 ⊢
 have H1:=Ja h1
 have HT:=Ja ht
 clear h1 hN ht s
 go_enter Tryz.func36,Tryz.ntmps36
 go_wp2_with (first
  | (go_at_call 100;refine Jqa H1.out ?_;rintro e w1 ⟨rfl,x1,s1⟩;have c21:=s1.k2;have S1:=Ja s1;clear s1)
  | (go_at_call 101;refine Jqa (Ja8 S1.out N) ?_;rintro e w2 ⟨rfl,x2,s2⟩;have c22:=s2.k2;have S2:=Ja s2;clear s2)
  | (go_at_call 59;refine Jqa (Ic S2.out HT.out core) ?_;rintro e w3 ⟨rfl,x3,s3⟩;have S3:=Ja s3;clear s3)
  | fail)
 go_ret
 exact⟨rfl,_,S3.out⟩
end
end
end Go.Proofs.YtbfjjpdnoalojaaGreatDoor
