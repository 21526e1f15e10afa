/- Below: KH12 KDo1 KDo5 KLaw KFx GSay GMask KBgM; no condition. -/
import Derived.Test.YtbfjjpdnoalojaaGreatDoorPa32
import Derived.Test.YtbfjjpdnoalojaaGreatDoorPxEr10
set_option maxHeartbeats 16000000
set_option maxRecDepth 100000
namespace Go.Proofs.YtbfjjpdnoalojaaGreatDoor
section
open Go.RowKit Go.Deep Go.Shelf
open Classical
section
variable {w0 w w':World} {r p:Nat} {Y:Ly} {K:Kr} {R:List Th}
theorem J4c (s:Sep w0 r w (kT p Y K::R)) (d:De) {i:Nat} {S:Ta.Sp} (hi:K.D[i]? = some S) (hxo:d.x.o=(i:Int)) (he:¬ Ta.ET S d.c.A=0) :
  Calls Tryz.prog 139 #[Je p,JD d] w fun e w'=>e=.returned (Jf (Ta.ET S d.c.A) 0 (-1) (.slice none 0 0))/\KS w0 r w' p { K with D:=K.D.set i (Ta.Ue S d.c.A) } R:=by
 obtain⟨qn,vn,Q,hyi,-,-⟩:=s.spOf hi
 obtain⟨ao,cap,hnv,hzm,hpt⟩:=s.spPtr
 obtain⟨g,rfl,-⟩:=hpt i qn vn hyi
 have hil:(i:Int)<(K.D.length:Int):=by have:=(Jqb.1 hi).1;omega
 have HI:=Ja (And.intro hi hyi)
 have HX:=Ja hxo
 clear Q hpt
 have hz:∃ z,K.D.length=z:=⟨_,rfl⟩
 obtain⟨z,hz⟩:=hz
 rw[hz] at hnv hil hzm
 clear hz hi hyi hxo
 have S1:=Ja (s.deed d)
 obtain⟨w1,hw⟩:∃ w1,(w.alloc (Jp d)).alloc (Ji 0 0 0 (.slice none 0 0))=w1:=⟨_,rfl⟩
 rw[hw] at S1
 have HW:=Ja hw
 unfold Jp Ji at HW
 clear s hw
 obtain⟨x,hx⟩:∃ x,Ta.Xl S d.c.A=x:=⟨_,rfl⟩
 obtain⟨E,hE⟩:∃ E,Ta.ET S d.c.A=E:=⟨_,rfl⟩
 obtain⟨T,hT⟩:∃ T,Ta.Ue S d.c.A=T:=⟨_,rfl⟩
 rw[hE] at he
 have he2:(E == 0)=false:=by simpa using he
 have he3:(E != 0)=true:=by simpa using he
 have HX3:=Ja (And.intro hx (And.intro hE hT))
 rw[hE,hT]
 clear hx hE hT he
 unfold JD
 go_enter Tryz.func139,Tryz.ntmps139
 go_wp2_with (first|rw[HW.out]|fail)
 generalize w.heap.size+1=q2 at *
 generalize w.heap.size=q at *
 have HS:Hid (∀ (W:World) (Y':Ly) (K':Kr) (o:Obj) (R':List Th),Y'.dv=Y.dv->(∃ v',Y'.D[i]? = some (qn,v'))->Sep w0 r W (kT p Y' K'::blk q2 o::blk q (Jp d)::R')->W.cell? ⟨p,7,none⟩=some (.slice (some ⟨g,0,none⟩) z cap)/\W.cell? ⟨g,i,none⟩=some (Je qn)/\W.cell? ⟨q,11,none⟩=some (.int .i64 (i:Int))/\W.cell? ⟨q,3,none⟩=some (.int .i64 d.c.A)):=fun W Y' K' o R' hy ⟨v',hv⟩ s=>by
  have k:=s.k7
  rw[hy,hnv] at k
  have k2:=s.spWay (hy.trans hnv) hv
  have c11:W.cell? ⟨q,11,none⟩=some (.int .i64 d.x.o):=(s.blkCell (p:=q) (Jmc (Jmc (Jms))) 11).1
  rw[HX.out] at c11
  have c3:W.cell? ⟨q,3,none⟩=some (.int .i64 d.c.A):=(s.blkCell (p:=q) (Jmc (Jmc (Jms))) 3).1
  exact⟨k,k2,c11,c3⟩
 have SB:=Ja ((S1.out.box (.cells #[.int .i64 0,.int .i64 0] 182)).to4.drew)
 have hk:=Jy7 S1.out.drew HI.out.1 HI.out.2 d.c.A
 rw[HX3.out.1,HX3.out.2.1,HX3.out.2.2] at hk
 have HK:=Ja hk
 clear hk
 have hk:=Jy7 SB.out HI.out.1 HI.out.2 d.c.A
 rw[HX3.out.1,HX3.out.2.1,HX3.out.2.2] at hk
 have HKB:=Ja hk
 clear hk
 go_cut [5,6] from 9 to 23 (fun sa sb wx=>∃ k x3,sa=.pointer (some ⟨k,0,none⟩)/\sb=.int .i64 E/\Sep w0 r wx (kT p { Y with D:=Y.D.set i (qn,x3) } { K with D:=K.D.set i T }::blk q2 (Ji 0 0 0 (.slice none 0 0))::blk q (Jp d)::blk k (.cells #[.int .i64 x.fr,.int .i64 x.rt] 182)::R))
 case first =>
  have hS:=HS.out _ _ _ _ _ (by rfl) ⟨_,HI.out.2⟩ S1.out.drew
  have hSB:=HS.out _ _ _ _ _ (by rfl) ⟨_,HI.out.2⟩ SB.out
  go_region_held3 (fun W=>W.cell? ⟨p,7,none⟩=some (.slice (some ⟨g,0,none⟩) z cap)/\W.cell? ⟨g,i,none⟩=some (Je qn)/\W.cell? ⟨q,11,none⟩=some (.int .i64 (i:Int))/\W.cell? ⟨q,3,none⟩=some (.int .i64 d.c.A)) (first|with_reducible assumption|with_reducible exact hS|with_reducible exact hSB) (first|(go_at_call 241;(with_reducible refine Jqa HKB.out ?_);rintro e w3 ⟨rfl,x3,s3⟩;have hS3:=HS.out _ _ _ _ _ (by rfl) ⟨_,Jmd HI.out.2 _⟩ s3;have s4:=s3.from4;obtain⟨mf0,mz⟩:=s4.zPg (Jms);obtain⟨z0,z1⟩:=mz;have s5:=s4.putPg x;have s6:=s5.to4;have hS6:=HS.out _ _ _ _ _ (by rfl) ⟨_,Jmd HI.out.2 _⟩ s6;have S6:=Ja s6;clear s3 s4 s5 s6)|(go_at_call 241;(with_reducible refine Jqa HK.out ?_);rintro e w3 ⟨rfl,x3,s3⟩;have hS3:=HS.out _ _ _ _ _ (by rfl) ⟨_,Jmd HI.out.2 _⟩ s3;have s4:=(s3.box (.cells #[.int .i64 0,.int .i64 0] 182)).to4;have hS4:=HS.out _ _ _ _ _ (by rfl) ⟨_,Jmd HI.out.2 _⟩ s4;have s6:=(s3.box (.cells #[.int .i64 x.fr,.int .i64 x.rt] 182)).to4;have hS6:=HS.out _ _ _ _ _ (by rfl) ⟨_,Jmd HI.out.2 _⟩ s6;have S6:=Ja s6;clear s3 s4 s6))
  all_goals go_wp2_with fail
  all_goals go_meet
  all_goals exact⟨_,_,rfl,rfl,S6.out⟩
 case rest =>
  obtain⟨k,x3,rfl,rfl,s6⟩:=hcut
  have S6:=Ja s6
  clear S1 SB HK HKB HS s6
  go_wp2_with (first|(go_at_call 60;refine Jqa (JI _ _) ?_;rintro e w9 ⟨rfl,b9⟩;have s9:=(S6.out.below b9);obtain⟨t0,t1,t2,t3,f0,f1,f2,f3⟩:=s9.swap.cells4 (Jms);have s10:=s9.swap.put4 E 0 (-1) (.slice none 0 0);have S10:=Ja s10;clear s9 s10;simp only[Jf])|fail)
  obtain⟨g0,g1,g2,g3,-⟩:=S10.out.cells4 (Jms)
  have G10:=Ja (And.intro (And.intro g0 g1) (And.intro g2 g3))
  clear g0 g1 g2 g3
  go_wp2
  refine bodyPost_ret (v:=Jf E 0 (-1) (.slice none 0 0)) ?_ rfl ⟨rfl,_,S10.out.drop.drop2.drop2⟩
  simp[results,Tryz.f139,go_sem,Jf,G10.out.1.1,G10.out.1.2,G10.out.2.1,G10.out.2.2]
theorem J4d (s:Sep w0 r w (kT p Y K::R)) (d:De) {i:Nat} {S:Ta.Sp} (hi:K.D[i]? = some S) (hxo:d.x.o=(i:Int)) (he:Ta.ET S d.c.A=0) :
  Calls Tryz.prog 139 #[Je p,JD d] w fun e w'=>∃ v,e=.returned (Jf 0 0 (-1) v)/\KS w0 r w' p { K with D:=K.D.set i (Ta.Ue S d.c.A) } (Jv Vq v [⟨d.x.o,d.c.A,(Ta.Xl S d.c.A).fr,(Ta.Xl S d.c.A).rt⟩]::R):=by
 obtain⟨qn,vn,Q,hyi,-,-⟩:=s.spOf hi
 obtain⟨ao,cap,hnv,hzm,hpt⟩:=s.spPtr
 obtain⟨g,rfl,-⟩:=hpt i qn vn hyi
 have hil:(i:Int)<(K.D.length:Int):=by have:=(Jqb.1 hi).1;omega
 have HI:=Ja (And.intro hi hyi)
 have HX:=Ja hxo
 clear Q hpt
 have hz:∃ z,K.D.length=z:=⟨_,rfl⟩
 obtain⟨z,hz⟩:=hz
 rw[hz] at hnv hil hzm
 clear hz hi hyi hxo
 have S1:=Ja (s.deed d)
 obtain⟨w1,hw⟩:∃ w1,(w.alloc (Jp d)).alloc (Ji 0 0 0 (.slice none 0 0))=w1:=⟨_,rfl⟩
 rw[hw] at S1
 have HW:=Ja hw
 unfold Jp Ji at HW
 clear s hw
 obtain⟨x,hx⟩:∃ x,Ta.Xl S d.c.A=x:=⟨_,rfl⟩
 obtain⟨E,hE⟩:∃ E,Ta.ET S d.c.A=E:=⟨_,rfl⟩
 obtain⟨T,hT⟩:∃ T,Ta.Ue S d.c.A=T:=⟨_,rfl⟩
 rw[hE] at he
 have he2:(E == 0)=true:=by simpa using he
 have he3:(E != 0)=false:=by simpa using he
 have HX3:=Ja (And.intro hx (And.intro hE hT))
 rw[hx,hT]
 clear hx hE hT he
 unfold JD
 go_enter Tryz.func139,Tryz.ntmps139
 go_wp2_with (first|rw[HW.out]|fail)
 generalize w.heap.size+1=q2 at *
 generalize w.heap.size=q at *
 have HS:Hid (∀ (W:World) (Y':Ly) (K':Kr) (o:Obj) (R':List Th),Y'.dv=Y.dv->(∃ v',Y'.D[i]? = some (qn,v'))->Sep w0 r W (kT p Y' K'::blk q2 o::blk q (Jp d)::R')->W.cell? ⟨p,7,none⟩=some (.slice (some ⟨g,0,none⟩) z cap)/\W.cell? ⟨g,i,none⟩=some (Je qn)/\W.cell? ⟨q,11,none⟩=some (.int .i64 (i:Int))/\W.cell? ⟨q,3,none⟩=some (.int .i64 d.c.A)):=fun W Y' K' o R' hy ⟨v',hv⟩ s=>by
  have k:=s.k7
  rw[hy,hnv] at k
  have k2:=s.spWay (hy.trans hnv) hv
  have c11:W.cell? ⟨q,11,none⟩=some (.int .i64 d.x.o):=(s.blkCell (p:=q) (Jmc (Jmc (Jms))) 11).1
  rw[HX.out] at c11
  have c3:W.cell? ⟨q,3,none⟩=some (.int .i64 d.c.A):=(s.blkCell (p:=q) (Jmc (Jmc (Jms))) 3).1
  exact⟨k,k2,c11,c3⟩
 have SB:=Ja ((S1.out.box (.cells #[.int .i64 0,.int .i64 0] 182)).to4.drew)
 have hk:=Jy7 S1.out.drew HI.out.1 HI.out.2 d.c.A
 rw[HX3.out.1,HX3.out.2.1,HX3.out.2.2] at hk
 have HK:=Ja hk
 clear hk
 have hk:=Jy7 SB.out HI.out.1 HI.out.2 d.c.A
 rw[HX3.out.1,HX3.out.2.1,HX3.out.2.2] at hk
 have HKB:=Ja hk
 clear hk
 go_cut [5,6] from 9 to 23 (fun sa sb wx=>∃ k x3,sa=.pointer (some ⟨k,0,none⟩)/\sb=.int .i64 E/\Sep w0 r wx (kT p { Y with D:=Y.D.set i (qn,x3) } { K with D:=K.D.set i T }::blk q2 (Ji 0 0 0 (.slice none 0 0))::blk q (Jp d)::blk k (.cells #[.int .i64 x.fr,.int .i64 x.rt] 182)::R))
 case first =>
  have hS:=HS.out _ _ _ _ _ (by rfl) ⟨_,HI.out.2⟩ S1.out.drew
  have hSB:=HS.out _ _ _ _ _ (by rfl) ⟨_,HI.out.2⟩ SB.out
  go_region_held3 (fun W=>W.cell? ⟨p,7,none⟩=some (.slice (some ⟨g,0,none⟩) z cap)/\W.cell? ⟨g,i,none⟩=some (Je qn)/\W.cell? ⟨q,11,none⟩=some (.int .i64 (i:Int))/\W.cell? ⟨q,3,none⟩=some (.int .i64 d.c.A)) (first|with_reducible assumption|with_reducible exact hS|with_reducible exact hSB) (first|(go_at_call 241;(with_reducible refine Jqa HKB.out ?_);rintro e w3 ⟨rfl,x3,s3⟩;have hS3:=HS.out _ _ _ _ _ (by rfl) ⟨_,Jmd HI.out.2 _⟩ s3;have s4:=s3.from4;obtain⟨mf0,mz⟩:=s4.zPg (Jms);obtain⟨z0,z1⟩:=mz;have s5:=s4.putPg x;have s6:=s5.to4;have hS6:=HS.out _ _ _ _ _ (by rfl) ⟨_,Jmd HI.out.2 _⟩ s6;have S6:=Ja s6;clear s3 s4 s5 s6)|(go_at_call 241;(with_reducible refine Jqa HK.out ?_);rintro e w3 ⟨rfl,x3,s3⟩;have hS3:=HS.out _ _ _ _ _ (by rfl) ⟨_,Jmd HI.out.2 _⟩ s3;have s4:=(s3.box (.cells #[.int .i64 0,.int .i64 0] 182)).to4;have hS4:=HS.out _ _ _ _ _ (by rfl) ⟨_,Jmd HI.out.2 _⟩ s4;have s6:=(s3.box (.cells #[.int .i64 x.fr,.int .i64 x.rt] 182)).to4;have hS6:=HS.out _ _ _ _ _ (by rfl) ⟨_,Jmd HI.out.2 _⟩ s6;have S6:=Ja s6;clear s3 s4 s6))
  all_goals go_wp2_with fail
  all_goals go_meet
  all_goals exact⟨_,_,rfl,rfl,S6.out⟩
 case rest =>
  obtain⟨k,x3,rfl,rfl,s6⟩:=hcut
  have S6:=Ja s6
  clear S1 SB HK HKB HS s6
  obtain rfl:E=0:=by simpa using he2
  clear he2 he3 HX3
  go_wp2_with (first|(go_at_call 60;refine Jqa (JI _ _) ?_;rintro e w9 ⟨rfl,b9⟩;have s7:=((S6.out.below b9).box (Ji 0 0 (-1) (.slice none 0 0))).swap;have dd11:(w9.alloc (.cells #[.int .i64 0,.int .u64 0,.int .i64 (-1),.slice none 0 0] 42)).cell? ⟨q,11,none⟩=some (.int .i64 d.x.o):=(s7.blkCell (p:=q) (Jmc (Jmc (Jmc (Jms)))) 11).1;have dd3:(w9.alloc (.cells #[.int .i64 0,.int .u64 0,.int .i64 (-1),.slice none 0 0] 42)).cell? ⟨q,3,none⟩=some (.int .i64 d.c.A):=(s7.blkCell (p:=q) (Jmc (Jmc (Jmc (Jms)))) 3).1;have dp0:(w9.alloc (.cells #[.int .i64 0,.int .u64 0,.int .i64 (-1),.slice none 0 0] 42)).cell? ⟨k,0,none⟩=some (.int .i64 x.fr):=(s7.blkCell (p:=k) (Jmc (Jmc (Jmc (Jmc (Jms))))) 0).1;have dp1:(w9.alloc (.cells #[.int .i64 0,.int .u64 0,.int .i64 (-1),.slice none 0 0] 42)).cell? ⟨k,1,none⟩=some (.int .i64 x.rt):=(s7.blkCell (p:=k) (Jmc (Jmc (Jmc (Jmc (Jms))))) 1).1;have s8:=Sep.lit (E:=Vq) okR ((S6.out.below b9).box (Ji 0 0 (-1) (.slice (some ⟨w9.heap.size+1,0,none⟩) 1 1))).swap [⟨d.x.o,d.c.A,x.fr,x.rt⟩] (by simp) #[.int .i64 d.x.o,.int .i64 d.c.A,.int .i64 x.fr,.int .i64 x.rt] rfl;rw[show(w9.alloc (Ji 0 0 (-1) (.slice (some ⟨w9.heap.size+1,0,none⟩) 1 1))).heap.size=w9.heap.size+1 by simp] at s8;change Sep w0 r ((w9.alloc (.cells #[.int .i64 0,.int .u64 0,.int .i64 (-1),(.slice (some ⟨w9.heap.size+1,0,none⟩) 1 1)] 42)).alloc (.cells #[.int .i64 d.x.o,.int .i64 d.c.A,.int .i64 x.fr,.int .i64 x.rt] 243)) _ at s8;have sx:=s8.from4;obtain⟨u0,u1,u2,u3,g0,g1,g2,g3⟩:=sx.cells4 (Jms);have s10:=sx.put4 0 0 (-1) (.slice (some ⟨w9.heap.size+1,0,none⟩) 1 1);have S10:=Ja s10;clear s7 s8 sx s10 b9;simp only[Jf])|fail)
  generalize hv:(Value.slice (some ⟨w9.heap.size+1,0,none⟩) 1 1)=v at *
  obtain⟨h0,h1,h2,h3,-⟩:=S10.out.cells4 (Jms)
  have G10:=Ja (And.intro (And.intro h0 h1) (And.intro h2 h3))
  clear h0 h1 h2 h3
  go_wp2
  refine bodyPost_ret (v:=Jf 0 0 (-1) v) ?_ rfl ⟨v,rfl,_,S10.out.drop.swap.del3.del3.del3⟩
  simp[results,Tryz.f139,go_sem,Jf,G10.out.1.1,G10.out.1.2,G10.out.2.1,G10.out.2.2]
end
section
variable {w0 w w':World} {r p n m:Nat} {Y:Ly} {K:Kr} {R:List Th} {d:De}
theorem J48 (s:Sep w0 r w (kT p Y K::R)) (o:Dd w0 r n m K d):Calls Tryz.prog 127 #[Je p,JD d] w (DR w0 r p R (Jfj K d.c,Ii (J4 K d.c.w 1))):=by
 unfold Jfj
 by_cases he:J4 K d.c.w 1=0
 ·have hw:=(AK o.v he).1
  rw[if_pos he,he,<- o.f]
  exact DR.plain (J4v s d o.v.ts.n0 o.w he o.few o.f0 hw)
 ·rw[if_neg he]
  exact DR.plain (J21 s d o.v.ts.n0 o.w he)
theorem J3l (s:Sep w0 r w (kT p Y K::R)) (o:Dd w0 r n m K d):Calls Tryz.prog 128 #[Je p,JD d] w (DR w0 r p R (if d.c.a=0 then (K,Ii 181) else (ZE K d.c.a,⟨0,0,-1,Vf K d.c.a⟩))):=by
 by_cases h:d.c.a=0
 ·rw[if_pos h]
  exact DR.plain (J37 s d h)
 ·rw[if_neg h,<- o.f]
  exact J25 s d h o.f0.1 o.f0.2 o.few o.v.few (by have:=o.v.cd;have:=o.hm;omega)
theorem J3m (s:Sep w0 r w (kT p Y K::R)) (o:Dd w0 r n m K d):Calls Tryz.prog 130 #[Je p,JD d] w (DR w0 r p R (EB (AC K d.x.o) d.x.o,⟨Jq9 (AC K d.x.o) d.x.o,0,J0p (AC K d.x.o) d.x.o,[]⟩)):=by
 unfold AC
 by_cases hb:(Th.Gf K.h d.x.o).st=3
 ·rw[if_pos hb]
  unfold J0p Jq9
  by_cases he:Th.Xh K.h d.x.o=0
  ·rw[if_pos (show Th.Xh (freed K d.x.o).h d.x.o=0 from he)]
   exact DR.plain (J27 s d hb he o.v.few)
  ·rw[if_neg (show ¬ Th.Xh (freed K d.x.o).h d.x.o=0 from he)]
   exact DR.plain (J26 s d hb he o.v.few)
 ·rw[if_neg hb]
  unfold J0p Jq9
  by_cases he:Th.Xh K.h d.x.o=0
  ·rw[if_pos he]
   exact DR.plain (J29 s d hb he)
  ·rw[if_neg he]
   exact DR.plain (J28 s d hb he)
theorem J49 (s:Sep w0 r w (kT p Y K::R)):Calls Tryz.prog 132 #[Je p,JD d] w (DR w0 r p R ({ K with h:=Th.VW K.h d.x.o d.c.A },Ii (Th.VV K.h d.x.o d.c.A))):=
 DR.plain (Jv4 s d)
theorem J3n (s:Sep w0 r w (kT p Y K::R)) (o:Dd w0 r n m K d) (hk:d.x.k=5):Calls Tryz.prog 135 #[Je p,JD d] w (DR w0 r p R (Jh4 K d.x.o d.x.b,⟨0,0,Jh5 K d.x.o,[]⟩)):=by
 have hlt:d.x.o<(K.N.length:Int):=by
  have h:=(MJ o.v o.k).n
  rw[<- o.x] at h
  exact h hk
 have hb:U6 d.x.b:=by rw[o.x];exact(Mj o.v o.k).b
 exact DR.plain (J2a s d o.v.few o.n0 hlt hb (Jps hb))
theorem J5a (s:Sep w0 r w (kT p Y K::R)) (o:Dd w0 r n m K d) (hk:d.x.k=5):Calls Tryz.prog 136 #[Je p,JD d] w (DR w0 r p R (Jf3 K d.core d.who d.c d.x)):=by
 obtain⟨i,hi⟩:=o.nat
 have hlt:d.x.o<(K.N.length:Int):=by
  have h:=(MJ o.v o.k).n
  rw[<- o.x] at h
  exact h hk
 obtain⟨S,hS⟩:∃ S,K.N[i]? = some S:=⟨_,Jqc (by omega)⟩
 have hl:=Jts o.v.th (o.v.nt S (Jqi hS))
 unfold Jf3 setN
 rw[hi,J5h hS,Int.toNat_natCast,<- Jew]
 by_cases he:No.Jq8 S d.who=0
 ·rw[if_pos he]
  by_cases hb:No.J0n S d.who=true
  ·rw[if_pos hb]
   exact DR.plain (J3d s d hS hi (by omega) o.ht he hb)
  ·rw[if_neg hb]
   exact DR.plain (J3c s d hS hi (by omega) o.ht he (by simpa using hb))
 ·rw[if_neg he]
  have h:=DR.plain (J4e s d hS hi (by omega) o.ht he)
  rw[J4z he,OX hS] at h
  exact h
theorem J4n (s:Sep w0 r w (kT p Y K::R)) (o:Dd w0 r n m K d) (hy:d.y=Jk K d.c.w) (hk:d.y.k=8):Calls Tryz.prog 137 #[Je p,JD d] w (DR w0 r p R (setD K d.y.o (Ta.IT (spN K d.y.o) d.c.A d.x.o),Ii (Ta.IS (spN K d.y.o) d.c.A d.x.o))):=by
 have hk2:(Jk K d.c.w).k≠0:=by rw[<- hy,hk];decide
 have h0:0<=d.y.o:=by rw[hy];exact Jex o.v hk2
 have hlt:d.y.o<(K.D.length:Int):=by
  have h:=(MJ o.v hk2).d
  rw[<- hy] at h
  exact h hk
 obtain⟨i,hi⟩:∃ i:Nat,d.y.o=(i:Int):=⟨d.y.o.toNat,by omega⟩
 obtain⟨S,hS⟩:∃ S,K.D[i]? = some S:=⟨_,Jqc (by omega)⟩
 unfold setD
 rw[hi,J2l hS,Int.toNat_natCast]
 exact DR.plain (J2m s d hS hi)
theorem J5p (s:Sep w0 r w (kT p Y K::R)) (o:Dd w0 r n m K d) (hy:d.y=Jk K d.c.w) (hk:d.y.k=8):Calls Tryz.prog 138 #[Je p,JD d] w (DR w0 r p R (setD K d.y.o (Ta.Jtq (spN K d.y.o) d.c.A ⟨d.x.o,bits .and .i64 d.x.r d.c.B⟩),Ii (Ta.Jow (spN K d.y.o) d.c.A ⟨d.x.o,bits .and .i64 d.x.r d.c.B⟩))):=by
 have hk2:(Jk K d.c.w).k≠0:=by rw[<- hy,hk];decide
 have h0:0<=d.y.o:=by rw[hy];exact Jex o.v hk2
 have hlt:d.y.o<(K.D.length:Int):=by
  have h:=(MJ o.v hk2).d
  rw[<- hy] at h
  exact h hk
 obtain⟨i,hi⟩:∃ i:Nat,d.y.o=(i:Int):=⟨d.y.o.toNat,by omega⟩
 obtain⟨S,hS⟩:∃ S,K.D[i]? = some S:=⟨_,Jqc (by omega)⟩
 unfold setD
 rw[hi,J2l hS,Int.toNat_natCast]
 exact DR.plain (J31 s d hS hi)
theorem J4o (s:Sep w0 r w (kT p Y K::R)) (o:Dd w0 r n m K d) (hk:d.x.k=8):Calls Tryz.prog 139 #[Je p,JD d] w (DR w0 r p R (if Ta.ET (spN K d.x.o) d.c.A=0 then (setD K d.x.o (Ta.Ue (spN K d.x.o) d.c.A),⟨0,0,-1,[⟨d.x.o,d.c.A,(Ta.Xl (spN K d.x.o) d.c.A).fr,(Ta.Xl (spN K d.x.o) d.c.A).rt⟩]⟩) else (K,Ii (Ta.ET (spN K d.x.o) d.c.A)))):=by
 obtain⟨i,hi⟩:=o.nat
 have hlt:d.x.o<(K.D.length:Int):=by
  have h:=(MJ o.v o.k).d
  rw[<- o.x] at h
  exact h hk
 obtain⟨S,hS⟩:∃ S,K.D[i]? = some S:=⟨_,Jqc (by omega)⟩
 have e1:spN K d.x.o=S:=by rw[hi];exact J2l hS
 rw[e1]
 by_cases he:Ta.ET S d.c.A=0
 ·rw[if_pos he]
  have e2:setD K d.x.o (Ta.Ue S d.c.A)={ K with D:=K.D.set i (Ta.Ue S d.c.A) }:=by unfold setD;rw[hi,Int.toNat_natCast]
  rw[e2]
  exact J4d s d hS hi he
 ·rw[if_neg he]
  have h:=DR.plain (J4c s d hS hi he)
  rw[J5m he,OX hS] at h
  exact h
theorem J47 (s:Sep w0 r w (kT p Y K::R)):Calls Tryz.prog 140 #[Je p,JD d] w (DR w0 r p R ({ K with l:=Ir.Jev K.l d.x.o d.y.o d.y.b },Ii (Ir.Jw3 K.l d.x.o d.y.o))):=
 DR.plain (J2z s d)
theorem J39 (v:Iv n m K) {f:Ir.Ln->Bool} (hf:∀ x,f x=true->x.s≠none) {o:Int} (hb:Ir.J05 f K.l o=true):0<=Ir.J0h f K.l o/\Ir.J0h f K.l o<(K.N.length:Int):=by
 unfold Ir.J05 at hb
 unfold Ir.J0h
 cases e:Ir.atI K.l o with
 | none=>rw[e] at hb;cases hb
 | some x =>
  rw[e] at hb
  simp only at hb ⊢
  have hx:x∈K.l:=by
   unfold Ir.atI at e
   split at e
   ·exact Jqi e
   ·cases e
  have h:=v.ln x hx (hf x hb)
  rw[if_pos hb]
  exact⟨h.1,h.2.1⟩
theorem J5o (s:Sep w0 r w (kT p Y K::R)) (o:Dd w0 r n m K d):Calls Tryz.prog 141 #[Je p,JD d] w (DR w0 r p R (if Ir.J05 Ir.isM K.l d.x.o=true then (Jh4 (Aj K d.x.o) (Ir.J0h Ir.isM K.l d.x.o) (Ir.Jt8 Ir.isM K.l d.x.o),⟨Ir.J0i K.l d.x.o,0,Jh5 (Aj K d.x.o) (Ir.J0h Ir.isM K.l d.x.o),[]⟩) else (Aj K d.x.o,Ii (Ir.J0i K.l d.x.o)))):=by
 by_cases hb:Ir.J05 Ir.isM K.l d.x.o=true
 ·rw[if_pos hb]
  have h:=J39 o.v Jkk hb
  have hg:=Jpz o.v Jkk d.x.o
  exact DR.plain (J4i s d hb o.v.few h.1 h.2 hg (Jps hg))
 ·rw[if_neg hb]
  exact DR.plain (J43 s d (by simpa using hb))
def J44:List Nat:=[0,1,2,3,4,5,6,7,8,9,10,11,12,13,14,15,16]
def qIn (q:Int):Bool:=decide (q<0) || decide (17<=q) || J44.contains q.toNat
structure Cd (c:Cl):Prop where
 w:VC c.w
 A:VC c.A
 B:VC c.B
 C:VC c.C
 q:qIn c.q=true
theorem J2r (q:Int):qIn q=true:=by
 by_cases h:0<=q/\q<17
 ·have hcs:q=0\/q=1\/q=2\/q=3\/q=4\/q=5\/q=6\/q=7\/q=8\/q=9\/q=10\/q=11\/q=12\/q=13\/q=14\/q=15\/q=16:=by omega
  rcases hcs with rfl|rfl|rfl|rfl|rfl|rfl|rfl|rfl|rfl|rfl|rfl|rfl|rfl|rfl|rfl|rfl|rfl<;>rfl
 ·unfold qIn
  rcases(by omega:q<0\/17<=q) with h|h
  ·rw[decide_eq_true h,Bool.true_or,Bool.true_or]
  ·rw[decide_eq_true h,Bool.or_true,Bool.true_or]
theorem J5j {i:Nat} (h:qIn (i:Int)=true) (hi:i<17):J44.contains i=true:=by
 unfold qIn at h
 rw[decide_eq_false (by omega),decide_eq_false (by omega)] at h
 exact h
theorem J3o (s:Sep w0 r w (kT p Y K::R)) (o:Dd w0 r n m K d) {i:Nat} (hq:d.c.q=(i:Int)) (hi:i<17) (hin:J44.contains i=true) (hB:IA K d.c i=true) (hy:d.y=if nW i=0 then Sl.no else Jk K d.c.w) :
  Calls Tryz.prog (fnL.getD i 0) #[Je p,JD d] w (DR w0 r p R (if Jk4 d.c d.x=true then Ay K d.core d.who d.c d.x else (K,Ii 181))):=by
 have hat:atB d.x i=true:=by
  rw[Jjz,<- o.x] at hB
  exact(Bool.and_eq_true_iff.1 hB).1
 have hkk:=J06 hat
 have hrr:0<=d.x.r/\d.x.r<=7:=by rw[o.x];exact Jw5 o.v
 have hmay:=Jk5 (c:=d.c) (x:=d.x) hq hi hrr
 rw[hat,Bool.true_and] at hmay
 have hwy:nW i≠0->d.y=Jk K d.c.w/\(Jk K d.c.w).k=nW i:=fun h=>by
  rw[if_neg h] at hy
  rw[Jjz] at hB
  have h2:=(Bool.and_eq_true_iff.1 hB).2
  simp only[Bool.or_eq_true,Bool.and_eq_true,beq_iff_eq] at h2
  refine⟨hy,?_⟩
  rcases h2 with h2|⟨_,h2|h2⟩
  ·exact absurd h2 h
  ·exact absurd h2 h
  ·exact h2
 have hcs:i=0\/i=1\/i=2\/i=3\/i=4\/i=5\/i=6\/i=7\/i=8\/i=9\/i=10\/i=11\/i=12\/i=13\/i=14\/i=15\/i=16:=by omega
 rw[hmay]
 clear hmay hB hat
 have hd:∀ X,Ay K d.core d.who d.c d.x=X->X=Ay K d.core d.who d.c d.x:=fun X h=>h.symm
 rcases hcs with rfl|rfl|rfl|rfl|rfl|rfl|rfl|rfl|rfl|rfl|rfl|rfl|rfl|rfl|rfl|rfl|rfl
 ·rw[hq,if_pos (by rfl)]
  unfold Ay
  rw[hq]
  exact Jx0 s o (hkk.2.resolve_left (by decide))
 ·by_cases hk:d.x.k=1
  ·have h:=J0z s o
   rw[if_pos hk] at h
   rw[hq,hk,if_neg (by decide)]
   exact h
  ·have h:=J0z s o
   rw[if_neg hk] at h
   have e:(d.x.k == 1)=false:=by simpa using hk
   rw[hq,e,if_pos (by rfl)]
   unfold Ay
   rw[hq]
   exact h
 ·rw[hq,if_pos (by rfl)]
  unfold Ay
  rw[hq]
  exact J48 s o
 ·rw[hq,if_pos (by rfl)]
  unfold Ay
  rw[hq]
  exact J3l s o
 ·rw[hq,if_pos (by rfl)]
  unfold Ay
  rw[hq]
  exact Jx1 s o
 ·rw[hq,if_pos (by rfl)]
  unfold Ay
  rw[hq]
  exact J3m s o
 ·rw[hq,if_pos (by rfl)]
  unfold Ay
  rw[hq]
  exact Jv3 s o
 ·rw[hq,if_pos (by rfl)]
  unfold Ay
  rw[hq]
  exact J49 s
 ·rw[hq,if_pos (by rfl)]
  unfold Ay
  rw[hq]
  exact J01 s o (hkk.2.resolve_left (by decide))
 ·rw[hq,if_pos (by rfl)]
  unfold Ay
  rw[hq]
  exact J00 s o (hkk.2.resolve_left (by decide))
 ·rw[hq,if_pos (by rfl)]
  unfold Ay
  rw[hq]
  exact J3n s o (hkk.2.resolve_left (by decide))
 ·rw[hq,if_pos (by rfl)]
  unfold Ay
  rw[hq]
  exact J5a s o (hkk.2.resolve_left (by decide))
 ·obtain⟨h1,h2⟩:=hwy (by decide)
  have h3:d.y.k=8:=by rw[h1];exact h2
  have h:=J4n s o h1 h3
  rw[hq,if_pos (by rfl)]
  unfold Ay
  rw[hq]
  show Calls _ _ _ _ (DR w0 r p R (if (Jk K d.c.w).k=8 then _ else _))
  rw[if_pos (show(Jk K d.c.w).k=8 from h2),<- h1]
  exact h
 ·obtain⟨h1,h2⟩:=hwy (by decide)
  have h3:d.y.k=8:=by rw[h1];exact h2
  have h:=J5p s o h1 h3
  rw[hq,if_pos (by rfl)]
  unfold Ay
  rw[hq]
  show Calls _ _ _ _ (DR w0 r p R (if (Jk K d.c.w).k=8 then _ else _))
  rw[if_pos (show(Jk K d.c.w).k=8 from h2),<- h1]
  exact h
 ·rw[hq,if_pos (by rfl)]
  unfold Ay
  rw[hq]
  exact J4o s o (hkk.2.resolve_left (by decide))
 ·obtain⟨h1,h2⟩:=hwy (by decide)
  have h:=J47 (d:=d) s
  rw[hq,if_pos (by rfl)]
  unfold Ay
  rw[hq]
  show Calls _ _ _ _ (DR w0 r p R (if (Jk K d.c.w).k=5 then _ else _))
  rw[if_pos (show(Jk K d.c.w).k=5 from h2),<- h1]
  exact h
 ·rw[hq,if_pos (by rfl)]
  unfold Ay
  rw[hq]
  exact J5o s o
theorem J40 (s:Sep w0 r w (kT p Y K::R)) (o:Kd w0 r n m K) (core:Int) {c:Cl} (b:Cd c) :
  Calls Tryz.prog 13 #[Je p,.int .i64 core,ZI c] w (DR w0 r p R (doK K core c)):=by
 unfold doK
 by_cases hb:Th.Xm (JQ K core).h core=true
 ·rw[if_pos hb]
  by_cases hq:0<=c.q/\c.q<=17
  ·rw[if_pos hq]
   obtain⟨i,hi⟩:∃ i:Nat,c.q=(i:Int):=⟨c.q.toNat,by omega⟩
   obtain⟨t1,t2⟩:=Jl5 (o.v.picked core) hb
   by_cases h17:c.q=17
   ·rw[if_pos h17]
    exact Jv7 s o.ht core c hb hi (by omega) _ rfl fun Y2 W T s2=>by
     obtain rfl:i=17:=by omega
     exact DR.plain (Jv2 s2 (F5 c core _) o.ht)
   ·rw[if_neg h17]
    have hi17:i<17:=by omega
    have vp:=o.v.picked core
    have ec:∀ a,Jk (JQ K core) a=Jk K a:=fun _=>rfl
    rw[<- ec]
    by_cases hB:IA (JQ K core) c i=true
    ·refine J0s s o.ht core c hb hi hi17 o.v.ts.n0 o.N o.hn hB _ rfl fun Y2 W T s2=>?_
     have hk:(Jk (JQ K core) c.a).k≠0:=by
      rw[Jjz] at hB
      exact(J06 (Bool.and_eq_true_iff.1 hB).1).1
     exact J3o s2 (d:=de1 c core (Th.XE (Th.JB K.h core) core) (Jk (JQ K core) c.a) (if nW i=0 then Sl.no else Jk (JQ K core) c.w)) ⟨vp,o.hm,o.fu,o.T,o.hr,o.ht,t1,t2,b.A,b.B,b.C,b.w,rfl,rfl,hk⟩ hi hi17 (J5j (by rw[<- hi];exact b.q) hi17) hB rfl
    ·rw[Jx4 vp hi hi17 (by simpa using hB)]
     exact DR.plain (J0w s o.ht core c hb hi hi17 o.v.ts.n0 o.N o.hn (by simpa using hB))
  ·rw[if_neg hq]
   exact DR.plain (Jv5 s o.ht core c hb hq)
 ·rw[if_neg hb]
  have hb2:Th.Xm (JQ K core).h core=false:=by simpa using hb
  exact DR.plain (Jv6 s o.ht core c hb2)
end
theorem Lt.below {w w':World} (h:Lt w) (b:Below w.heap.size w w'):Lt w':=⟨h.u.below b h.u.size,h.n.below b h.n.size,h.t.below b⟩
theorem Kv.irq {n m:Nat} {K:Kr} (h:Kv n m K) (o:Int):Kv n m (J12 K o):=⟨h.v.irq o,J3v h.fu o⟩
theorem Kv.tick {n m:Nat} {K:Kr} (h:Kv n m K) (core:Int):Kv n m (J2u K core):=⟨h.v.tick core,h.fu⟩
section
variable {w0 w w':World} {p n m:Nat} {Y:Ly} {K K':Kr} {R:List Th}
theorem J2e (s:Sep w0 w0.heap.size w (kT p Y K::R)) (L:Lt w0) (v:Kv n m K) (hm:m<=100000) (core:Int) {c:Cl} (b:Cd c) {e x k:Int} {f:List Lr} (hX:doK K core c=(K',⟨e,x,k,f⟩)) :
  Calls Tryz.prog 13 #[Je p,.int .i64 core,.agg #[.int .i64 c.q,.int .i64 c.a,.int .i64 c.w,.int .i64 c.A,.int .i64 c.B,.int .i64 c.C]] w fun r w'=>∃ ao cap Y',r=.returned (.agg #[.int .i64 e,.int .u64 x,.int .i64 k,.slice ao f.length cap])/\Sep w0 w0.heap.size w' (kT p Y' K'::Jv Vq (.slice ao f.length cap) f::R):=by
 have h:=J40 s ⟨v.v,hm,v.fu,L.u,L.u.size,L.n,L.n.size,fun u b=>L.t.below b⟩ core b
 rw[hX] at h
 refine Jqa h ?_
 rintro r w' ⟨u,rfl,Y',s'⟩
 obtain⟨ao,cap,rfl⟩:=s'.listIs (E:=Vq) (v:=u) (A:=f) (by simp)
 exact⟨ao,cap,Y',rfl,s'⟩
end
section
variable {w0 w w':World} {r:Nat} {R:List Th}
theorem J1k {w0:World} (L:Lt w0) {n m:Nat} {K K':Kr} (v:Kv n m K) (hm:m<=100000) {core:Int} {c:Cl} (b:Cd c) {e x k:Int} (hX:doK K core c=(K',⟨e,x,k,[]⟩)) (p:Nat) (W:World) (Y:Ly) (T:List Th) (s:Sep w0 w0.heap.size W (kT p Y K::T)) :
  Calls Tryz.prog 13 #[Je p,.int .i64 core,.agg #[.int .i64 c.q,.int .i64 c.a,.int .i64 c.w,.int .i64 c.A,.int .i64 c.B,.int .i64 c.C]] W fun r w'=>∃ ao cap Y',r=.returned (.agg #[.int .i64 e,.int .u64 x,.int .i64 k,.slice ao 0 cap])/\Sep w0 w0.heap.size w' (kT p Y' K'::T):=by
 refine Jqa (J2e s L v hm core b hX) ?_
 rintro r w' ⟨ao,cap,Y',rfl,s'⟩
 exact⟨ao,cap,Y',rfl,s'.drop2⟩
theorem J1r (w:World) (L:Lt w):Calls Tryz.prog 21 #[] w fun e w'=>e=.returned (.bool true)/\Below w.heap.size w w':=by
 have k0:Kv 1 0 Kf0:=by
  have h:=J0t (n:=1) (m:=2) (b:=10) (Q:=[5]) rfl rfl
  rw[J0x] at h
  exact h
 have x1:doK Kf0 0 cf1=(Kf1,⟨0,0,(-1),[]⟩):=J07 rfl f1
 have k1:=k0.call (by omega) (small _ (by decide)) x1
 have H1:Hid (∀ (p:Nat) (W:World) (Y:Ly) (T:List Th),Sep w w.heap.size W (kT p Y Kf0::T)->Calls Tryz.prog 13 #[Je p,.int .i64 0,.agg #[.int .i64 0,.int .i64 1,.int .i64 20,.int .i64 4,.int .i64 0,.int .i64 1]] W fun r w'=>∃ ao cap Y',r=.returned (.agg #[.int .i64 0,.int .u64 0,.int .i64 (-1),.slice ao 0 cap])/\Sep w w.heap.size w' (kT p Y' Kf1::T)):=fun p W Y T s=>J1k L k0 (by omega) ⟨small _ (by decide),small _ (by decide),small _ (by decide),small _ (by decide),rfl⟩ x1 p W Y T s
 have x2:doK Kf1 0 cf2=(Kf2,⟨0,0,(-1),[]⟩):=J07 rfl f2
 have k2:=k1.call (by omega) (small _ (by decide)) x2
 have H2:Hid (∀ (p:Nat) (W:World) (Y:Ly) (T:List Th),Sep w w.heap.size W (kT p Y Kf1::T)->Calls Tryz.prog 13 #[Je p,.int .i64 0,.agg #[.int .i64 1,.int .i64 20,.int .i64 21,.int .i64 2,.int .i64 7,.int .i64 0]] W fun r w'=>∃ ao cap Y',r=.returned (.agg #[.int .i64 0,.int .u64 0,.int .i64 (-1),.slice ao 0 cap])/\Sep w w.heap.size w' (kT p Y' Kf2::T)):=fun p W Y T s=>J1k L k1 (by omega) ⟨small _ (by decide),small _ (by decide),small _ (by decide),small _ (by decide),rfl⟩ x2 p W Y T s
 have x3:doK Kf2 0 cf3=(Kf3,⟨181,0,(-1),[]⟩):=J07 rfl f3
 have k3:=k2.call (by omega) (small _ (by decide)) x3
 have H3:Hid (∀ (p:Nat) (W:World) (Y:Ly) (T:List Th),Sep w w.heap.size W (kT p Y Kf2::T)->Calls Tryz.prog 13 #[Je p,.int .i64 0,.agg #[.int .i64 9,.int .i64 21,.int .i64 0,.int .i64 0,.int .i64 0,.int .i64 0]] W fun r w'=>∃ ao cap Y',r=.returned (.agg #[.int .i64 181,.int .u64 0,.int .i64 (-1),.slice ao 0 cap])/\Sep w w.heap.size w' (kT p Y' Kf3::T)):=fun p W Y T s=>J1k L k2 (by omega) ⟨small _ (by decide),small _ (by decide),small _ (by decide),small _ (by decide),rfl⟩ x3 p W Y T s
 have x4:doK Kf3 0 cf4=(Kf4,⟨0,2,(-1),[]⟩):=J07 rfl f4
 have k4:=k3.call (by omega) (small _ (by decide)) x4
 have H4:Hid (∀ (p:Nat) (W:World) (Y:Ly) (T:List Th),Sep w w.heap.size W (kT p Y Kf3::T)->Calls Tryz.prog 13 #[Je p,.int .i64 0,.agg #[.int .i64 4,.int .i64 1,.int .i64 0,.int .i64 0,.int .i64 0,.int .i64 0]] W fun r w'=>∃ ao cap Y',r=.returned (.agg #[.int .i64 0,.int .u64 2,.int .i64 (-1),.slice ao 0 cap])/\Sep w w.heap.size w' (kT p Y' Kf4::T)):=fun p W Y T s=>J1k L k3 (by omega) ⟨small _ (by decide),small _ (by decide),small _ (by decide),small _ (by decide),rfl⟩ x4 p W Y T s
 have x5:doK Kf4 0 cf5=(Kf5,⟨180,0,(-1),[]⟩):=J07 rfl f5
 have k5:=k4.call (by omega) (small _ (by decide)) x5
 have H5:Hid (∀ (p:Nat) (W:World) (Y:Ly) (T:List Th),Sep w w.heap.size W (kT p Y Kf4::T)->Calls Tryz.prog 13 #[Je p,.int .i64 0,.agg #[.int .i64 18,.int .i64 0,.int .i64 0,.int .i64 0,.int .i64 0,.int .i64 0]] W fun r w'=>∃ ao cap Y',r=.returned (.agg #[.int .i64 180,.int .u64 0,.int .i64 (-1),.slice ao 0 cap])/\Sep w w.heap.size w' (kT p Y' Kf5::T)):=fun p W Y T s=>J1k L k4 (by omega) ⟨small _ (by decide),small _ (by decide),small _ (by decide),small _ (by decide),rfl⟩ x5 p W Y T s
 have x6:doK Kf5 1 cf6=(Kf6,⟨182,0,(-1),[]⟩):=J07 rfl f6
 have k6:=k5.call (by omega) (small _ (by decide)) x6
 have H6:Hid (∀ (p:Nat) (W:World) (Y:Ly) (T:List Th),Sep w w.heap.size W (kT p Y Kf5::T)->Calls Tryz.prog 13 #[Je p,.int .i64 1,.agg #[.int .i64 0,.int .i64 0,.int .i64 0,.int .i64 0,.int .i64 0,.int .i64 0]] W fun r w'=>∃ ao cap Y',r=.returned (.agg #[.int .i64 182,.int .u64 0,.int .i64 (-1),.slice ao 0 cap])/\Sep w w.heap.size w' (kT p Y' Kf6::T)):=fun p W Y T s=>J1k L k5 (by omega) ⟨small _ (by decide),small _ (by decide),small _ (by decide),small _ (by decide),rfl⟩ x6 p W Y T s
 have x7:doK Kf6 0 cf7=(Kf7,⟨0,0,(-1),[]⟩):=J07 rfl f7
 have k7:=k6.call (by omega) (small _ (by decide)) x7
 have H7:Hid (∀ (p:Nat) (W:World) (Y:Ly) (T:List Th),Sep w w.heap.size W (kT p Y Kf6::T)->Calls Tryz.prog 13 #[Je p,.int .i64 0,.agg #[.int .i64 6,.int .i64 2,.int .i64 0,.int .i64 0,.int .i64 0,.int .i64 0]] W fun r w'=>∃ ao cap Y',r=.returned (.agg #[.int .i64 0,.int .u64 0,.int .i64 (-1),.slice ao 0 cap])/\Sep w w.heap.size w' (kT p Y' Kf7::T)):=fun p W Y T s=>J1k L k6 (by omega) ⟨small _ (by decide),small _ (by decide),small _ (by decide),small _ (by decide),rfl⟩ x7 p W Y T s
 have x8:doK Kf7 0 cf8=(Kf8,⟨182,0,(-1),[]⟩):=J07 rfl f8
 have k8:=k7.call (by omega) (small _ (by decide)) x8
 have H8:Hid (∀ (p:Nat) (W:World) (Y:Ly) (T:List Th),Sep w w.heap.size W (kT p Y Kf7::T)->Calls Tryz.prog 13 #[Je p,.int .i64 0,.agg #[.int .i64 17,.int .i64 0,.int .i64 0,.int .i64 0,.int .i64 0,.int .i64 0]] W fun r w'=>∃ ao cap Y',r=.returned (.agg #[.int .i64 182,.int .u64 0,.int .i64 (-1),.slice ao 0 cap])/\Sep w w.heap.size w' (kT p Y' Kf8::T)):=fun p W Y T s=>J1k L k7 (by omega) ⟨small _ (by decide),small _ (by decide),small _ (by decide),small _ (by decide),rfl⟩ x8 p W Y T s
 have HB:Hid (∀ (g:Nat) (W:World) (T:List Th),Sep w w.heap.size W (Ta.Xa (.slice (some ⟨g,0,none⟩) 1 1) [5]::T)->Calls Tryz.prog 10 #[.agg #[.int .i64 1,.int .i64 10,.int .i64 2,.slice (some ⟨g,0,none⟩) 1 1]] W fun r w'=>∃ p,r=.returned (.tuple #[Je p,.int .i64 0])/\∃ Y,Sep w w.heap.size w' (kT p Y Kf0::T)):=fun g W T s=>by
  have h:=J0r s (fun u b=>L.t.below b) (n:=1) (m:=2) (b:=10) rfl rfl
  rw[J0x] at h
  refine Jqa h ?_
  rintro r w' ⟨p,rfl,Y,s'⟩
  exact⟨p,rfl,Y,s'.drop2⟩
 have HBN:Hid (∀ (W:World) (T:List Th),Sep w w.heap.size W T->Calls Tryz.prog 10 #[.agg #[.int .i64 0,.int .i64 0,.int .i64 0,.slice none 0 0]] W fun r w'=>r=.returned (.tuple #[.pointer none,.int .i64 1])/\Sep w w.heap.size w' T):=fun W T s=>by
  refine Jqa (J0q (s.nil (E:=Ta.Ui)) (n:=0) (b:=0) (m:=0) rfl) ?_
  rintro r w' ⟨rfl,s'⟩
  exact⟨rfl,s'.drop⟩
 have HH3:Hid (∀ (p:Nat) (W:World) (Y:Ly) (T:List Th),Sep w w.heap.size W (kT p Y Kf3::T)->Calls Tryz.prog 23 #[Je p] W fun r w'=>∃ ao cap,r=.returned (.slice ao 8 cap)/\Sep w w.heap.size w' (kT p Y Kf3::T)):=fun p W Y T s=>by
  have h:=Jv8 s
  rw[fh3] at h
  refine Jqa h ?_
  rintro r w' ⟨ao,cap,rfl,s'⟩
  exact⟨ao,cap,rfl,s'.drop2⟩
 have HH8:Hid (∀ (p:Nat) (W:World) (Y:Ly) (T:List Th),Sep w w.heap.size W (kT p Y Kf8::T)->Calls Tryz.prog 23 #[Je p] W fun r w'=>∃ ao cap,r=.returned (.slice ao 6 cap)/\Sep w w.heap.size w' (kT p Y Kf8::T)):=fun p W Y T s=>by
  have h:=Jv8 s
  rw[fh8] at h
  refine Jqa h ?_
  rintro r w' ⟨ao,cap,rfl,s'⟩
  exact⟨ao,cap,rfl,s'.drop2⟩
 have HU:Hid (∀ (p:Nat) (W:World) (Y:Ly) (T:List Th),Sep w w.heap.size W (kT p Y Kf6::T)->Calls Tryz.prog 26 #[Je p,.int .i64 0] W fun r w'=>r=.returned (.tuple #[.agg #[.int .u64 0,.int .i64 10,.int .u64 0],.bool true])/\Sep w w.heap.size w' (kT p Y Kf6::T)):=fun p W Y T s=>Jq5 s (n:=0) (i:=0) rfl fu6
 have S0:=Ja (GL w)
 have heq:∀ W,(Op.equalIn 10000 70 (.agg #[.int .u64 0,.int .i64 10,.int .u64 0]) (.agg #[.int .u64 0,.int .i64 10,.int .u64 0])).run Tryz.prog W=.ok true W:=fun W=>Js4 W 0 10 0 0 10 0
 clear L k0 x1 k1 x2 k2 x3 k3 x4 k4 x5 k5 x6 k6 x7 k7 x8 k8
 go_enter Tryz.func21,Tryz.ntmps21
 go_wp2_with (first
  | (go_at_call 86;refine Jqa (J0u S0.out) ?_;rintro e w1 ⟨g,rfl,s1⟩;have S1:=Ja s1;clear s1)
  | (go_at_call 10;(with_reducible refine Jqa (HB.out _ _ _ S1.out) ?_);rintro e w2 ⟨p,rfl,Y0,s2⟩;have T0:=Ja s2;clear s2)
  | (go_at_call 13;(with_reducible refine Jqa (H1.out _ _ _ _ T0.out) ?_);rintro e v1 ⟨a1,c1,Y1,rfl,s1⟩;have T1:=Ja ((s1.box (.cells #[.int .i64 0,.int .u64 0,.int .i64 (-1),.slice a1 0 c1] 42)).swap);clear s1)
  | (go_at_call 13;(with_reducible refine Jqa (H2.out _ _ _ _ T1.out) ?_);rintro e v2 ⟨a2,c2,Y2,rfl,s2⟩;have T2:=Ja ((s2.box (.cells #[.int .i64 0,.int .u64 0,.int .i64 (-1),.slice a2 0 c2] 42)).swap);clear s2)
  | (go_at_call 13;(with_reducible refine Jqa (H3.out _ _ _ _ T2.out) ?_);rintro e v3 ⟨a3,c3,Y3,rfl,s3⟩;have T3:=Ja ((s3.box (.cells #[.int .i64 181,.int .u64 0,.int .i64 (-1),.slice a3 0 c3] 42)).swap);clear s3)
  | (go_at_call 23;(with_reducible refine Jqa (HH3.out _ _ _ _ T3.out) ?_);rintro e v31 ⟨a31,c31,rfl,s3⟩;have T31:=Ja s3;clear s3)
  | (go_at_call 13;(with_reducible refine Jqa (H4.out _ _ _ _ T31.out) ?_);rintro e v4 ⟨a4,c4,Y4,rfl,s4⟩;have T4:=Ja ((s4.box (.cells #[.int .i64 0,.int .u64 2,.int .i64 (-1),.slice a4 0 c4] 42)).swap);clear s4)
  | (go_at_call 13;(with_reducible refine Jqa (H5.out _ _ _ _ T4.out) ?_);rintro e v5 ⟨a5,c5,Y5,rfl,s5⟩;have T5:=Ja ((s5.box (.cells #[.int .i64 180,.int .u64 0,.int .i64 (-1),.slice a5 0 c5] 42)).swap);clear s5)
  | (go_at_call 13;(with_reducible refine Jqa (H6.out _ _ _ _ T5.out) ?_);rintro e v6 ⟨a6,c6,Y6,rfl,s6⟩;have T6:=Ja ((s6.box (.cells #[.int .i64 182,.int .u64 0,.int .i64 (-1),.slice a6 0 c6] 42)).swap);clear s6)
  | (go_at_call 26;(with_reducible refine Jqa (HU.out _ _ _ _ T6.out) ?_);rintro e v61 ⟨rfl,s6⟩;have T61:=Ja ((s6.box (.cells #[.int .u64 0,.int .i64 10,.int .u64 0] 70)).swap);clear s6)
  | (go_at_call 13;(with_reducible refine Jqa (H7.out _ _ _ _ T61.out) ?_);rintro e v7 ⟨a7,c7,Y7,rfl,s7⟩;have T7:=Ja ((s7.box (.cells #[.int .i64 0,.int .u64 0,.int .i64 (-1),.slice a7 0 c7] 42)).swap);clear s7)
  | (go_at_call 13;(with_reducible refine Jqa (H8.out _ _ _ _ T7.out) ?_);rintro e v8 ⟨a8,c8,Y8,rfl,s8⟩;have T8:=Ja ((s8.box (.cells #[.int .i64 182,.int .u64 0,.int .i64 (-1),.slice a8 0 c8] 42)).swap);clear s8)
  | (go_at_call 10;(with_reducible refine Jqa (HBN.out _ _ T8.out) ?_);rintro e w9 ⟨rfl,s9⟩;have av10:w9.cell? ⟨v1.heap.size,0,none⟩=some (.int .i64 0):=(s9.blkCell (p:=v1.heap.size) (Jmc (Jmc (Jmc (Jmc (Jmc (Jmc (Jmc (Jmc (Jmc (Jms)))))))))) 0).1;have av12:w9.cell? ⟨v1.heap.size,2,none⟩=some (.int .i64 (-1)):=(s9.blkCell (p:=v1.heap.size) (Jmc (Jmc (Jmc (Jmc (Jmc (Jmc (Jmc (Jmc (Jmc (Jms)))))))))) 2).1;have av20:w9.cell? ⟨v2.heap.size,0,none⟩=some (.int .i64 0):=(s9.blkCell (p:=v2.heap.size) (Jmc (Jmc (Jmc (Jmc (Jmc (Jmc (Jmc (Jmc (Jms))))))))) 0).1;have av30:w9.cell? ⟨v3.heap.size,0,none⟩=some (.int .i64 181):=(s9.blkCell (p:=v3.heap.size) (Jmc (Jmc (Jmc (Jmc (Jmc (Jmc (Jmc (Jms)))))))) 0).1;have av40:w9.cell? ⟨v4.heap.size,0,none⟩=some (.int .i64 0):=(s9.blkCell (p:=v4.heap.size) (Jmc (Jmc (Jmc (Jmc (Jmc (Jmc (Jms))))))) 0).1;have av41:w9.cell? ⟨v4.heap.size,1,none⟩=some (.int .u64 2):=(s9.blkCell (p:=v4.heap.size) (Jmc (Jmc (Jmc (Jmc (Jmc (Jmc (Jms))))))) 1).1;have T9:=Ja s9;clear s9)
  | (go_at_call 23;(with_reducible refine Jqa (HH8.out _ _ _ _ T9.out) ?_);rintro e w10 ⟨a10,c10,rfl,s10⟩;have bv50:w10.cell? ⟨v5.heap.size,0,none⟩=some (.int .i64 180):=(s10.blkCell (p:=v5.heap.size) (Jmc (Jmc (Jmc (Jmc (Jmc (Jms)))))) 0).1;have bv60:w10.cell? ⟨v6.heap.size,0,none⟩=some (.int .i64 182):=(s10.blkCell (p:=v6.heap.size) (Jmc (Jmc (Jmc (Jmc (Jms))))) 0).1;have bv70:w10.cell? ⟨v7.heap.size,0,none⟩=some (.int .i64 0):=(s10.blkCell (p:=v7.heap.size) (Jmc (Jmc (Jms))) 0).1;have bv80:w10.cell? ⟨v8.heap.size,0,none⟩=some (.int .i64 182):=(s10.blkCell (p:=v8.heap.size) (Jmc (Jms)) 0).1;have bu0:w10.cell? ⟨v61.heap.size,0,none⟩=some (.int .u64 0):=(s10.blkCell (p:=v61.heap.size) (Jmc (Jmc (Jmc (Jms)))) 0).1;have bu1:w10.cell? ⟨v61.heap.size,1,none⟩=some (.int .i64 10):=(s10.blkCell (p:=v61.heap.size) (Jmc (Jmc (Jmc (Jms)))) 1).1;have bu2:w10.cell? ⟨v61.heap.size,2,none⟩=some (.int .u64 0):=(s10.blkCell (p:=v61.heap.size) (Jmc (Jmc (Jmc (Jms)))) 2).1;have T10:=Ja s10;clear s10)
  | fail)
 go_ret
 exact⟨rfl,T10.out.low⟩
end
end
section
open Go.ChangeShapes Go.WideShapes Go.ChangeAt Go.RowKit Go.Joins Go.Deep
theorem J51:ownKnob Tryz.prog.godebug=none:=by kernel_rfl
theorem Jol:laidOutB Tryz.prog=true:=by kernel_rfl
def SeeK {α:Type} (k:Nat) (enc:α->List Value) (P:α->Prop) (W:World) (ao:Option Addr) (X:List α):Prop:=
 ∀ i x,X[i]? = some x->P x/\∃ b o,ao=some ⟨b,o,none⟩/\b<W.heap.size/\∀ j v,(enc x)[j]? = some v->W.cell? ⟨b,o+i*k+j,none⟩=some v
theorem SeeK.below {α:Type} {k:Nat} {enc:α->List Value} {P:α->Prop} {W W':World} {ao:Option Addr} {X:List α} {r:Nat} (h:SeeK k enc P W ao X) (hb:Below r W W') (hr:W.heap.size<=r):SeeK k enc P W' ao X:=fun i x hx=>by
 obtain⟨h1,b,o,e,hlt,hc⟩:=h i x hx
 exact⟨h1,b,o,e,Jrb hlt hb.size,fun j v hj=>(hb.cell (p:=⟨b,o+i*k+j,none⟩) (by simp only;omega)).trans (hc j v hj)⟩
section
variable {H:Type} {enc:TypeId×Value->H} {W:World} {r:Reach} {b0 base:Nat} {sp:Nat->Bool} {JX:Bool} {v:Value} {d:DataW H} {p:List MemPlace}
theorem J1b {fuel:Nat} {cs:List Value} {x:DataW H×List MemPlace} (h:DataW.trod enc Tryz.prog W base sp JX fuel 3 cs=some x):∃ n:Int,cs=[.int .i64 n]/\VC n:=by
 obtain⟨k0,q0,_,g0⟩:=DataW.trod_int Tryz.underlying3 h
 exact⟨k0,q0,bounds_i64 g0⟩
theorem J22 {α:Type} {k:Nat} (hk:0<k) (code:α->List Value) (hlen:∀ x,(code x).length=k) (P:α->Prop) (z:α) (t e:TypeId) (ht:Tryz.prog.underlying t=some (.slice e)) (ck:Tryz.prog.cellsOf e=k)
  (dec:∀ fuel cs x,DataW.trod enc Tryz.prog W 0 (fun _=>true) JX fuel e cs=some x->∃ y,cs=code y/\P y)
  (hv:Value.okWide Tryz.prog W r b0 t v) (h:DataW.Trod enc Tryz.prog W 0 (fun _=>true) JX t v d p) :
  ∃ (ao:Option Addr) (X:List α) (cap:Nat),v=.slice ao X.length cap/\SeeK k code P W ao X/\X.length<=9223372036854775807:=by
 obtain⟨a0,len0,cap0,rfl⟩:=okWide_slice ht hv
 obtain⟨fuel,hf⟩:=h
 rcases open_slice ht hf with ⟨hcs,_⟩|⟨x,len,cap,m,n,D,Pl,hcs,_,hl,hm,hmm,_,hx⟩
 ·simp[Value.cells] at hcs
  obtain⟨rfl,rfl,rfl⟩:=hcs
  exact⟨none,[],0,rfl,fun i x hx=>by simp at hx,by simp⟩
 ·simp[Value.cells] at hcs
  obtain⟨rfl,rfl,rfl⟩:=hcs
  simp only[if_true] at hmm
  obtain⟨b,off,spot⟩:=x
  have each:∀ i,i<len0->∃ x:α,P x/\∀ j v,(code x)[j]? = some v->W.cell? ((⟨b,off,spot⟩:Addr).add (i*k+j))=some v:=by
   intro i hi
   obtain⟨cs',h1,h2⟩:=hx i (by omega)
   rw[ck] at h1
   obtain⟨_,hl2,hcell⟩:=World.cells?_some h1
   obtain⟨x,rfl,hP⟩:=dec _ _ _ h2
   refine⟨x,hP,fun j v hj=>?_⟩
   have hj':=(Jqb.1 hj).1
   rw[hlen] at hj'
   have e:=hcell j (by omega)
   rw[add_add] at e
   rw[e]
   exact hj
  obtain⟨X,hX,hXe⟩:∃ X:List α,X.length=len0/\∀ (i:Nat) (x:α),X[i]? = some x->P x/\∀ j v,(code x)[j]? = some v->W.cell? ((⟨b,off,spot⟩:Addr).add (i*k+j))=some v:=by
   refine⟨(List.range len0).map fun i=>if h:i<len0 then (each i h).choose else z,by simp,fun i x hx=>?_⟩
   have hi:i<len0:=by
    have:=(Jqb.1 hx).1
    simpa using this
   simp only[List.getElem?_map,List.getElem?_range hi,Option.map_some,dif_pos hi,Option.some.injEq] at hx
   rw[<- hx]
   exact(each i hi).choose_spec
  refine⟨some ⟨b,off,spot⟩,X,cap0,by rw[hX],fun i x hx=>?_,by rw[hX];unfold maxLen at hm;omega⟩
  obtain⟨hP,hc⟩:=hXe i x hx
  have hX0:0<X.length:=by have:=(Jqb.1 hx).1;omega
  have hpos:0<(code X[0]).length:=by rw[hlen];exact hk
  have z0:=(hXe 0 _ (Jqc hX0)).2 0 _ (Jqc hpos)
  have hspot:spot=none:=by
   have:=World.cell?_spot z0
   simpa [Addr.add] using this
  subst hspot
  have ea:∀ j,(⟨b,off,none⟩:Addr).add j=⟨b,off+j,none⟩:=fun j=>by unfold Addr.add;split<;>simp_all
  rw[ea] at z0
  refine⟨hP,b,off,rfl,World.block_lt_of_cell? W _ z0,fun j v hj=>?_⟩
  have:=hc j v hj
  rw[ea] at this
  rw[<- this]
  congr 2
  omega
end
theorem J3x (x:Int) (m:Nat) (hm:m<=62):bits .and .i64 x ((2 ^ m - 1:Nat):Int)=x % ((2 ^ m:Nat):Int):=by
 have hp:=Nat.two_pow_pos m
 have hq:2 ^ m<=2 ^ 62:=Nat.pow_le_pow_right (by omega) hm
 show IntKind.i64.wrap ((BitVec.ofInt 64 x &&& BitVec.ofInt 64 ((2 ^ m - 1:Nat):Int)).toNat:Int)=_
 rw[BitVec.toNat_and,ofInt_u64 (2 ^ m - 1) (by omega),Nat.and_two_pow_sub_one_eq_mod,BitVec.toNat_ofInt]
 have e:(((x % ((2 ^ 64:Nat):Int)).toNat % 2 ^ m:Nat):Int)=x % ((2 ^ m:Nat):Int):=by
  rw[Int.natCast_emod,Int.toNat_of_nonneg (Int.emod_nonneg _ (by decide))]
  apply Int.emod_emod_of_dvd
  exact Int.natCast_dvd_natCast.2 (Nat.pow_dvd_pow 2 (by omega))
 rw[e]
 have h1:0<=x % ((2 ^ m:Nat):Int):=Int.emod_nonneg _ (by omega)
 have h2:x % ((2 ^ m:Nat):Int)<((2 ^ m:Nat):Int):=Int.emod_lt_of_pos _ (by omega)
 generalize x % ((2 ^ m:Nat):Int)=y at *
 generalize 2 ^ m=p at *
 have hy:y % (2:Int) ^ 64=y:=Int.emod_eq_of_lt h1 (by omega)
 simp only[IntKind.wrap,IntKind.bits,IntKind.signed,hy]
 rw[if_neg]
 simp
 omega
theorem J1z (x:Int) (m:Nat) (hm:m<=62):∃ p:Nat,p<2 ^ m/\bits .and .i64 x ((2 ^ m - 1:Nat):Int)=(p:Int):=by
 have hp:(0:Int)<((2 ^ m:Nat):Int):=by
  have:=Nat.two_pow_pos m
  omega
 have h0:0<=x % ((2 ^ m:Nat):Int):=Int.emod_nonneg _ (by omega)
 have h1:x % ((2 ^ m:Nat):Int)<((2 ^ m:Nat):Int):=Int.emod_lt_of_pos _ hp
 exact⟨(x % ((2 ^ m:Nat):Int)).toNat,by omega,by rw[J3x x m hm];omega⟩
theorem J5w (x:Int):∃ p:Nat,p<4/\bits .and .i64 x 3=(p:Int):=J1z x 2 (by decide)
theorem J2p (x:Int):∃ p:Nat,p<65536/\bits .and .i64 x 65535=(p:Int):=J1z x 16 (by decide)
theorem J2s (k:Nat) (d:Int) (hd:0<d):∃ n:Nat,(n:Int)<d/\(k:Int) % d=(n:Int):=by
 have h1:0<=(k:Int) % d:=Int.emod_nonneg _ (by omega)
 have h2:(k:Int) % d<d:=Int.emod_lt_of_pos _ hd
 exact⟨((k:Int) % d).toNat,by omega,by omega⟩
section
variable {α:Type} {a b c d e f g:α} {l:List α}
theorem mm0:a∈a::l:=Jms
theorem mm1:b∈a::b::l:=Jmc mm0
theorem mm2:c∈a::b::c::l:=Jmc mm1
theorem mm3:d∈a::b::c::d::l:=Jmc mm2
theorem mm4:e∈a::b::c::d::e::l:=Jmc mm3
theorem mm5:f∈a::b::c::d::e::f::l:=Jmc mm4
theorem mm6:g∈a::b::c::d::e::f::g::l:=Jmc mm5
end
end
end Go.Proofs.YtbfjjpdnoalojaaGreatDoor
