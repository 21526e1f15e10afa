/- Below: KH4 KH8 KH9 KH10 KH11; no condition. -/
import Derived.Test.YtbfjjpdnoalojaaGreatDoorPa31
import Derived.Test.YtbfjjpdnoalojaaGreatDoorPxEr9
set_option maxHeartbeats 16000000
set_option maxRecDepth 100000
namespace Go.Proofs.YtbfjjpdnoalojaaGreatDoor
section
open Go.RowKit Go.Deep Go.Shelf
open Classical
section
variable {w0 w w':World} {r p:Nat} {Y:Ly} {K:Kr} {R:List Th}
theorem J4e (s:Sep w0 r w (kT p Y K::R)) (d:De) {i:Nat} {S:No.Ns} (hi:K.N[i]? = some S) (hxo:d.x.o=(i:Int)) (hl:S.l.length<=1000) (ht:∀ u,Below r w0 u->Th.Tab u) (he:No.Jq8 S d.who≠0) :
  Calls Tryz.prog 136 #[Je p,JD d] w fun e w'=>e=.returned (Jf (No.Jq8 S d.who) 0 (-1) (.slice none 0 0))/\KS w0 r w' p { K with N:=K.N.set i (No.J6b S d.who (d.c.C != 0)) } R:=by
 obtain⟨qn,vn,Q,hyi,-,-⟩:=s.ntOf hi
 obtain⟨ao,cap,hnv,hzm,hpt⟩:=s.ntPtr
 obtain⟨g,rfl,-⟩:=hpt i qn vn hyi
 have hil:(i:Int)<(K.N.length:Int):=by have:=(Jqb.1 hi).1;omega
 have HI:=Ja (And.intro hi hyi)
 have HX:=Ja hxo
 clear Q hpt
 have hz:∃ z,K.N.length=z:=⟨_,rfl⟩
 obtain⟨z,hz⟩:=hz
 rw[hz] at hnv hil hzm
 clear hz hi hyi hxo
 have S1:=Ja (s.deed d)
 obtain⟨w1,hw⟩:∃ w1,(w.alloc (Jp d)).alloc (Ji 0 0 0 (.slice none 0 0))=w1:=⟨_,rfl⟩
 rw[hw] at S1
 have HW:=Ja hw
 unfold Jp Ji at HW
 clear s hw
 have hx:∃ x,No.J0o S d.who=x:=⟨_,rfl⟩
 obtain⟨x,hx⟩:=hx
 have hE:∃ E,No.Jq8 S d.who=E:=⟨_,rfl⟩
 obtain⟨E,hE⟩:=hE
 have hT:∃ T,No.J6b S d.who (d.c.C != 0)=T:=⟨_,rfl⟩
 obtain⟨T,hT⟩:=hT
 have hzb:∃ zb,(d.c.C != 0)=zb:=⟨_,rfl⟩
 obtain⟨zb,hzb⟩:=hzb
 have HX3:=Ja (And.intro hx (And.intro hE hT))
 rw[hzb] at HX3
 have HTB:=Ja ht
 have HL:=Ja hl
 clear hx hE hT ht hl
 have hq:∃ b,No.J0n S d.who=b:=⟨_,rfl⟩
 obtain⟨b,hq⟩:=hq
 have HQ:=Ja hq
 rw[HX3.out.2.1] at he ⊢
 rw[hzb,HX3.out.2.2]
 have hne:(E == 0)=false:=by simpa using he
 have hne2:(E != 0)=true:=by simpa using he
 clear he hq
 unfold JD
 go_enter Tryz.func136,Tryz.ntmps136
 go_wp2_with (first|rw[HW.out]|fail)
 generalize w.heap.size+1=q2 at *
 generalize w.heap.size=q at *
 have HS:Hid (∀ (W:World) (Y':Ly) (K':Kr) (o:Obj) (R':List Th),Y'.nv=Y.nv->(∃ v',Y'.N[i]? = some (qn,v'))->Sep w0 r W (kT p Y' K'::blk q2 o::blk q (Jp d)::R')->W.cell? ⟨p,6,none⟩=some (.slice (some ⟨g,0,none⟩) z cap)/\W.cell? ⟨g,i,none⟩=some (Je qn)/\W.cell? ⟨q,11,none⟩=some (.int .i64 (i:Int))/\W.cell? ⟨q,7,none⟩=some (.int .i64 d.who)/\W.cell? ⟨q,5,none⟩=some (.int .i64 d.c.C)):=fun W Y' K' o R' hy ⟨v',hv⟩ s=>by
  have k:=s.k6
  rw[hy,hnv] at k
  have k2:=s.ntWay (hy.trans hnv) hv
  have c11:W.cell? ⟨q,11,none⟩=some (.int .i64 d.x.o):=(s.blkCell (p:=q) (Jmc (Jmc (Jms))) 11).1
  rw[HX.out] at c11
  have c7:W.cell? ⟨q,7,none⟩=some (.int .i64 d.who):=(s.blkCell (p:=q) (Jmc (Jmc (Jms))) 7).1
  have c5:W.cell? ⟨q,5,none⟩=some (.int .i64 d.c.C):=(s.blkCell (p:=q) (Jmc (Jmc (Jms))) 5).1
  exact⟨k,k2,c11,c7,c5⟩
 have hk:=J2f S1.out.drew HI.out.1 HI.out.2 d.who zb HL.out
 rw[HX3.out.1,HX3.out.2.1,HX3.out.2.2,HQ.out] at hk
 have HK:=Ja hk
 clear hk
 have hS:=HS.out _ _ _ _ _ (by rfl) ⟨_,HI.out.2⟩ S1.out.drew
 have HC1:=Ja (HK.out)
 go_region_held3 (fun W=>W.cell? ⟨p,6,none⟩=some (.slice (some ⟨g,0,none⟩) z cap)/\W.cell? ⟨g,i,none⟩=some (Je qn)/\W.cell? ⟨q,11,none⟩=some (.int .i64 (i:Int))/\W.cell? ⟨q,7,none⟩=some (.int .i64 d.who)/\W.cell? ⟨q,5,none⟩=some (.int .i64 d.c.C)) (first|with_reducible assumption|with_reducible exact hS) (first|(go_at_call 237;refine Jqa HC1.out ?_;rintro e w3 ⟨rfl,x3,s3⟩;have hS3:=HS.out _ _ _ _ _ (by rfl) ⟨_,J2j HI.out.2 _⟩ s3;have SP1:=Ja s3;clear s3))
 clear hS
 clear HS hS3
 go_wp2_with (first|(go_at_call 60;refine Jqa (JI _ _) ?_;rintro e w9 ⟨rfl,b9⟩;have s9:=(SP1.out.below b9);obtain⟨t0,t1,t2,t3,f0,f1,f2,f3⟩:=s9.swap.cells4 (Jms);have s10:=s9.swap.put4 E 0 (-1) (.slice none 0 0);have S10:=Ja s10;clear s9 s10;simp only[Jf])|fail)
 obtain⟨g0,g1,g2,g3,-⟩:=S10.out.cells4 (Jms)
 have G10:=Ja (And.intro (And.intro g0 g1) (And.intro g2 g3))
 clear g0 g1 g2 g3
 go_wp2
 refine bodyPost_ret (v:=Jf E 0 (-1) (.slice none 0 0)) ?_ rfl ⟨rfl,_,S10.out.drop.drop2⟩
 simp[results,Tryz.f136,go_sem,Jf,G10.out.1.1,G10.out.1.2,G10.out.2.1,G10.out.2.2]
theorem J3c (s:Sep w0 r w (kT p Y K::R)) (d:De) {i:Nat} {S:No.Ns} (hi:K.N[i]? = some S) (hxo:d.x.o=(i:Int)) (hl:S.l.length<=1000) (ht:∀ u,Below r w0 u->Th.Tab u) (he:No.Jq8 S d.who=0) (hb:No.J0n S d.who=false) :
  Calls Tryz.prog 136 #[Je p,JD d] w fun e w'=>e=.returned (Jf 0 0 (-1) (.slice none 0 0))/\KS w0 r w' p (Mz { K with N:=K.N.set i (No.J6b S d.who (d.c.C != 0)) } d.core d.who d.c.C) R:=by
 obtain⟨qn,vn,Q,hyi,-,-⟩:=s.ntOf hi
 obtain⟨ao,cap,hnv,hzm,hpt⟩:=s.ntPtr
 obtain⟨g,rfl,-⟩:=hpt i qn vn hyi
 have hil:(i:Int)<(K.N.length:Int):=by have:=(Jqb.1 hi).1;omega
 have HI:=Ja (And.intro hi hyi)
 have HX:=Ja hxo
 clear Q hpt
 have hz:∃ z,K.N.length=z:=⟨_,rfl⟩
 obtain⟨z,hz⟩:=hz
 rw[hz] at hnv hil hzm
 clear hz hi hyi hxo
 have S1:=Ja (s.deed d)
 obtain⟨w1,hw⟩:∃ w1,(w.alloc (Jp d)).alloc (Ji 0 0 0 (.slice none 0 0))=w1:=⟨_,rfl⟩
 rw[hw] at S1
 have HW:=Ja hw
 unfold Jp Ji at HW
 clear s hw
 have hx:∃ x,No.J0o S d.who=x:=⟨_,rfl⟩
 obtain⟨x,hx⟩:=hx
 have hE:∃ E,No.Jq8 S d.who=E:=⟨_,rfl⟩
 obtain⟨E,hE⟩:=hE
 have hT:∃ T,No.J6b S d.who (d.c.C != 0)=T:=⟨_,rfl⟩
 obtain⟨T,hT⟩:=hT
 have hzb:∃ zb,(d.c.C != 0)=zb:=⟨_,rfl⟩
 obtain⟨zb,hzb⟩:=hzb
 have HX3:=Ja (And.intro hx (And.intro hE hT))
 rw[hzb] at HX3
 have HTB:=Ja ht
 have HL:=Ja hl
 clear hx hE hT ht hl
 rw[HX3.out.2.1] at he
 rw[hzb,HX3.out.2.2]
 have HQ:=Ja hb
 have hne:(E == 0)=true:=by simpa using he
 have hne2:(E != 0)=false:=by simpa using he
 clear he hb
 unfold JD
 go_enter Tryz.func136,Tryz.ntmps136
 go_wp2_with (first|rw[HW.out]|fail)
 generalize w.heap.size+1=q2 at *
 generalize w.heap.size=q at *
 have HS:Hid (∀ (W:World) (Y':Ly) (K':Kr) (o:Obj) (R':List Th),Y'.nv=Y.nv->(∃ v',Y'.N[i]? = some (qn,v'))->Sep w0 r W (kT p Y' K'::blk q2 o::blk q (Jp d)::R')->W.cell? ⟨p,6,none⟩=some (.slice (some ⟨g,0,none⟩) z cap)/\W.cell? ⟨g,i,none⟩=some (Je qn)/\W.cell? ⟨q,11,none⟩=some (.int .i64 (i:Int))/\W.cell? ⟨q,7,none⟩=some (.int .i64 d.who)/\W.cell? ⟨q,5,none⟩=some (.int .i64 d.c.C)):=fun W Y' K' o R' hy ⟨v',hv⟩ s=>by
  have k:=s.k6
  rw[hy,hnv] at k
  have k2:=s.ntWay (hy.trans hnv) hv
  have c11:W.cell? ⟨q,11,none⟩=some (.int .i64 d.x.o):=(s.blkCell (p:=q) (Jmc (Jmc (Jms))) 11).1
  rw[HX.out] at c11
  have c7:W.cell? ⟨q,7,none⟩=some (.int .i64 d.who):=(s.blkCell (p:=q) (Jmc (Jmc (Jms))) 7).1
  have c5:W.cell? ⟨q,5,none⟩=some (.int .i64 d.c.C):=(s.blkCell (p:=q) (Jmc (Jmc (Jms))) 5).1
  exact⟨k,k2,c11,c7,c5⟩
 have hk:=J2f S1.out.drew HI.out.1 HI.out.2 d.who zb HL.out
 rw[HX3.out.1,HX3.out.2.1,HX3.out.2.2,HQ.out] at hk
 have HK:=Ja hk
 clear hk
 have hS:=HS.out _ _ _ _ _ (by rfl) ⟨_,HI.out.2⟩ S1.out.drew
 have HC1:=Ja (HK.out)
 go_region_held3 (fun W=>W.cell? ⟨p,6,none⟩=some (.slice (some ⟨g,0,none⟩) z cap)/\W.cell? ⟨g,i,none⟩=some (Je qn)/\W.cell? ⟨q,11,none⟩=some (.int .i64 (i:Int))/\W.cell? ⟨q,7,none⟩=some (.int .i64 d.who)/\W.cell? ⟨q,5,none⟩=some (.int .i64 d.c.C)) (first|with_reducible assumption|with_reducible exact hS) (first|(go_at_call 237;refine Jqa HC1.out ?_;rintro e w3 ⟨rfl,x3,s3⟩;have hS3:=HS.out _ _ _ _ _ (by rfl) ⟨_,J2j HI.out.2 _⟩ s3;have SP1:=Ja s3;clear s3))
 clear hS
 clear HS hS3
 have HLd:=Ja (Mp (q:=q) (d:=d) SP1.out (by simp))
 go_wp2_with (first|(refine Ta.JP rfl 151 (.tmp 3) rfl ⟨q,0,none⟩ (JD d) rfl HLd.out ?_)|(go_at_call 238;refine Jqa (Jhw SP1.out d HTB.out) ?_;rintro e w9 ⟨rfl,Y9,s9⟩;obtain⟨t0,t1,t2,t3,f0,f1,f2,f3⟩:=s9.swap.cells4 (Jms);have s10:=s9.swap.put4 0 0 (-1) (.slice none 0 0);have S10:=Ja s10;clear s9 s10;simp only[Jf])|fail)
 obtain⟨g0,g1,g2,g3,-⟩:=S10.out.cells4 (Jms)
 have G10:=Ja (And.intro (And.intro g0 g1) (And.intro g2 g3))
 clear g0 g1 g2 g3
 go_wp2
 refine bodyPost_ret (v:=Jf 0 0 (-1) (.slice none 0 0)) ?_ rfl ⟨rfl,_,S10.out.drop.drop2⟩
 simp[results,Tryz.f136,go_sem,Jf,G10.out.1.1,G10.out.1.2,G10.out.2.1,G10.out.2.2]
theorem J3d (s:Sep w0 r w (kT p Y K::R)) (d:De) {i:Nat} {S:No.Ns} (hi:K.N[i]? = some S) (hxo:d.x.o=(i:Int)) (hl:S.l.length<=1000) (ht:∀ u,Below r w0 u->Th.Tab u) (he:No.Jq8 S d.who=0) (hb:No.J0n S d.who=true) :
  Calls Tryz.prog 136 #[Je p,JD d] w fun e w'=>e=.returned (Jf 0 (No.J0o S d.who) (-1) (.slice none 0 0))/\KS w0 r w' p { K with N:=K.N.set i (No.J6b S d.who (d.c.C != 0)) } R:=by
 obtain⟨qn,vn,Q,hyi,-,-⟩:=s.ntOf hi
 obtain⟨ao,cap,hnv,hzm,hpt⟩:=s.ntPtr
 obtain⟨g,rfl,-⟩:=hpt i qn vn hyi
 have hil:(i:Int)<(K.N.length:Int):=by have:=(Jqb.1 hi).1;omega
 have HI:=Ja (And.intro hi hyi)
 have HX:=Ja hxo
 clear Q hpt
 have hz:∃ z,K.N.length=z:=⟨_,rfl⟩
 obtain⟨z,hz⟩:=hz
 rw[hz] at hnv hil hzm
 clear hz hi hyi hxo
 have S1:=Ja (s.deed d)
 obtain⟨w1,hw⟩:∃ w1,(w.alloc (Jp d)).alloc (Ji 0 0 0 (.slice none 0 0))=w1:=⟨_,rfl⟩
 rw[hw] at S1
 have HW:=Ja hw
 unfold Jp Ji at HW
 clear s hw
 have hx:∃ x,No.J0o S d.who=x:=⟨_,rfl⟩
 obtain⟨x,hx⟩:=hx
 have hE:∃ E,No.Jq8 S d.who=E:=⟨_,rfl⟩
 obtain⟨E,hE⟩:=hE
 have hT:∃ T,No.J6b S d.who (d.c.C != 0)=T:=⟨_,rfl⟩
 obtain⟨T,hT⟩:=hT
 have hzb:∃ zb,(d.c.C != 0)=zb:=⟨_,rfl⟩
 obtain⟨zb,hzb⟩:=hzb
 have HX3:=Ja (And.intro hx (And.intro hE hT))
 rw[hzb] at HX3
 have HTB:=Ja ht
 have HL:=Ja hl
 clear hx hE hT ht hl
 rw[HX3.out.2.1] at he
 rw[HX3.out.1,hzb,HX3.out.2.2]
 have HQ:=Ja hb
 have hne:(E == 0)=true:=by simpa using he
 have hne2:(E != 0)=false:=by simpa using he
 clear he hb
 unfold JD
 go_enter Tryz.func136,Tryz.ntmps136
 go_wp2_with (first|rw[HW.out]|fail)
 generalize w.heap.size+1=q2 at *
 generalize w.heap.size=q at *
 have HS:Hid (∀ (W:World) (Y':Ly) (K':Kr) (o:Obj) (R':List Th),Y'.nv=Y.nv->(∃ v',Y'.N[i]? = some (qn,v'))->Sep w0 r W (kT p Y' K'::blk q2 o::blk q (Jp d)::R')->W.cell? ⟨p,6,none⟩=some (.slice (some ⟨g,0,none⟩) z cap)/\W.cell? ⟨g,i,none⟩=some (Je qn)/\W.cell? ⟨q,11,none⟩=some (.int .i64 (i:Int))/\W.cell? ⟨q,7,none⟩=some (.int .i64 d.who)/\W.cell? ⟨q,5,none⟩=some (.int .i64 d.c.C)):=fun W Y' K' o R' hy ⟨v',hv⟩ s=>by
  have k:=s.k6
  rw[hy,hnv] at k
  have k2:=s.ntWay (hy.trans hnv) hv
  have c11:W.cell? ⟨q,11,none⟩=some (.int .i64 d.x.o):=(s.blkCell (p:=q) (Jmc (Jmc (Jms))) 11).1
  rw[HX.out] at c11
  have c7:W.cell? ⟨q,7,none⟩=some (.int .i64 d.who):=(s.blkCell (p:=q) (Jmc (Jmc (Jms))) 7).1
  have c5:W.cell? ⟨q,5,none⟩=some (.int .i64 d.c.C):=(s.blkCell (p:=q) (Jmc (Jmc (Jms))) 5).1
  exact⟨k,k2,c11,c7,c5⟩
 have hk:=J2f S1.out.drew HI.out.1 HI.out.2 d.who zb HL.out
 rw[HX3.out.1,HX3.out.2.1,HX3.out.2.2,HQ.out] at hk
 have HK:=Ja hk
 clear hk
 have hS:=HS.out _ _ _ _ _ (by rfl) ⟨_,HI.out.2⟩ S1.out.drew
 have HC1:=Ja (HK.out)
 go_region_held3 (fun W=>W.cell? ⟨p,6,none⟩=some (.slice (some ⟨g,0,none⟩) z cap)/\W.cell? ⟨g,i,none⟩=some (Je qn)/\W.cell? ⟨q,11,none⟩=some (.int .i64 (i:Int))/\W.cell? ⟨q,7,none⟩=some (.int .i64 d.who)/\W.cell? ⟨q,5,none⟩=some (.int .i64 d.c.C)) (first|with_reducible assumption|with_reducible exact hS) (first|(go_at_call 237;refine Jqa HC1.out ?_;rintro e w3 ⟨rfl,x3,s3⟩;have hS3:=HS.out _ _ _ _ _ (by rfl) ⟨_,J2j HI.out.2 _⟩ s3;have SP1:=Ja s3;clear s3))
 clear hS
 clear HS hS3
 go_wp2_with (first|(go_at_call 60;refine Jqa (JI _ _) ?_;rintro e w9 ⟨rfl,b9⟩;have sv:=((SP1.out.below b9).box (Ji 0 x (-1) (.slice none 0 0)));change Sep w0 r (w9.alloc (.cells #[.int .i64 0,.int .u64 x,.int .i64 (-1),(.slice none 0 0)] 42)) _ at sv;have sx:=sv.third.swap;obtain⟨u0,u1,u2,u3,g0,g1,g2,g3⟩:=sx.cells4 (Jms);have s10:=sx.put4 0 x (-1) (.slice none 0 0);have S10:=Ja s10;clear sv sx s10 b9;simp only[Jf])|fail)
 obtain⟨h0,h1,h2,h3,-⟩:=S10.out.cells4 (Jms)
 have G10:=Ja (And.intro (And.intro h0 h1) (And.intro h2 h3))
 clear h0 h1 h2 h3
 go_wp2
 refine bodyPost_ret (v:=Jf 0 x (-1) (.slice none 0 0)) ?_ rfl ⟨rfl,_,S10.out.drop.drop2.drop2⟩
 simp[results,Tryz.f136,go_sem,Jf,G10.out.1.1,G10.out.1.2,G10.out.2.1,G10.out.2.2]
theorem J31 (s:Sep w0 r w (kT p Y K::R)) (d:De) {i:Nat} {S:Ta.Sp} (hi:K.D[i]? = some S) (hxo:d.y.o=(i:Int)) :
  Calls Tryz.prog 138 #[Je p,JD d] w fun e w'=>e=.returned (Jf (Ta.Jow S d.c.A ⟨d.x.o,bits .and .i64 d.x.r d.c.B⟩) 0 (-1) (.slice none 0 0))/\KS w0 r w' p { K with D:=K.D.set i (Ta.Jtq S d.c.A ⟨d.x.o,bits .and .i64 d.x.r d.c.B⟩) } R:=by
 obtain⟨qn,vn,Q,hyi,-,-⟩:=s.spOf hi
 obtain⟨ao,cap,hnv,hzm,hpt⟩:=s.spPtr
 obtain⟨g,rfl,-⟩:=hpt i qn vn hyi
 have hil:(i:Int)<(K.D.length:Int):=by have:=(Jqb.1 hi).1;omega
 have HI:=Ja (And.intro hi hyi)
 have HX:=Ja hxo
 clear Q hpt
 have hz:∃ z,K.D.length=z:=⟨_,rfl⟩
 obtain⟨z,hz⟩:=hz
 rw[hz] at hnv hil hzm
 clear hz hi hyi hxo
 have S1:=Ja (s.deed d)
 obtain⟨w1,hw⟩:∃ w1,(w.alloc (Jp d)).alloc (Ji 0 0 0 (.slice none 0 0))=w1:=⟨_,rfl⟩
 rw[hw] at S1
 have HW:=Ja hw
 unfold Jp Ji at HW
 clear s hw
 obtain⟨rb,hb⟩:∃ rb,bits .and .i64 d.x.r d.c.B=rb:=⟨_,rfl⟩
 rw[hb]
 generalize hE:Ta.Jow S d.c.A ⟨d.x.o,rb⟩=E
 have HE:=Ja hE
 have S2:=Ja ((S1.out.box (.cells #[.int .i64 d.x.o,.int .i64 rb] 182)).to4)
 clear hE
 unfold JD
 have dc11:w1.cell? ⟨w.heap.size,11,none⟩=some (.int .i64 d.x.o):=(S1.out.blkCell (p:=w.heap.size) (Jmc (Jmc (Jms))) 11).1
 have dc12:w1.cell? ⟨w.heap.size,12,none⟩=some (.int .i64 d.x.r):=(S1.out.blkCell (p:=w.heap.size) (Jmc (Jmc (Jms))) 12).1
 have dc4:w1.cell? ⟨w.heap.size,4,none⟩=some (.int .i64 d.c.B):=(S1.out.blkCell (p:=w.heap.size) (Jmc (Jmc (Jms))) 4).1
 go_enter Tryz.func138,Tryz.ntmps138
 go_wp2_with (first|rw[HW.out]|fail)
 generalize w.heap.size+1=q2 at *
 generalize w.heap.size=q at *
 clear dc11 dc12 dc4 hb
 obtain⟨w2,hw2⟩:∃ w2,w1.alloc (.cells #[.int .i64 d.x.o,.int .i64 rb] 182)=w2:=⟨_,rfl⟩
 rw[hw2] at S2
 try rw[hw2]
 clear hw2
 generalize w1.heap.size=k1 at *
 have HS:Hid (∀ (W:World) (Y':Ly) (K':Kr) (o:Obj) (R':List Th),Y'.dv=Y.dv->(∃ v',Y'.D[i]? = some (qn,v'))->blk k1 (.cells #[.int .i64 d.x.o,.int .i64 rb] 182)∈R'->Sep w0 r W (kT p Y' K'::blk q2 o::blk q (Jp d)::R')->W.cell? ⟨p,7,none⟩=some (.slice (some ⟨g,0,none⟩) z cap)/\W.cell? ⟨g,i,none⟩=some (Je qn)/\W.cell? ⟨q,17,none⟩=some (.int .i64 (i:Int))/\W.cell? ⟨q,3,none⟩=some (.int .i64 d.c.A)/\W.cell? ⟨k1,0,none⟩=some (.int .i64 d.x.o)/\W.cell? ⟨k1,1,none⟩=some (.int .i64 rb)):=fun W Y' K' o R' hy ⟨v',hv⟩ hm s=>by
  have k:=s.k7
  rw[hy,hnv] at k
  have k2:=s.spWay (hy.trans hnv) hv
  have c17:W.cell? ⟨q,17,none⟩=some (.int .i64 d.y.o):=(s.blkCell (p:=q) (Jmc (Jmc (Jms))) 17).1
  rw[HX.out] at c17
  have c3:W.cell? ⟨q,3,none⟩=some (.int .i64 d.c.A):=(s.blkCell (p:=q) (Jmc (Jmc (Jms))) 3).1
  have km:=fun j=>(s.blkCell (p:=k1) (Jmc (Jmc (Jmc hm))) j).1
  exact⟨k,k2,c17,c3,km 0,km 1⟩
 have hS:=HS.out _ _ _ _ _ (by rfl) ⟨_,HI.out.2⟩ (by simp) S2.out.drew
 have HC1:=Ja (J5s S2.out.drew HI.out.1 HI.out.2 d.c.A d.x.o rb)
 go_region_held3 (fun W=>W.cell? ⟨p,7,none⟩=some (.slice (some ⟨g,0,none⟩) z cap)/\W.cell? ⟨g,i,none⟩=some (Je qn)/\W.cell? ⟨q,17,none⟩=some (.int .i64 (i:Int))/\W.cell? ⟨q,3,none⟩=some (.int .i64 d.c.A)/\W.cell? ⟨k1,0,none⟩=some (.int .i64 d.x.o)/\W.cell? ⟨k1,1,none⟩=some (.int .i64 rb)) (first|with_reducible assumption|with_reducible exact hS) (first|(go_at_call 240;refine Jqa HC1.out ?_;rintro e w3 ⟨rfl,x3,s3⟩;have hS3:=HS.out _ _ _ _ _ (by rfl) ⟨_,Jmd HI.out.2 _⟩ (by simp) s3;rw[HE.out];have SP1:=Ja s3;clear s3)|(go_at_call 60;refine Jqa (JI _ _) ?_;rintro e w9 ⟨rfl,b9⟩;have s9:=(SP1.out.below b9);have hS9:=HS.out _ _ _ _ _ (by rfl) ⟨_,Jmd HI.out.2 _⟩ (by simp) s9;obtain⟨t0,t1,t2,t3,f0,f1,f2,f3⟩:=s9.swap.cells4 (Jms);have s10:=s9.swap.put4 E 0 (-1) (.slice none 0 0);have hS10:=HS.out _ _ _ _ _ (by rfl) ⟨_,Jmd HI.out.2 _⟩ (by simp) s10.swap;have S10:=Ja s10;clear s9 s10;simp only[Jf]))
 clear hS
 obtain⟨g0,g1,g2,g3,-⟩:=S10.out.cells4 (Jms)
 have G10:=Ja (And.intro (And.intro g0 g1) (And.intro g2 g3))
 clear g0 g1 g2 g3
 go_wp2
 refine bodyPost_ret (v:=Jf E 0 (-1) (.slice none 0 0)) ?_ rfl ⟨rfl,_,S10.out.drop.drop2.drop2⟩
 simp[results,Tryz.f138,go_sem,Jf,G10.out.1.1,G10.out.1.2,G10.out.2.1,G10.out.2.2]
theorem J4i (s:Sep w0 r w (kT p Y K::R)) (d:De) (hb:Ir.J05 Ir.isM K.l d.x.o=true) (hf:Few K) (h0:0<=Ir.J0h Ir.isM K.l d.x.o) (h1:Ir.J0h Ir.isM K.l d.x.o<(K.N.length:Int)) (h2:0<=Ir.Jt8 Ir.isM K.l d.x.o/\Ir.Jt8 Ir.isM K.l d.x.o<=18446744073709551615) (h3:0<=No.Jt5 (ntN K (Ir.J0h Ir.isM K.l d.x.o)) (Ir.Jt8 Ir.isM K.l d.x.o)/\No.Jt5 (ntN K (Ir.J0h Ir.isM K.l d.x.o)) (Ir.Jt8 Ir.isM K.l d.x.o)<=18446744073709551615) :
  Calls Tryz.prog 141 #[Je p,JD d] w fun e w'=>e=.returned (Jf (Ir.J0i K.l d.x.o) 0 (Jh5 (Aj K d.x.o) (Ir.J0h Ir.isM K.l d.x.o)) (.slice none 0 0))/\KS w0 r w' p (Jh4 (Aj K d.x.o) (Ir.J0h Ir.isM K.l d.x.o) (Ir.Jt8 Ir.isM K.l d.x.o)) R:=by
 have S1:=Ja (s.deed d)
 obtain⟨w1,hw⟩:∃ w1,(w.alloc (Jp d)).alloc (Ji 0 0 0 (.slice none 0 0))=w1:=⟨_,rfl⟩
 rw[hw] at S1
 have HW:=Ja hw
 unfold Jp Ji at HW
 clear s hw
 obtain⟨E,hE⟩:∃ E,Ir.J0i K.l d.x.o=E:=⟨_,rfl⟩
 obtain⟨a,ha⟩:∃ a,Ir.J0h Ir.isM K.l d.x.o=a:=⟨_,rfl⟩
 obtain⟨g,hg⟩:∃ g,Ir.Jt8 Ir.isM K.l d.x.o=g:=⟨_,rfl⟩
 have hk:=J30 S1.out.drew d.x.o
 rw[hE,ha,hg,hb] at hk
 have HK:=Ja hk
 have c3:=S1.out.k3
 clear hk hb
 rw[ha] at h0 h1 h3 ⊢
 rw[hg] at h2 h3 ⊢
 rw[hE]
 have HC:=Ja (And.intro (show Few (Aj K d.x.o) from hf) (And.intro h0 (And.intro (show a<((Aj K d.x.o).N.length:Int) from h1) (And.intro h2 (show 0<=No.Jt5 (ntN (Aj K d.x.o) a) g/\No.Jt5 (ntN (Aj K d.x.o) a) g<=18446744073709551615 from h3)))))
 obtain⟨b,hs⟩:∃ b,Jh5 (Aj K d.x.o) a=b:=⟨_,rfl⟩
 rw[hs]
 have HSN:=Ja hs
 clear hf h0 h1 h2 h3 hs ha hg hE
 unfold JD
 go_enter Tryz.func141,Tryz.ntmps141
 go_wp2_with (first|rw[HW.out]|fail)
 generalize w.heap.size+1=q2 at *
 generalize w.heap.size=q at *
 have dc11:w1.cell? ⟨q,11,none⟩=some (.int .i64 d.x.o):=(S1.out.blkCell (p:=q) (Jmc (Jmc (Jms))) 11).1
 go_cut [5,6] from 9 to 24 (fun sa sb wx=>∃ Y4,sa=.int .i64 b/\sb=.int .i64 E/\Sep w0 r wx (kT p Y4 (Jh4 (Aj K d.x.o) a g)::blk q2 (Ji 0 0 0 (.slice none 0 0))::blk q (Jp d)::R))
 case first =>
  go_region_with (first|(go_at_call 243;(with_reducible refine Jqa HK.out ?_);rintro e w3 ⟨rfl,s3⟩;have S3:Hid (Sep w0 r w3 (kT p Y (Aj K d.x.o)::blk q2 (Ji 0 0 0 (.slice none 0 0))::blk q (Jp d)::R)):=s3;clear s3)|(go_at_call 70;(with_reducible refine Jqa (J16 S3.out HC.out.1 E HC.out.2.1 HC.out.2.2.1 HC.out.2.2.2.1 HC.out.2.2.2.2) ?_);rintro e w4 ⟨rfl,Y4,s4⟩;rw[HSN.out];have S4:=Ja s4;clear s4))
  all_goals go_wp2_with fail
  all_goals go_meet
  all_goals exact⟨_,rfl,rfl,S4.out⟩
 case rest =>
  obtain⟨Y4,rfl,rfl,s4⟩:=hcut
  have S4:=Ja s4
  clear s4 S1 HK c3 dc11
  go_wp2_with (first|(go_at_call 60;refine Jqa (JI _ _) ?_;rintro e w9 ⟨rfl,b9⟩;have sv:=((S4.out.below b9).box (Ji E 0 b (.slice none 0 0)));change Sep w0 r (w9.alloc (.cells #[.int .i64 E,.int .u64 0,.int .i64 b,(.slice none 0 0)] 42)) _ at sv;have sx:=sv.third.swap;obtain⟨u0,u1,u2,u3,g0,g1,g2,g3⟩:=sx.cells4 (Jms);have s10:=sx.put4 E 0 b (.slice none 0 0);have S10:=Ja s10;clear sv sx s10 b9;simp only[Jf])|fail)
  obtain⟨h0,h1,h2,h3,-⟩:=S10.out.cells4 (Jms)
  have G10:=Ja (And.intro (And.intro h0 h1) (And.intro h2 h3))
  clear h0 h1 h2 h3
  go_wp2
  refine bodyPost_ret (v:=Jf E 0 b (.slice none 0 0)) ?_ rfl ⟨rfl,_,S10.out.drop.drop2.drop2⟩
  simp[results,Tryz.f141,go_sem,Jf,G10.out.1.1,G10.out.1.2,G10.out.2.1,G10.out.2.2]
theorem J43 (s:Sep w0 r w (kT p Y K::R)) (d:De) (hb:Ir.J05 Ir.isM K.l d.x.o=false) :
  Calls Tryz.prog 141 #[Je p,JD d] w fun e w'=>e=.returned (Jf (Ir.J0i K.l d.x.o) 0 (-1) (.slice none 0 0))/\KS w0 r w' p (Aj K d.x.o) R:=by
 have S1:=Ja (s.deed d)
 obtain⟨w1,hw⟩:∃ w1,(w.alloc (Jp d)).alloc (Ji 0 0 0 (.slice none 0 0))=w1:=⟨_,rfl⟩
 rw[hw] at S1
 have HW:=Ja hw
 unfold Jp Ji at HW
 clear s hw
 obtain⟨E,hE⟩:∃ E,Ir.J0i K.l d.x.o=E:=⟨_,rfl⟩
 obtain⟨a,ha⟩:∃ a,Ir.J0h Ir.isM K.l d.x.o=a:=⟨_,rfl⟩
 obtain⟨g,hg⟩:∃ g,Ir.Jt8 Ir.isM K.l d.x.o=g:=⟨_,rfl⟩
 have hk:=J30 S1.out.drew d.x.o
 rw[hE,ha,hg,hb] at hk
 have HK:=Ja hk
 have c3:=S1.out.k3
 clear hk hb
 rw[hE]
 clear ha hg hE
 unfold JD
 go_enter Tryz.func141,Tryz.ntmps141
 go_wp2_with (first|rw[HW.out]|fail)
 generalize w.heap.size+1=q2 at *
 generalize w.heap.size=q at *
 have dc11:w1.cell? ⟨q,11,none⟩=some (.int .i64 d.x.o):=(S1.out.blkCell (p:=q) (Jmc (Jmc (Jms))) 11).1
 go_cut [5,6] from 9 to 24 (fun sa sb wx=>∃ Y4,sa=.int .i64 (-1)/\sb=.int .i64 E/\Sep w0 r wx (kT p Y4 (Aj K d.x.o)::blk q2 (Ji 0 0 0 (.slice none 0 0))::blk q (Jp d)::R))
 case first =>
  go_region_with (first|(go_at_call 243;(with_reducible refine Jqa HK.out ?_);rintro e w3 ⟨rfl,s3⟩;have S3:Hid (Sep w0 r w3 (kT p Y (Aj K d.x.o)::blk q2 (Ji 0 0 0 (.slice none 0 0))::blk q (Jp d)::R)):=s3;clear s3)|(go_at_call 70;(with_reducible refine Jqa (J2q a g E (Je p) _) ?_);rintro e w4 ⟨rfl,rfl⟩;have S4:=Ja S3.out))
  all_goals go_wp2_with fail
  all_goals go_meet
  all_goals exact⟨_,rfl,rfl,S4.out⟩
 case rest =>
  obtain⟨Y4,rfl,rfl,s4⟩:=hcut
  have S4:=Ja s4
  clear s4 S1 HK c3 dc11
  go_wp2_with (first|(go_at_call 60;refine Jqa (JI _ _) ?_;rintro e w9 ⟨rfl,b9⟩;have sv:=((S4.out.below b9).box (Ji E 0 (-1) (.slice none 0 0)));change Sep w0 r (w9.alloc (.cells #[.int .i64 E,.int .u64 0,.int .i64 (-1),(.slice none 0 0)] 42)) _ at sv;have sx:=sv.third.swap;obtain⟨u0,u1,u2,u3,g0,g1,g2,g3⟩:=sx.cells4 (Jms);have s10:=sx.put4 E 0 (-1) (.slice none 0 0);have S10:=Ja s10;clear sv sx s10 b9;simp only[Jf])|fail)
  obtain⟨h0,h1,h2,h3,-⟩:=S10.out.cells4 (Jms)
  have G10:=Ja (And.intro (And.intro h0 h1) (And.intro h2 h3))
  clear h0 h1 h2 h3
  go_wp2
  refine bodyPost_ret (v:=Jf E 0 (-1) (.slice none 0 0)) ?_ rfl ⟨rfl,_,S10.out.drop.drop2.drop2⟩
  simp[results,Tryz.f141,go_sem,Jf,G10.out.1.1,G10.out.1.2,G10.out.2.1,G10.out.2.2]
theorem J27 (s:Sep w0 r w (kT p Y K::R)) (d:De) (hb:(Th.Gf K.h d.x.o).st=3) (he:Th.Xh K.h d.x.o=0) (hf:Few K) :
  Calls Tryz.prog 130 #[Je p,JD d] w fun e w'=>e=.returned (Jf (Th.Xh (freed K d.x.o).h d.x.o) 0 d.x.o (.slice none 0 0))/\KS w0 r w' p (EB (freed K d.x.o) d.x.o) R:=by
 have S1:=Ja (s.deed d)
 obtain⟨w1,hw⟩:∃ w1,(w.alloc (Jp d)).alloc (Ji 0 0 0 (.slice none 0 0))=w1:=⟨_,rfl⟩
 rw[hw] at S1
 have HW:=Ja hw
 unfold Jp Ji at HW
 clear s hw
 obtain⟨x,hx⟩:∃ x,Th.Gf K.h d.x.o=x:=⟨_,rfl⟩
 rw[hx] at hb
 obtain⟨E,hE⟩:∃ E,Th.Xh K.h d.x.o=E:=⟨_,rfl⟩
 rw[hE] at he
 have HE:=Ja hE
 have hk:=Jtn S1.out.drew d.x.o
 have SB:=Ja ((S1.out.box (.cells #[.int .i64 0,.int .i64 0,.int .i64 0,.int .i64 0,.int .u64 0,.int .u64 0,.int .u64 0,.int .u64 0,.int .u64 0,.int .u64 0,.int .u64 0,.int .u64 0] 132)).to4.drew)
 have hkb:=Jtn SB.out d.x.o
 rw[hx] at hk hkb
 unfold Th.MO at hk hkb
 have HK:=Ja hk
 have HKB:=Ja hkb
 have hb2:(x.st == 3)=true:=by simpa using hb
 have hb3:decide (x.st=3)=true:=by simpa using hb
 have HB2:=Ja hb2
 have he2:(E == 0)=true:=by simpa using he
 have he3:(E != 0)=false:=by simpa using he
 clear hx hE hk hkb hb hb2 hb3 he
 have HL:=Ja hf
 clear hf
 rw[show Th.Xh (freed K d.x.o).h d.x.o=E from HE.out]
 unfold JD
 go_enter Tryz.func130,Tryz.ntmps130
 go_wp2_with (first|rw[HW.out]|fail)
 generalize w.heap.size+1=q2 at *
 generalize w.heap.size=q at *
 have HSX:Hid (∀ (W:World) (Y':Ly) (K':Kr) (o:Obj) (R':List Th),Y'.h=Y.h->Sep w0 r W (kT p Y' K'::blk q2 o::blk q (Jp d)::R')->W.cell? ⟨p,2,none⟩=some (Je Y.h)/\W.cell? ⟨q,11,none⟩=some (.int .i64 d.x.o)):=fun W Y' K' o R' hy s=>by
  have k:=s.k2
  rw[hy] at k
  exact⟨k,(s.blkCell (p:=q) (Jmc (Jmc (Jms))) 11).1⟩
 go_cut [5,6] from 9 to 19 (fun sa sb wx=>∃ k y,sa=.pointer (some ⟨k,0,none⟩)/\sb=.int .i64 y/\Sep w0 r wx (kT p Y K::blk q2 (Ji 0 0 0 (.slice none 0 0))::blk q (Jp d)::blk k (.cells #[.int .i64 x.st,.int .i64 x.p,.int .i64 x.c,.int .i64 x.l,.int .u64 (Th.rg x 0),.int .u64 (Th.rg x 1),.int .u64 (Th.rg x 2),.int .u64 (Th.rg x 3),.int .u64 (Th.rg x 4),.int .u64 (Th.rg x 5),.int .u64 (Th.rg x 6),.int .u64 (Th.rg x 7)] 132)::R))
 case first =>
  have hS:=HSX.out _ _ _ _ _ (by rfl) S1.out.drew
  have hSB:=HSX.out _ _ _ _ _ (by rfl) SB.out
  go_region_held3 (fun W=>W.cell? ⟨p,2,none⟩=some (Je Y.h)/\W.cell? ⟨q,11,none⟩=some (.int .i64 d.x.o)) (first|with_reducible assumption|with_reducible exact hS|with_reducible exact hSB) (first|(go_at_call 116;(with_reducible refine Jqa HKB.out ?_);rintro e w3 ⟨rfl,b3⟩;have s3:=SB.out.below b3;have hS3:=HSX.out _ _ _ _ _ (by rfl) s3;have s4:=s3.from4;obtain⟨mf0,mz⟩:=s4.zTh (Jms);obtain⟨z0,z1,z2,z3,z4,z5,z6,z7,z8,z9,z10,z11⟩:=mz;have s5:=s4.putTh x;have s6:=s5.to4;have hS6:=HSX.out _ _ _ _ _ (by rfl) s6;have S6:=Ja s6;clear s3 s4 s5 s6)|(go_at_call 116;(with_reducible refine Jqa HK.out ?_);rintro e w3 ⟨rfl,b3⟩;have s3:=S1.out.drew.below b3;have hS3:=HSX.out _ _ _ _ _ (by rfl) s3;have s4:=(s3.box (.cells #[.int .i64 0,.int .i64 0,.int .i64 0,.int .i64 0,.int .u64 0,.int .u64 0,.int .u64 0,.int .u64 0,.int .u64 0,.int .u64 0,.int .u64 0,.int .u64 0] 132)).to4;have hS4:=HSX.out _ _ _ _ _ (by rfl) s4;have s6:=(s3.box (.cells #[.int .i64 x.st,.int .i64 x.p,.int .i64 x.c,.int .i64 x.l,.int .u64 (Th.rg x 0),.int .u64 (Th.rg x 1),.int .u64 (Th.rg x 2),.int .u64 (Th.rg x 3),.int .u64 (Th.rg x 4),.int .u64 (Th.rg x 5),.int .u64 (Th.rg x 6),.int .u64 (Th.rg x 7)] 132)).to4;have hS6:=HSX.out _ _ _ _ _ (by rfl) s6;have S6:=Ja s6;clear s3 s4 s6))
  all_goals go_wp2_with fail
  all_goals go_meet
  all_goals exact⟨_,_,rfl,rfl,S6.out⟩
 case rest =>
  obtain⟨k,y,rfl,rfl,s6⟩:=hcut
  have S6:=Ja s6
  clear S1 SB HK HKB HSX s6
  have m0:wc.cell? ⟨k,0,none⟩=some (.int .i64 x.st):=(S6.out.blkCell (p:=k) (Jmc (Jmc (Jmc (Jms)))) 0).1
  have hb2:=HB2.out
  have d11:wc.cell? ⟨q,11,none⟩=some (.int .i64 d.x.o):=(S6.out.blkCell (p:=q) (Jmc (Jmc (Jms))) 11).1
  go_wp2_with (first|(go_at_call 231;refine Jqa (Fs S6.out HL.out d.x.o) ?_;rintro e w2 ⟨rfl,Y2,s2⟩;have S2:=Ja s2;clear s2 d11 m0 hb2)|fail)
  clear HB2
  have HS:Hid (∀ (W:World) (Y':Ly) (K':Kr) (o:Obj) (R':List Th),Y'.h=Y2.h->Sep w0 r W (kT p Y' K'::blk q2 o::blk q (Jp d)::R')->W.cell? ⟨p,2,none⟩=some (Je Y2.h)/\W.cell? ⟨q,11,none⟩=some (.int .i64 d.x.o)):=fun W Y' K' o R' hy s=>by
   have k:=s.k2
   rw[hy] at k
   exact⟨k,(s.blkCell (p:=q) (Jmc (Jmc (Jms))) 11).1⟩
  have hS:=HS.out _ _ _ _ _ (by rfl) S2.out.drew
  have HC1:=Ja (Ja8 S2.out.drew d.x.o)
  go_region_held3 (fun W=>W.cell? ⟨p,2,none⟩=some (Je Y2.h)/\W.cell? ⟨q,11,none⟩=some (.int .i64 d.x.o)) (first|with_reducible assumption|with_reducible exact hS) (first|(go_at_call 101;refine Jqa HC1.out ?_;rintro e w3 ⟨rfl,x3,s3⟩;have hS3:=HS.out _ _ _ _ _ (by rfl) s3;rw[show Th.Xh (freed K d.x.o).h d.x.o=E from HE.out];have SP1:=Ja s3;clear s3))
  clear hS
  clear HS hS3
  obtain rfl:E=0:=by simpa using he2
  clear he2 he3 HE
  have SQ:=Ja SP1.out
  go_wp2_with (first|(go_at_call 60;refine Jqa (JI _ _) ?_;rintro e w9 ⟨rfl,b9⟩;have sv:=((SP1.out.below b9).box (Ji 0 0 d.x.o (.slice none 0 0)));change Sep w0 r (w9.alloc (.cells #[.int .i64 0,.int .u64 0,.int .i64 d.x.o,(.slice none 0 0)] 42)) _ at sv;have sx:=sv.third.swap;obtain⟨u0,u1,u2,u3,g0,g1,g2,g3⟩:=sx.cells4 (Jms);have s10:=sx.put4 0 0 d.x.o (.slice none 0 0);have dd11:w9.cell? ⟨q,11,none⟩=some (.int .i64 d.x.o):=((SP1.out.below b9).blkCell (p:=q) (Jmc (Jmc (Jms))) 11).1;have dd12:=Jx dd11 (.cells #[.int .i64 0,.int .u64 0,.int .i64 (-1),.slice none 0 0] 42);have S10:=Ja s10;clear sv sx s10 b9;simp only[Jf])|fail)
  obtain⟨h0,h1,h2,h3,-⟩:=S10.out.cells4 (Jms)
  have G10:=Ja (And.intro (And.intro h0 h1) (And.intro h2 h3))
  clear h0 h1 h2 h3
  go_wp2
  refine bodyPost_ret (v:=Jf 0 0 d.x.o (.slice none 0 0)) ?_ rfl ⟨rfl,_,S10.out.drop.drop2.drop2.drop2⟩
  simp[results,Tryz.f130,go_sem,Jf,G10.out.1.1,G10.out.1.2,G10.out.2.1,G10.out.2.2]
theorem J26 (s:Sep w0 r w (kT p Y K::R)) (d:De) (hb:(Th.Gf K.h d.x.o).st=3) (he:¬ Th.Xh K.h d.x.o=0) (hf:Few K) :
  Calls Tryz.prog 130 #[Je p,JD d] w fun e w'=>e=.returned (Jf (Th.Xh (freed K d.x.o).h d.x.o) 0 (-1) (.slice none 0 0))/\KS w0 r w' p (EB (freed K d.x.o) d.x.o) R:=by
 have S1:=Ja (s.deed d)
 obtain⟨w1,hw⟩:∃ w1,(w.alloc (Jp d)).alloc (Ji 0 0 0 (.slice none 0 0))=w1:=⟨_,rfl⟩
 rw[hw] at S1
 have HW:=Ja hw
 unfold Jp Ji at HW
 clear s hw
 obtain⟨x,hx⟩:∃ x,Th.Gf K.h d.x.o=x:=⟨_,rfl⟩
 rw[hx] at hb
 obtain⟨E,hE⟩:∃ E,Th.Xh K.h d.x.o=E:=⟨_,rfl⟩
 rw[hE] at he
 have HE:=Ja hE
 have hk:=Jtn S1.out.drew d.x.o
 have SB:=Ja ((S1.out.box (.cells #[.int .i64 0,.int .i64 0,.int .i64 0,.int .i64 0,.int .u64 0,.int .u64 0,.int .u64 0,.int .u64 0,.int .u64 0,.int .u64 0,.int .u64 0,.int .u64 0] 132)).to4.drew)
 have hkb:=Jtn SB.out d.x.o
 rw[hx] at hk hkb
 unfold Th.MO at hk hkb
 have HK:=Ja hk
 have HKB:=Ja hkb
 have hb2:(x.st == 3)=true:=by simpa using hb
 have hb3:decide (x.st=3)=true:=by simpa using hb
 have HB2:=Ja hb2
 have he2:(E == 0)=false:=by simpa using he
 have he3:(E != 0)=true:=by simpa using he
 clear hx hE hk hkb hb hb2 hb3 he
 have HL:=Ja hf
 clear hf
 rw[show Th.Xh (freed K d.x.o).h d.x.o=E from HE.out]
 unfold JD
 go_enter Tryz.func130,Tryz.ntmps130
 go_wp2_with (first|rw[HW.out]|fail)
 generalize w.heap.size+1=q2 at *
 generalize w.heap.size=q at *
 have HSX:Hid (∀ (W:World) (Y':Ly) (K':Kr) (o:Obj) (R':List Th),Y'.h=Y.h->Sep w0 r W (kT p Y' K'::blk q2 o::blk q (Jp d)::R')->W.cell? ⟨p,2,none⟩=some (Je Y.h)/\W.cell? ⟨q,11,none⟩=some (.int .i64 d.x.o)):=fun W Y' K' o R' hy s=>by
  have k:=s.k2
  rw[hy] at k
  exact⟨k,(s.blkCell (p:=q) (Jmc (Jmc (Jms))) 11).1⟩
 go_cut [5,6] from 9 to 19 (fun sa sb wx=>∃ k y,sa=.pointer (some ⟨k,0,none⟩)/\sb=.int .i64 y/\Sep w0 r wx (kT p Y K::blk q2 (Ji 0 0 0 (.slice none 0 0))::blk q (Jp d)::blk k (.cells #[.int .i64 x.st,.int .i64 x.p,.int .i64 x.c,.int .i64 x.l,.int .u64 (Th.rg x 0),.int .u64 (Th.rg x 1),.int .u64 (Th.rg x 2),.int .u64 (Th.rg x 3),.int .u64 (Th.rg x 4),.int .u64 (Th.rg x 5),.int .u64 (Th.rg x 6),.int .u64 (Th.rg x 7)] 132)::R))
 case first =>
  have hS:=HSX.out _ _ _ _ _ (by rfl) S1.out.drew
  have hSB:=HSX.out _ _ _ _ _ (by rfl) SB.out
  go_region_held3 (fun W=>W.cell? ⟨p,2,none⟩=some (Je Y.h)/\W.cell? ⟨q,11,none⟩=some (.int .i64 d.x.o)) (first|with_reducible assumption|with_reducible exact hS|with_reducible exact hSB) (first|(go_at_call 116;(with_reducible refine Jqa HKB.out ?_);rintro e w3 ⟨rfl,b3⟩;have s3:=SB.out.below b3;have hS3:=HSX.out _ _ _ _ _ (by rfl) s3;have s4:=s3.from4;obtain⟨mf0,mz⟩:=s4.zTh (Jms);obtain⟨z0,z1,z2,z3,z4,z5,z6,z7,z8,z9,z10,z11⟩:=mz;have s5:=s4.putTh x;have s6:=s5.to4;have hS6:=HSX.out _ _ _ _ _ (by rfl) s6;have S6:=Ja s6;clear s3 s4 s5 s6)|(go_at_call 116;(with_reducible refine Jqa HK.out ?_);rintro e w3 ⟨rfl,b3⟩;have s3:=S1.out.drew.below b3;have hS3:=HSX.out _ _ _ _ _ (by rfl) s3;have s4:=(s3.box (.cells #[.int .i64 0,.int .i64 0,.int .i64 0,.int .i64 0,.int .u64 0,.int .u64 0,.int .u64 0,.int .u64 0,.int .u64 0,.int .u64 0,.int .u64 0,.int .u64 0] 132)).to4;have hS4:=HSX.out _ _ _ _ _ (by rfl) s4;have s6:=(s3.box (.cells #[.int .i64 x.st,.int .i64 x.p,.int .i64 x.c,.int .i64 x.l,.int .u64 (Th.rg x 0),.int .u64 (Th.rg x 1),.int .u64 (Th.rg x 2),.int .u64 (Th.rg x 3),.int .u64 (Th.rg x 4),.int .u64 (Th.rg x 5),.int .u64 (Th.rg x 6),.int .u64 (Th.rg x 7)] 132)).to4;have hS6:=HSX.out _ _ _ _ _ (by rfl) s6;have S6:=Ja s6;clear s3 s4 s6))
  all_goals go_wp2_with fail
  all_goals go_meet
  all_goals exact⟨_,_,rfl,rfl,S6.out⟩
 case rest =>
  obtain⟨k,y,rfl,rfl,s6⟩:=hcut
  have S6:=Ja s6
  clear S1 SB HK HKB HSX s6
  have m0:wc.cell? ⟨k,0,none⟩=some (.int .i64 x.st):=(S6.out.blkCell (p:=k) (Jmc (Jmc (Jmc (Jms)))) 0).1
  have hb2:=HB2.out
  have d11:wc.cell? ⟨q,11,none⟩=some (.int .i64 d.x.o):=(S6.out.blkCell (p:=q) (Jmc (Jmc (Jms))) 11).1
  go_wp2_with (first|(go_at_call 231;refine Jqa (Fs S6.out HL.out d.x.o) ?_;rintro e w2 ⟨rfl,Y2,s2⟩;have S2:=Ja s2;clear s2 d11 m0 hb2)|fail)
  clear HB2
  have HS:Hid (∀ (W:World) (Y':Ly) (K':Kr) (o:Obj) (R':List Th),Y'.h=Y2.h->Sep w0 r W (kT p Y' K'::blk q2 o::blk q (Jp d)::R')->W.cell? ⟨p,2,none⟩=some (Je Y2.h)/\W.cell? ⟨q,11,none⟩=some (.int .i64 d.x.o)):=fun W Y' K' o R' hy s=>by
   have k:=s.k2
   rw[hy] at k
   exact⟨k,(s.blkCell (p:=q) (Jmc (Jmc (Jms))) 11).1⟩
  have hS:=HS.out _ _ _ _ _ (by rfl) S2.out.drew
  have HC1:=Ja (Ja8 S2.out.drew d.x.o)
  go_region_held3 (fun W=>W.cell? ⟨p,2,none⟩=some (Je Y2.h)/\W.cell? ⟨q,11,none⟩=some (.int .i64 d.x.o)) (first|with_reducible assumption|with_reducible exact hS) (first|(go_at_call 101;refine Jqa HC1.out ?_;rintro e w3 ⟨rfl,x3,s3⟩;have hS3:=HS.out _ _ _ _ _ (by rfl) s3;rw[show Th.Xh (freed K d.x.o).h d.x.o=E from HE.out];have SP1:=Ja s3;clear s3))
  clear hS
  clear HS hS3
  go_wp2_with (first|(go_at_call 60;refine Jqa (JI _ _) ?_;rintro e w9 ⟨rfl,b9⟩;have s9:=(SP1.out.below b9);obtain⟨t0,t1,t2,t3,f0,f1,f2,f3⟩:=s9.swap.cells4 (Jms);have s10:=s9.swap.put4 E 0 (-1) (.slice none 0 0);have S10:=Ja s10;clear s9 s10;simp only[Jf])|fail)
  obtain⟨g0,g1,g2,g3,-⟩:=S10.out.cells4 (Jms)
  have G10:=Ja (And.intro (And.intro g0 g1) (And.intro g2 g3))
  clear g0 g1 g2 g3
  go_wp2
  refine bodyPost_ret (v:=Jf E 0 (-1) (.slice none 0 0)) ?_ rfl ⟨rfl,_,S10.out.drop.drop2.drop2⟩
  simp[results,Tryz.f130,go_sem,Jf,G10.out.1.1,G10.out.1.2,G10.out.2.1,G10.out.2.2]
theorem J29 (s:Sep w0 r w (kT p Y K::R)) (d:De) (hb:¬ (Th.Gf K.h d.x.o).st=3) (he:Th.Xh K.h d.x.o=0) :
  Calls Tryz.prog 130 #[Je p,JD d] w fun e w'=>e=.returned (Jf (Th.Xh K.h d.x.o) 0 d.x.o (.slice none 0 0))/\KS w0 r w' p (EB K d.x.o) R:=by
 have S1:=Ja (s.deed d)
 obtain⟨w1,hw⟩:∃ w1,(w.alloc (Jp d)).alloc (Ji 0 0 0 (.slice none 0 0))=w1:=⟨_,rfl⟩
 rw[hw] at S1
 have HW:=Ja hw
 unfold Jp Ji at HW
 clear s hw
 obtain⟨x,hx⟩:∃ x,Th.Gf K.h d.x.o=x:=⟨_,rfl⟩
 rw[hx] at hb
 obtain⟨E,hE⟩:∃ E,Th.Xh K.h d.x.o=E:=⟨_,rfl⟩
 rw[hE] at he
 have HE:=Ja hE
 have hk:=Jtn S1.out.drew d.x.o
 have SB:=Ja ((S1.out.box (.cells #[.int .i64 0,.int .i64 0,.int .i64 0,.int .i64 0,.int .u64 0,.int .u64 0,.int .u64 0,.int .u64 0,.int .u64 0,.int .u64 0,.int .u64 0,.int .u64 0] 132)).to4.drew)
 have hkb:=Jtn SB.out d.x.o
 rw[hx] at hk hkb
 unfold Th.MO at hk hkb
 have HK:=Ja hk
 have HKB:=Ja hkb
 have hb2:(x.st == 3)=false:=by simpa using hb
 have hb3:decide (x.st=3)=false:=by simpa using hb
 have HB2:=Ja hb2
 have he2:(E == 0)=true:=by simpa using he
 have he3:(E != 0)=false:=by simpa using he
 clear hx hE hk hkb hb hb2 hb3 he
 rw[show Th.Xh K.h d.x.o=E from HE.out]
 unfold JD
 go_enter Tryz.func130,Tryz.ntmps130
 go_wp2_with (first|rw[HW.out]|fail)
 generalize w.heap.size+1=q2 at *
 generalize w.heap.size=q at *
 have HSX:Hid (∀ (W:World) (Y':Ly) (K':Kr) (o:Obj) (R':List Th),Y'.h=Y.h->Sep w0 r W (kT p Y' K'::blk q2 o::blk q (Jp d)::R')->W.cell? ⟨p,2,none⟩=some (Je Y.h)/\W.cell? ⟨q,11,none⟩=some (.int .i64 d.x.o)):=fun W Y' K' o R' hy s=>by
  have k:=s.k2
  rw[hy] at k
  exact⟨k,(s.blkCell (p:=q) (Jmc (Jmc (Jms))) 11).1⟩
 go_cut [5,6] from 9 to 19 (fun sa sb wx=>∃ k y,sa=.pointer (some ⟨k,0,none⟩)/\sb=.int .i64 y/\Sep w0 r wx (kT p Y K::blk q2 (Ji 0 0 0 (.slice none 0 0))::blk q (Jp d)::blk k (.cells #[.int .i64 x.st,.int .i64 x.p,.int .i64 x.c,.int .i64 x.l,.int .u64 (Th.rg x 0),.int .u64 (Th.rg x 1),.int .u64 (Th.rg x 2),.int .u64 (Th.rg x 3),.int .u64 (Th.rg x 4),.int .u64 (Th.rg x 5),.int .u64 (Th.rg x 6),.int .u64 (Th.rg x 7)] 132)::R))
 case first =>
  have hS:=HSX.out _ _ _ _ _ (by rfl) S1.out.drew
  have hSB:=HSX.out _ _ _ _ _ (by rfl) SB.out
  go_region_held3 (fun W=>W.cell? ⟨p,2,none⟩=some (Je Y.h)/\W.cell? ⟨q,11,none⟩=some (.int .i64 d.x.o)) (first|with_reducible assumption|with_reducible exact hS|with_reducible exact hSB) (first|(go_at_call 116;(with_reducible refine Jqa HKB.out ?_);rintro e w3 ⟨rfl,b3⟩;have s3:=SB.out.below b3;have hS3:=HSX.out _ _ _ _ _ (by rfl) s3;have s4:=s3.from4;obtain⟨mf0,mz⟩:=s4.zTh (Jms);obtain⟨z0,z1,z2,z3,z4,z5,z6,z7,z8,z9,z10,z11⟩:=mz;have s5:=s4.putTh x;have s6:=s5.to4;have hS6:=HSX.out _ _ _ _ _ (by rfl) s6;have S6:=Ja s6;clear s3 s4 s5 s6)|(go_at_call 116;(with_reducible refine Jqa HK.out ?_);rintro e w3 ⟨rfl,b3⟩;have s3:=S1.out.drew.below b3;have hS3:=HSX.out _ _ _ _ _ (by rfl) s3;have s4:=(s3.box (.cells #[.int .i64 0,.int .i64 0,.int .i64 0,.int .i64 0,.int .u64 0,.int .u64 0,.int .u64 0,.int .u64 0,.int .u64 0,.int .u64 0,.int .u64 0,.int .u64 0] 132)).to4;have hS4:=HSX.out _ _ _ _ _ (by rfl) s4;have s6:=(s3.box (.cells #[.int .i64 x.st,.int .i64 x.p,.int .i64 x.c,.int .i64 x.l,.int .u64 (Th.rg x 0),.int .u64 (Th.rg x 1),.int .u64 (Th.rg x 2),.int .u64 (Th.rg x 3),.int .u64 (Th.rg x 4),.int .u64 (Th.rg x 5),.int .u64 (Th.rg x 6),.int .u64 (Th.rg x 7)] 132)).to4;have hS6:=HSX.out _ _ _ _ _ (by rfl) s6;have S6:=Ja s6;clear s3 s4 s6))
  all_goals go_wp2_with fail
  all_goals go_meet
  all_goals exact⟨_,_,rfl,rfl,S6.out⟩
 case rest =>
  obtain⟨k,y,rfl,rfl,s6⟩:=hcut
  have S6:=Ja s6
  clear S1 SB HK HKB HSX s6
  have m0:wc.cell? ⟨k,0,none⟩=some (.int .i64 x.st):=(S6.out.blkCell (p:=k) (Jmc (Jmc (Jmc (Jms)))) 0).1
  have hb2:=HB2.out
  go_wp2_with fail
  clear m0 hb2
  clear HB2
  have HS:Hid (∀ (W:World) (Y':Ly) (K':Kr) (o:Obj) (R':List Th),Y'.h=Y.h->Sep w0 r W (kT p Y' K'::blk q2 o::blk q (Jp d)::R')->W.cell? ⟨p,2,none⟩=some (Je Y.h)/\W.cell? ⟨q,11,none⟩=some (.int .i64 d.x.o)):=fun W Y' K' o R' hy s=>by
   have k:=s.k2
   rw[hy] at k
   exact⟨k,(s.blkCell (p:=q) (Jmc (Jmc (Jms))) 11).1⟩
  have hS:=HS.out _ _ _ _ _ (by rfl) S6.out.drew
  have HC1:=Ja (Ja8 S6.out.drew d.x.o)
  go_region_held3 (fun W=>W.cell? ⟨p,2,none⟩=some (Je Y.h)/\W.cell? ⟨q,11,none⟩=some (.int .i64 d.x.o)) (first|with_reducible assumption|with_reducible exact hS) (first|(go_at_call 101;refine Jqa HC1.out ?_;rintro e w3 ⟨rfl,x3,s3⟩;have hS3:=HS.out _ _ _ _ _ (by rfl) s3;rw[show Th.Xh K.h d.x.o=E from HE.out];have SP1:=Ja s3;clear s3))
  clear hS
  clear HS hS3
  obtain rfl:E=0:=by simpa using he2
  clear he2 he3 HE
  have SQ:=Ja SP1.out
  go_wp2_with (first|(go_at_call 60;refine Jqa (JI _ _) ?_;rintro e w9 ⟨rfl,b9⟩;have sv:=((SP1.out.below b9).box (Ji 0 0 d.x.o (.slice none 0 0)));change Sep w0 r (w9.alloc (.cells #[.int .i64 0,.int .u64 0,.int .i64 d.x.o,(.slice none 0 0)] 42)) _ at sv;have sx:=sv.third.swap;obtain⟨u0,u1,u2,u3,g0,g1,g2,g3⟩:=sx.cells4 (Jms);have s10:=sx.put4 0 0 d.x.o (.slice none 0 0);have dd11:w9.cell? ⟨q,11,none⟩=some (.int .i64 d.x.o):=((SP1.out.below b9).blkCell (p:=q) (Jmc (Jmc (Jms))) 11).1;have dd12:=Jx dd11 (.cells #[.int .i64 0,.int .u64 0,.int .i64 (-1),.slice none 0 0] 42);have S10:=Ja s10;clear sv sx s10 b9;simp only[Jf])|fail)
  obtain⟨h0,h1,h2,h3,-⟩:=S10.out.cells4 (Jms)
  have G10:=Ja (And.intro (And.intro h0 h1) (And.intro h2 h3))
  clear h0 h1 h2 h3
  go_wp2
  refine bodyPost_ret (v:=Jf 0 0 d.x.o (.slice none 0 0)) ?_ rfl ⟨rfl,_,S10.out.drop.drop2.drop2.drop2⟩
  simp[results,Tryz.f130,go_sem,Jf,G10.out.1.1,G10.out.1.2,G10.out.2.1,G10.out.2.2]
theorem J28 (s:Sep w0 r w (kT p Y K::R)) (d:De) (hb:¬ (Th.Gf K.h d.x.o).st=3) (he:¬ Th.Xh K.h d.x.o=0) :
  Calls Tryz.prog 130 #[Je p,JD d] w fun e w'=>e=.returned (Jf (Th.Xh K.h d.x.o) 0 (-1) (.slice none 0 0))/\KS w0 r w' p (EB K d.x.o) R:=by
 have S1:=Ja (s.deed d)
 obtain⟨w1,hw⟩:∃ w1,(w.alloc (Jp d)).alloc (Ji 0 0 0 (.slice none 0 0))=w1:=⟨_,rfl⟩
 rw[hw] at S1
 have HW:=Ja hw
 unfold Jp Ji at HW
 clear s hw
 obtain⟨x,hx⟩:∃ x,Th.Gf K.h d.x.o=x:=⟨_,rfl⟩
 rw[hx] at hb
 obtain⟨E,hE⟩:∃ E,Th.Xh K.h d.x.o=E:=⟨_,rfl⟩
 rw[hE] at he
 have HE:=Ja hE
 have hk:=Jtn S1.out.drew d.x.o
 have SB:=Ja ((S1.out.box (.cells #[.int .i64 0,.int .i64 0,.int .i64 0,.int .i64 0,.int .u64 0,.int .u64 0,.int .u64 0,.int .u64 0,.int .u64 0,.int .u64 0,.int .u64 0,.int .u64 0] 132)).to4.drew)
 have hkb:=Jtn SB.out d.x.o
 rw[hx] at hk hkb
 unfold Th.MO at hk hkb
 have HK:=Ja hk
 have HKB:=Ja hkb
 have hb2:(x.st == 3)=false:=by simpa using hb
 have hb3:decide (x.st=3)=false:=by simpa using hb
 have HB2:=Ja hb2
 have he2:(E == 0)=false:=by simpa using he
 have he3:(E != 0)=true:=by simpa using he
 clear hx hE hk hkb hb hb2 hb3 he
 rw[show Th.Xh K.h d.x.o=E from HE.out]
 unfold JD
 go_enter Tryz.func130,Tryz.ntmps130
 go_wp2_with (first|rw[HW.out]|fail)
 generalize w.heap.size+1=q2 at *
 generalize w.heap.size=q at *
 have HSX:Hid (∀ (W:World) (Y':Ly) (K':Kr) (o:Obj) (R':List Th),Y'.h=Y.h->Sep w0 r W (kT p Y' K'::blk q2 o::blk q (Jp d)::R')->W.cell? ⟨p,2,none⟩=some (Je Y.h)/\W.cell? ⟨q,11,none⟩=some (.int .i64 d.x.o)):=fun W Y' K' o R' hy s=>by
  have k:=s.k2
  rw[hy] at k
  exact⟨k,(s.blkCell (p:=q) (Jmc (Jmc (Jms))) 11).1⟩
 go_cut [5,6] from 9 to 19 (fun sa sb wx=>∃ k y,sa=.pointer (some ⟨k,0,none⟩)/\sb=.int .i64 y/\Sep w0 r wx (kT p Y K::blk q2 (Ji 0 0 0 (.slice none 0 0))::blk q (Jp d)::blk k (.cells #[.int .i64 x.st,.int .i64 x.p,.int .i64 x.c,.int .i64 x.l,.int .u64 (Th.rg x 0),.int .u64 (Th.rg x 1),.int .u64 (Th.rg x 2),.int .u64 (Th.rg x 3),.int .u64 (Th.rg x 4),.int .u64 (Th.rg x 5),.int .u64 (Th.rg x 6),.int .u64 (Th.rg x 7)] 132)::R))
 case first =>
  have hS:=HSX.out _ _ _ _ _ (by rfl) S1.out.drew
  have hSB:=HSX.out _ _ _ _ _ (by rfl) SB.out
  go_region_held3 (fun W=>W.cell? ⟨p,2,none⟩=some (Je Y.h)/\W.cell? ⟨q,11,none⟩=some (.int .i64 d.x.o)) (first|with_reducible assumption|with_reducible exact hS|with_reducible exact hSB) (first|(go_at_call 116;(with_reducible refine Jqa HKB.out ?_);rintro e w3 ⟨rfl,b3⟩;have s3:=SB.out.below b3;have hS3:=HSX.out _ _ _ _ _ (by rfl) s3;have s4:=s3.from4;obtain⟨mf0,mz⟩:=s4.zTh (Jms);obtain⟨z0,z1,z2,z3,z4,z5,z6,z7,z8,z9,z10,z11⟩:=mz;have s5:=s4.putTh x;have s6:=s5.to4;have hS6:=HSX.out _ _ _ _ _ (by rfl) s6;have S6:=Ja s6;clear s3 s4 s5 s6)|(go_at_call 116;(with_reducible refine Jqa HK.out ?_);rintro e w3 ⟨rfl,b3⟩;have s3:=S1.out.drew.below b3;have hS3:=HSX.out _ _ _ _ _ (by rfl) s3;have s4:=(s3.box (.cells #[.int .i64 0,.int .i64 0,.int .i64 0,.int .i64 0,.int .u64 0,.int .u64 0,.int .u64 0,.int .u64 0,.int .u64 0,.int .u64 0,.int .u64 0,.int .u64 0] 132)).to4;have hS4:=HSX.out _ _ _ _ _ (by rfl) s4;have s6:=(s3.box (.cells #[.int .i64 x.st,.int .i64 x.p,.int .i64 x.c,.int .i64 x.l,.int .u64 (Th.rg x 0),.int .u64 (Th.rg x 1),.int .u64 (Th.rg x 2),.int .u64 (Th.rg x 3),.int .u64 (Th.rg x 4),.int .u64 (Th.rg x 5),.int .u64 (Th.rg x 6),.int .u64 (Th.rg x 7)] 132)).to4;have hS6:=HSX.out _ _ _ _ _ (by rfl) s6;have S6:=Ja s6;clear s3 s4 s6))
  all_goals go_wp2_with fail
  all_goals go_meet
  all_goals exact⟨_,_,rfl,rfl,S6.out⟩
 case rest =>
  obtain⟨k,y,rfl,rfl,s6⟩:=hcut
  have S6:=Ja s6
  clear S1 SB HK HKB HSX s6
  have m0:wc.cell? ⟨k,0,none⟩=some (.int .i64 x.st):=(S6.out.blkCell (p:=k) (Jmc (Jmc (Jmc (Jms)))) 0).1
  have hb2:=HB2.out
  go_wp2_with fail
  clear m0 hb2
  clear HB2
  have HS:Hid (∀ (W:World) (Y':Ly) (K':Kr) (o:Obj) (R':List Th),Y'.h=Y.h->Sep w0 r W (kT p Y' K'::blk q2 o::blk q (Jp d)::R')->W.cell? ⟨p,2,none⟩=some (Je Y.h)/\W.cell? ⟨q,11,none⟩=some (.int .i64 d.x.o)):=fun W Y' K' o R' hy s=>by
   have k:=s.k2
   rw[hy] at k
   exact⟨k,(s.blkCell (p:=q) (Jmc (Jmc (Jms))) 11).1⟩
  have hS:=HS.out _ _ _ _ _ (by rfl) S6.out.drew
  have HC1:=Ja (Ja8 S6.out.drew d.x.o)
  go_region_held3 (fun W=>W.cell? ⟨p,2,none⟩=some (Je Y.h)/\W.cell? ⟨q,11,none⟩=some (.int .i64 d.x.o)) (first|with_reducible assumption|with_reducible exact hS) (first|(go_at_call 101;refine Jqa HC1.out ?_;rintro e w3 ⟨rfl,x3,s3⟩;have hS3:=HS.out _ _ _ _ _ (by rfl) s3;rw[show Th.Xh K.h d.x.o=E from HE.out];have SP1:=Ja s3;clear s3))
  clear hS
  clear HS hS3
  go_wp2_with (first|(go_at_call 60;refine Jqa (JI _ _) ?_;rintro e w9 ⟨rfl,b9⟩;have s9:=(SP1.out.below b9);obtain⟨t0,t1,t2,t3,f0,f1,f2,f3⟩:=s9.swap.cells4 (Jms);have s10:=s9.swap.put4 E 0 (-1) (.slice none 0 0);have S10:=Ja s10;clear s9 s10;simp only[Jf])|fail)
  obtain⟨g0,g1,g2,g3,-⟩:=S10.out.cells4 (Jms)
  have G10:=Ja (And.intro (And.intro g0 g1) (And.intro g2 g3))
  clear g0 g1 g2 g3
  go_wp2
  refine bodyPost_ret (v:=Jf E 0 (-1) (.slice none 0 0)) ?_ rfl ⟨rfl,_,S10.out.drop.drop2.drop2⟩
  simp[results,Tryz.f130,go_sem,Jf,G10.out.1.1,G10.out.1.2,G10.out.2.1,G10.out.2.2]
theorem J21 (s:Sep w0 r w (kT p Y K::R)) (d:De) (h6:(K.S.getD 0 []).length=64) (hn:VC d.c.w) (he:¬ J4 K d.c.w 1=0) :
  Calls Tryz.prog 127 #[Je p,JD d] w fun e w'=>e=.returned (Jf (J4 K d.c.w 1) 0 (-1) (.slice none 0 0))/\KS w0 r w' p K R:=by
 have S1:=Ja (s.deed d)
 obtain⟨w1,hw⟩:∃ w1,(w.alloc (Jp d)).alloc (Ji 0 0 0 (.slice none 0 0))=w1:=⟨_,rfl⟩
 rw[hw] at S1
 have HW:=Ja hw
 unfold Jp Ji at HW
 clear s hw
 obtain⟨FE,hfe⟩:∃ FE,J4 K d.c.w 1=FE:=⟨_,rfl⟩
 have HFE:=Ja hfe
 have HA:=Ja (And.intro h6 hn)
 clear h6 hn
 rw[hfe] at he ⊢
 have he2:(FE == 0)=false:=by simpa using he
 have he3:(FE != 0)=true:=by simpa using he
 clear he hfe
 unfold JD
 have dc2:w1.cell? ⟨w.heap.size,2,none⟩=some (.int .i64 d.c.w):=(S1.out.blkCell (p:=w.heap.size) (Jmc (Jmc (Jms))) 2).1
 go_enter Tryz.func127,Tryz.ntmps127
 go_wp2_with (first|rw[HW.out]|(go_at_call 221;refine Jqa (Jj1 S1.out HA.out.1 HA.out.2 HFE.out) ?_;rintro e w2 ⟨ao,len,cap,rfl,L,hL,s2⟩;have S2:=Ja (s2.swap.to4);have HLL:=Ja hL;clear s2 hL;clear dc2)|(go_at_call 60;refine Jqa (JI _ _) ?_;rintro e w9 ⟨rfl,b9⟩;have s9:=(S2.out.below b9);obtain⟨t0,t1,t2,t3,f0,f1,f2,f3⟩:=s9.swap.cells4 (Jms);have s10:=s9.swap.put4 FE 0 (-1) (.slice none 0 0);have S10:=Ja s10;clear s9 s10;simp only[Jf])|fail)
 obtain⟨g0,g1,g2,g3,-⟩:=S10.out.cells4 (Jms)
 have G10:=Ja (And.intro (And.intro g0 g1) (And.intro g2 g3))
 clear g0 g1 g2 g3
 go_wp2
 refine bodyPost_ret (v:=Jf FE 0 (-1) (.slice none 0 0)) ?_ rfl ⟨rfl,_,S10.out.drop.drop2.drop2⟩
 simp[results,Tryz.f127,go_sem,Jf,G10.out.1.1,G10.out.1.2,G10.out.2.1,G10.out.2.2]
theorem J4v (s:Sep w0 r w (kT p Y K::R)) (d:De) (h6:(K.S.getD 0 []).length=64) (hn:VC d.c.w) (he:J4 K d.c.w 1=0) (hl:K.E.length<=1000) (ha:0<=d.f/\d.f<=63) (hw2:0<=d.c.w/\d.c.w<=63) :
  Calls Tryz.prog 127 #[Je p,JD d] w fun e w'=>e=.returned (Jf 0 0 (-1) (.slice none 0 0))/\KS w0 r w' p { K with S:=Sl.moveS K.S ⟨0,d.f⟩ ⟨0,d.c.w⟩,E:=Tr.moveS K.E ⟨0,d.f⟩ ⟨0,d.c.w⟩ } R:=by
 have S1:=Ja (s.deed d)
 obtain⟨w1,hw⟩:∃ w1,(w.alloc (Jp d)).alloc (Ji 0 0 0 (.slice none 0 0))=w1:=⟨_,rfl⟩
 rw[hw] at S1
 have HW:=Ja hw
 unfold Jp Ji at HW
 clear s hw
 obtain⟨FE,hfe⟩:∃ FE,J4 K d.c.w 1=FE:=⟨_,rfl⟩
 have HFE:=Ja hfe
 have HA:=Ja (And.intro h6 hn)
 clear h6 hn
 rw[hfe] at he
 subst he
 have HZ:=Ja (And.intro (And.intro hl ha) hw2)
 clear hfe hl ha hw2
 unfold JD
 have dc2:w1.cell? ⟨w.heap.size,2,none⟩=some (.int .i64 d.c.w):=(S1.out.blkCell (p:=w.heap.size) (Jmc (Jmc (Jms))) 2).1
 go_enter Tryz.func127,Tryz.ntmps127
 go_wp2_with (first|rw[HW.out]|(go_at_call 221;refine Jqa (Jj1 S1.out HA.out.1 HA.out.2 HFE.out) ?_;rintro e w2 ⟨ao,len,cap,rfl,L,hL,s2⟩;have S2:=Ja (s2.swap.to4);have HLL:=Ja hL;clear s2 hL;clear dc2)|fail)
 obtain⟨hl1,hl2⟩:=HLL.out (by simp)
 subst hl1
 subst hl2
 obtain⟨g,rfl,hgc⟩:=S2.out.listAt Jli (ao:=ao) (n:=1) (cap:=cap) (A:=[⟨0,d.c.w⟩]) (by simp) (k:=0) (x:=⟨0,d.c.w⟩) rfl
 clear hgc HLL
 generalize w.heap.size+1=q2 at *
 generalize w.heap.size=q at *
 have HS:Hid (∀ (W:World) (Y':Ly) (K':Kr) (o:Obj),Y'.n=Y.n->Sep w0 r W (kT p Y' K'::blk q2 o::blk q (Jp d)::Jv Vr (.slice (some ⟨g,0,none⟩) 1 cap) [⟨0,d.c.w⟩]::R)->W.cell? ⟨p,0,none⟩=some (Je Y.n)/\W.cell? ⟨q,8,none⟩=some (.int .i64 0)/\W.cell? ⟨q,9,none⟩=some (.int .i64 d.f)/\W.cell? ⟨g,0,none⟩=some (.int .i64 0)/\W.cell? ⟨g,1,none⟩=some (.int .i64 d.c.w)):=fun W Y' K' o hy s=>by
  have kk:=s.k0
  rw[hy] at kk
  have cq:=fun j=>(s.blkCell (p:=q) (Jmc (Jmc (Jms))) j).1
  obtain⟨g',eg,hgc⟩:=s.listAt Jli (ao:=some ⟨g,0,none⟩) (n:=1) (cap:=cap) (A:=[⟨0,d.c.w⟩]) (by simp) (k:=0) (x:=⟨0,d.c.w⟩) rfl
  cases eg
  have c0:=hgc 0 (.int .i64 0) rfl
  have c1:=hgc 1 (.int .i64 d.c.w) rfl
  rw[Nat.zero_mul,Nat.zero_add] at c0 c1
  exact⟨kk,cq 8,cq 9,c0,c1⟩
 have HT:Hid (∀ (W:World) (Y':Ly) (K':Kr) (o:Obj),Y'.t=Y.t->Sep w0 r W (kT p Y' K'::blk q2 o::blk q (Jp d)::Jv Vr (.slice (some ⟨g,0,none⟩) 1 cap) [⟨0,d.c.w⟩]::R)->W.cell? ⟨p,1,none⟩=some (Je Y.t)/\W.cell? ⟨q,8,none⟩=some (.int .i64 0)/\W.cell? ⟨q,9,none⟩=some (.int .i64 d.f)/\W.cell? ⟨g,0,none⟩=some (.int .i64 0)/\W.cell? ⟨g,1,none⟩=some (.int .i64 d.c.w)):=fun W Y' K' o hy s=>by
  have kk:=s.k1
  rw[hy] at kk
  have cq:=fun j=>(s.blkCell (p:=q) (Jmc (Jmc (Jms))) j).1
  obtain⟨g',eg,hgc⟩:=s.listAt Jli (ao:=some ⟨g,0,none⟩) (n:=1) (cap:=cap) (A:=[⟨0,d.c.w⟩]) (by simp) (k:=0) (x:=⟨0,d.c.w⟩) rfl
  cases eg
  have c0:=hgc 0 (.int .i64 0) rfl
  have c1:=hgc 1 (.int .i64 d.c.w) rfl
  rw[Nat.zero_mul,Nat.zero_add] at c0 c1
  exact⟨kk,cq 8,cq 9,c0,c1⟩
 have hk:=J50 S2.out.drew ⟨0,d.f⟩ ⟨0,d.c.w⟩ ⟨⟨by show _<=(0:Int);omega,by show(0:Int)<=_;omega⟩,⟨by have:=HZ.out;show _<=d.f;omega,by have:=HZ.out;show d.f<=_;omega⟩⟩ ⟨⟨by show _<=(0:Int);omega,by show(0:Int)<=_;omega⟩,⟨by have:=HZ.out;show _<=d.c.w;omega,by have:=HZ.out;show d.c.w<=_;omega⟩⟩
 simp only[Sl.Jh] at hk
 have HC:=Ja hk
 clear hk
 have hS:=HS.out _ _ _ _ (by rfl) S2.out.drew
 go_region_held3 (fun W=>W.cell? ⟨p,0,none⟩=some (Je Y.n)/\W.cell? ⟨q,8,none⟩=some (.int .i64 0)/\W.cell? ⟨q,9,none⟩=some (.int .i64 d.f)/\W.cell? ⟨g,0,none⟩=some (.int .i64 0)/\W.cell? ⟨g,1,none⟩=some (.int .i64 d.c.w)) (first|with_reducible assumption|with_reducible exact hS) (first|(go_at_call 226;refine Jqa HC.out ?_;rintro e w5 ⟨rfl,s5⟩;have hS5:=HS.out _ _ _ _ (by rfl) s5;have S5:=Ja s5;clear s5))
 clear hS hS5 HS
 go_wp2_with fail
 have hk:=J5t S5.out.drew ⟨0,d.f⟩ ⟨0,d.c.w⟩ HZ.out.1.1
 simp only[Tr.Jh] at hk
 have HC2:=Ja hk
 clear hk
 have hS:=HT.out _ _ _ _ (by rfl) S5.out.drew
 go_region_held3 (fun W=>W.cell? ⟨p,1,none⟩=some (Je Y.t)/\W.cell? ⟨q,8,none⟩=some (.int .i64 0)/\W.cell? ⟨q,9,none⟩=some (.int .i64 d.f)/\W.cell? ⟨g,0,none⟩=some (.int .i64 0)/\W.cell? ⟨g,1,none⟩=some (.int .i64 d.c.w)) (first|with_reducible assumption|with_reducible exact hS) (first|(go_at_call 227;refine Jqa HC2.out ?_;rintro e w6 ⟨rfl,x6,s6⟩;have hS6:=HT.out _ _ _ _ (by rfl) s6;have S6:=Ja s6;clear s6))
 clear hS hS6 HT
 go_wp2_with (first|(go_at_call 60;refine Jqa (JI _ _) ?_;rintro e w9 ⟨rfl,b9⟩;have s9:=(S6.out.below b9);obtain⟨t0,t1,t2,t3,f0,f1,f2,f3⟩:=s9.swap.cells4 (Jms);have s10:=s9.swap.put4 0 0 (-1) (.slice none 0 0);have S10:=Ja s10;clear s9 s10;simp only[Jf])|fail)
 obtain⟨g0,g1,g2,g3,-⟩:=S10.out.cells4 (Jms)
 have G10:=Ja (And.intro (And.intro g0 g1) (And.intro g2 g3))
 clear g0 g1 g2 g3
 go_wp2
 refine bodyPost_ret (v:=Jf 0 0 (-1) (.slice none 0 0)) ?_ rfl ⟨rfl,_,S10.out.drop.drop2.drop2⟩
 simp[results,Tryz.f127,go_sem,Jf,G10.out.1.1,G10.out.1.2,G10.out.2.1,G10.out.2.2]
end
end
end Go.Proofs.YtbfjjpdnoalojaaGreatDoor
