/- Below: KH1 KH5 KH6 KH7; no condition. -/
import Derived.Test.YtbfjjpdnoalojaaGreatDoorPa16
set_option maxHeartbeats 16000000
set_option maxRecDepth 100000
namespace Go.Proofs.YtbfjjpdnoalojaaGreatDoor
section
open Go.RowKit Go.Deep Go.Shelf
open Classical
section
variable {w0 w w':World} {r p:Nat} {Y:Ly} {K:Kr} {R:List Th}
theorem Jv4 (s:Sep w0 r w (kT p Y K::R)) (d:De) :
  Calls Tryz.prog 132 #[Je p,JD d] w fun e w'=>e=.returned (Jf (Th.VV K.h d.x.o d.c.A) 0 (-1) (.slice none 0 0))/\KS w0 r w' p { K with h:=Th.VW K.h d.x.o d.c.A } R:=by
 have S1:=Ja (s.deed d)
 obtain⟨w1,hw⟩:∃ w1,(w.alloc (Jp d)).alloc (Ji 0 0 0 (.slice none 0 0))=w1:=⟨_,rfl⟩
 rw[hw] at S1
 have HW:=Ja hw
 unfold Jp Ji at HW
 clear s hw
 generalize hE:Th.VV K.h d.x.o d.c.A=E
 have HE:=Ja hE
 clear hE
 unfold JD
 go_enter Tryz.func132,Tryz.ntmps132
 go_wp2_with (first|rw[HW.out]|fail)
 generalize w.heap.size+1=q2 at *
 generalize w.heap.size=q at *
 have HS:Hid (∀ (W:World) (Y':Ly) (K':Kr) (o:Obj),Y'.h=Y.h->Sep w0 r W (kT p Y' K'::blk q2 o::blk q (Jp d)::R)->W.cell? ⟨p,2,none⟩=some (Je Y.h)/\W.cell? ⟨q,11,none⟩=some (.int .i64 d.x.o)/\W.cell? ⟨q,3,none⟩=some (.int .i64 d.c.A)):=fun W Y' K' o hy s=>by
  have k:=s.k2
  rw[hy] at k
  exact⟨k,(s.blkCell (p:=q) (Jmc (Jmc (Jms))) 11).1,(s.blkCell (p:=q) (Jmc (Jmc (Jms))) 3).1⟩
 have hS:=HS.out _ _ _ _ (by rfl) S1.out.drew
 have HC1:=Ja (Jtj S1.out.drew d.x.o d.c.A)
 go_region_held3 (fun W=>W.cell? ⟨p,2,none⟩=some (Je Y.h)/\W.cell? ⟨q,11,none⟩=some (.int .i64 d.x.o)/\W.cell? ⟨q,3,none⟩=some (.int .i64 d.c.A)) (first|with_reducible assumption|with_reducible exact hS) (first|(go_at_call 233;refine Jqa HC1.out ?_;rintro e w3 ⟨rfl,x3,s3⟩;have hS3:=HS.out _ _ _ _ (by rfl) s3;rw[HE.out];have SP1:=Ja s3;clear s3)|(go_at_call 60;refine Jqa (JI _ _) ?_;rintro e w9 ⟨rfl,b9⟩;have s9:=(SP1.out.below b9);have hS9:=HS.out _ _ _ _ (by rfl) s9;obtain⟨t0,t1,t2,t3,f0,f1,f2,f3⟩:=s9.swap.cells4 (Jms);have s10:=s9.swap.put4 E 0 (-1) (.slice none 0 0);have hS10:=HS.out _ _ _ _ (by rfl) s10.swap;have S10:=Ja s10;clear s9 s10;simp only[Jf]))
 clear hS
 obtain⟨g0,g1,g2,g3,-⟩:=S10.out.cells4 (Jms)
 have G10:=Ja (And.intro (And.intro g0 g1) (And.intro g2 g3))
 clear g0 g1 g2 g3
 go_wp2
 refine bodyPost_ret (v:=Jf E 0 (-1) (.slice none 0 0)) ?_ rfl ⟨rfl,_,S10.out.drop.drop2⟩
 simp[results,Tryz.f132,go_sem,Jf,G10.out.1.1,G10.out.1.2,G10.out.2.1,G10.out.2.2]
theorem Jv2 (s:Sep w0 r w (kT p Y K::R)) (d:De) (ht:∀ u,Below r w0 u->Th.Tab u) :
  Calls Tryz.prog 142 #[Je p,JD d] w fun e w'=>e=.returned (Jf (0) 0 (-1) (.slice none 0 0))/\KS w0 r w' p { K with h:=Th.XR K.h d.core } R:=by
 have S1:=Ja (s.deed d)
 obtain⟨w1,hw⟩:∃ w1,(w.alloc (Jp d)).alloc (Ji 0 0 0 (.slice none 0 0))=w1:=⟨_,rfl⟩
 rw[hw] at S1
 have HW:=Ja hw
 unfold Jp Ji at HW
 clear s hw
 have HT:=Ja ht
 clear ht
 unfold JD
 go_enter Tryz.func142,Tryz.ntmps142
 go_wp2_with (first|rw[HW.out]|fail)
 generalize w.heap.size+1=q2 at *
 generalize w.heap.size=q at *
 have HS:Hid (∀ (W:World) (Y':Ly) (K':Kr) (o:Obj),Y'.h=Y.h->Sep w0 r W (kT p Y' K'::blk q2 o::blk q (Jp d)::R)->W.cell? ⟨p,2,none⟩=some (Je Y.h)/\W.cell? ⟨q,6,none⟩=some (.int .i64 d.core)):=fun W Y' K' o hy s=>by
  have k:=s.k2
  rw[hy] at k
  exact⟨k,(s.blkCell (p:=q) (Jmc (Jmc (Jms))) 6).1⟩
 have hS:=HS.out _ _ _ _ (by rfl) S1.out.drew
 have HC1:=Ja (Jok S1.out.drew HT.out d.core)
 go_region_held3 (fun W=>W.cell? ⟨p,2,none⟩=some (Je Y.h)/\W.cell? ⟨q,6,none⟩=some (.int .i64 d.core)) (first|with_reducible assumption|with_reducible exact hS) (first|(go_at_call 176;refine Jqa HC1.out ?_;rintro e w3 ⟨rfl,x3,s3⟩;have hS3:=HS.out _ _ _ _ (by rfl) s3;have SP1:=Ja s3;clear s3))
 clear hS
 clear HS hS3
 go_wp2_with (first|(go_at_call 60;refine Jqa (JI _ _) ?_;rintro e w9 ⟨rfl,b9⟩;have s9:=(SP1.out.below b9);obtain⟨t0,t1,t2,t3,f0,f1,f2,f3⟩:=s9.swap.cells4 (Jms);have s10:=s9.swap.put4 0 0 (-1) (.slice none 0 0);have S10:=Ja s10;clear s9 s10;simp only[Jf])|fail)
 obtain⟨g0,g1,g2,g3,-⟩:=S10.out.cells4 (Jms)
 have G10:=Ja (And.intro (And.intro g0 g1) (And.intro g2 g3))
 clear g0 g1 g2 g3
 go_wp2
 refine bodyPost_ret (v:=Jf 0 0 (-1) (.slice none 0 0)) ?_ rfl ⟨rfl,_,S10.out.drop.drop2⟩
 simp[results,Tryz.f142,go_sem,Jf,G10.out.1.1,G10.out.1.2,G10.out.2.1,G10.out.2.2]
theorem GM (s:Sep w0 r w (kT p Y K::R)) (d:De) (hf:Few K) :
  Calls Tryz.prog 131 #[Je p,JD d] w fun e w'=>e=.returned (Jf (Th.JY K.h d.x.o) 0 (-1) (.slice none 0 0))/\KS w0 r w' p { freed K d.x.o with h:=Th.JM K.h d.x.o } R:=by
 have S1:=Ja (s.deed d)
 obtain⟨w1,hw⟩:∃ w1,(w.alloc (Jp d)).alloc (Ji 0 0 0 (.slice none 0 0))=w1:=⟨_,rfl⟩
 rw[hw] at S1
 have HW:=Ja hw
 unfold Jp Ji at HW
 clear s hw
 generalize hE:Th.JY K.h d.x.o=E
 have HE:=Ja hE
 clear hE
 have HL:=Ja hf
 clear hf
 unfold JD
 have dc11:w1.cell? ⟨w.heap.size,11,none⟩=some (.int .i64 d.x.o):=(S1.out.blkCell (p:=w.heap.size) (Jmc (Jmc (Jms))) 11).1
 go_enter Tryz.func131,Tryz.ntmps131
 go_wp2_with (first|rw[HW.out]|(go_at_call 231;refine Jqa (Fs S1.out HL.out d.x.o) ?_;rintro e w2 ⟨rfl,Y2,s2⟩;have S2:=Ja s2;clear s2)|fail)
 generalize w.heap.size+1=q2 at *
 generalize w.heap.size=q at *
 clear dc11 S1
 have HS:Hid (∀ (W:World) (Y':Ly) (K':Kr) (o:Obj),Y'.h=Y2.h->Sep w0 r W (kT p Y' K'::blk q2 o::blk q (Jp d)::R)->W.cell? ⟨p,2,none⟩=some (Je Y2.h)/\W.cell? ⟨q,11,none⟩=some (.int .i64 d.x.o)):=fun W Y' K' o hy s=>by
  have k:=s.k2
  rw[hy] at k
  exact⟨k,(s.blkCell (p:=q) (Jmc (Jmc (Jms))) 11).1⟩
 have hS:=HS.out _ _ _ _ (by rfl) S2.out.drew
 have HC1:=Ja (Fr S2.out.drew d.x.o)
 go_region_held3 (fun W=>W.cell? ⟨p,2,none⟩=some (Je Y2.h)/\W.cell? ⟨q,11,none⟩=some (.int .i64 d.x.o)) (first|with_reducible assumption|with_reducible exact hS) (first|(go_at_call 232;refine Jqa HC1.out ?_;rintro e w3 ⟨rfl,x3,s3⟩;have hS3:=HS.out _ _ _ _ (by rfl) s3;rw[show Th.JY (freed K d.x.o).h d.x.o=E from HE.out];have SP1:=Ja s3;clear s3)|(go_at_call 60;refine Jqa (JI _ _) ?_;rintro e w9 ⟨rfl,b9⟩;have s9:=(SP1.out.below b9);have hS9:=HS.out _ _ _ _ (by rfl) s9;obtain⟨t0,t1,t2,t3,f0,f1,f2,f3⟩:=s9.swap.cells4 (Jms);have s10:=s9.swap.put4 E 0 (-1) (.slice none 0 0);have hS10:=HS.out _ _ _ _ (by rfl) s10.swap;have S10:=Ja s10;clear s9 s10;simp only[Jf]))
 clear hS
 obtain⟨g0,g1,g2,g3,-⟩:=S10.out.cells4 (Jms)
 have G10:=Ja (And.intro (And.intro g0 g1) (And.intro g2 g3))
 clear g0 g1 g2 g3
 go_wp2
 refine bodyPost_ret (v:=Jf E 0 (-1) (.slice none 0 0)) ?_ rfl ⟨rfl,_,S10.out.drop.drop2⟩
 simp[results,Tryz.f131,go_sem,Jf,G10.out.1.1,G10.out.1.2,G10.out.2.1,G10.out.2.2]
theorem Jt1 (s:Sep w0 r w (kT p Y K::R)) (d:De) (ht:∀ u,Below r w0 u->Th.Tab u) (hc:d.c.C=0) :
  Calls Tryz.prog 238 #[Je p,JD d] w fun e w'=>e=.returned (Jf (0) 0 (-1) (.slice none 0 0))/\KS w0 r w' p (Mz K d.core d.who d.c.C) R:=by
 have S1:=Ja (s.deed d)
 obtain⟨w1,hw⟩:∃ w1,(w.alloc (Jp d)).alloc (Ji 0 0 0 (.slice none 0 0))=w1:=⟨_,rfl⟩
 rw[hw] at S1
 have HW:=Ja hw
 unfold Jp Ji at HW
 clear s hw
 have HT:=Ja ht
 clear ht
 have HR:Hid (Mz K d.core d.who d.c.C=K):=if_pos hc
 have hq:(d.c.C == 0)=true:=by simpa using hc
 have hq2:(d.c.C != 0)=false:=by simpa using hc
 clear hc
 unfold JD
 have dc5:w1.cell? ⟨w.heap.size,5,none⟩=some (.int .i64 d.c.C):=(S1.out.blkCell (p:=w.heap.size) (Jmc (Jmc (Jms))) 5).1
 go_enter Tryz.func238,Tryz.ntmps238
 go_wp2_with (first|rw[HW.out]|(go_at_call 60;refine Jqa (JI _ _) ?_;rintro e w9 ⟨rfl,b9⟩;have s9:=(S1.out.below b9);obtain⟨t0,t1,t2,t3,f0,f1,f2,f3⟩:=s9.swap.cells4 (Jms);have s10:=s9.swap.put4 0 0 (-1) (.slice none 0 0);have S10:=Ja s10;clear s9 s10;simp only[Jf])|fail)
 generalize w.heap.size+1=q2 at *
 generalize w.heap.size=q at *
 clear dc5
 obtain⟨g0,g1,g2,g3,-⟩:=S10.out.cells4 (Jms)
 have G10:=Ja (And.intro (And.intro g0 g1) (And.intro g2 g3))
 clear g0 g1 g2 g3
 go_wp2
 refine bodyPost_ret (v:=Jf 0 0 (-1) (.slice none 0 0)) ?_ rfl ⟨rfl,by rw[HR.out];exact⟨_,S10.out.drop.drop2⟩⟩
 simp[results,Tryz.f238,go_sem,Jf,G10.out.1.1,G10.out.1.2,G10.out.2.1,G10.out.2.2]
theorem Jt0 (s:Sep w0 r w (kT p Y K::R)) (d:De) (ht:∀ u,Below r w0 u->Th.Tab u) (hc:¬ d.c.C=0) :
  Calls Tryz.prog 238 #[Je p,JD d] w fun e w'=>e=.returned (Jf (0) 0 (-1) (.slice none 0 0))/\KS w0 r w' p (Mz K d.core d.who d.c.C) R:=by
 have S1:=Ja (s.deed d)
 obtain⟨w1,hw⟩:∃ w1,(w.alloc (Jp d)).alloc (Ji 0 0 0 (.slice none 0 0))=w1:=⟨_,rfl⟩
 rw[hw] at S1
 have HW:=Ja hw
 unfold Jp Ji at HW
 clear s hw
 have HT:=Ja ht
 clear ht
 have HR:Hid (Mz K d.core d.who d.c.C={ K with h:=Th.JB (Th.Xp K.h d.who) d.core }):=if_neg hc
 have hq:(d.c.C == 0)=false:=by simpa using hc
 have hq2:(d.c.C != 0)=true:=by simpa using hc
 clear hc
 unfold JD
 have dc5:w1.cell? ⟨w.heap.size,5,none⟩=some (.int .i64 d.c.C):=(S1.out.blkCell (p:=w.heap.size) (Jmc (Jmc (Jms))) 5).1
 go_enter Tryz.func238,Tryz.ntmps238
 go_wp2_with (first|rw[HW.out]|fail)
 generalize w.heap.size+1=q2 at *
 generalize w.heap.size=q at *
 clear dc5
 have HS:Hid (∀ (W:World) (Y':Ly) (K':Kr) (o:Obj),Y'.h=Y.h->Sep w0 r W (kT p Y' K'::blk q2 o::blk q (Jp d)::R)->W.cell? ⟨p,2,none⟩=some (Je Y.h)/\W.cell? ⟨q,7,none⟩=some (.int .i64 d.who)):=fun W Y' K' o hy s=>by
  have k:=s.k2
  rw[hy] at k
  exact⟨k,(s.blkCell (p:=q) (Jmc (Jmc (Jms))) 7).1⟩
 have hS:=HS.out _ _ _ _ (by rfl) S1.out.drew
 have HC1:=Ja (Joh S1.out.drew d.who)
 go_region_held3 (fun W=>W.cell? ⟨p,2,none⟩=some (Je Y.h)/\W.cell? ⟨q,7,none⟩=some (.int .i64 d.who)) (first|with_reducible assumption|with_reducible exact hS) (first|(go_at_call 319;refine Jqa HC1.out ?_;rintro e w3 ⟨rfl,x3,s3⟩;have hS3:=HS.out _ _ _ _ (by rfl) s3;have SP1:=Ja s3;clear s3))
 clear hS
 go_wp2_with fail
 clear HS hS3
 have HS2:Hid (∀ (W:World) (Y':Ly) (K':Kr) (o:Obj),Y'.h=Y.h->Sep w0 r W (kT p Y' K'::blk q2 o::blk q (Jp d)::R)->W.cell? ⟨p,2,none⟩=some (Je Y.h)/\W.cell? ⟨q,6,none⟩=some (.int .i64 d.core)):=fun W Y' K' o hy s=>by
  have k:=s.k2
  rw[hy] at k
  exact⟨k,(s.blkCell (p:=q) (Jmc (Jmc (Jms))) 6).1⟩
 have hS:=HS2.out _ _ _ _ (by rfl) SP1.out.drew
 have HC2:=Ja (Ic SP1.out.drew HT.out d.core)
 go_region_held3 (fun W=>W.cell? ⟨p,2,none⟩=some (Je Y.h)/\W.cell? ⟨q,6,none⟩=some (.int .i64 d.core)) (first|with_reducible assumption|with_reducible exact hS) (first|(go_at_call 59;refine Jqa HC2.out ?_;rintro e w3 ⟨rfl,x4,s3⟩;have hS3:=HS2.out _ _ _ _ (by rfl) s3;have SP2:=Ja s3;clear s3))
 clear hS
 clear HS2 hS3
 go_wp2_with (first|(go_at_call 60;refine Jqa (JI _ _) ?_;rintro e w9 ⟨rfl,b9⟩;have s9:=(SP2.out.below b9);obtain⟨t0,t1,t2,t3,f0,f1,f2,f3⟩:=s9.swap.cells4 (Jms);have s10:=s9.swap.put4 0 0 (-1) (.slice none 0 0);have S10:=Ja s10;clear s9 s10;simp only[Jf])|fail)
 obtain⟨g0,g1,g2,g3,-⟩:=S10.out.cells4 (Jms)
 have G10:=Ja (And.intro (And.intro g0 g1) (And.intro g2 g3))
 clear g0 g1 g2 g3
 go_wp2
 refine bodyPost_ret (v:=Jf 0 0 (-1) (.slice none 0 0)) ?_ rfl ⟨rfl,by rw[HR.out];exact⟨_,S10.out.drop.drop2⟩⟩
 simp[results,Tryz.f238,go_sem,Jf,G10.out.1.1,G10.out.1.2,G10.out.2.1,G10.out.2.2]
theorem Jhw (s:Sep w0 r w (kT p Y K::R)) (d:De) (ht:∀ u,Below r w0 u->Th.Tab u) :
  Calls Tryz.prog 238 #[Je p,JD d] w fun e w'=>e=.returned (Jf (0) 0 (-1) (.slice none 0 0))/\KS w0 r w' p (Mz K d.core d.who d.c.C) R:=by
 by_cases hc:d.c.C=0
 ·exact Jt1 s d ht hc
 ·exact Jt0 s d ht hc
end
def UV (x:En.Mt):Obj:=.cells #[.bool x.i,.int .i64 x.f,.int .i64 x.t,.int .i64 x.m.l,.int .u64 x.m.a,.int .u64 x.m.b,.int .u64 x.m.c,.int .u64 x.m.d,.int .u64 x.m.g,.bool x.m.q] 258
def AD (x:En.Mt):Value:=.agg #[.bool x.i,.int .i64 x.f,.int .i64 x.t,.int .i64 x.m.l,.int .u64 x.m.a,.int .u64 x.m.b,.int .u64 x.m.c,.int .u64 x.m.d,.int .u64 x.m.g,.bool x.m.q]
section
variable {w0 w w':World} {r p:Nat} {Y:Ly} {K:Kr} {R:List Th}
theorem Sep.deed2 (s:Sep w0 r w (kT p Y K::R)) (d:De) (x:En.Mt):Sep w0 r (((w.alloc (Jp d)).alloc (UV x)).alloc (Ji 0 0 0 (.slice none 0 0))) (kT p Y K::blk (w.heap.size+2) (Ji 0 0 0 (.slice none 0 0))::blk (w.heap.size+1) (UV x)::blk w.heap.size (Jp d)::R):=by
 have:=(((s.box (Jp d)).swap.box (UV x)).swap.box (Ji 0 0 0 (.slice none 0 0))).swap
 rwa [show(w.alloc (Jp d)).heap.size=w.heap.size+1 by simp,show((w.alloc (Jp d)).alloc (UV x)).heap.size=w.heap.size+2 by simp] at this
theorem Jci (x:Int):IntKind.u64.wrap x=VI x:=by
 rw[IntKind.wrap_u64]
 rfl
theorem Jk6 (s:Sep w0 r w (kT p Y K::R)) (d:De) (x:En.Mt) (other e:Int) (he:e≠0) :
  Calls Tryz.prog 235 #[Je p,JD d,AD x,.int .i64 other,.int .i64 e] w fun e' w'=>e'=.returned (Jf e 0 (-1) (.slice none 0 0))/\Sep w0 r w' (kT p Y K::R):=by
 have S1:=Ja (s.deed2 d x)
 obtain⟨w1,hw⟩:∃ w1,((w.alloc (Jp d)).alloc (UV x)).alloc (Ji 0 0 0 (.slice none 0 0))=w1:=⟨_,rfl⟩
 rw[hw] at S1
 have HW:=Ja hw
 unfold Jp Ji UV at HW
 clear s hw
 have hne:(e == 0)=false:=by simpa using he
 have hne2:(e != 0)=true:=by simpa using he
 clear he
 unfold JD AD
 go_enter Tryz.func235,Tryz.ntmps235
 go_wp2_with (first|rw[HW.out]|(go_at_call 60;refine Jqa (JI _ _) ?_;rintro e w9 ⟨rfl,b9⟩;have s9:=(S1.out.below b9);obtain⟨t0,t1,t2,t3,f0,f1,f2,f3⟩:=s9.swap.cells4 (Jms);have s10:=s9.swap.put4 e 0 (-1) (.slice none 0 0);have S10:=Ja s10;clear s9 s10;simp only[Jf])|fail)
 obtain⟨g0,g1,g2,g3,-⟩:=S10.out.cells4 (Jms)
 have G10:=Ja (And.intro (And.intro g0 g1) (And.intro g2 g3))
 clear g0 g1 g2 g3
 go_wp2
 refine bodyPost_ret (v:=Jf e 0 (-1) (.slice none 0 0)) ?_ rfl ⟨rfl,S10.out.drop.drop2.drop2⟩
 simp[results,Tryz.f235,go_sem,Jf,G10.out.1.1,G10.out.1.2,G10.out.2.1,G10.out.2.2]
theorem Jg7 (s:Sep w0 r w (kT p Y K::R)) (d:De) (x:En.Mt) (other e:Int) (he:e=0) (hi:x.i=false) (ht:∀ u,Below r w0 u->Th.Tab u) :
  Calls Tryz.prog 235 #[Je p,JD d,AD x,.int .i64 other,.int .i64 e] w fun e' w'=>e'=.returned (Jf 0 0 (-1) (.slice none 0 0))/\KS w0 r w' p (Mz K d.core d.who d.c.C) R:=by
 have S1:=Ja (s.deed2 d x)
 obtain⟨w1,hw⟩:∃ w1,((w.alloc (Jp d)).alloc (UV x)).alloc (Ji 0 0 0 (.slice none 0 0))=w1:=⟨_,rfl⟩
 rw[hw] at S1
 have HW:=Ja hw
 unfold Jp Ji UV at HW
 clear s hw
 subst he
 have HTB:=Ja ht
 have m0:w1.cell? ⟨w.heap.size+1,0,none⟩=some (.bool false):=by
  have:=(S1.out.blkCell (p:=w.heap.size+1) (Jmc (Jmc (Jms))) 0).1
  rw[<- hi]
  exact this
 have HLd:=Ja (Mp (q:=w.heap.size) (d:=d) S1.out (by simp))
 have HIm:=Ja hi
 clear hi ht
 unfold JD AD
 go_enter Tryz.func235,Tryz.ntmps235
 go_wp2_with (first|rw[HW.out]|(refine Ta.JP rfl 151 (.tmp 6) rfl ⟨w.heap.size,0,none⟩ (JD d) rfl HLd.out ?_)|(go_at_call 238;refine Jqa (Jhw S1.out d HTB.out) ?_;rintro e w9 ⟨rfl,Y9,s9⟩;obtain⟨t0,t1,t2,t3,f0,f1,f2,f3⟩:=s9.swap.cells4 (Jms);have s10:=s9.swap.put4 0 0 (-1) (.slice none 0 0);have S10:=Ja s10;clear s9 s10;simp only[Jf])|fail)
 obtain⟨g0,g1,g2,g3,-⟩:=S10.out.cells4 (Jms)
 have G10:=Ja (And.intro (And.intro g0 g1) (And.intro g2 g3))
 clear g0 g1 g2 g3
 go_wp2
 refine bodyPost_ret (v:=Jf 0 0 (-1) (.slice none 0 0)) ?_ rfl ⟨rfl,_,S10.out.drop.drop2.drop2⟩
 simp[results,Tryz.f235,go_sem,Jf,G10.out.1.1,G10.out.1.2,G10.out.2.1,G10.out.2.2]
theorem Jk7 (s:Sep w0 r w (kT p Y K::R)) (d:De) (x:En.Mt) (other e:Int) (he:e=0) (hi:x.i=true) (hg:0<=x.m.g/\x.m.g<=18446744073709551615) (ha:0<=x.m.a/\x.m.a<=18446744073709551615) :
  Calls Tryz.prog 235 #[Je p,JD d,AD x,.int .i64 other,.int .i64 e] w fun e' w'=>e'=.returned (Jf 0 0 other (.slice none 0 0))/\KS w0 r w' p (EB (Jn3 K x.t x.m) other) R:=by
 have S1:=Ja (s.deed2 d x)
 obtain⟨w1,hw⟩:∃ w1,((w.alloc (Jp d)).alloc (UV x)).alloc (Ji 0 0 0 (.slice none 0 0))=w1:=⟨_,rfl⟩
 rw[hw] at S1
 have HW:=Ja hw
 unfold Jp Ji UV at HW
 clear s hw
 subst he
 have mc:=fun j=>(S1.out.blkCell (p:=w.heap.size+1) (Jmc (Jmc (Jms))) j).1
 have m0:w1.cell? ⟨w.heap.size+1,0,none⟩=some (.bool true):=by
  rw[<- hi]
  exact mc 0
 have m2:w1.cell? ⟨w.heap.size+1,2,none⟩=some (.int .i64 x.t):=mc 2
 have m3:w1.cell? ⟨w.heap.size+1,3,none⟩=some (.int .i64 x.m.l):=mc 3
 have m4:w1.cell? ⟨w.heap.size+1,4,none⟩=some (.int .u64 x.m.a):=mc 4
 have m8:w1.cell? ⟨w.heap.size+1,8,none⟩=some (.int .u64 x.m.g):=mc 8
 have hU:0<=VI x.m.l/\VI x.m.l<=18446744073709551615:=by
  unfold VI
  omega
 have hu:=Jci x.m.l
 have HLs:Hid (∀ y∈[x.m.g,VI x.m.l,x.m.a],0<=y/\y<=18446744073709551615):=fun y hy=>by
  simp only[List.mem_cons,List.not_mem_nil,or_false] at hy
  rcases hy with rfl|rfl|rfl
  ·exact hg
  ·exact hU
  ·exact ha
 have HR:Hid (∀ h,Jby h x.t [x.m.g,VI x.m.l,x.m.a] [x.m.g,VI x.m.l,x.m.a].length=Th.My (Th.My (Th.My h x.t 0 x.m.g) x.t 1 (VI x.m.l)) x.t 2 x.m.a):=fun h=>rfl
 have HIm:=Ja hi
 have S2:=Ja (Sep.lit (E:=elW) okW S1.out [x.m.g,VI x.m.l,x.m.a] (by simp) #[.int .u64 x.m.g,.int .u64 (VI x.m.l),.int .u64 x.m.a] rfl).swap
 clear hi hg ha hU mc
 unfold JD AD
 go_enter Tryz.func235,Tryz.ntmps235
 go_wp2_with (first|rw[HW.out]|fail)
 refine Jqa (Jir S2.out HLs.out (by simp) x.t) ?_
 rintro e w3 ⟨rfl,Y3,s3⟩
 rw[HR.out] at s3
 have S3:=Ja s3
 clear s3 m0 m2 m3 m4 m8
 go_wp2_with (first|(go_at_call 60;refine Jqa (JI _ _) ?_;rintro e w9 ⟨rfl,b9⟩;have S4:=Ja ((S3.out.below b9).box (Ji 0 0 (-1) (.slice none 0 0))).swap;clear b9;simp only[Jf])|(go_at_call 264;refine Jqa (Jm9 S4.out other) ?_;rintro e w5 ⟨rfl,Y5,s5⟩;have S5:=Ja s5;clear s5;have sv:=S5.out.swap;obtain⟨t0,t1,t2,t3,f0,f1,f2,f3⟩:=sv.cells4 (Jms);obtain⟨ne1,ne2⟩:=sv.ne;have sv0:=sv.putTK other;obtain⟨t10,t11,t12,t13,-⟩:=sv0.cells4 (Jms);have sx:=sv0.third.swap;obtain⟨u0,u1,u2,u3,g0,g1,g2,g3⟩:=sx.cells4 (Jms);have s10:=sx.put4 0 0 other (.slice none 0 0);have S10:=Ja s10;clear sv sv0 sx s10)|fail)
 obtain⟨h0,h1,h2,h3,-⟩:=S10.out.cells4 (Jms)
 have G10:=Ja (And.intro (And.intro h0 h1) (And.intro h2 h3))
 clear h0 h1 h2 h3
 go_wp2
 refine bodyPost_ret (v:=Jf 0 0 other (.slice none 0 0)) ?_ rfl ⟨rfl,_,S10.out.drop.drop2.drop2.drop2⟩
 simp[results,Tryz.f235,go_sem,Jf,G10.out.1.1,G10.out.1.2,G10.out.2.1,G10.out.2.2]
def Fx (K:Kr) (core who C:Int) (x:En.Mt) (other e:Int):Kr×Tl:=
 if e≠0 then (K,Ii e) else if x.i=true then (EB (Jn3 K x.t x.m) other,⟨0,0,other,[]⟩) else (Mz K core who C,Ii 0)
theorem Jbk (s:Sep w0 r w (kT p Y K::R)) (d:De) (x:En.Mt) (other e:Int) (ht:∀ u,Below r w0 u->Th.Tab u) (hg:0<=x.m.g/\x.m.g<=18446744073709551615) (ha:0<=x.m.a/\x.m.a<=18446744073709551615) {M:Kr×Tl} (hM:Fx K d.core d.who d.c.C x other e=M) :
  Calls Tryz.prog 235 #[Je p,JD d,AD x,.int .i64 other,.int .i64 e] w fun e' w'=>e'=.returned (Jf M.2.e M.2.w M.2.k (.slice none 0 0))/\KS w0 r w' p M.1 R:=by
 subst hM
 unfold Fx
 by_cases he:e=0
 ·rw[if_neg (fun h=>h he)]
  by_cases hi:x.i=true
  ·rw[if_pos hi]
   exact Jk7 s d x other e he hi hg ha
  ·rw[if_neg hi]
   exact Jg7 s d x other e he (by simpa using hi) ht
 ·rw[if_pos he]
  exact(Jk6 s d x other e he).mono fun _ _ h=>⟨h.1,_,h.2⟩
theorem GJ (s:Sep w0 r w (kT p Y K::R)) (d:De) {i:Nat} {S:En.St} (hi:K.P[i]? = some S) (hxo:d.x.o=(i:Int)) (hl:S.length<=1000) (ht:∀ u,Below r w0 u->Th.Tab u) (hg:0<=(En.Zi S d.who).m.g/\(En.Zi S d.who).m.g<=18446744073709551615) (ha:0<=(En.Zi S d.who).m.a/\(En.Zi S d.who).m.a<=18446744073709551615) {M:Kr×Tl} (hM:Fx { K with P:=K.P.set i (En.XD S d.who (d.c.C != 0)) } d.core d.who d.c.C (En.Zi S d.who) (En.Zi S d.who).f (En.J8 S d.who)=M) :
  Calls Tryz.prog 134 #[Je p,JD d] w fun e w'=>e=.returned (Jf M.2.e M.2.w M.2.k (.slice none 0 0))/\KS w0 r w' p M.1 R:=by
 obtain⟨qn,vn,Q,hyi,-,-⟩:=s.epOf hi
 obtain⟨ao,cap,hnv,hzm,hpt⟩:=s.epPtr
 obtain⟨g,rfl,-⟩:=hpt i qn vn hyi
 have hil:(i:Int)<(K.P.length:Int):=by have:=(Jqb.1 hi).1;omega
 have HI:=Ja (And.intro hi hyi)
 have HX:=Ja hxo
 clear Q hpt
 have hz:∃ z,K.P.length=z:=⟨_,rfl⟩
 obtain⟨z,hz⟩:=hz
 rw[hz] at hnv hil hzm
 clear hz hi hyi hxo
 have S1:=Ja (s.deed d)
 obtain⟨w1,hw⟩:∃ w1,(w.alloc (Jp d)).alloc (Ji 0 0 0 (.slice none 0 0))=w1:=⟨_,rfl⟩
 rw[hw] at S1
 have HW:=Ja hw
 unfold Jp Ji at HW
 clear s hw
 obtain⟨x,hx⟩:∃ x,En.Zi S d.who=x:=⟨_,rfl⟩
 obtain⟨E,hE⟩:∃ E,En.J8 S d.who=E:=⟨_,rfl⟩
 obtain⟨zb,hzb⟩:∃ zb,(d.c.C != 0)=zb:=⟨_,rfl⟩
 obtain⟨T,hT⟩:∃ T,En.XD S d.who zb=T:=⟨_,rfl⟩
 rw[hx] at hg ha hM
 rw[hE,hzb,hT] at hM
 have HX3:=Ja (And.intro hx (And.intro hE hT))
 have HM:=Ja (And.intro ht (And.intro hg (And.intro ha hM)))
 have HL:=Ja hl
 clear hx hE hT ht hl hg ha hM
 unfold JD
 go_enter Tryz.func134,Tryz.ntmps134
 go_wp2_with (first|rw[HW.out]|fail)
 generalize w.heap.size+1=q2 at *
 generalize w.heap.size=q at *
 have HS:Hid (∀ (W:World) (Y':Ly) (K':Kr) (o:Obj) (R':List Th),Y'.pv=Y.pv->(∃ v',Y'.P[i]? = some (qn,v'))->Sep w0 r W (kT p Y' K'::blk q2 o::blk q (Jp d)::R')->W.cell? ⟨p,5,none⟩=some (.slice (some ⟨g,0,none⟩) z cap)/\W.cell? ⟨g,i,none⟩=some (Je qn)/\W.cell? ⟨q,11,none⟩=some (.int .i64 (i:Int))/\W.cell? ⟨q,7,none⟩=some (.int .i64 d.who)/\W.cell? ⟨q,5,none⟩=some (.int .i64 d.c.C)):=fun W Y' K' o R' hy ⟨v',hv⟩ s=>by
  have k:=s.k5
  rw[hy,hnv] at k
  have k2:=s.epWay (hy.trans hnv) hv
  have c11:W.cell? ⟨q,11,none⟩=some (.int .i64 d.x.o):=(s.blkCell (p:=q) (Jmc (Jmc (Jms))) 11).1
  rw[HX.out] at c11
  have c7:W.cell? ⟨q,7,none⟩=some (.int .i64 d.who):=(s.blkCell (p:=q) (Jmc (Jmc (Jms))) 7).1
  have c5:W.cell? ⟨q,5,none⟩=some (.int .i64 d.c.C):=(s.blkCell (p:=q) (Jmc (Jmc (Jms))) 5).1
  exact⟨k,k2,c11,c7,c5⟩
 have SB:=Ja ((S1.out.box (.cells #[.bool false,.int .i64 0,.int .i64 0,.int .i64 0,.int .u64 0,.int .u64 0,.int .u64 0,.int .u64 0,.int .u64 0,.bool false] 258)).to4.drew)
 have hk:=Jkp S1.out.drew HI.out.1 HI.out.2 d.who zb HL.out
 rw[HX3.out.1,HX3.out.2.1,HX3.out.2.2] at hk
 have HK:=Ja hk
 clear hk
 have hk:=Jkp SB.out HI.out.1 HI.out.2 d.who zb HL.out
 rw[HX3.out.1,HX3.out.2.1,HX3.out.2.2] at hk
 have HKB:=Ja hk
 clear hk
 go_cut [5,6] from 8 to 25 (fun sa sb wx=>∃ k x3,sa=.pointer (some ⟨k,0,none⟩)/\sb=.int .i64 E/\Sep w0 r wx (kT p { Y with P:=Y.P.set i (qn,x3) } { K with P:=K.P.set i T }::blk q2 (Ji 0 0 0 (.slice none 0 0))::blk q (Jp d)::blk k (.cells #[.bool x.i,.int .i64 x.f,.int .i64 x.t,.int .i64 x.m.l,.int .u64 x.m.a,.int .u64 x.m.b,.int .u64 x.m.c,.int .u64 x.m.d,.int .u64 x.m.g,.bool x.m.q] 258)::R))
 case first =>
  have hS:=HS.out _ _ _ _ _ (by rfl) ⟨_,HI.out.2⟩ S1.out.drew
  have hSB:=HS.out _ _ _ _ _ (by rfl) ⟨_,HI.out.2⟩ SB.out
  go_region_held3 (fun W=>W.cell? ⟨p,5,none⟩=some (.slice (some ⟨g,0,none⟩) z cap)/\W.cell? ⟨g,i,none⟩=some (Je qn)/\W.cell? ⟨q,11,none⟩=some (.int .i64 (i:Int))/\W.cell? ⟨q,7,none⟩=some (.int .i64 d.who)/\W.cell? ⟨q,5,none⟩=some (.int .i64 d.c.C)) (first|with_reducible assumption|with_reducible exact hS|with_reducible exact hSB) (first|(go_at_call 236;(with_reducible refine Jqa HKB.out ?_);rintro e w3 ⟨rfl,x3,s3⟩;have hS3:=HS.out _ _ _ _ _ (by rfl) ⟨_,Mf HI.out.2 _⟩ s3;have s4:=s3.from4;obtain⟨mf0,mz⟩:=s4.metz (Jms);obtain⟨z0,z1,z2,z3,z4,z5,z6,z7,z8,z9⟩:=mz;have s5:=s4.putM x;have s6:=s5.to4;have hS6:=HS.out _ _ _ _ _ (by rfl) ⟨_,Mf HI.out.2 _⟩ s6;have S6:=Ja s6;clear s3 s4 s5 s6)|(go_at_call 236;(with_reducible refine Jqa HK.out ?_);rintro e w3 ⟨rfl,x3,s3⟩;have hS3:=HS.out _ _ _ _ _ (by rfl) ⟨_,Mf HI.out.2 _⟩ s3;have s4:=(s3.box (.cells #[.bool false,.int .i64 0,.int .i64 0,.int .i64 0,.int .u64 0,.int .u64 0,.int .u64 0,.int .u64 0,.int .u64 0,.bool false] 258)).to4;have hS4:=HS.out _ _ _ _ _ (by rfl) ⟨_,Mf HI.out.2 _⟩ s4;have s6:=(s3.box (.cells #[.bool x.i,.int .i64 x.f,.int .i64 x.t,.int .i64 x.m.l,.int .u64 x.m.a,.int .u64 x.m.b,.int .u64 x.m.c,.int .u64 x.m.d,.int .u64 x.m.g,.bool x.m.q] 258)).to4;have hS6:=HS.out _ _ _ _ _ (by rfl) ⟨_,Mf HI.out.2 _⟩ s6;have S6:=Ja s6;clear s3 s4 s6))
  all_goals go_wp2_with fail
  all_goals go_meet
  all_goals exact⟨_,_,rfl,rfl,S6.out⟩
 case rest =>
  obtain⟨k,x3,rfl,rfl,s6⟩:=hcut
  clear S1 SB HK HKB HS
  have S6:=Ja s6
  clear s6
  have HLd:=Ja (Mp (q:=q) (d:=d) S6.out (by simp))
  have mc:=fun j=>(S6.out.blkCell (p:=k) (Jmc (Jmc (Jmc (Jms)))) j).1
  have m0:wc.cell? ⟨k,0,none⟩=some (.bool x.i):=mc 0
  have m1:wc.cell? ⟨k,1,none⟩=some (.int .i64 x.f):=mc 1
  have m2:wc.cell? ⟨k,2,none⟩=some (.int .i64 x.t):=mc 2
  have m3:wc.cell? ⟨k,3,none⟩=some (.int .i64 x.m.l):=mc 3
  have m4:wc.cell? ⟨k,4,none⟩=some (.int .u64 x.m.a):=mc 4
  have m5:wc.cell? ⟨k,5,none⟩=some (.int .u64 x.m.b):=mc 5
  have m6:wc.cell? ⟨k,6,none⟩=some (.int .u64 x.m.c):=mc 6
  have m7:wc.cell? ⟨k,7,none⟩=some (.int .u64 x.m.d):=mc 7
  have m8:wc.cell? ⟨k,8,none⟩=some (.int .u64 x.m.g):=mc 8
  have m9:wc.cell? ⟨k,9,none⟩=some (.bool x.m.q):=mc 9
  clear mc
  go_wp2_with (first|(refine Ta.JP rfl 151 (.tmp 3) rfl ⟨q,0,none⟩ (JD d) rfl HLd.out ?_)|(go_at_call 235;refine Jqa (Jbk S6.out d x x.f E HM.out.1 HM.out.2.1 HM.out.2.2.1 HM.out.2.2.2) ?_;rintro e w9 ⟨rfl,Y9,s9⟩;clear m0 m1 m2 m3 m4 m5 m6 m7 m8 m9;obtain⟨t0,t1,t2,t3,f0,f1,f2,f3⟩:=s9.swap.cells4 (Jms);have s10:=s9.swap.put4 M.2.e M.2.w M.2.k (.slice none 0 0);have S10:=Ja s10;clear s9 s10;simp only[Jf])|fail)
  obtain⟨h0,h1,h2,h3,-⟩:=S10.out.cells4 (Jms)
  have G10:=Ja (And.intro (And.intro h0 h1) (And.intro h2 h3))
  clear h0 h1 h2 h3
  go_wp2
  refine bodyPost_ret (v:=Jf M.2.e M.2.w M.2.k (.slice none 0 0)) ?_ rfl ⟨rfl,_,S10.out.drop.drop2.drop2⟩
  simp[results,Tryz.f134,go_sem,Jf,G10.out.1.1,G10.out.1.2,G10.out.2.1,G10.out.2.2]
theorem Jh3 (s:Sep w0 r w (kT p Y K::R)) (d:De) {i:Nat} {S:En.St} (hi:K.P[i]? = some S) (hxo:d.x.o=(i:Int)) (hl:S.length<=1000) (ht:∀ u,Below r w0 u->Th.Tab u) (hg:0<=(En.Zj S d.who ⟨d.c.A,VI d.c.B,0,0,0,d.x.b,false⟩).m.g/\(En.Zj S d.who ⟨d.c.A,VI d.c.B,0,0,0,d.x.b,false⟩).m.g<=18446744073709551615) (ha:0<=(En.Zj S d.who ⟨d.c.A,VI d.c.B,0,0,0,d.x.b,false⟩).m.a/\(En.Zj S d.who ⟨d.c.A,VI d.c.B,0,0,0,d.x.b,false⟩).m.a<=18446744073709551615) {M:Kr×Tl} (hM:Fx { K with P:=K.P.set i (En.XG S d.who ⟨d.c.A,VI d.c.B,0,0,0,d.x.b,false⟩ (d.c.C != 0)) } d.core d.who d.c.C (En.Zj S d.who ⟨d.c.A,VI d.c.B,0,0,0,d.x.b,false⟩) (En.Zj S d.who ⟨d.c.A,VI d.c.B,0,0,0,d.x.b,false⟩).t (En.J8 S d.who)=M) :
  Calls Tryz.prog 133 #[Je p,JD d] w fun e w'=>e=.returned (Jf M.2.e M.2.w M.2.k (.slice none 0 0))/\KS w0 r w' p M.1 R:=by
 obtain⟨qn,vn,Q,hyi,-,-⟩:=s.epOf hi
 obtain⟨ao,cap,hnv,hzm,hpt⟩:=s.epPtr
 obtain⟨g,rfl,-⟩:=hpt i qn vn hyi
 have hil:(i:Int)<(K.P.length:Int):=by have:=(Jqb.1 hi).1;omega
 have HI:=Ja (And.intro hi hyi)
 have HX:=Ja hxo
 clear Q hpt
 have hz:∃ z,K.P.length=z:=⟨_,rfl⟩
 obtain⟨z,hz⟩:=hz
 rw[hz] at hnv hil hzm
 clear hz hi hyi hxo
 have S1:=Ja (s.deed d)
 obtain⟨w1,hw⟩:∃ w1,(w.alloc (Jp d)).alloc (Ji 0 0 0 (.slice none 0 0))=w1:=⟨_,rfl⟩
 rw[hw] at S1
 have HW:=Ja hw
 unfold Jp Ji at HW
 clear s hw
 obtain⟨u,hu⟩:∃ u,VI d.c.B=u:=⟨_,rfl⟩
 rw[hu] at hg ha hM
 obtain⟨x,hx⟩:∃ x,En.Zj S d.who ⟨d.c.A,u,0,0,0,d.x.b,false⟩=x:=⟨_,rfl⟩
 obtain⟨E,hE⟩:∃ E,En.J8 S d.who=E:=⟨_,rfl⟩
 obtain⟨zb,hzb⟩:∃ zb,(d.c.C != 0)=zb:=⟨_,rfl⟩
 obtain⟨T,hT⟩:∃ T,En.XG S d.who ⟨d.c.A,u,0,0,0,d.x.b,false⟩ zb=T:=⟨_,rfl⟩
 rw[hx] at hg ha hM
 rw[hE,hzb,hT] at hM
 have hu2:IntKind.u64.wrap d.c.B=u:=(Jci _).trans hu
 have HX3:=Ja (And.intro hx (And.intro hE hT))
 have HM:=Ja (And.intro ht (And.intro hg (And.intro ha hM)))
 have HL:=Ja hl
 have S2:=Ja ((S1.out.box (.cells #[.int .i64 d.c.A,.int .u64 u,.int .u64 0,.int .u64 0,.int .u64 0,.int .u64 d.x.b,.bool false] 224)).to4)
 clear hx hE hT ht hl hg ha hM hu
 unfold JD
 have dc3:w1.cell? ⟨w.heap.size,3,none⟩=some (.int .i64 d.c.A):=(S1.out.blkCell (p:=w.heap.size) (Jmc (Jmc (Jms))) 3).1
 have dc4:w1.cell? ⟨w.heap.size,4,none⟩=some (.int .i64 d.c.B):=(S1.out.blkCell (p:=w.heap.size) (Jmc (Jmc (Jms))) 4).1
 have dc13:w1.cell? ⟨w.heap.size,13,none⟩=some (.int .u64 d.x.b):=(S1.out.blkCell (p:=w.heap.size) (Jmc (Jmc (Jms))) 13).1
 go_enter Tryz.func133,Tryz.ntmps133
 go_wp2_with (first|rw[HW.out]|fail)
 generalize w.heap.size+1=q2 at *
 generalize w.heap.size=q at *
 clear dc3 dc4 dc13 hu2
 obtain⟨w2,hw2⟩:∃ w2,w1.alloc (.cells #[.int .i64 d.c.A,.int .u64 u,.int .u64 0,.int .u64 0,.int .u64 0,.int .u64 d.x.b,.bool false] 224)=w2:=⟨_,rfl⟩
 rw[hw2] at S2
 try rw[hw2]
 clear hw2
 generalize w1.heap.size=k1 at *
 have HS:Hid (∀ (W:World) (Y':Ly) (K':Kr) (o:Obj) (R':List Th),Y'.pv=Y.pv->(∃ v',Y'.P[i]? = some (qn,v'))->blk k1 (.cells #[.int .i64 d.c.A,.int .u64 u,.int .u64 0,.int .u64 0,.int .u64 0,.int .u64 d.x.b,.bool false] 224)∈R'->Sep w0 r W (kT p Y' K'::blk q2 o::blk q (Jp d)::R')->W.cell? ⟨p,5,none⟩=some (.slice (some ⟨g,0,none⟩) z cap)/\W.cell? ⟨g,i,none⟩=some (Je qn)/\W.cell? ⟨q,11,none⟩=some (.int .i64 (i:Int))/\W.cell? ⟨q,7,none⟩=some (.int .i64 d.who)/\W.cell? ⟨q,5,none⟩=some (.int .i64 d.c.C)/\W.cell? ⟨k1,0,none⟩=some (.int .i64 d.c.A)/\W.cell? ⟨k1,1,none⟩=some (.int .u64 u)/\W.cell? ⟨k1,2,none⟩=some (.int .u64 0)/\W.cell? ⟨k1,3,none⟩=some (.int .u64 0)/\W.cell? ⟨k1,4,none⟩=some (.int .u64 0)/\W.cell? ⟨k1,5,none⟩=some (.int .u64 d.x.b)/\W.cell? ⟨k1,6,none⟩=some (.bool false)):=fun W Y' K' o R' hy ⟨v',hv⟩ hm s=>by
  have k:=s.k5
  rw[hy,hnv] at k
  have k2:=s.epWay (hy.trans hnv) hv
  have c11:W.cell? ⟨q,11,none⟩=some (.int .i64 d.x.o):=(s.blkCell (p:=q) (Jmc (Jmc (Jms))) 11).1
  rw[HX.out] at c11
  have c7:W.cell? ⟨q,7,none⟩=some (.int .i64 d.who):=(s.blkCell (p:=q) (Jmc (Jmc (Jms))) 7).1
  have c5:W.cell? ⟨q,5,none⟩=some (.int .i64 d.c.C):=(s.blkCell (p:=q) (Jmc (Jmc (Jms))) 5).1
  have km:=fun j=>(s.blkCell (p:=k1) (Jmc (Jmc (Jmc hm))) j).1
  exact⟨k,k2,c11,c7,c5,km 0,km 1,km 2,km 3,km 4,km 5,km 6⟩
 have SB:=Ja ((S2.out.box (.cells #[.bool false,.int .i64 0,.int .i64 0,.int .i64 0,.int .u64 0,.int .u64 0,.int .u64 0,.int .u64 0,.int .u64 0,.bool false] 258)).to4.drew)
 have hk:=Jkq S2.out.drew HI.out.1 HI.out.2 d.who ⟨d.c.A,u,0,0,0,d.x.b,false⟩ zb HL.out
 rw[HX3.out.1,HX3.out.2.1,HX3.out.2.2] at hk
 have HK:=Ja hk
 clear hk
 have hk:=Jkq SB.out HI.out.1 HI.out.2 d.who ⟨d.c.A,u,0,0,0,d.x.b,false⟩ zb HL.out
 rw[HX3.out.1,HX3.out.2.1,HX3.out.2.2] at hk
 have HKB:=Ja hk
 clear hk
 go_cut [6,7] from 21 to 39 (fun sa sb wx=>∃ k x3,sa=.pointer (some ⟨k,0,none⟩)/\sb=.int .i64 E/\Sep w0 r wx (kT p { Y with P:=Y.P.set i (qn,x3) } { K with P:=K.P.set i T }::blk q2 (Ji 0 0 0 (.slice none 0 0))::blk q (Jp d)::blk k (.cells #[.bool x.i,.int .i64 x.f,.int .i64 x.t,.int .i64 x.m.l,.int .u64 x.m.a,.int .u64 x.m.b,.int .u64 x.m.c,.int .u64 x.m.d,.int .u64 x.m.g,.bool x.m.q] 258)::blk k1 (.cells #[.int .i64 d.c.A,.int .u64 u,.int .u64 0,.int .u64 0,.int .u64 0,.int .u64 d.x.b,.bool false] 224)::R))
 case first =>
  have hS:=HS.out _ _ _ _ _ (by rfl) ⟨_,HI.out.2⟩ (by simp) S2.out.drew
  have hSB:=HS.out _ _ _ _ _ (by rfl) ⟨_,HI.out.2⟩ (by simp) SB.out
  go_region_held3 (fun W=>W.cell? ⟨p,5,none⟩=some (.slice (some ⟨g,0,none⟩) z cap)/\W.cell? ⟨g,i,none⟩=some (Je qn)/\W.cell? ⟨q,11,none⟩=some (.int .i64 (i:Int))/\W.cell? ⟨q,7,none⟩=some (.int .i64 d.who)/\W.cell? ⟨q,5,none⟩=some (.int .i64 d.c.C)/\W.cell? ⟨k1,0,none⟩=some (.int .i64 d.c.A)/\W.cell? ⟨k1,1,none⟩=some (.int .u64 u)/\W.cell? ⟨k1,2,none⟩=some (.int .u64 0)/\W.cell? ⟨k1,3,none⟩=some (.int .u64 0)/\W.cell? ⟨k1,4,none⟩=some (.int .u64 0)/\W.cell? ⟨k1,5,none⟩=some (.int .u64 d.x.b)/\W.cell? ⟨k1,6,none⟩=some (.bool false)) (first|with_reducible assumption|with_reducible exact hS|with_reducible exact hSB) (first|(go_at_call 234;(with_reducible refine Jqa HKB.out ?_);rintro e w3 ⟨rfl,x3,s3⟩;have hS3:=HS.out _ _ _ _ _ (by rfl) ⟨_,Mf HI.out.2 _⟩ (by simp) s3;have s4:=s3.from4;obtain⟨mf0,mz⟩:=s4.metz (Jms);obtain⟨z0,z1,z2,z3,z4,z5,z6,z7,z8,z9⟩:=mz;have s5:=s4.putM x;have s6:=s5.to4;have hS6:=HS.out _ _ _ _ _ (by rfl) ⟨_,Mf HI.out.2 _⟩ (by simp) s6;have S6:=Ja s6;clear s3 s4 s5 s6)|(go_at_call 234;(with_reducible refine Jqa HK.out ?_);rintro e w3 ⟨rfl,x3,s3⟩;have hS3:=HS.out _ _ _ _ _ (by rfl) ⟨_,Mf HI.out.2 _⟩ (by simp) s3;have s4:=(s3.box (.cells #[.bool false,.int .i64 0,.int .i64 0,.int .i64 0,.int .u64 0,.int .u64 0,.int .u64 0,.int .u64 0,.int .u64 0,.bool false] 258)).to4;have hS4:=HS.out _ _ _ _ _ (by rfl) ⟨_,Mf HI.out.2 _⟩ (by simp) s4;have s6:=(s3.box (.cells #[.bool x.i,.int .i64 x.f,.int .i64 x.t,.int .i64 x.m.l,.int .u64 x.m.a,.int .u64 x.m.b,.int .u64 x.m.c,.int .u64 x.m.d,.int .u64 x.m.g,.bool x.m.q] 258)).to4;have hS6:=HS.out _ _ _ _ _ (by rfl) ⟨_,Mf HI.out.2 _⟩ (by simp) s6;have S6:=Ja s6;clear s3 s4 s6))
  all_goals go_wp2_with fail
  all_goals go_meet
  all_goals exact⟨_,_,rfl,rfl,S6.out⟩
 case rest =>
  obtain⟨k,x3,rfl,rfl,s6⟩:=hcut
  clear S1 S2 SB HK HKB HS
  have S6:=Ja s6
  clear s6
  have HLd:=Ja (Mp (q:=q) (d:=d) S6.out (by simp))
  have mc:=fun j=>(S6.out.blkCell (p:=k) (Jmc (Jmc (Jmc (Jms)))) j).1
  have m0:wc.cell? ⟨k,0,none⟩=some (.bool x.i):=mc 0
  have m1:wc.cell? ⟨k,1,none⟩=some (.int .i64 x.f):=mc 1
  have m2:wc.cell? ⟨k,2,none⟩=some (.int .i64 x.t):=mc 2
  have m3:wc.cell? ⟨k,3,none⟩=some (.int .i64 x.m.l):=mc 3
  have m4:wc.cell? ⟨k,4,none⟩=some (.int .u64 x.m.a):=mc 4
  have m5:wc.cell? ⟨k,5,none⟩=some (.int .u64 x.m.b):=mc 5
  have m6:wc.cell? ⟨k,6,none⟩=some (.int .u64 x.m.c):=mc 6
  have m7:wc.cell? ⟨k,7,none⟩=some (.int .u64 x.m.d):=mc 7
  have m8:wc.cell? ⟨k,8,none⟩=some (.int .u64 x.m.g):=mc 8
  have m9:wc.cell? ⟨k,9,none⟩=some (.bool x.m.q):=mc 9
  clear mc
  go_wp2_with (first|(refine Ta.JP rfl 151 (.tmp 3) rfl ⟨q,0,none⟩ (JD d) rfl HLd.out ?_)|(go_at_call 235;refine Jqa (Jbk S6.out d x x.t E HM.out.1 HM.out.2.1 HM.out.2.2.1 HM.out.2.2.2) ?_;rintro e w9 ⟨rfl,Y9,s9⟩;clear m0 m1 m2 m3 m4 m5 m6 m7 m8 m9;obtain⟨t0,t1,t2,t3,f0,f1,f2,f3⟩:=s9.swap.cells4 (Jms);have s10:=s9.swap.put4 M.2.e M.2.w M.2.k (.slice none 0 0);have S10:=Ja s10;clear s9 s10;simp only[Jf])|fail)
  obtain⟨h0,h1,h2,h3,-⟩:=S10.out.cells4 (Jms)
  have G10:=Ja (And.intro (And.intro h0 h1) (And.intro h2 h3))
  clear h0 h1 h2 h3
  go_wp2
  refine bodyPost_ret (v:=Jf M.2.e M.2.w M.2.k (.slice none 0 0)) ?_ rfl ⟨rfl,_,S10.out.drop.drop2.drop2.drop2⟩
  simp[results,Tryz.f133,go_sem,Jf,G10.out.1.1,G10.out.1.2,G10.out.2.1,G10.out.2.2]
end
end
end Go.Proofs.YtbfjjpdnoalojaaGreatDoor
