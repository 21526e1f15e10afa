/- Below: KJ7; no condition. -/
import Derived.Test.YtbfjjpdnoalojaaGreatDoorPa28
set_option maxHeartbeats 16000000
set_option maxRecDepth 100000
namespace Go.Proofs.YtbfjjpdnoalojaaGreatDoor
section
open Go.RowKit Go.Deep Go.Shelf
open Classical
section
variable {w0 w w':World} {r p:Nat} {Y:Ly} {K:Kr} {R:List Th}
theorem Sep.fzL {α:Type} {E:El α} {L:List α} {g n cap:Nat} (h:Sep w0 r w (Jv E (.slice (some ⟨g,0,none⟩) n cap) L::R)) (j:Nat):w.frozen? ⟨g,j,none⟩=false:=Row.frozen h.head j
theorem Jh0 (s:Sep w0 r w (kT p Y K::R)) (d:De) (hk:d.x.k=1) {L:List Int} {o:Nat} (ho:d.x.o=(o:Int)) {u:Un.Un} (hu:(goneAll K L).1.U[o]? = some u) (hL:Zc K d.f=L) (hU:∀ s∈Tr.Zo K.E (tr d.f),s.n=0/\0<=s.i/\s.i<=63) (hn:L.length<=1000) (hst:∀ j,(goneAll K (L.take j)).1.E.length<=1000/\Few (goneAll K (L.take j)).1/\(goneAll K (L.take j)).1.D.length<=1000000) (hfl:∀ j,(goneAll K (L.take j)).2.length<=64000000000) :
  Calls Tryz.prog 129 #[Je p,JD d] w fun e w'=>∃ v,e=.returned (Jf 0 (L.length:Int) (-1) v)/\KS w0 r w' p { (goneAll K L).1 with U:=(goneAll K L).1.U.set o ⟨u.base,u.bits,0⟩ } (Jv Vq v (goneAll K L).2::R):=by
 have S1:=Ja (s.deed d)
 obtain⟨w1,hw⟩:∃ w1,(w.alloc (Jp d)).alloc (Ji 0 0 0 (.slice none 0 0))=w1:=⟨_,rfl⟩
 rw[hw] at S1
 have HW:=Ja hw
 unfold Jp Ji at HW
 clear s hw
 have hq:(d.x.k == 1)=true:=by simpa using hk
 have hq2:decide (d.x.k=1)=true:=by simpa using hk
 obtain⟨U,hUU⟩:∃ U,Tr.Zo K.E (tr d.f)=U:=⟨_,rfl⟩
 have hLU:L=(U.map fun s=>s.i).reverse:=by rw[<- hL,<- hUU];rfl
 have hNU:U.length=L.length:=by rw[hLU];simp
 rw[hUU] at hU
 obtain⟨N,hN⟩:∃ N,L.length=N:=⟨_,rfl⟩
 rw[hN] at hNU hn ⊢
 have HZ:=Ja (And.intro hst hfl)
 have HOU:=Ja (And.intro ho hu)
 have HUU:=Ja (And.intro hUU (And.intro hU (And.intro hLU (And.intro hNU hN))))
 clear hk hL hU ho hu hst hfl hUU hLU hNU
 unfold JD
 go_enter Tryz.func129,Tryz.ntmps129
 go_wp2_with (first|rw[HW.out]|(go_at_call 60;refine Jqa (JI _ _) ?_;rintro e w9 ⟨rfl,b9⟩;have S2:=Ja ((S1.out.below b9).box (Ji 0 0 (-1) (.slice none 0 0))).swap;clear b9;simp only[Jf])|fail)
 obtain⟨w2,hw2⟩:∃ w2,(w9.alloc (.cells #[.int .i64 0,.int .u64 0,.int .i64 (-1),.slice none 0 0] 42))=w2:=⟨_,rfl⟩
 have S3:Hid (Sep w0 r w2 (kT p Y K::blk w9.heap.size (Ji 0 0 (-1) (.slice none 0 0))::blk (w.heap.size+1) (Ji 0 0 0 (.slice none 0 0))::blk w.heap.size (Jp d)::R)):=by
  rw[<- hw2]
  exact S2
 clear S2 S1
 try rw[hw2]
 clear hw2
 generalize w9.heap.size=t at *
 generalize w.heap.size+1=q2 at *
 generalize w.heap.size=q at *
 have HS:Hid (∀ (W:World) (t1 t2:Th) (R':List Th),Sep w0 r W (kT p Y K::t1::t2::blk q (Jp d)::R')->W.cell? ⟨p,1,none⟩=some (Je Y.t)/\W.cell? ⟨q,8,none⟩=some (.int .i64 0)/\W.cell? ⟨q,9,none⟩=some (.int .i64 d.f)):=fun W t1 t2 R' s=>⟨s.k1,(s.blkCell (p:=q) (Jmc (Jmc (Jmc (Jms)))) 8).1,(s.blkCell (p:=q) (Jmc (Jmc (Jmc (Jms)))) 9).1⟩
 have hS:=HS.out _ _ _ _ S3.out.drew
 have hk:=Ja9 S3.out.drew d.f (HZ.out.1 0).1 HUU.out.1
 rw[HUU.out.2.2.2.1] at hk
 have HC:=Ja hk
 clear hk
 go_region_held3 (fun W=>W.cell? ⟨p,1,none⟩=some (Je Y.t)/\W.cell? ⟨q,8,none⟩=some (.int .i64 0)/\W.cell? ⟨q,9,none⟩=some (.int .i64 d.f)) (first|with_reducible assumption|with_reducible exact hS) (first|(go_at_call 229;refine Jqa HC.out ?_;rintro e w3 ⟨ao,cap,rfl,s3⟩;have s4:=s3.swap.to5;have hS3:=HS.out _ _ _ _ s4;have S4:=Ja s4;clear s3 s4))
 clear hS hS3 HS S3
 obtain⟨i0,hi0⟩:∃ i0,(N:Int) - 1=i0:=⟨_,rfl⟩
 have hw1:IntKind.i64.wrap ((N:Int) - 1)=i0:=by rw[IntKind.wrap_i64];omega
 have HI0:=Ja hi0
 clear hi0
 go_wp2_with fail
 go_loopw [7] (fun s7 wr=>∃ (j:Nat) (Y':Ly) (u1:Value) (i:Int),j<=N/\s7=.int .i64 i/\i=(N:Int) - 1 - (j:Int)/\Sep w0 r wr (kT p Y' (goneAll K (L.take j)).1::blk t (Ji 0 0 (-1) u1)::blk q2 (Ji 0 0 0 (.slice none 0 0))::blk q (Jp d)::Jv Jc2 (.slice ao N cap) U::Jv Vq u1 (goneAll K (L.take j)).2::R)) (fun s7 _=>(intOf s7+1).toNat)
 case atStart =>
  refine⟨0,Y,.slice none 0 0,i0,Jqp _,rfl,by have:=HI0.out;omega,?_⟩
  have:=(S4.out.nil (E:=Vq)).perm (((Jqn _ _ _).trans (.cons _ ((Jqn _ _ _).trans (.cons _ ((Jqn _ _ _).trans (.cons _ ((Jqn _ _ _).trans (.cons _ (Jqn _ _ _)))))))))) 
  exact this
 case round =>
  clear S4 hw1
  obtain⟨j,Y',u1,i,hj,rfl,hi,s5⟩:=hrel
  by_cases hlt:j<N
  ·obtain⟨m,hm⟩:∃ m:Nat,N=j+1+m:=⟨N - 1 - j,by omega⟩
   obtain rfl:i=(m:Int):=by omega
   have hmz:(m:Int) ≥ 0:=by omega
   have hmN:(m:Int)<(N:Int):=by omega
   clear hi
   have hUl:U.length=N:=HUU.out.2.2.2.1
   obtain⟨x,hx⟩:∃ x,U[m]? = some x:=⟨_,Jqc (by omega)⟩
   have hLj:L[j]? = some x.i:=by
    rw[HUU.out.2.2.1,List.getElem?_reverse (by rw[List.length_map];omega),List.length_map,hUl,show N - 1 - j=m by omega,List.getElem?_map,hx]
    rfl
   obtain⟨x0,x1,x2⟩:=HUU.out.2.1 x (Jqi hx)
   obtain⟨g,rfl,hc⟩:=s5.listAt Jz6 (ao:=ao) (n:=N) (cap:=cap) (A:=U) (by simp) hx
   have d0:=hc 0 (.int .i64 x.n) rfl
   have d1:=hc 1 (.int .i64 x.i) rfl
   rw[show Jc2.k=2 from rfl] at d0 d1
   rw[Nat.add_zero,x0] at d0
   have hmore:goneAll K (L.take (j+1))=(ZE (goneAll K (L.take j)).1 x.i,(goneAll K (L.take j)).2++Vf (goneAll K (L.take j)).1 x.i):=by
    obtain⟨hjl,e⟩:=Jqb.1 hLj
    rw[List.take_succ_eq_append_getElem hjl,e,MQ]
   have hst:=HZ.out.1 j
   have hfl:=HZ.out.2 j
   obtain⟨Kj,hKj⟩:∃ Kj,(goneAll K (L.take j)).1=Kj:=⟨_,rfl⟩
   obtain⟨F,hF⟩:∃ F,(goneAll K (L.take j)).2=F:=⟨_,rfl⟩
   rw[hKj,hF] at hmore s5
   rw[hKj] at hst
   rw[hF] at hfl
   obtain⟨G,hG⟩:∃ G,Vf Kj x.i=G:=⟨_,rfl⟩
   have hGl:G.length<=4096*1000000:=by
    have:=On Kj x.i
    have:=hst.2.2
    rw[<- hG]
    omega
   have HDR:Hid (∀ W Y2 R',Sep w0 r W (kT p Y2 Kj::R')->Calls Tryz.prog 228 #[Je p,.agg #[.int .i64 0,.int .i64 x.i]] W fun e w'=>∃ ao cap,e=.returned (.slice ao G.length cap)/\KS w0 r w' p (ZE Kj x.i) (Jv Vq (.slice ao G.length cap) G::R')):=fun W Y2 R' s'=>by
    have h:=Iu s' x1 x2 hst.1 hst.2.1 hst.2.2
    rw[hG] at h
    exact h
   rw[hG] at hmore
   have HM:=Ja hmore
   have HLN:=Ja (And.intro hfl hGl)
   obtain⟨au,cu,rfl⟩:=s5.listIs (E:=Vq) (v:=u1) (A:=F) (by simp)
   obtain⟨t0,t1,t2,t3,f0,f1,f2,f3⟩:=s5.cells4 (q:=t) (e:=0) (x:=0) (k:=-1) (v:=.slice au F.length cu) (by simp)
   have S5:=Ja s5
   have HJ:=Ja (And.intro hlt hm)
   clear s5 hc hx hLj hmore hst hfl hKj hF hG hGl hlt hm x0 x1 x2 hj hUl
   generalize hFl:F.length=fl at *
   generalize hGl:G.length=gl at *
   have HFG:=Ja (And.intro hFl hGl)
   clear hFl hGl
   go_wp2_with fail
   go_region_law (first
    | (go_simp;go_at_call 228;refine Jqa (HDR.out _ _ _ S5.out.drew) ?_;rintro e w6 ⟨ao2,cap2,rfl,Y6,s6⟩;(obtain⟨v7,w7,r7,s7⟩:=Sep.ontoB (B:=G) okR (s6.perm (List.perm_middle (l₁:=[_,_,_,_,_,_]))) (s6.each (Jv Vq (.slice ao2 gl cap2) G) (by simp)).1 40 (by have h1:=HLN.out.1;have h2:=HLN.out.2;have h3:=HFG.out.1;have h4:=HFG.out.2;simp only[Vq];omega) (by have h1:=HLN.out.1;have h2:=HLN.out.2;have h3:=HFG.out.1;have h4:=HFG.out.2;unfold maxLen;omega));have t3b:=(s6.cells4 (q:=t) (e:=0) (x:=0) (k:=-1) (v:=.slice au fl cu) (by simp)).2.2.2.1;obtain⟨av,cv,rfl⟩:=s7.listIs (E:=Vq) (v:=v7) (A:=F++G) (by simp);obtain⟨lv,hlv⟩:∃ lv,(F++G).length=lv:=⟨_,rfl⟩;rw[hlv] at r7 s7;simp only[Vq] at r7;have R7:=Ja r7;have S9:=Ja ((s7.p7).putTF (.slice av lv cv)).swap;clear hlv;have z7:=(s7.blkCell (p:=t) (C:=#[.int .i64 0,.int .u64 0,.int .i64 (-1),.slice au fl cu]) (ty:=42) (by simp[Ji]) 3);have z71:w7.cell? ⟨t,3,none⟩=some (.slice au fl cu):=z7.1;have z72:=z7.2;have S8:=Ja s7;clear s6 s7 r7 z7)
    | (refine Jy rfl (.tmp 24) (.tmp 30) 40 40 rfl (.slice au fl cu) (.slice ao2 gl cap2) _ _ (by simp[Act.eval]) (by simp[Act.eval]) R7.out ?_))
   all_goals go_wp2_with fail
   all_goals go_roundw
   all_goals
    first
    | (simp[intOf];done)
    | skip
   all_goals refine⟨j+1,Y6,.slice av lv cv,(m:Int) - 1,by have:=HJ.out.1;omega,rfl,by have:=HJ.out.2;omega,by rw[HM.out];exact S9.out⟩
  ·obtain rfl:j=N:=by omega
   obtain rfl:i = -1:=by omega
   rw[show L.take j=L by rw[<- HUU.out.2.2.2.2,List.take_length]] at s5
   obtain⟨FF,hFF⟩:∃ FF,(goneAll K L).2=FF:=⟨_,rfl⟩
   obtain⟨KL,hKL⟩:∃ KL,(goneAll K L).1=KL:=⟨_,rfl⟩
   have hu:=HOU.out.2
   rw[hKL] at hu s5
   rw[hFF] at s5
   have HFF:=Ja (And.intro hFF hKL)
   obtain⟨au,cu,rfl⟩:=s5.listIs (E:=Vq) (v:=u1) (A:=FF) (by simp)
   obtain⟨lf,hlf⟩:∃ lf,FF.length=lf:=⟨_,rfl⟩
   rw[hlf] at s5
   have hwN:IntKind.u64.wrap (j:Int)=(j:Int):=by rw[IntKind.wrap_u64];omega
   obtain⟨ao3,cap3,hv3,hp3⟩:=s5.unPtr
   obtain⟨g3,rfl,-⟩:=hp3 o u hu
   have hol:(o:Int)<(KL.U.length:Int):=by have:=(Jqb.1 hu).1;omega
   have hoz:(0:Int)<=(o:Int):=by omega
   have hon:(o:Int).toNat=o:=by omega
   have sv:=s5.swap
   obtain⟨t0,t1,t2,t3,f0,f1,f2,f3⟩:=sv.cells4 (Jms)
   have sv0:=sv.putTW (j:Int)
   have S6:=Ja sv0.swap
   have dk:(wr.setCell ⟨t,1,none⟩ (.int .u64 (j:Int))).cell? ⟨q,10,none⟩=some (.int .i64 d.x.k):=(sv0.blkCell (p:=q) (Jmc (Jmc (Jmc (Jms)))) 10).1
   have HRD:Hid (∀ (W:World) (t1 t2:Th) (R':List Th),Sep w0 r W (kT p Y' KL::t1::t2::blk q (Jp d)::R')->W.cell? ⟨p,4,none⟩=some (.slice (some ⟨g3,0,none⟩) KL.U.length cap3)/\W.cell? ⟨q,11,none⟩=some (.int .i64 (o:Int))/\W.cell? ⟨g3,o*3,none⟩=some (.int .u64 u.base)/\W.cell? ⟨g3,o*3+1,none⟩=some (.int .i64 u.bits)/\W.cell? ⟨g3,o*3+2,none⟩=some (.int .u64 u.used)/\(∀ j,W.frozen? ⟨g3,j,none⟩=false)):=by
    refine fun W t1 t2 R' s=>?_
    have k:=s.k4
    rw[hv3] at k
    have hq:=(s.blkCell (p:=q) (Jmc (Jmc (Jmc (Jms)))) 11).1
    obtain⟨ao4,cap4,hv4,hp4⟩:=s.unPtr
    rw[hv3] at hv4
    cases hv4
    obtain⟨g4,e4,c0,c1,c2⟩:=hp4 o u hu
    cases e4
    refine⟨k,?_,c0,c1,c2,fun j=>?_⟩
    ·rw[<- HOU.out.1]
     exact hq
    ·obtain⟨Q,s9,-⟩:=s.kU
     rw[hv3] at s9
     exact s9.fzL j
   clear s5 sv sv0 hi hj hlt hFF hlf hp3 hKL
   have HV:=Ja (And.intro hv3 hu)
   clear hv3 hu
   generalize KL.U.length=ku at *
   go_wp2_with fail
   obtain⟨r0,r1,r2,r3,r4,-⟩:=HRD.out _ _ _ _ S6.out.drew
   go_region_law (
    (go_simp;go_at_call 230;refine Jqa (Un.Jhv ⟨u.base,u.bits,u.used⟩ _) ?_;rintro e w6 ⟨rfl,b6⟩;have s6:=S6.out.drew.below b6;(obtain⟨z0,z1,z2,z3,z4,zf⟩:=HRD.out _ _ _ _ s6);have s7:=s6.putMem HV.out.1 HV.out.2 ⟨u.base,u.bits,0⟩;have S7:=Ja s7;clear s6 s7;simp only[Un.ZD]))
   all_goals
    have sv:=S7.out.swap
    obtain⟨x0,x1,x2,x3,-⟩:=sv.cells4 (Jms)
    have sx:=sv.third.swap
    obtain⟨u0,u1,u2,u3,g0,g1,g2,g3⟩:=sx.cells4 (Jms)
    have s10:=sx.put4 0 (j:Int) (-1) (.slice au lf cu)
    have S10:=Ja s10
    clear sv sx s10
    obtain⟨h0,h1,h2,h3,-⟩:=S10.out.cells4 (Jms)
    have G10:=Ja (And.intro (And.intro h0 h1) (And.intro h2 h3))
    clear h0 h1 h2 h3
    go_wp2
    refine bodyPost_ret (v:=Jf 0 (j:Int) (-1) (.slice au lf cu)) ?_ rfl ⟨_,rfl,_,by rw[HFF.out.1,HFF.out.2];exact S10.out.drop.drop2.drop2.drop2⟩
    simp[results,Tryz.f129,go_sem,Jf,G10.out.1.1,G10.out.1.2,G10.out.2.1,G10.out.2.2]
end
end
end Go.Proofs.YtbfjjpdnoalojaaGreatDoor
