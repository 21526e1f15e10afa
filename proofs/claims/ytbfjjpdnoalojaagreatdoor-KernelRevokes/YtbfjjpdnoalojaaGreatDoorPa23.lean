/- Below: KI5 KI7 KJ3 KJ4 KJ5 GQuiet; no condition. -/
import Derived.Test.YtbfjjpdnoalojaaGreatDoorPa22
set_option maxHeartbeats 16000000
set_option maxRecDepth 100000
namespace Go.Proofs.YtbfjjpdnoalojaaGreatDoor
section
open Go.RowKit Go.Deep Go.Shelf
open Classical
section
variable {w0 w w':World} {r p:Nat} {Y:Ly} {K:Kr} {R:List Th}
theorem KS.nilR (h:KS w0 r w p K R):KS w0 r w p K (Jv Vq (.slice none 0 0) []::R):=by
 obtain⟨Y',s⟩:=h
 exact⟨Y',(s.nil (E:=Vq)).swap⟩
theorem Jon (K:Kr) (c:Sl.Cp):Jkt K c = !(Sl.JX K.S).any (Z9 c):=rfl
theorem Iu (s:Sep w0 r w (kT p Y K::R)) {n:Int} (h0:0<=n) (h1:n<=63) (hl:K.E.length<=1000) (hf:Few K) (hd:K.D.length<=1000000) :
  Calls Tryz.prog 228 #[Je p,.agg #[.int .i64 0,.int .i64 n]] w fun e w'=>∃ ao cap,e=.returned (.slice ao (Vf K n).length cap)/\KS w0 r w' p (ZE K n) (Jv Vq (.slice ao (Vf K n).length cap) (Vf K n)::R):=by
 have h:Calls Tryz.prog 228 #[Je p,.agg #[.int .i64 0,.int .i64 n]] w fun e w'=>∃ v,e=.returned v/\KS w0 r w' p (ZE K n) (Jv Vq v (Vf K n)::R):=by
  unfold ZE Vf
  generalize hc:Sl.Vm K.S (sl n)=c
  rw[Jon]
  cases hb:(Sl.JX (outK K n).S).any (Z9 c) with
  | true =>
   exact(Jgb s h0 h1 hl hc hb).mono fun _ _ k=>⟨_,k.1,k.2.nilR⟩
  | false =>
   rw[if_pos (by rfl),if_pos (by rfl)]
   unfold UT Jjt
   by_cases h3:c.k=3
   ·rw[if_pos h3,if_neg (by rw[h3];decide),if_neg (by rw[h3];decide)]
    exact(Jaf s h0 h1 hl hc hb h3 hf).mono fun _ _ k=>⟨_,k.1,k.2.nilR⟩
   ·rw[if_neg h3]
    by_cases h6:c.k=6
    ·rw[if_pos h6,if_pos h6]
     exact Jcz s h0 h1 hl hc hb h6 hd
    ·rw[if_neg h6,if_neg h6]
     by_cases h7:c.k=7
     ·rw[if_pos h7,if_pos h7]
      exact Jc1 s h0 h1 hl hc hb h7 hd
     ·rw[if_neg h7,if_neg h7]
      exact(Jc0 s h0 h1 hl hc hb h3 h6 h7).mono fun _ _ k=>⟨_,k.1,k.2.nilR⟩
 refine h.mono fun e w' k=>?_
 obtain⟨v,rfl,Y',s'⟩:=k
 obtain⟨ao,cap,rfl⟩:=s'.listIs (E:=Vq) (v:=v) (A:=Vf K n) (by simp)
 exact⟨ao,cap,rfl,Y',s'⟩
end
def Jc2:El Tr.Sl:=⟨80,67,2,16,Tr.cS⟩
theorem Jz6:El.Ok Jc2:=⟨Tryz.underlying67,ZA Jkg rfl,by decide,by decide,fun _=>rfl,by simp[Jc2,Tr.cS,Value.oneCell']⟩
section
variable {α:Type} {E:El α} {w0 w w':World} {r p:Nat} {R:List Th}
theorem Sep.ontoB (ok:El.Ok E) {u:Value} {A B:List α} {v:Value} (h:Sep w0 r w (Jv E u A::R)) (hm:Row E w v B) (ty:TypeId) (hl:(A.length+B.length)*E.by'<=140737488355328) (hx:A.length+B.length<=maxLen) :
  ∃ v' w',(Builtin.append_ #[E.sl,E.sl] ty #[u,v]).run Tryz.prog w=.ok v' w'/\Sep w0 r w' (Jv E v' (A++B)::R):=by
 obtain⟨i,z,hi,z1,z2,z3,z4⟩:=ok.info
 have hown:Row E w u A:=h.head
 have fin:∀ v' w',(Builtin.append_ #[E.sl,E.sl] ty #[u,v]).run Tryz.prog w=.ok v' w'->Row E w' v' (A++B)->w.grownBy w' u.ownBlock->(v'.ownBlock=u.ownBlock\/v'.ownBlock=some w.heap.size)->∃ v' w',(Builtin.append_ #[E.sl,E.sl] ty #[u,v]).run Tryz.prog w=.ok v' w'/\Sep w0 r w' (Jv E v' (A++B)::R):=fun v' w' r1 r2 r3 r4=>by
  refine⟨v',w',r1,h.turn (t:=Jv E u A) (t':=Jv E v' (A++B)) r2 (Turn.grown r3 fun k hk=>.inl hk) fun y hy=>?_⟩
  rcases r4 with e|e
  ·exact .inl (e.symm.trans hy)
  ·have:some w.heap.size=some y:=e.symm.trans hy
   cases this
   exact .inr (Jqd _)
 rcases hm.2 with ⟨rfl,h0⟩|⟨g,cap',cur,rfl,_⟩
 ·obtain rfl:B=[]:=List.length_eq_zero_iff.1 h0
  exact fin u w (run_append_owned_none (P:=Tryz.prog) (w:=w) 0 E.sl ty E.e i E.k ok.hu hi u _ _ hown) (by rw[List.append_nil];exact hown) ⟨rfl,rfl,rfl,Jqd _,fun _ _ _=>rfl⟩ (.inl rfl)
 ·obtain⟨v',w',r1,r2,r3,r4,r5⟩:=run_append_own_at (P:=Tryz.prog) (w:=w) 0 E.sl ty E.e i z E.k E.by' ok.hu hi z1 z2 z3 z4 ok.pos u A.length (Jc E.enc A) hown ⟨g,0,none⟩ B.length cap' (Jc E.enc B) (Jj ok.len B)
   (fun j x hj=>World.ownsRow.cells hm (g:=g) rfl j x hj) (VL ok.one _) hx hl (Jqp _)
  refine fin v' w' r1 ?_ r3 r5
  unfold Row
  rw[List.length_append,Jt]
  exact r2
theorem Sep.p7 {a b c e f g h:Th} (s:Sep w0 r w (a::b::c::e::f::g::h::R)):Sep w0 r w (e::b::f::g::h::a::R):=by
 have h1:(a::b::c::e::f::g::h::R).Perm (c::e::b::f::g::h::a::R):=by
  refine List.perm_iff_count.2 fun x=>?_
  simp only[List.count_cons]
  omega
 exact(s.perm h1).drop
theorem Sep.to5 {a b c d e:Th} (s:Sep w0 r w (a::b::c::d::e::R)):Sep w0 r w (b::c::d::e::a::R):=s.to4.perm (.cons _ (.cons _ (.cons _ (.swap e a R))))
end
section
variable {w0 w w':World} {r p:Nat} {Y:Ly} {K:Kr} {R:List Th}
theorem Ja9 (s:Sep w0 r w (kT p Y K::R)) (n:Int) (hl:K.E.length<=1000) {U:List Tr.Sl} (hU:Tr.Zo K.E (tr n)=U) :
  Calls Tryz.prog 229 #[Je Y.t,.agg #[.int .i64 0,.int .i64 n]] w fun e w'=>∃ ao cap,e=.returned (.slice ao U.length cap)/\Sep w0 r w' (kT p Y K::Jv Jc2 (.slice ao U.length cap) U::R):=by
 subst hU
 exact Joj s (tr n) hl
theorem Jhz (s:Sep w0 r w (kT p Y K::R)) (d:De) (hk:¬ d.x.k=1) {L:List Int} (hL:Zc K d.f=L) (hU:∀ s∈Tr.Zo K.E (tr d.f),s.n=0/\0<=s.i/\s.i<=63) (hn:L.length<=1000) (hst:∀ j,(goneAll K (L.take j)).1.E.length<=1000/\Few (goneAll K (L.take j)).1/\(goneAll K (L.take j)).1.D.length<=1000000) (hfl:∀ j,(goneAll K (L.take j)).2.length<=64000000000) :
  Calls Tryz.prog 129 #[Je p,JD d] w fun e w'=>∃ v,e=.returned (Jf 0 (L.length:Int) (-1) v)/\KS w0 r w' p (goneAll K L).1 (Jv Vq v (goneAll K L).2::R):=by
 have S1:=Ja (s.deed d)
 obtain⟨w1,hw⟩:∃ w1,(w.alloc (Jp d)).alloc (Ji 0 0 0 (.slice none 0 0))=w1:=⟨_,rfl⟩
 rw[hw] at S1
 have HW:=Ja hw
 unfold Jp Ji at HW
 clear s hw
 have hq:(d.x.k == 1)=false:=by simpa using hk
 have hq2:decide (d.x.k=1)=false:=by simpa using hk
 obtain⟨U,hUU⟩:∃ U,Tr.Zo K.E (tr d.f)=U:=⟨_,rfl⟩
 have hLU:L=(U.map fun s=>s.i).reverse:=by rw[<- hL,<- hUU];rfl
 have hNU:U.length=L.length:=by rw[hLU];simp
 rw[hUU] at hU
 obtain⟨N,hN⟩:∃ N,L.length=N:=⟨_,rfl⟩
 rw[hN] at hNU hn ⊢
 have HZ:=Ja (And.intro hst hfl)
 have HUU:=Ja (And.intro hUU (And.intro hU (And.intro hLU (And.intro hNU hN))))
 clear hk hL hU hst hfl hUU hLU hNU
 unfold JD
 go_enter Tryz.func129,Tryz.ntmps129
 go_wp2_with (first|rw[HW.out]|(go_at_call 60;refine Jqa (JI _ _) ?_;rintro e w9 ⟨rfl,b9⟩;have S2:=Ja ((S1.out.below b9).box (Ji 0 0 (-1) (.slice none 0 0))).swap;clear b9;simp only[Jf])|fail)
 obtain⟨w2,hw2⟩:∃ w2,(w9.alloc (.cells #[.int .i64 0,.int .u64 0,.int .i64 (-1),.slice none 0 0] 42))=w2:=⟨_,rfl⟩
 have S3:Hid (Sep w0 r w2 (kT p Y K::blk w9.heap.size (Ji 0 0 (-1) (.slice none 0 0))::blk (w.heap.size+1) (Ji 0 0 0 (.slice none 0 0))::blk w.heap.size (Jp d)::R)):=by
  rw[<- hw2]
  exact S2
 clear S2 S1
 try rw[hw2]
 clear hw2
 generalize w9.heap.size=t at *
 generalize w.heap.size+1=q2 at *
 generalize w.heap.size=q at *
 have HS:Hid (∀ (W:World) (t1 t2:Th) (R':List Th),Sep w0 r W (kT p Y K::t1::t2::blk q (Jp d)::R')->W.cell? ⟨p,1,none⟩=some (Je Y.t)/\W.cell? ⟨q,8,none⟩=some (.int .i64 0)/\W.cell? ⟨q,9,none⟩=some (.int .i64 d.f)):=fun W t1 t2 R' s=>⟨s.k1,(s.blkCell (p:=q) (Jmc (Jmc (Jmc (Jms)))) 8).1,(s.blkCell (p:=q) (Jmc (Jmc (Jmc (Jms)))) 9).1⟩
 have hS:=HS.out _ _ _ _ S3.out.drew
 have hk:=Ja9 S3.out.drew d.f (HZ.out.1 0).1 HUU.out.1
 rw[HUU.out.2.2.2.1] at hk
 have HC:=Ja hk
 clear hk
 go_region_held3 (fun W=>W.cell? ⟨p,1,none⟩=some (Je Y.t)/\W.cell? ⟨q,8,none⟩=some (.int .i64 0)/\W.cell? ⟨q,9,none⟩=some (.int .i64 d.f)) (first|with_reducible assumption|with_reducible exact hS) (first|(go_at_call 229;refine Jqa HC.out ?_;rintro e w3 ⟨ao,cap,rfl,s3⟩;have s4:=s3.swap.to5;have hS3:=HS.out _ _ _ _ s4;have S4:=Ja s4;clear s3 s4))
 clear hS hS3 HS S3
 obtain⟨i0,hi0⟩:∃ i0,(N:Int) - 1=i0:=⟨_,rfl⟩
 have hw1:IntKind.i64.wrap ((N:Int) - 1)=i0:=by rw[IntKind.wrap_i64];omega
 have HI0:=Ja hi0
 clear hi0
 go_wp2_with fail
 go_loopw [7] (fun s7 wr=>∃ (j:Nat) (Y':Ly) (u:Value) (i:Int),j<=N/\s7=.int .i64 i/\i=(N:Int) - 1 - (j:Int)/\Sep w0 r wr (kT p Y' (goneAll K (L.take j)).1::blk t (Ji 0 0 (-1) u)::blk q2 (Ji 0 0 0 (.slice none 0 0))::blk q (Jp d)::Jv Jc2 (.slice ao N cap) U::Jv Vq u (goneAll K (L.take j)).2::R)) (fun s7 _=>(intOf s7+1).toNat)
 case atStart =>
  refine⟨0,Y,.slice none 0 0,i0,Jqp _,rfl,by have:=HI0.out;omega,?_⟩
  have:=(S4.out.nil (E:=Vq)).perm (((Jqn _ _ _).trans (.cons _ ((Jqn _ _ _).trans (.cons _ ((Jqn _ _ _).trans (.cons _ ((Jqn _ _ _).trans (.cons _ (Jqn _ _ _)))))))))) 
  exact this
 case round =>
  clear S4 hw1
  obtain⟨j,Y',u,i,hj,rfl,hi,s5⟩:=hrel
  by_cases hlt:j<N
  ·obtain⟨m,hm⟩:∃ m:Nat,N=j+1+m:=⟨N - 1 - j,by omega⟩
   obtain rfl:i=(m:Int):=by omega
   have hmz:(m:Int) ≥ 0:=by omega
   have hmN:(m:Int)<(N:Int):=by omega
   clear hi
   have hUl:U.length=N:=HUU.out.2.2.2.1
   obtain⟨x,hx⟩:∃ x,U[m]? = some x:=⟨_,Jqc (by omega)⟩
   have hLj:L[j]? = some x.i:=by
    rw[HUU.out.2.2.1,List.getElem?_reverse (by rw[List.length_map];omega),List.length_map,hUl,show N - 1 - j=m by omega,List.getElem?_map,hx]
    rfl
   obtain⟨x0,x1,x2⟩:=HUU.out.2.1 x (Jqi hx)
   obtain⟨g,rfl,hc⟩:=s5.listAt Jz6 (ao:=ao) (n:=N) (cap:=cap) (A:=U) (by simp) hx
   have d0:=hc 0 (.int .i64 x.n) rfl
   have d1:=hc 1 (.int .i64 x.i) rfl
   rw[show Jc2.k=2 from rfl] at d0 d1
   rw[Nat.add_zero,x0] at d0
   have hmore:goneAll K (L.take (j+1))=(ZE (goneAll K (L.take j)).1 x.i,(goneAll K (L.take j)).2++Vf (goneAll K (L.take j)).1 x.i):=by
    obtain⟨hjl,e⟩:=Jqb.1 hLj
    rw[List.take_succ_eq_append_getElem hjl,e,MQ]
   have hst:=HZ.out.1 j
   have hfl:=HZ.out.2 j
   obtain⟨Kj,hKj⟩:∃ Kj,(goneAll K (L.take j)).1=Kj:=⟨_,rfl⟩
   obtain⟨F,hF⟩:∃ F,(goneAll K (L.take j)).2=F:=⟨_,rfl⟩
   rw[hKj,hF] at hmore s5
   rw[hKj] at hst
   rw[hF] at hfl
   obtain⟨G,hG⟩:∃ G,Vf Kj x.i=G:=⟨_,rfl⟩
   have hGl:G.length<=4096*1000000:=by
    have:=On Kj x.i
    have:=hst.2.2
    rw[<- hG]
    omega
   have HDR:Hid (∀ W Y2 R',Sep w0 r W (kT p Y2 Kj::R')->Calls Tryz.prog 228 #[Je p,.agg #[.int .i64 0,.int .i64 x.i]] W fun e w'=>∃ ao cap,e=.returned (.slice ao G.length cap)/\KS w0 r w' p (ZE Kj x.i) (Jv Vq (.slice ao G.length cap) G::R')):=fun W Y2 R' s'=>by
    have h:=Iu s' x1 x2 hst.1 hst.2.1 hst.2.2
    rw[hG] at h
    exact h
   rw[hG] at hmore
   have HM:=Ja hmore
   have HLN:=Ja (And.intro hfl hGl)
   obtain⟨au,cu,rfl⟩:=s5.listIs (E:=Vq) (v:=u) (A:=F) (by simp)
   obtain⟨t0,t1,t2,t3,f0,f1,f2,f3⟩:=s5.cells4 (q:=t) (e:=0) (x:=0) (k:=-1) (v:=.slice au F.length cu) (by simp)
   have S5:=Ja s5
   have HJ:=Ja (And.intro hlt hm)
   clear s5 hc hx hLj hmore hst hfl hKj hF hG hGl hlt hm x0 x1 x2 hj hUl
   generalize hFl:F.length=fl at *
   generalize hGl:G.length=gl at *
   have HFG:=Ja (And.intro hFl hGl)
   clear hFl hGl
   go_wp2_with fail
   go_region_law (first
    | (go_simp;go_at_call 228;refine Jqa (HDR.out _ _ _ S5.out.drew) ?_;rintro e w6 ⟨ao2,cap2,rfl,Y6,s6⟩;(obtain⟨v7,w7,r7,s7⟩:=Sep.ontoB (B:=G) okR (s6.perm (List.perm_middle (l₁:=[_,_,_,_,_,_]))) (s6.each (Jv Vq (.slice ao2 gl cap2) G) (by simp)).1 40 (by have h1:=HLN.out.1;have h2:=HLN.out.2;have h3:=HFG.out.1;have h4:=HFG.out.2;simp only[Vq];omega) (by have h1:=HLN.out.1;have h2:=HLN.out.2;have h3:=HFG.out.1;have h4:=HFG.out.2;unfold maxLen;omega));have t3b:=(s6.cells4 (q:=t) (e:=0) (x:=0) (k:=-1) (v:=.slice au fl cu) (by simp)).2.2.2.1;obtain⟨av,cv,rfl⟩:=s7.listIs (E:=Vq) (v:=v7) (A:=F++G) (by simp);obtain⟨lv,hlv⟩:∃ lv,(F++G).length=lv:=⟨_,rfl⟩;rw[hlv] at r7 s7;simp only[Vq] at r7;have R7:=Ja r7;have S9:=Ja ((s7.p7).putTF (.slice av lv cv)).swap;clear hlv;have z7:=(s7.blkCell (p:=t) (C:=#[.int .i64 0,.int .u64 0,.int .i64 (-1),.slice au fl cu]) (ty:=42) (by simp[Ji]) 3);have z71:w7.cell? ⟨t,3,none⟩=some (.slice au fl cu):=z7.1;have z72:=z7.2;have S8:=Ja s7;clear s6 s7 r7 z7)
    | (refine Jy rfl (.tmp 24) (.tmp 30) 40 40 rfl (.slice au fl cu) (.slice ao2 gl cap2) _ _ (by simp[Act.eval]) (by simp[Act.eval]) R7.out ?_))
   all_goals go_wp2_with fail
   all_goals go_roundw
   all_goals
    first
    | (simp[intOf];done)
    | skip
   all_goals refine⟨j+1,Y6,.slice av lv cv,(m:Int) - 1,by have:=HJ.out.1;omega,rfl,by have:=HJ.out.2;omega,by rw[HM.out];exact S9.out⟩
  ·obtain rfl:j=N:=by omega
   obtain rfl:i = -1:=by omega
   rw[show L.take j=L by rw[<- HUU.out.2.2.2.2,List.take_length]] at s5
   obtain⟨FF,hFF⟩:∃ FF,(goneAll K L).2=FF:=⟨_,rfl⟩
   rw[hFF] at s5
   have HFF:=Ja hFF
   obtain⟨au,cu,rfl⟩:=s5.listIs (E:=Vq) (v:=u) (A:=FF) (by simp)
   obtain⟨lf,hlf⟩:∃ lf,FF.length=lf:=⟨_,rfl⟩
   rw[hlf] at s5
   have hwN:IntKind.u64.wrap (j:Int)=(j:Int):=by rw[IntKind.wrap_u64];omega
   have S5:=Ja s5
   clear s5 hi hj hlt hFF hlf
   have sv:=S5.out.swap
   obtain⟨t0,t1,t2,t3,f0,f1,f2,f3⟩:=sv.cells4 (Jms)
   obtain⟨ne1,ne2⟩:=sv.ne
   have sv0:=sv.putTW (j:Int)
   obtain⟨t10,t11,t12,t13,-⟩:=sv0.cells4 (Jms)
   have dk:(wr.setCell ⟨t,1,none⟩ (.int .u64 (j:Int))).cell? ⟨q,10,none⟩=some (.int .i64 d.x.k):=(sv0.blkCell (p:=q) (Jmc (Jmc (Jmc (Jms)))) 10).1
   have sx:=sv0.third.swap
   obtain⟨u0,u1,u2,u3,g0,g1,g2,g3⟩:=sx.cells4 (Jms)
   have s10:=sx.put4 0 (j:Int) (-1) (.slice au lf cu)
   have S10:=Ja s10
   clear sv sv0 sx s10
   obtain⟨h0,h1,h2,h3,-⟩:=S10.out.cells4 (Jms)
   have G10:=Ja (And.intro (And.intro h0 h1) (And.intro h2 h3))
   clear h0 h1 h2 h3
   go_wp2
   refine bodyPost_ret (v:=Jf 0 (j:Int) (-1) (.slice au lf cu)) ?_ rfl ⟨_,rfl,_,by rw[HFF.out];exact S10.out.drop.drop2.drop2.drop2⟩
   simp[results,Tryz.f129,go_sem,Jf,G10.out.1.1,G10.out.1.2,G10.out.2.1,G10.out.2.2]
theorem Gj (s:Sep w0 r w (kT p Y K::R)) (m:Int) (h:0<=m/\m<=64) :
  Calls Tryz.prog 222 #[Je p,.int .i64 2,.int .i64 m] w fun e w'=>e=.returned (.bool (!Sl.XH K.S (64 - m)))/\Sep w0 r w' (kT p Y K::R):=by
 have c:=s.k0
 have HC:=Ja (Jtl s (64 - m))
 have S1:=Ja s
 have hm:IntKind.i64.wrap (64 - m)=64 - m:=by rw[IntKind.wrap_i64];omega
 skip
 clear s h
 go_enter Tryz.func222,Tryz.ntmps222
 go_wp2_with (first|(go_at_call 203;refine Jqa HC.out ?_;rintro e w3 ⟨rfl,rfl⟩)|fail)
 go_ret
 exact⟨rfl,S1.out⟩
theorem AP (s:Sep w0 r w (kT p Y K::R)) (m:Int) (h:0<=m/\m<=64) :
  Calls Tryz.prog 222 #[Je p,.int .i64 3,.int .i64 m] w fun e w'=>e=.returned (.bool (Th.UQ K.h (64 - m) != 0))/\Sep w0 r w' (kT p Y K::R):=by
 obtain⟨x,hx⟩:∃ x,Th.Gf K.h (64 - m)=x:=⟨_,rfl⟩
 obtain⟨E,hE⟩:∃ E,Th.UQ K.h (64 - m)=E:=⟨_,rfl⟩
 have c:=s.k2
 have hk:=Jtn s (64 - m)
 rw[hx,hE] at hk
 rw[hE]
 unfold Th.MO at hk
 have HC:=Ja hk
 have S1:=Ja s
 have hm:IntKind.i64.wrap (64 - m)=64 - m:=by rw[IntKind.wrap_i64];omega
 clear s h hk hx hE
 go_enter Tryz.func222,Tryz.ntmps222
 go_wp2_with (first|(go_at_call 116;refine Jqa HC.out ?_;rintro e w3 ⟨rfl,b3⟩)|fail)
 go_ret
 exact⟨rfl,((S1.out.below b3).box _).drop⟩
theorem Gk (s:Sep w0 r w (kT p Y K::R)) (m:Int) {A:Int} (h2:A≠2) (h3:A≠3) :
  Calls Tryz.prog 222 #[Je p,.int .i64 A,.int .i64 m] w fun e w'=>e=.returned (.bool true)/\Sep w0 r w' (kT p Y K::R):=by
 have S1:=Ja s
 clear s
 go_enter Tryz.func222,Tryz.ntmps222
 go_wp2
 go_ret
 exact⟨rfl,S1.out⟩
theorem Sep.kPn {t:Th} (s:Sep w0 r w (t::kT p Y K::R)):∃ Q,Sep w0 r w (Jv Mc Y.pv (Y.P.map (·.1))::blk p (Xr Y K.fr K.tb)::t::Q)/\∀ w' v' q v,Sep w0 r w' (Jv Mc v' (Y.P.map (·.1)++[q])::blk p (Xr { Y with pv:=v',P:=Y.P++[(q,v)] } K.fr K.tb)::En.VE q v []::Q)->Sep w0 r w' (kT p { Y with pv:=v',P:=Y.P++[(q,v)] } { K with P:=K.P++[[]] }::R):=by
 have hP:=s.drop.fact
 refine⟨[nT Y.n Y.F K.S,eT Y.t Y.tv K.E,Th.tT Y.h Y.hF K.h,Ir.lnT Y.l Y.lv K.l,Jv EI Y.uv K.U]++([Jv Ml Y.nv (Y.N.map (·.1)),Jv MN Y.dv (Y.D.map (·.1))]++(AE Y.P K.P++(EN Y.N K.N++Jcc Y.D K.D)))++R,?_,fun _ v' q v h=>?_⟩
 ·exact(Sep.into (A:=[blk p (Xr Y K.fr K.tb),nT Y.n Y.F K.S,eT Y.t Y.tv K.E,Th.tT Y.h Y.hF K.h,Ir.lnT Y.l Y.lv K.l,Jv EI Y.uv K.U]) s.swap).perm (.cons _ (.cons _ List.perm_middle))
 ·refine Sep.shut ⟨by simp[hP.1],hP.2.1,hP.2.2⟩ (h.perm ?_)
  have e1:AE (Y.P++[(q,v)]) (K.P++[[]])=AE Y.P K.P++[En.VE q v []]:=by
   unfold AE
   rw[List.zipWith_append hP.1]
   rfl
  simp only[MY,e1,List.map_append,List.map_cons,List.map_nil,List.append_assoc]
  simp only[List.cons_append,List.nil_append]
  refine List.perm_iff_count.2 fun a=>?_
  simp only[List.count_cons,List.count_append]
  omega
theorem Sep.kNtn {t:Th} (s:Sep w0 r w (t::kT p Y K::R)):∃ Q,Sep w0 r w (Jv Ml Y.nv (Y.N.map (·.1))::blk p (Xr Y K.fr K.tb)::t::Q)/\∀ w' v' q v,Sep w0 r w' (Jv Ml v' (Y.N.map (·.1)++[q])::blk p (Xr { Y with nv:=v',N:=Y.N++[(q,v)] } K.fr K.tb)::No.Ed q v No.ns0::Q)->Sep w0 r w' (kT p { Y with nv:=v',N:=Y.N++[(q,v)] } { K with N:=K.N++[No.ns0] }::R):=by
 have hP:=s.drop.fact
 refine⟨[nT Y.n Y.F K.S,eT Y.t Y.tv K.E,Th.tT Y.h Y.hF K.h,Ir.lnT Y.l Y.lv K.l,Jv EI Y.uv K.U,Jv Mc Y.pv (Y.P.map (·.1))]++([Jv MN Y.dv (Y.D.map (·.1))]++(AE Y.P K.P++(EN Y.N K.N++Jcc Y.D K.D)))++R,?_,fun _ v' q v h=>?_⟩
 ·exact(Sep.into (A:=[blk p (Xr Y K.fr K.tb),nT Y.n Y.F K.S,eT Y.t Y.tv K.E,Th.tT Y.h Y.hF K.h,Ir.lnT Y.l Y.lv K.l,Jv EI Y.uv K.U,Jv Mc Y.pv (Y.P.map (·.1))]) s.swap).perm (.cons _ (.cons _ List.perm_middle))
 ·refine Sep.shut ⟨hP.1,by simp[hP.2.1],hP.2.2⟩ (h.perm ?_)
  have e1:EN (Y.N++[(q,v)]) (K.N++[No.ns0])=EN Y.N K.N++[No.Ed q v No.ns0]:=by
   unfold EN
   rw[List.zipWith_append hP.2.1]
   rfl
  simp only[MY,e1,List.map_append,List.map_cons,List.map_nil,List.append_assoc]
  simp only[List.cons_append,List.nil_append]
  refine List.perm_iff_count.2 fun a=>?_
  simp only[List.count_cons,List.count_append]
  omega
theorem Sep.kDsn {t:Th} (s:Sep w0 r w (t::kT p Y K::R)):∃ Q,Sep w0 r w (Jv MN Y.dv (Y.D.map (·.1))::blk p (Xr Y K.fr K.tb)::t::Q)/\∀ w' v' q v,Sep w0 r w' (Jv MN v' (Y.D.map (·.1)++[q])::blk p (Xr { Y with dv:=v',D:=Y.D++[(q,v)] } K.fr K.tb)::Ta.UA q v Ta.FN::Q)->Sep w0 r w' (kT p { Y with dv:=v',D:=Y.D++[(q,v)] } { K with D:=K.D++[Ta.FN] }::R):=by
 have hP:=s.drop.fact
 refine⟨[nT Y.n Y.F K.S,eT Y.t Y.tv K.E,Th.tT Y.h Y.hF K.h,Ir.lnT Y.l Y.lv K.l,Jv EI Y.uv K.U,Jv Mc Y.pv (Y.P.map (·.1)),Jv Ml Y.nv (Y.N.map (·.1))]++(AE Y.P K.P++(EN Y.N K.N++Jcc Y.D K.D))++R,?_,fun _ v' q v h=>?_⟩
 ·exact(Sep.into (A:=[blk p (Xr Y K.fr K.tb),nT Y.n Y.F K.S,eT Y.t Y.tv K.E,Th.tT Y.h Y.hF K.h,Ir.lnT Y.l Y.lv K.l,Jv EI Y.uv K.U,Jv Mc Y.pv (Y.P.map (·.1)),Jv Ml Y.nv (Y.N.map (·.1))]) s.swap).perm (.cons _ (.cons _ List.perm_middle))
 ·refine Sep.shut ⟨hP.1,hP.2.1,by simp[hP.2.2]⟩ (h.perm ?_)
  have e1:Jcc (Y.D++[(q,v)]) (K.D++[Ta.FN])=Jcc Y.D K.D++[Ta.UA q v Ta.FN]:=by
   unfold Jcc
   rw[List.zipWith_append hP.2.2]
   rfl
  simp only[MY,e1,List.map_append,List.map_cons,List.map_nil,List.append_assoc]
  simp only[List.cons_append,List.nil_append]
  refine List.perm_iff_count.2 fun a=>?_
  simp only[List.count_cons,List.count_append]
  omega
theorem Sep.kB (s:Sep w0 r w (kT p Y K::R)):∃ Q,Sep w0 r w (blk p (Xr Y K.fr K.tb)::Q)/\∀ w' f t,Sep w0 r w' (blk p (Xr Y f t)::Q)->Sep w0 r w' (kT p Y { K with fr:=f,tb:=t }::R):=
 ⟨_,Sep.into (A:=[]) s,fun _ f t h=>Sep.back (A:=[]) (P':=FT Y { K with fr:=f,tb:=t }) (E:=[]) s.fact h⟩
theorem Jkm (s:Sep w0 r w (kT p Y K::R)) (x:Un.Un) (hl:K.U.length<=1000000) :
  Calls Tryz.prog 35 #[.pointer (some ⟨p,4,none⟩),.agg #[.int .u64 x.base,.int .i64 x.bits,.int .u64 x.used]] w fun e w'=>e=.returned (.int .i64 (K.U.length:Int))/\∃ v,Sep w0 r w' (kT p { Y with uv:=v } { K with U:=K.U++[x] }::R):=by
 obtain⟨Q,s1,bk⟩:=s.kU
 refine Jqa (Ji4 x s1 rfl hl) ?_
 rintro e w' ⟨rfl,v,h⟩
 exact⟨rfl,v,bk w' v _ [] h⟩
theorem J03 (s:Sep w0 r w (kT p Y K::R)) (hl:K.fr<=1000000) :
  Calls Tryz.prog 305 #[.pointer (some ⟨p,8,none⟩)] w fun e w'=>e=.returned (.int .i64 (K.fr:Int))/\Sep w0 r w' (kT p Y { K with fr:=K.fr+1 }::R):=by
 obtain⟨Q,s1,bk⟩:=s.kB
 refine Jqa (Uv (n:=K.fr) s1 rfl hl) ?_
 rintro e w' ⟨rfl,h⟩
 exact⟨rfl,bk w' _ _ h⟩
theorem J04 (s:Sep w0 r w (kT p Y K::R)) (hl:K.tb<=1000000) :
  Calls Tryz.prog 305 #[.pointer (some ⟨p,9,none⟩)] w fun e w'=>e=.returned (.int .i64 (K.tb:Int))/\Sep w0 r w' (kT p Y { K with tb:=K.tb+1 }::R):=by
 obtain⟨Q,s1,bk⟩:=s.kB
 refine Jqa (Uv (n:=K.tb) s1 rfl hl) ?_
 rintro e w' ⟨rfl,h⟩
 exact⟨rfl,bk w' _ _ h⟩
theorem Jtg {q:Nat} {v:Value} (s:Sep w0 r w (En.VE q v []::kT p Y K::R)) (hl:K.P.length<=1000000) :
  Calls Tryz.prog 301 #[.pointer (some ⟨p,5,none⟩),Je q] w fun e w'=>e=.returned (.int .i64 (K.P.length:Int))/\∃ u,Sep w0 r w' (kT p { Y with pv:=u,P:=Y.P++[(q,v)] } { K with P:=K.P++[[]] }::R):=by
 have hn:(Y.P.map (·.1)).length=K.P.length:=by rw[List.length_map];exact s.drop.fact.1
 obtain⟨Q,s1,bk⟩:=s.kPn
 refine Jqa (Ji3 q s1 rfl (by rw[hn];exact hl)) ?_
 rintro e w' ⟨rfl,u,h⟩
 rw[hn]
 exact⟨rfl,u,bk w' u q v (h.perm (.cons _ (.refl _)))⟩
theorem Jtf {q:Nat} {v:Value} (s:Sep w0 r w (No.Ed q v No.ns0::kT p Y K::R)) (hl:K.N.length<=1000000) :
  Calls Tryz.prog 303 #[.pointer (some ⟨p,6,none⟩),Je q] w fun e w'=>e=.returned (.int .i64 (K.N.length:Int))/\∃ u,Sep w0 r w' (kT p { Y with nv:=u,N:=Y.N++[(q,v)] } { K with N:=K.N++[No.ns0] }::R):=by
 have hn:(Y.N.map (·.1)).length=K.N.length:=by rw[List.length_map];exact s.drop.fact.2.1
 obtain⟨Q,s1,bk⟩:=s.kNtn
 refine Jqa (Ji2 q s1 rfl (by rw[hn];exact hl)) ?_
 rintro e w' ⟨rfl,u,h⟩
 rw[hn]
 exact⟨rfl,u,bk w' u q v (h.perm (.cons _ (.refl _)))⟩
theorem Jkl {q:Nat} {v:(Nat->Option Nat)} (s:Sep w0 r w (Ta.UA q v Ta.FN::kT p Y K::R)) (hl:K.D.length<=1000000) :
  Calls Tryz.prog 37 #[.pointer (some ⟨p,7,none⟩),Je q] w fun e w'=>e=.returned (.int .i64 (K.D.length:Int))/\∃ u,Sep w0 r w' (kT p { Y with dv:=u,D:=Y.D++[(q,v)] } { K with D:=K.D++[Ta.FN] }::R):=by
 have hn:(Y.D.map (·.1)).length=K.D.length:=by rw[List.length_map];exact s.drop.fact.2.2
 obtain⟨Q,s1,bk⟩:=s.kDsn
 refine Jqa (Ji0 q s1 rfl (by rw[hn];exact hl)) ?_
 rintro e w' ⟨rfl,u,h⟩
 rw[hn]
 exact⟨rfl,u,bk w' u q v (h.perm (.cons _ (.refl _)))⟩
theorem Jho (s:Sep w0 r w (kT p Y K::R)) (B base core:Int) (hl:K.U.length<=1000000) :
  Calls Tryz.prog 224 #[Je p,.int .i64 1,.int .i64 B,.int .u64 base,.int .i64 core] w fun e w'=>e=.returned (.int .i64 (K.U.length:Int))/\KS w0 r w' p { K with U:=K.U++[⟨base,B,0⟩] } R:=by
 skip
 have HC:=Ja (Jkm s ⟨base,B,0⟩ hl)
 clear s
 go_enter Tryz.func224,Tryz.ntmps224
 go_wp2_with (first|(go_at_call 35;refine Jqa HC.out ?_;rintro e w3 ⟨rfl,v,s3⟩;have S3:=Ja s3;clear s3)|fail)
 go_ret
 exact⟨rfl,_,S3.out⟩
theorem Jbt (s:Sep w0 r w (kT p Y K::R)) (B base core:Int) :
  Calls Tryz.prog 224 #[Je p,.int .i64 2,.int .i64 B,.int .u64 base,.int .i64 core] w fun e w'=>e=.returned (.int .i64 (Sl.JW K.S B))/\KS w0 r w' p { K with S:=Sl.Zq K.S B } R:=by
 have c:=s.k0
 have HC:=Ja (Jko s B)
 clear s
 go_enter Tryz.func224,Tryz.ntmps224
 go_wp2_with (first|(go_at_call 33;refine Jqa HC.out ?_;rintro e w3 ⟨rfl,v,s3⟩;have S3:=Ja s3;clear s3)|fail)
 go_ret
 exact⟨rfl,_,S3.out⟩
theorem EO (s:Sep w0 r w (kT p Y K::R)) (B base core:Int) :
  Calls Tryz.prog 224 #[Je p,.int .i64 3,.int .i64 B,.int .u64 base,.int .i64 core] w fun e w'=>e=.returned (.int .i64 (Th.JW K.h 0 core))/\KS w0 r w' p { K with h:=Th.JS K.h 0 core } R:=by
 have c:=s.k2
 have HC:=Ja (Jfd s 0 core)
 clear s
 go_enter Tryz.func224,Tryz.ntmps224
 go_wp2_with (first|(go_at_call 100;refine Jqa HC.out ?_;rintro e w3 ⟨rfl,v,s3⟩;have S3:=Ja s3;clear s3)|fail)
 go_ret
 exact⟨rfl,_,S3.out⟩
theorem Gz (s:Sep w0 r w (kT p Y K::R)) (B base core:Int) (hl:K.fr<=1000000) :
  Calls Tryz.prog 224 #[Je p,.int .i64 6,.int .i64 B,.int .u64 base,.int .i64 core] w fun e w'=>e=.returned (.int .i64 (K.fr:Int))/\KS w0 r w' p { K with fr:=K.fr+1 } R:=by
 have HC:=Ja (J03 s hl)
 clear s
 go_enter Tryz.func224,Tryz.ntmps224
 go_wp2_with (first|(go_at_call 305;refine Jqa HC.out ?_;rintro e w3 ⟨rfl,s3⟩;have S3:=Ja s3;clear s3)|fail)
 go_ret
 exact⟨rfl,_,S3.out⟩
theorem GA (s:Sep w0 r w (kT p Y K::R)) (B base core:Int) (hl:K.tb<=1000000) :
  Calls Tryz.prog 224 #[Je p,.int .i64 7,.int .i64 B,.int .u64 base,.int .i64 core] w fun e w'=>e=.returned (.int .i64 (K.tb:Int))/\KS w0 r w' p { K with tb:=K.tb+1 } R:=by
 have HC:=Ja (J04 s hl)
 clear s
 go_enter Tryz.func224,Tryz.ntmps224
 go_wp2_with (first|(go_at_call 305;refine Jqa HC.out ?_;rintro e w3 ⟨rfl,s3⟩;have S3:=Ja s3;clear s3)|fail)
 go_ret
 exact⟨rfl,_,S3.out⟩
theorem Jhk (s:Sep w0 r w (kT p Y K::R)) (B base core:Int) (hl:K.P.length<=1000000) :
  Calls Tryz.prog 224 #[Je p,.int .i64 4,.int .i64 B,.int .u64 base,.int .i64 core] w fun e w'=>e=.returned (.int .i64 (K.P.length:Int))/\KS w0 r w' p { K with P:=K.P++[[]] } R:=by
 have HL:=Ja hl
 have HC:=Ja (En.V8 s.drew)
 clear s hl
 go_enter Tryz.func224,Tryz.ntmps224
 go_wp2
 go_region_held3 (fun _=>True) (first|exact trivial) (first|(go_at_call 302;refine Jqa HC.out ?_;rintro e w3 ⟨q,v,rfl,s3⟩;have hS3:True:=trivial;have S3:=Ja s3;clear s3)|(go_at_call 301;refine Jqa (Jtg S3.out HL.out) ?_;rintro e w4 ⟨rfl,u,s4⟩;have hS4:True:=trivial;have S4:=Ja s4;clear s4))
 go_wp2
 go_ret
 exact⟨rfl,_,S4.out⟩
theorem Jhl (s:Sep w0 r w (kT p Y K::R)) (B base core:Int) (hl:K.N.length<=1000000) :
  Calls Tryz.prog 224 #[Je p,.int .i64 5,.int .i64 B,.int .u64 base,.int .i64 core] w fun e w'=>e=.returned (.int .i64 (K.N.length:Int))/\KS w0 r w' p { K with N:=K.N++[No.ns0] } R:=by
 have HL:=Ja hl
 have HC:=Ja (No.V8 s.drew)
 clear s hl
 go_enter Tryz.func224,Tryz.ntmps224
 go_wp2
 go_region_held3 (fun _=>True) (first|exact trivial) (first|(go_at_call 304;refine Jqa HC.out ?_;rintro e w3 ⟨q,v,rfl,s3⟩;have hS3:True:=trivial;have S3:=Ja s3;clear s3)|(go_at_call 303;refine Jqa (Jtf S3.out HL.out) ?_;rintro e w4 ⟨rfl,u,s4⟩;have hS4:True:=trivial;have S4:=Ja s4;clear s4))
 go_wp2
 go_ret
 exact⟨rfl,_,S4.out⟩
theorem Jhn (s:Sep w0 r w (kT p Y K::R)) (B base core:Int) (hl:K.D.length<=1000000) :
  Calls Tryz.prog 224 #[Je p,.int .i64 8,.int .i64 B,.int .u64 base,.int .i64 core] w fun e w'=>e=.returned (.int .i64 (K.D.length:Int))/\KS w0 r w' p { K with D:=K.D++[Ta.FN] } R:=by
 have HL:=Ja hl
 have HC:=Ja (Ta.V8 s.drew)
 clear s hl
 go_enter Tryz.func224,Tryz.ntmps224
 go_wp2
 go_region_held3 (fun _=>True) (first|exact trivial) (first|(go_at_call 38;refine Jqa HC.out ?_;rintro e w3 ⟨q,v,rfl,s3⟩;have hS3:True:=trivial;have S3:=Ja s3;clear s3)|(go_at_call 37;refine Jqa (Jkl S3.out HL.out) ?_;rintro e w4 ⟨rfl,u,s4⟩;have hS4:True:=trivial;have S4:=Ja s4;clear s4))
 go_wp2
 go_ret
 exact⟨rfl,_,S4.out⟩
theorem Sep.zUn {q:Nat} (s:Sep w0 r w R) (h:blk q (.cells #[.int .u64 0,.int .i64 0,.int .u64 0] 70)∈R):(∀ j,w.frozen? ⟨q,j,none⟩=false)/\w.cell? ⟨q,0,none⟩=some (.int .u64 0)/\w.cell? ⟨q,1,none⟩=some (.int .i64 0)/\w.cell? ⟨q,2,none⟩=some (.int .u64 0):=
 ⟨fun j=>(s.blkCell h j).2,(s.blkCell h 0).1,(s.blkCell h 1).1,(s.blkCell h 2).1⟩
theorem Sep.putUn {q:Nat} (s:Sep w0 r w (blk q (.cells #[.int .u64 0,.int .i64 0,.int .u64 0] 70)::R)) (x:Un.Un):Sep w0 r (((w.setCell ⟨q,0,none⟩ (.int .u64 x.base)).setCell ⟨q,1,none⟩ (.int .i64 x.bits)).setCell ⟨q,2,none⟩ (.int .u64 x.used)) (blk q (.cells #[.int .u64 x.base,.int .i64 x.bits,.int .u64 x.used] 70)::R):=by
 have:=((s.putB 0 (.int .u64 x.base)).putB 1 (.int .i64 x.bits)).putB 2 (.int .u64 x.used)
 simpa using this
theorem Sep.unPtr (s:Sep w0 r w (kT p Y K::R)):∃ ao cap,Y.uv=.slice ao K.U.length cap/\∀ i u,K.U[i]? = some u->∃ g,ao=some ⟨g,0,none⟩/\w.cell? ⟨g,i*3,none⟩=some (.int .u64 u.base)/\w.cell? ⟨g,i*3+1,none⟩=some (.int .i64 u.bits)/\w.cell? ⟨g,i*3+2,none⟩=some (.int .u64 u.used):=by
 obtain⟨Q,s1,-⟩:=s.kU
 obtain⟨ao,cap,hv⟩:=s1.listIs (E:=EI) (v:=Y.uv) (A:=K.U) (by simp)
 rw[hv] at s1
 refine⟨ao,cap,hv,fun i u hi=>?_⟩
 obtain⟨g,rfl,hc⟩:=s1.listAt OU (ao:=ao) (n:=K.U.length) (cap:=cap) (A:=K.U) (by simp) hi
 exact⟨g,rfl,hc 0 _ rfl,hc 1 _ rfl,hc 2 _ rfl⟩
theorem Jq5 (s:Sep w0 r w (kT p Y K::R)) {n:Int} {i:Nat} (hn:n=(i:Int)) {u:Un.Un} (hi:K.U[i]? = some u) :
  Calls Tryz.prog 26 #[Je p,.int .i64 n] w fun e w'=>e=.returned (.tuple #[.agg #[.int .u64 u.base,.int .i64 u.bits,.int .u64 u.used],.bool true])/\Sep w0 r w' (kT p Y K::R):=by
 have s1:=(s.box (.cells #[.int .u64 0,.int .i64 0,.int .u64 0] 70)).swap
 have c:=s1.k4
 obtain⟨ao,cap,hv,hp⟩:=s1.unPtr
 rw[hv] at c
 have S1:=Ja s1
 obtain⟨w1,hw⟩:∃ w1,w.alloc (.cells #[.int .u64 0,.int .i64 0,.int .u64 0] 70)=w1:=⟨_,rfl⟩
 rw[hw] at S1 c hp
 have HW:=Ja hw
 subst hn
 have hil:(i:Int)<(K.U.length:Int):=by have:=(Jqb.1 hi).1;omega
 have hnum:(decide (0<=(i:Int)) && decide ((i:Int)<(K.U.length:Int)))=true:=by simp only[Bool.and_eq_true,decide_eq_true_eq];omega
 obtain⟨g,rfl,u0,u1,u2⟩:=hp i u hi
 clear hp hi
 clear s s1 hw hv
 generalize K.U.length=z at *
 go_enter Tryz.func26,Tryz.ntmps26
 have s4:=S1.out.swap
 obtain⟨mf0,m0,m1,m2⟩:=s4.zUn (Jms)
 have s5:=s4.putUn u
 have hg:=fun j=>(s5.blkCell (Jms) j).1
 have g0:=Ja (hg 0)
 have g1:=Ja (hg 1)
 have g2:=Ja (hg 2)
 have S5:=Ja s5.drop
 clear s4 s5 hg
 try simp only[Un.zero] at *
 go_wp2_with (first|rw[HW.out]|(go_at_call 90;refine Jqa (Jlf _ _ _ _ _) ?_;rintro e w2 ⟨rfl,rfl⟩;rw[hnum])|fail)
 refine bodyPost_ret (v:=.tuple #[.agg #[.int .u64 u.base,.int .i64 u.bits,.int .u64 u.used],.bool true]) ?_ rfl ⟨rfl,S5.out⟩
 simp[results,Tryz.f26,go_sem,g0.out,g1.out,g2.out]
theorem Ef (c:Sl.Cp) (k:Int) (w:World):Calls Tryz.prog 144 #[Sl.Jg c,.int .i64 k] w fun e w'=>e=.returned (.bool (k == 0 || c.k == k))/\Below w.heap.size w w':=by
 unfold Sl.Jg
 by_cases h:k=0
 ·subst h
  go_enter Tryz.func144,Tryz.ntmps144
  go_wp2
  go_ret
  exact⟨rfl,Jb _ _⟩
 ·have h2:(k == 0)=false:=by simpa using h
  rw[h2,Bool.false_or]
  go_enter Tryz.func144,Tryz.ntmps144
  go_wp2
  go_ret
  exact⟨rfl,Jb _ _⟩
end
end
section
open Go.RowKit Go.Deep
structure Grw (w:World) where
 val:World
 bel:Below w.heap.size w val
theorem ZU {id:Nat} {Q:Exit->Act->World->Prop} {a:Act} {w:World} {l:List Oper} (hm:Tryz.prog.follows .mixedOrders=true) (hB:Region.lexB .any l.toArray=true)
  (h:wpQuiet Tryz.prog l.toArray (fun w'=>∃ p:Grw w,w'=p.val) (fun a'=>∀ w',(∃ p:Grw w,w'=p.val)->Q .normal a' w') l a):(Code.region id l.toArray true).wp Tryz.prog Q a w:=
 wp_region_quiet (C:=fun w'=>∃ p:Grw w,w'=p.val) hm hB ⟨⟨{ w with drawn:=w.drawn+1 },⟨rfl,rfl,rfl,Jqd _,fun _ _=>rfl⟩⟩,rfl⟩ (by simpa using h)
theorem Gh {f:FuncId} {args:Array Value} {w:World} {p:Grw w} {v:Value} (h:Calls Tryz.prog f args p.val fun e w'=>e=.returned v/\Below p.val.heap.size p.val w') :
  Calls Tryz.prog f args p.val fun e w''=>e=.returned v/\∃ p':Grw w,w''=p'.val:=
 h.mono fun _ w' ⟨he,hb⟩=>⟨he,⟨w',p.bel.trans (hb.mono p.bel.size)⟩,rfl⟩
theorem Grw.cell {w:World} (p:Grw w) {a:Addr} {v:Value} (hb:a.block<w.heap.size) (h:w.cell? a=some v):p.val.cell? a=some v:=(p.bel.cell (p:=a) hb).trans h
abbrev J02 (w:World):Inhabited (Grw w):=⟨⟨w,Below.refl _ _⟩⟩
section
variable {w0 w:World} {r:Nat} {R:List Th}
theorem Sep.grw (h:Sep w0 r w R) (p:Grw w):Sep w0 r p.val R:=h.below p.bel
end
end
end Go.Proofs.YtbfjjpdnoalojaaGreatDoor
