/-
  KernelErrors: a call with an error changes no capability, no memory, no page, and wakes nobody: whatever the kernel began with, whatever was done and whatever is asked, the statement's function returns true; the condition: that the three tables lie where they were laid.
-/
import Derived.Test.YtbfjjpdnoalojaaGreatDoorPa33
import Derived.Test.YtbfjjpdnoalojaaGreatDoorPxEr12
import Derived.Test.YtbfjjpdnoalojaaGreatDoorPxEr13
import Derived.Test.YtbfjjpdnoalojaaGreatDoorPxEr14
set_option maxHeartbeats 16000000
set_option maxRecDepth 100000
namespace Go.Proofs.YtbfjjpdnoalojaaGreatDoor
section
open Go.RowKit Go.Deep Go.Shelf
theorem wri {x:Int} (h1 : -9223372036854775808<=x) (h2:x<=9223372036854775807):IntKind.i64.wrap x=x:=by
 rw[IntKind.wrap_i64]
 omega
theorem wru {x:Int} (h1:0<=x) (h2:x<=1000000):IntKind.u64.wrap x=x:=by
 rw[Jci]
 unfold VI
 omega
open Classical
theorem J4m {x:Int} (h:x≠0):(x == 0)=false/\(x != 0)=true/\decide (x=0)=false:=⟨by simpa using h,by simpa using h,decide_eq_false h⟩
def J1f (U:List Un.Un) (i:Nat):Un.Un:=(U[i]?).getD ⟨0,0,0⟩
theorem J1j {w0 w:World} {r p:Nat} {Y:Ly} {K:Kr} {R:List Th} (s:Sep w0 r w (kT p Y K::R)) (i:Nat) :
  Calls Tryz.prog 26 #[Je p,.int .i64 i] w fun e w'=>∃ b,e=.returned (.tuple #[.agg #[.int .u64 (J1f K.U i).base,.int .i64 (J1f K.U i).bits,.int .u64 (J1f K.U i).used],.bool b])/\Sep w0 r w' (kT p Y K::R):=by
 by_cases h:i<K.U.length
 ·obtain⟨u,hu⟩:∃ u,K.U[i]? = some u:=⟨_,Jqc h⟩
  have hx:=Jq5 s (n:=(i:Int)) rfl hu
  unfold J1f
  rw[hu]
  exact Jqa hx fun e w' q=>⟨true,q⟩
 ·have hx:=J2c s (n:=(i:Int)) (by omega)
  unfold J1f
  rw[List.getElem?_eq_none (by omega)]
  exact Jqa hx fun e w' q=>⟨false,q⟩
def pgL (D:List Ta.Sp):List Ta.La:=match D[0]? with|some S=>Ta.Ji5 S.f|none=>[]
theorem J1o {w0 w:World} {r p:Nat} {Y:Ly} {K:Kr} {R:List Th} (s:Sep w0 r w (kT p Y K::R)) :
  Calls Tryz.prog 27 #[Je p,.int .i64 0] w fun e w'=>∃ ao cap,e=.returned (.slice ao (pgL K.D).length cap)/\Sep w0 r w' (kT p Y K::Ta.AX (.slice ao (pgL K.D).length cap) (pgL K.D)::R):=by
 unfold pgL
 cases h:K.D[0]? with
 | some S=>exact J2v s (n:=0) (i:=0) rfl h
 | none =>
  have hl:K.D.length<=0:=by rw[List.getElem?_eq_none_iff] at h;exact h
  refine Jqa (J3h s (n:=0) (by omega)) ?_
  rintro e w' ⟨rfl,s'⟩
  exact⟨none,0,rfl,(s'.nil (E:=Ta.elL)).swap⟩
theorem J4w (D:List Ta.Sp):(pgL D).length<=4096:=by
 unfold pgL
 split
 ·exact Ta.Jer _
 ·exact Jqp _
theorem J5q (w:World) (a b c:Int):(Op.equalIn 10000 70 (.agg #[.int .u64 a,.int .i64 b,.int .u64 c]) (.agg #[.int .u64 a,.int .i64 b,.int .u64 c])).run Tryz.prog w=.ok true w:=by
 rw[Js4]
 simp
theorem J52 {A:List (Sl.Sl×Sl.Cp)} {n:Nat} (hA:A.length=n) (hl:n<=10000) {V:World} {ao ao':Option Addr} (cap cap':Nat) (h:SeeC 8 Sl.Vs V ao A) (h':SeeC 8 Sl.Vs V ao' A) :
  Calls Tryz.prog 28 #[.slice ao n cap,.slice ao' n cap'] V fun e w'=>e=.returned (.bool true)/\Below V.heap.size V w':=by
 subst hA
 exact J2h V ao ao' cap cap' A h h' (by omega)
theorem J53 {A:List Tr.Sl} {n:Nat} (hA:A.length=n) (hl:n<=10000) {V:World} {ao ao':Option Addr} (cap cap':Nat) (h:SeeC 2 Tr.cS V ao A) (h':SeeC 2 Tr.cS V ao' A) :
  Calls Tryz.prog 29 #[.slice ao n cap,.slice ao' n cap'] V fun e w'=>e=.returned (.bool true)/\Below V.heap.size V w':=by
 subst hA
 exact J2i V ao ao' cap cap' A h h' (by omega)
theorem J5y {A:List Ta.La} {n:Nat} (hA:A.length=n) (hl:n<=10000) {V:World} {ao ao':Option Addr} (cap cap':Nat) (h:SeeC 3 Ta.cL V ao A) (h':SeeC 3 Ta.cL V ao' A) :
  Calls Tryz.prog 30 #[.slice ao n cap,.slice ao' n cap'] V fun e w'=>e=.returned (.bool true)/\Below V.heap.size V w':=by
 subst hA
 exact J18 V ao ao' cap cap' A h h' (by omega)
theorem J5z {w0 w:World} {r n cap:Nat} {R:List Th} {ao:Option Addr} {A:List Tr.Sl} (s:Sep w0 r w R) (hm:Tr.Joq (.slice ao n cap) A∈R):SeeC 2 Tr.cS w ao A:=by
 intro i x hx
 have rT:=show Tr.RowS w (.slice ao n cap) A from (s.each _ hm).1
 obtain⟨ao4,cap4,e4,hg4⟩:=rT.slice
 have e5:ao4=ao:=by injection e4 with q1 q2 q3;exact q1.symm
 rw[e5] at hg4
 obtain⟨g,rfl⟩:=hg4 i (Jqb.1 hx).1
 obtain⟨t0,t1⟩:=rT.cells hx
 refine⟨g,rfl,fun j c hj=>?_⟩
 match j,hj with
 | 0,hj=>cases hj;exact t0
 | 1,hj=>cases hj;exact t1
end
namespace kernelErrors
open Go.RowKit Go.Deep Go.Shelf
open Classical
theorem walk (c bi li:Int) (ao:Option Addr) (Q:List Int) (cap:Nat) (so:Option Addr) (X:List Ox) (cap2:Nat) (x:Ox) (W:World) (L:Lt W) (hQ:Ints W ao Q) (hX:Oxs W so X) (hx:OxI x) :
  Calls Tryz.prog 5 #[.agg #[.int .i64 c,.int .i64 bi,.int .i64 li,.slice ao Q.length cap],.slice so X.length cap2,.agg #[.int .i64 x.k,.int .i64 x.o,.int .i64 x.c.q,.int .i64 x.c.a,.int .i64 x.c.w,.int .i64 x.c.A,.int .i64 x.c.B,.int .i64 x.c.C]] W fun e W'=>e=.returned (.bool true)/\Below W.heap.size W W':=by
 obtain⟨V,hV⟩:∃ V,(W.alloc (.cells #[.int .i64 c,.int .i64 bi,.int .i64 li,.slice ao Q.length cap] 24)).alloc (.cells #[.int .i64 x.k,.int .i64 x.o,.int .i64 x.c.q,.int .i64 x.c.a,.int .i64 x.c.w,.int .i64 x.c.A,.int .i64 x.c.B,.int .i64 x.c.C] 38)=V:=⟨_,rfl⟩
 have b0:Below W.heap.size W V:=by
  rw[<- hV]
  exact(Jb W _).trans ((Jb _ _).mono (by simp))
 have hsz:W.heap.size<=V.heap.size:=b0.size
 have hop:V.heap[W.heap.size+1]? = some (.cells #[.int .i64 x.k,.int .i64 x.o,.int .i64 x.c.q,.int .i64 x.c.a,.int .i64 x.c.w,.int .i64 x.c.A,.int .i64 x.c.B,.int .i64 x.c.C] 38):=by
  rw[<- hV]
  have h:=blk_alloc_new (W.alloc (.cells #[.int .i64 c,.int .i64 bi,.int .i64 li,.slice ao Q.length cap] 24)) (.cells #[.int .i64 x.k,.int .i64 x.o,.int .i64 x.c.q,.int .i64 x.c.a,.int .i64 x.c.w,.int .i64 x.c.A,.int .i64 x.c.B,.int .i64 x.c.C] 38)
  simpa using h
 have sV:Sep W W.heap.size V [blk (W.heap.size+1) (.cells #[.int .i64 x.k,.int .i64 x.o,.int .i64 x.c.q,.int .i64 x.c.a,.int .i64 x.c.w,.int .i64 x.c.A,.int .i64 x.c.B,.int .i64 x.c.C] 38),blk W.heap.size (.cells #[.int .i64 c,.int .i64 bi,.int .i64 li,.slice ao Q.length cap] 24)]:=by
  rw[<- hV]
  have h:=((GL W).box (.cells #[.int .i64 c,.int .i64 bi,.int .i64 li,.slice ao Q.length cap] 24)).box (.cells #[.int .i64 x.k,.int .i64 x.o,.int .i64 x.c.q,.int .i64 x.c.a,.int .i64 x.c.w,.int .i64 x.c.A,.int .i64 x.c.B,.int .i64 x.c.C] 38)
  have a1:∀ (u:World) (o:Obj),(u.alloc o).heap.size=u.heap.size+1:=fun u o=>by simp
  rw[a1] at h
  exact h
 have e0:=(sV.blkCell (p:=W.heap.size) (Jmc Jms) 0).1
 have e1:=(sV.blkCell (p:=W.heap.size) (Jmc Jms) 1).1
 have e2:=(sV.blkCell (p:=W.heap.size) (Jmc Jms) 2).1
 have e3:=(sV.blkCell (p:=W.heap.size) (Jmc Jms) 3).1
 have hlt:W.heap.size+1<V.heap.size:=by
  rw[<- hV]
  simp
 have hB:=J2y V (L.below b0) c bi li ao Q cap (SeeK.below hQ b0 (Jqd _)) so X cap2 (SeeK.below hX b0 (Jqd _))
 have HB:=Ja hB
 have B0:=Ja b0
 have HL:=Ja (L.below b0)
 have HOP:Hid (∀ (u:World) (R:List Th),Sep V V.heap.size u R->u.cell? ⟨W.heap.size+1,1,none⟩=some (.int .i64 x.o)/\u.cell? ⟨W.heap.size+1,2,none⟩=some (.int .i64 x.c.q)/\u.cell? ⟨W.heap.size+1,3,none⟩=some (.int .i64 x.c.a)/\u.cell? ⟨W.heap.size+1,4,none⟩=some (.int .i64 x.c.w)/\u.cell? ⟨W.heap.size+1,5,none⟩=some (.int .i64 x.c.A)/\u.cell? ⟨W.heap.size+1,6,none⟩=some (.int .i64 x.c.B)/\u.cell? ⟨W.heap.size+1,7,none⟩=some (.int .i64 x.c.C)):=fun u R s=>by
  have h:u.heap[W.heap.size+1]? = some (.cells #[.int .i64 x.k,.int .i64 x.o,.int .i64 x.c.q,.int .i64 x.c.a,.int .i64 x.c.w,.int .i64 x.c.A,.int .i64 x.c.B,.int .i64 x.c.C] 38):=by rw[s.low.block _ hlt];exact hop
  refine⟨?_,?_,?_,?_,?_,?_,?_⟩<;>simp[World.cell?,h]
 have HX:=Ja hx
 have HQ:=Ja b0
 clear hB hQ hX L b0 hx hop hlt sV
 generalize X.length=z at *
 go_enter Tryz.func5,Tryz.ntmps5
 go_wp2_with (first
  | (go_at_call 24;refine Jqa HB.out ?_;rintro e w1 ⟨p,rfl,n,K,Y,-,kv,s1⟩;have S1:=Ja s1;have KV:=Ja kv;clear s1 kv)
  | (go_at_call 23;refine Jqa (Jv8 S1.out) ?_;rintro e w2 ⟨a2,c2,rfl,s2⟩;have S2:=Ja s2;clear s2 S1)
  | (go_at_call 25;refine Jqa (J10 S2.out (Jql (IX KV.out.v.ts) (by decide))) ?_;rintro e w3 ⟨a3,c3,rfl,s3⟩;have hln:(Tr.JA K.E).length=(Sl.JX K.S).length:=(by have h:=(J1s KV.out.v.ts).length_eq;rw[List.length_map] at h;exact h.symm);rw[hln] at s3 ⊢;have S3:=Ja (s3.made (E:=EI));have HLN:=Ja hln;clear s3 S2 hln)
  | fail)
 have h64:(Sl.JX K.S).length<=64:=by rw[J3w KV.out.v.ts];exact IX KV.out.v.ts
 obtain⟨H,hH⟩:∃ H,Sl.JX K.S=H:=⟨_,rfl⟩
 obtain⟨T,hT⟩:∃ T,Tr.JA K.E=T:=⟨_,rfl⟩
 obtain⟨U,hU⟩:∃ U,K.U=U:=⟨_,rfl⟩
 obtain⟨P,hP⟩:∃ P,pgL K.D=P:=⟨_,rfl⟩
 obtain⟨m,hm⟩:∃ m,H.length=m:=⟨_,rfl⟩
 obtain⟨PL,hPL⟩:∃ m,P.length=m:=⟨_,rfl⟩
 have hP4:PL<=4096:=by rw[<- hPL,<- hP];exact J4w _
 rw[hH,hT] at HLN
 rw[hH,hT] at S3
 simp only[hH,hm] at S3 HLN h64 ⊢
 have HH:=Ja hH
 have HT:=Ja hT
 have HUU:=Ja hU
 have HPP:=Ja hP
 have HM:=Ja hm
 have HPL:=Ja hPL
 have H64:=Ja h64
 have H4:=Ja hP4
 have HU:Hid (∀ (i:Nat) (u:World) (Y:Ly) (R:List Th),Sep V V.heap.size u (kT p Y K::R)->Calls Tryz.prog 26 #[Je p,.int .i64 i] u fun e w'=>∃ b,e=.returned (.tuple #[.agg #[.int .u64 (J1f U i).base,.int .i64 (J1f U i).bits,.int .u64 (J1f U i).used],.bool b])/\Sep V V.heap.size w' (kT p Y K::R)):=fun i u Y R s=>by
  have h:=J1j s i
  rw[HUU.out] at h
  exact h
 have HPa:Hid (∀ (u:World) (Y:Ly) (R:List Th),Sep V V.heap.size u (kT p Y K::R)->Calls Tryz.prog 27 #[Je p,.int .i64 0] u fun e w'=>∃ ao cap,e=.returned (.slice ao PL cap)/\Sep V V.heap.size w' (kT p Y K::Ta.AX (.slice ao PL cap) P::R)):=fun u Y R s=>by
  have h:=J1o s
  rw[HPP.out,HPL.out] at h
  exact h
 clear hH hT hU hP hm hPL h64 hP4 HB
 go_loopw [10,11] (fun s10 s11 wr=>∃ i:Nat,i<=20/\s11=.int .i64 i/\Sep V V.heap.size wr [Jv EI s10 ((List.range i).map (J1f U)),kT p Y K,Tr.Joq (.slice a3 m c3) T,Jv elH (.slice a2 m c2) H]) (fun _ s11 _=>20 - (intOf s11).toNat)
 case atStart=>exact⟨0,Jqp _,rfl,S3.out⟩
 case round =>
  clear S3
  obtain⟨i,hi,rfl,s1⟩:=hrel
  have hul:((List.range i).map (J1f U)).length=i:=by simp
  obtain⟨a10,c10,rfl⟩:=s1.listIs (E:=EI) (v:=u10) (A:=((List.range i).map (J1f U))) (by simp)
  rw[hul] at s1 ⊢
  have S1:=Ja s1
  have HUL:=Ja hul
  clear s1 hul
  by_cases hlt:i<20
  ·have hltz:(i:Int)<20:=by omega
   obtain⟨ui,hui⟩:∃ u,J1f U i=u:=⟨_,rfl⟩
   have HUr:=HU.out i
   rw[hui] at HUr
   have HUR:=Ja HUr
   have HUI:=Ja hui
   clear HUr hui
   go_wp2_with (first
    | (go_at_call 26;refine Jqa (HUR.out _ _ _ S1.out.swap) ?_;rintro e w2 ⟨b2,rfl,s2⟩;have s3:=(s2.swap.box (.cells #[.int .u64 ui.base,.int .i64 ui.bits,.int .u64 ui.used] 70)).swap;(obtain⟨v7,w7,r7,s7⟩:=s3.more OU 52 ui (C:=#[.int .u64 ui.base,.int .i64 ui.bits,.int .u64 ui.used]) rfl (by rw[HUL.out];omega));rw[show(w2.alloc (.cells #[.int .u64 ui.base,.int .i64 ui.bits,.int .u64 ui.used] 70)).heap.size=w2.heap.size+1 by simp] at r7;simp only[EI] at r7;have R7:=Ja r7;have S7:=Ja s7.drop2;clear s2 s3 r7 s7)
    | (at_builtin;refine Jd rfl _ _ _ _ rfl _ _ _ _ rfl rfl R7.out ?_)
    | fail)
   refine⟨⟨i+1,by omega,by go_num,?_⟩,?_⟩
   ·rw[List.range_succ,List.map_append,List.map_singleton,HUI.out]
    exact S7.out
   ·simp[intOf];omega
  ·obtain rfl:i=20:=by omega
   have hltz:¬ (((20:Nat):Int)<20):=by omega
   have hAt:∀ k,k<20->((List.range 20).map (J1f U))[k]? = some (J1f U k):=fun k hk=>by
    rw[List.getElem?_map,List.getElem?_range hk]
    rfl
   generalize((List.range 20).map (J1f U))=A at *
   have HAT:=Ja hAt
   obtain⟨⟨K',t⟩,hX⟩:∃ y,doK K x.o x.c=y:=⟨_,rfl⟩
   obtain⟨te,tw,tk,tf⟩:=t
   have hD:=fun (u:World) (Y:Ly) (R:List Th) (s:Sep V V.heap.size u (kT p Y K::R))=>J2e s HL.out KV.out (by decide) x.o (c:=x.c) ⟨HX.out.2.2.2.2.1,HX.out.2.2.2.2.2.1,HX.out.2.2.2.2.2.2.1,HX.out.2.2.2.2.2.2.2,J2r _⟩ (e:=te) (x:=tw) (k:=tk) (f:=tf) hX
   have kv':=KV.out.call (by decide) HX.out.2.2.2.2.2.2.1 hX
   have hE:=J5b (K:=K) (core:=x.o) (c:=x.c)
   rw[hX] at hE
   have HD:=Ja hD
   have HE:=Ja hE
   have KV':=Ja kv'
   clear hD hE kv' hX hAt
   by_cases hte:te=0
   ·subst hte
    go_wp2_with (first
     | (go_at_call 27;refine Jqa (HPa.out _ _ _ S1.out.swap) ?_;rintro e w4 ⟨a5,c5,rfl,s4⟩;(obtain⟨d1,d2,d3,d4,d5,d6,d7⟩:=HOP.out _ _ s4);have S4:=Ja s4;clear s4)
     | (go_at_call 13;refine Jqa (HD.out _ _ _ S4.out) ?_;rintro r5 w5 ⟨a6,c6,Y5,rfl,s5⟩;have f0:=(((s5.drop2.box (.cells #[.int .i64 0,.int .u64 tw,.int .i64 tk,.slice a6 tf.length c6] 42)).swap).blkCell (p:=w5.heap.size) (Jmc Jms) 0).1;have S5:=Ja ((s5.drop2.box (.cells #[.int .i64 0,.int .u64 tw,.int .i64 tk,.slice a6 tf.length c6] 42)).swap);clear s5)
     | (go_at_call 21;refine Jqa (J1r _ (HL.out.below S5.out.low)) ?_;rintro e w9 ⟨rfl,b9⟩;have B9:=Ja (S5.out.below b9).low;clear b9)
     | fail)
    go_ret
    exact⟨rfl,B0.out.trans (B9.out.mono B0.out.size)⟩
   ·obtain⟨cm,ED⟩:=HE.out hte
    obtain⟨h1,h2,h3⟩:=J4m hte
    have hw0:tw=0:=ED.1
    have hk0:tk = -1:=ED.2.1
    have hf0:tf=[]:=ED.2.2
    subst hw0 hk0 hf0
    have HTE:=Ja hte
    have CM:=Ja cm
    have hD0:=HD.out
    simp only[List.length_nil] at hD0
    have HD0:=Ja hD0
    clear hte cm ED HE HD hD0
    go_wp2_with (first
     | (go_at_call 27;refine Jqa (HPa.out _ _ _ S1.out.swap) ?_;rintro e w4 ⟨a5,c5,rfl,s4⟩;(obtain⟨d1,d2,d3,d4,d5,d6,d7⟩:=HOP.out _ _ s4);have S4:=Ja s4;clear s4)
     | (go_at_call 13;refine Jqa (HD0.out _ _ _ S4.out) ?_;rintro r5 w5 ⟨a6,c6,Y5,rfl,s5⟩;have f0:=(((s5.drop2.box (.cells #[.int .i64 te,.int .u64 0,.int .i64 (-1),.slice a6 0 c6] 42)).swap).blkCell (p:=w5.heap.size) (Jmc Jms) 0).1;have S5:=Ja ((s5.drop2.box (.cells #[.int .i64 te,.int .u64 0,.int .i64 (-1),.slice a6 0 c6] 42)).swap);clear s5)
     | fail)
    have HU2:Hid (∀ (i:Nat) (u:World) (Y:Ly) (R:List Th),Sep V V.heap.size u (kT p Y K'::R)->Calls Tryz.prog 26 #[Je p,.int .i64 i] u fun e w'=>∃ b,e=.returned (.tuple #[.agg #[.int .u64 (J1f U i).base,.int .i64 (J1f U i).bits,.int .u64 (J1f U i).used],.bool b])/\Sep V V.heap.size w' (kT p Y K'::R)):=fun i u Y R s=>by
     have h:=J1j s i
     rw[CM.out.U,HUU.out] at h
     exact h
    have HH2:Hid (∀ (u:World) (Y:Ly) (R:List Th),Sep V V.heap.size u (kT p Y K'::R)->Calls Tryz.prog 23 #[Je p] u fun e w'=>∃ ao cap,e=.returned (.slice ao m cap)/\Sep V V.heap.size w' (kT p Y K'::Jv elH (.slice ao m cap) H::R)):=fun u Y R s=>by
     have h:=Jv8 s
     rw[CM.out.S,HH.out,HM.out] at h
     exact h
    have HT2:Hid (∀ (u:World) (Y:Ly) (R:List Th),Sep V V.heap.size u (kT p Y K'::R)->Calls Tryz.prog 25 #[Je p] u fun e w'=>∃ ao cap,e=.returned (.slice ao m cap)/\Sep V V.heap.size w' (kT p Y K'::Tr.Joq (.slice ao m cap) T::R)):=fun u Y R s=>by
     have h:=J10 s (Jql (IX KV'.out.v.ts) (by decide))
     rw[CM.out.E,HT.out,HLN.out] at h
     exact h
    have HP2:Hid (∀ (u:World) (Y:Ly) (R:List Th),Sep V V.heap.size u (kT p Y K'::R)->Calls Tryz.prog 27 #[Je p,.int .i64 0] u fun e w'=>∃ ao cap,e=.returned (.slice ao PL cap)/\Sep V V.heap.size w' (kT p Y K'::Ta.AX (.slice ao PL cap) P::R)):=fun u Y R s=>by
     have h:=J1o s
     rw[CM.out.D,HPP.out,HPL.out] at h
     exact h
    generalize hq5:w5.heap.size=q5 at *
    clear hq5 S4 S1 d1 d2 d3 d4 d5 d6 d7 e0 e1 e2 e3 f0
    go_loopw [16] (fun s16 wr=>∃ i:Nat,i<=20/\s16=.int .i64 i/\Sep V V.heap.size wr [kT p Y5 K',blk q5 (.cells #[.int .i64 te,.int .u64 0,.int .i64 (-1),.slice a6 0 c6] 42),Ta.AX (.slice a5 PL c5) P,Jv EI (.slice a10 20 c10) A,Tr.Joq (.slice a3 m c3) T,Jv elH (.slice a2 m c2) H]) (fun s16 _=>20 - (intOf s16).toNat)
    case atStart=>exact⟨0,Jqp _,rfl,S5.out⟩
    case round =>
     clear S5
     obtain⟨i,hi,rfl,s1⟩:=hrel
     have S1:=Ja s1
     clear s1
     by_cases hlt:i<20
     ·have hltz:(i:Int)<20:=by omega
      have hAi:=HAT.out i hlt
      obtain⟨ui,hui⟩:∃ u,J1f U i=u:=⟨_,rfl⟩
      have HUr:=HU2.out i
      rw[hui] at HUr hAi
      have HUR:=Ja HUr
      have HAI:=Ja hAi
      have he:=fun u=>J5q u ui.base ui.bits ui.used
      clear HUr hui hAi
      go_wp2_with (first
       | (go_at_call 26;refine Jqa (HUR.out _ _ _ S1.out) ?_;rintro e w2 ⟨b2,rfl,s2⟩;have s3:=(s2.box (.cells #[.int .u64 ui.base,.int .i64 ui.bits,.int .u64 ui.used] 70)).drop;(obtain⟨g10,rfl,hc⟩:=s3.listAt OU (ao:=a10) (n:=20) (cap:=c10) (A:=A) mm3 HAI.out);have d0:=hc 0 _ rfl;have d1:=hc 1 _ rfl;have d2:=hc 2 _ rfl;simp only[EI,Nat.add_zero] at d0 d1 d2;have S3:=Ja s3;clear s2 s3 hc)
       | fail)
      go_quiet (fail)
      go_wp2
      go_round
      case rel=>exact⟨i+1,by omega,by go_num,S3.out.drewN _⟩
      case measure=>simp[intOf];omega
     ·obtain rfl:i=20:=by omega
      have hltz:¬ (((20:Nat):Int)<20):=by omega
      go_wp2_with (first
       | (go_at_call 23;refine Jqa (HH2.out _ _ _ S1.out) ?_;rintro e w2 ⟨b2,k2,rfl,s2⟩;have S2:=Ja s2;clear s2)
       | (go_at_call 28;refine Jqa (J52 HM.out (by have:=H64.out;omega) _ _ (SeeC.of okH S2.out mm1) (SeeC.of okH S2.out mm6)) ?_;rintro e w3 ⟨rfl,b3⟩;have S3:=Ja (S2.out.below b3);clear b3)
       | (go_at_call 25;refine Jqa (HT2.out _ _ _ S3.out) ?_;rintro e w4 ⟨b4,k4,rfl,s4⟩;have S4:=Ja s4;clear s4)
       | (go_at_call 29;refine Jqa (J53 HLN.out (by have:=H64.out;omega) _ _ (J5z S4.out mm1) (J5z S4.out mm6)) ?_;rintro e w5 ⟨rfl,b5⟩;have S5:=Ja (S4.out.below b5);clear b5)
       | (go_at_call 27;refine Jqa (HP2.out _ _ _ S5.out) ?_;rintro e w6 ⟨b6,k6,rfl,s6⟩;have S6:=Ja s6;clear s6)
       | (go_at_call 30;refine Jqa (J5y HPL.out (by have:=H4.out;omega) _ _ (SeeC.of Ta.okL S6.out mm1) (SeeC.of Ta.okL S6.out mm5)) ?_;rintro e w7 ⟨rfl,b7⟩;have s7:=S6.out.below b7;have f1:=(s7.blkCell (p:=q5) mm4 1).1;have f2:=(s7.blkCell (p:=q5) mm4 2).1;have f3:=(s7.blkCell (p:=q5) mm4 3).1;have S7:=Ja s7;clear b7 s7)
       | (go_at_call 21;refine Jqa (J1r _ (HL.out.below S7.out.low)) ?_;rintro e w9 ⟨rfl,b9⟩;have B9:=Ja (S7.out.below b9).low;clear b9)
       | fail)
      go_ret
      exact⟨rfl,B0.out.trans (B9.out.mono B0.out.size)⟩
open Go.ChangeShapes Go.WideShapes Go.ChangeAt Go.Joins
theorem contract (H:Type) (enc:TypeId×Value->H) (W:World) (base:Nat) (args:Array Value) (ds gs:List (DataW H)) (before:List MemPlace)
  (hval:∀ (j:Nat) t v,Tryz.f5.params[j]? = some t->args[j]? = some v->Value.okWide Tryz.prog W .any base t v)
  (hW:DataW.Whole enc Tryz.prog Tryz.f5.params.toList Rows.kernelErrorsSpec.vars false W args.toList ds gs before) (hL:laidMetH Tryz.prog Rows.kernelErrorsRow.laid W) :
  Calls Tryz.prog 5 args W fun e W'=>∃ v,e=.returned v/\Rows.kernelErrorsSpec.post enc Tryz.prog Tryz.f5 false true false false W args v W':=by
 have hW':=hW
 obtain⟨p,q,hA0,hV,rfl,hfz,hnd⟩:=hW
 have hA:DataW.TrodAll enc Tryz.prog W 0 (fun _=>true) true Tryz.f5.params.toList args.toList ds p:=hA0
 rw[Tryz.params5] at hA hval
 obtain⟨v0,vs0,d0,ds0,p0,q0,hargs,rfl,rfl,h0,r0⟩:=trodAll_cons hA
 obtain⟨v1,vs1,d1,ds1,p1,q1,rfl,rfl,rfl,h1,r1⟩:=trodAll_cons r0
 obtain⟨v2,vs2,d2,ds2,p2,q2,rfl,rfl,rfl,h2,r2⟩:=trodAll_cons r1
 obtain⟨rfl,rfl,rfl⟩:=trodAll_nil r2
 obtain rfl:args=#[v0,v1,v2]:=by cases args;simp_all
 obtain⟨rfl,rfl⟩:=trodVars_none hV
 have k0:=h0
 have lt0:∀ x∈p0,x.block<W.heap.size:=by obtain⟨m,hm⟩:=k0;exact DataW.trod_lt m _ _ _ hm
 have k1:=h1
 have lt1:∀ x∈p1,x.block<W.heap.size:=by obtain⟨m,hm⟩:=k1;exact DataW.trod_lt m _ _ _ hm
 have k2:=h2
 have lt2:∀ x∈p2,x.block<W.heap.size:=by obtain⟨m,hm⟩:=k2;exact DataW.trod_lt m _ _ _ hm
 obtain⟨a0x,a0y,a0z,a0,l0,c0,rfl,u0,w0,t0,s0,b0⟩:=J15 (hval 0 24 v0 rfl rfl) h0
 obtain⟨a1,l1,c1,rfl,s1,b1⟩:=J2g (hval 1 25 v1 rfl rfl) h1
 obtain⟨a2,rfl,w2⟩:=J23 (hval 2 38 v2 rfl rfl) h2
 clear hA0
 refine(walk a0x a0y a0z a0 l0 c0 a1 l1 c1 a2 W (J08 hL) s0 s1 w2).mono fun e W' ⟨he,bel⟩=>?_
 subst he
 exact⟨_,rfl,_,_,_,[],_,[],hW',trodAll_mk1 (shut_bool Tryz.underlying4 _),(trodAll_cons_mk (Below.trod Jol (by kernel_rfl) (of_decide_eq_true (by kernel_rfl)) k0 bel lt0) (trodAll_cons_mk (Below.trod Jol (by kernel_rfl) (of_decide_eq_true (by kernel_rfl)) k1 bel lt1) (trodAll_cons_mk (Below.trod Jol (by kernel_rfl) (of_decide_eq_true (by kernel_rfl)) k2 bel lt2) trodAll_mk0))),rfl,bel.frame _,fun h=>by cases h⟩
theorem laid_met (os:Os):laidMet Tryz.prog Rows.kernelErrorsRow.laid ((World.doorLaid Tryz.prog 40 os).forCall (fun _ _=>0) ⟨#[],#[.agg #[.int .i64 0,.int .i64 0,.int .i64 0,.slice none 0 0],.slice none 0 0,.agg #[.int .i64 0,.int .i64 0,.int .i64 0,.int .i64 0,.int .i64 0,.int .i64 0,.int .i64 0,.int .i64 0]],[]⟩).memory:=
 laidMet_of_run' 8 (by kernel_rfl) (by kernel_rfl)
theorem reads (os:Os) {H:Type} (enc:TypeId×Value->H):∃ places,DataW.whole enc Tryz.prog ((World.doorLaid Tryz.prog 40 os).forCall (fun _ _=>0) ⟨#[],#[.agg #[.int .i64 0,.int .i64 0,.int .i64 0,.slice none 0 0],.slice none 0 0,.agg #[.int .i64 0,.int .i64 0,.int .i64 0,.int .i64 0,.int .i64 0,.int .i64 0,.int .i64 0,.int .i64 0]],[]⟩).memory Tryz.f5.params.toList Rows.kernelErrorsSpec.vars false (#[.agg #[.int .i64 0,.int .i64 0,.int .i64 0,.slice none 0 0],.slice none 0 0,.agg #[.int .i64 0,.int .i64 0,.int .i64 0,.int .i64 0,.int .i64 0,.int .i64 0,.int .i64 0,.int .i64 0]]:Array Value).toList 8=some ([.agg [.lit (.int .i64 0),.lit (.int .i64 0),.lit (.int .i64 0),.nil],.nil,.agg [.lit (.int .i64 0),.lit (.int .i64 0),.agg [.lit (.int .i64 0),.lit (.int .i64 0),.lit (.int .i64 0),.lit (.int .i64 0),.lit (.int .i64 0),.lit (.int .i64 0)]]],[],places):=
 ⟨[],by kernel_rfl⟩
theorem lifted (os:Os) (started:os.Started) (H:Type) (enc:TypeId×Value->H) (F:Stop.Interp) :
  ReturnsInHanded {} Tryz.checked os 5 .any ((OpenSpec.ofChange Rows.kernelErrorsSpec).preRow enc Tryz.prog Tryz.f5 Rows.kernelErrorsRow.domain false Rows.kernelErrorsRow.laid) (((OpenSpec.ofChange Rows.kernelErrorsSpec).at F).post enc Tryz.prog Tryz.f5 false true false false):=by
 obtain⟨places,hx⟩:=reads os enc
 refine returnsInHanded_of_row (C:=Tryz.checked) (s:=OpenSpec.ofChange Rows.kernelErrorsSpec) J51 started (by kernel_rfl) Tryz.func5
  (witness_row_at (enc:=enc) (C:=Tryz.checked) false (World.doorLaid Tryz.prog 40 os) #[.agg #[.int .i64 0,.int .i64 0,.int .i64 0,.slice none 0 0],.slice none 0 0,.agg #[.int .i64 0,.int .i64 0,.int .i64 0,.int .i64 0,.int .i64 0,.int .i64 0,.int .i64 0,.int .i64 0]] rfl (by kernel_rfl) (by kernel_rfl) (by kernel_rfl)
   (OpenSpec.preRow_of_cond 8 hx (by kernel_rfl) (fun k hk=>by cases hk) (by kernel_rfl) (laid_met os))) ?_
 intro W base args ds gs before hval hW _ _ _ hL _ _
 exact contract H enc W base args ds gs before hval hW hL
theorem said:Rows.KernelErrorsSaid:=
 OpenClaim.holds_of_cond 5 Tryz.f5 rfl rfl rfl rfl rfl rfl rfl ⟨rfl,rfl,rfl,rfl,rfl⟩ rfl rfl rfl rfl rfl (by kernel_rfl) Tryz.func5 joined
  (of_decide_eq_true (by kernel_rfl)) (by unfold Func.isWrapper;first|(rw[if_pos (by decide +kernel)];kernel_rfl)|(rw[if_neg (by decide +kernel)];exact⟨rfl,rfl⟩))
  (fun os started H enc _ F=>by rw[OpenClaim.pre_eq_preRow];exact lifted os started H enc F)
theorem plain (f:FuncId) (fn:Func) (hf:Tryz.pinned.checked.prog.funcNamed "buttress/buttresslaw18.KernelErrors" = some f) (hfn:Tryz.pinned.checked.prog.funcs[f]? = some fn) :
  true=Tryz.pinned.checked.prog.looks []/\∀ (j:Nat) t,fn.params[j]? = some t->Tryz.pinned.checked.prog.wantsStandIn t=false:=by
 obtain rfl:f=5:=Jqz ((show Tryz.prog.funcNamed "buttress/buttresslaw18.KernelErrors" = some 5 by kernel_rfl).symm.trans hf) |>.symm
 obtain rfl:fn=Tryz.f5:=(Jqz (Tryz.func5.symm.trans hfn)).symm
 refine⟨by kernel_rfl,fun j t ht=>?_⟩
 rw[Tryz.params5] at ht
 have hm:t∈[24,25,38]:=by simpa using Array.mem_of_getElem? ht
 have hall:([24,25,38].all fun u => !Tryz.prog.wantsStandIn u)=true:=by kernel_rfl
 exact(show Tryz.prog.wantsStandIn t=false by simpa using List.all_eq_true.1 hall t hm)
end kernelErrors
section
theorem kernelErrors_card:Rows.KernelErrorsCardSaid:=
 Claim7.holds_tied_plain_at .later [] _ _ _ _ kernelErrors.said (fun _ h=>by cases h) (by kernel_rfl) (fun _ h=>by cases h) kernelErrors_row_tie rfl ⟨rfl,rfl⟩ (by kernel_rfl) rfl kernelErrors.plain kernelErrors.goes
end
end Go.Proofs.YtbfjjpdnoalojaaGreatDoor
