/-
  KernelRevokes: what is revoked has nothing under it; all that was there, and not under it, is there still, as it was: whatever the kernel began with and whatever was done, the statement's function returns true; the condition: that the three tables lie where they were laid.
-/
import Derived.Test.YtbfjjpdnoalojaaGreatDoorPa33
import Derived.Test.YtbfjjpdnoalojaaGreatDoorPxRe11
import Derived.Test.YtbfjjpdnoalojaaGreatDoorPxRe12
import Derived.Test.YtbfjjpdnoalojaaGreatDoorPxRe13
set_option maxHeartbeats 16000000
set_option maxRecDepth 100000
namespace Go.Proofs.YtbfjjpdnoalojaaGreatDoor
section
open Go.RowKit Go.Deep Go.Shelf
theorem wri {x:Int} (h1 : -9223372036854775808<=x) (h2:x<=9223372036854775807):IntKind.i64.wrap x=x:=by
 rw[IntKind.wrap_i64]
 omega
theorem wru {x:Int} (h1:0<=x) (h2:x<=1000000):IntKind.u64.wrap x=x:=by
 rw[Jci]
 unfold VI
 omega
theorem sm (x:Int) (h:(decide (0<=x) && decide (x<=1000))=true):VC x:=by
 rw[Bool.and_eq_true,decide_eq_true_eq,decide_eq_true_eq] at h
 exact small x h
open Classical
theorem J2u {x:Int} (h:x≠0):(x == 0)=false/\(x != 0)=true/\decide (x=0)=false:=⟨by simpa using h,by simpa using h,decide_eq_false h⟩
theorem J4b {A:List (Sl.Sl×Sl.Cp)} {n:Nat} (hA:A.length=n) (hl:n<=1000) {V:World} {ao ao':Option Addr} (cap cap':Nat) (h:SeeC 8 Sl.Vs V ao A) (h':SeeC 8 Sl.Vs V ao' A) :
  Calls Tryz.prog 28 #[.slice ao n cap,.slice ao' n cap'] V fun e w'=>e=.returned (.bool true)/\Below V.heap.size V w':=by
 subst hA
 exact J2l V ao ao' cap cap' A h h' (by omega)
theorem J2h (w:World) {x y:Sl.Sl×Sl.Cp} (h:x≠y):(Op.equalIn 10000 84 (.agg #[.int .i64 x.1.n,.int .i64 x.1.i,.int .i64 x.2.k,.int .i64 x.2.o,.int .i64 x.2.r,.int .u64 x.2.b,.int .u64 x.2.g,.int .i64 x.2.z]) (.agg #[.int .i64 y.1.n,.int .i64 y.1.i,.int .i64 y.2.k,.int .i64 y.2.o,.int .i64 y.2.r,.int .u64 y.2.b,.int .u64 y.2.g,.int .i64 y.2.z])).run Tryz.prog w=.ok false w:=by
 rw[J16]
 congr 1
 obtain⟨⟨n,i⟩,⟨k,o,r,b,g,z⟩⟩:=x
 obtain⟨⟨n',i'⟩,⟨k',o',r',b',g',z'⟩⟩:=y
 rw[Bool.and_eq_false_iff,decide_eq_false_iff_not,decide_eq_false_iff_not]
 by_cases h1:n=n'/\i=i'
 ·right
  rintro⟨rfl,rfl,rfl,rfl,rfl,rfl⟩
  obtain⟨rfl,rfl⟩:=h1
  exact h rfl
 ·exact .inl h1
theorem J1i {w0 w:World} {r n cap:Nat} {R:List Th} {ao:Option Addr} {A:List (Sl.Sl×Sl.Cp)} (s:Sep w0 r w R) (hm:Jv elH (.slice ao n cap) A∈R) {k:Nat} {x:Sl.Sl×Sl.Cp} (hk:A[k]? = some x) :
  ∃ g,ao=some ⟨g,0,none⟩/\w.cell? ⟨g,k*8,none⟩=some (.int .i64 x.1.n)/\w.cell? ⟨g,k*8+1,none⟩=some (.int .i64 x.1.i)/\w.cell? ⟨g,k*8+2,none⟩=some (.int .i64 x.2.k)/\w.cell? ⟨g,k*8+3,none⟩=some (.int .i64 x.2.o)/\w.cell? ⟨g,k*8+4,none⟩=some (.int .i64 x.2.r)/\w.cell? ⟨g,k*8+5,none⟩=some (.int .u64 x.2.b)/\w.cell? ⟨g,k*8+6,none⟩=some (.int .u64 x.2.g)/\w.cell? ⟨g,k*8+7,none⟩=some (.int .i64 x.2.z):=by
 obtain⟨g,e,h⟩:=s.listAt okH hm hk
 exact⟨g,e,h 0 _ rfl,h 1 _ rfl,h 2 _ rfl,h 3 _ rfl,h 4 _ rfl,h 5 _ rfl,h 6 _ rfl,h 7 _ rfl⟩
end
namespace kernelRevokes
open Go.RowKit Go.Deep Go.Shelf
open Classical
theorem walk (c bi li:Int) (ao:Option Addr) (Q:List Int) (cap:Nat) (so:Option Addr) (X:List Ox) (cap2:Nat) (at_:Int) (W:World) (L:Lt W) (hQ:Ints W ao Q) (hX:Oxs W so X) (_hat : -9223372036854775808<=at_/\at_<=9223372036854775807) :
  Calls Tryz.prog 6 #[.agg #[.int .i64 c,.int .i64 bi,.int .i64 li,.slice ao Q.length cap],.slice so X.length cap2,.int .i64 at_] W fun e W'=>e=.returned (.bool true)/\Below W.heap.size W W':=by
 have b0:=Jb W (.cells #[.int .i64 c,.int .i64 bi,.int .i64 li,.slice ao Q.length cap] 24)
 have hB:=J25 _ (L.below b0) c bi li ao Q cap (SeeK.below hQ b0 (Jqd _)) so X cap2 (SeeK.below hX b0 (Jqd _))
 have HB:=Ja hB
 have B0:=Ja b0
 have HL:=Ja L
 obtain⟨a,ha,hab⟩:=J5k at_
 have HA:=Ja ha
 clear hB hQ hX L b0 ha
 generalize X.length=z at *
 go_enter Tryz.func6,Tryz.ntmps6
 go_wp2_with (first
  | (go_at_call 24;refine Jqa HB.out ?_;rintro e w1 ⟨p,rfl,n,K,Y,-,kv,s1⟩;have S1:=Ja (s1.base B0.out B0.out.size);have KV:=Ja kv;clear s1 kv)
  | (go_at_call 23;refine Jqa (Jv8 S1.out) ?_;rintro e w2 ⟨a2,c2,rfl,s2⟩;have S2:=Ja s2;clear s2 S1)
  | fail)
 obtain⟨⟨K',t⟩,hX⟩:∃ x,doK K 0 ⟨4,(a:Int),0,0,0,0⟩=x:=⟨_,rfl⟩
 have hD:=J14 S2.out HL.out KV.out (by decide) 0 (c:=⟨4,(a:Int),0,0,0,0⟩) ⟨sm _ rfl,sm _ rfl,sm _ rfl,sm _ rfl,rfl⟩ (e:=t.e) (x:=t.w) (k:=t.k) (f:=t.f) hX
 have kv':=KV.out.call (by decide) (small 0 (by decide)) hX
 have hR:=J28 KV.out.v.ts 0 (a:Int)
 rw[hX] at hR
 obtain⟨te,tw,tk,tf⟩:=t
 simp only at hD hR
 refine Jqa hD ?_
 rintro r3 w3 ⟨a3,c3,Y3,rfl,s3⟩
 have S3:=Ja ((s3.drop2.box (.cells #[.int .i64 te,.int .u64 tw,.int .i64 tk,.slice a3 tf.length c3] 42)).swap)
 have h64:(Sl.JX K.S).length<=64:=by rw[J1n KV.out.v.ts];exact IX KV.out.v.ts
 have KV':=Ja kv'
 clear hD hX s3 kv' KV S2
 generalize tf.length=lf at *
 obtain⟨H,hH⟩:∃ H,Sl.JX K.S=H:=⟨_,rfl⟩
 obtain⟨m,hm⟩:∃ m,H.length=m:=⟨_,rfl⟩
 rw[hH,hm] at h64
 rw[hH] at S3 hR ⊢
 rw[hm] at S3 hR ⊢
 rcases hR with ⟨he,hh⟩|⟨he,pf,g,hh,hg,hw,hu⟩
 ·obtain⟨h1,h2,h3⟩:=J2u he
  have HH:Hid (∀ (V:World) (Y:Ly) (T:List Th),Sep W W.heap.size V (kT p Y K'::T)->Calls Tryz.prog 23 #[Je p] V fun e w'=>∃ ao cap,e=.returned (.slice ao m cap)/\Sep W W.heap.size w' (kT p Y K'::Jv elH (.slice ao m cap) H::T)):=fun V Y T s=>by
   have h:=Jv8 s
   rw[hh,hm] at h
   exact h
  have HM:=Ja hm
  clear hm hH hh he
  go_wp2_with (first
   | (go_at_call 23;refine Jqa (HH.out _ _ _ S3.out) ?_;rintro e w4 ⟨a4,c4,rfl,s4⟩;have f1:=(s4.blkCell (p:=w3.heap.size) mm2 0).1;have S4:=Ja s4;clear s4)
   | (go_at_call 28;refine Jqa (J4b HM.out (by omega) _ _ (SeeC.of okH S4.out mm1) (SeeC.of okH S4.out mm3)) ?_;rintro e w5 ⟨rfl,b5⟩;have S5:=Ja (S4.out.below b5);clear b5)
   | (go_at_call 21;refine Jqa (J1j _ (HL.out.below S5.out.low)) ?_;rintro e w6 ⟨rfl,b6⟩;have B6:=Ja (S5.out.below b6).low;clear b6)
   | fail)
  go_ret
  exact⟨rfl,B6.out⟩
 ·subst he hw
  have hlf:(H.filter pf).length<=m:=by omega
  obtain⟨F,hF⟩:∃ F,H.filter pf=F:=⟨_,rfl⟩
  obtain⟨mf,hmf⟩:∃ mf,F.length=mf:=⟨_,rfl⟩
  rw[hF,hmf] at hlf hg
  have HH:Hid (∀ (V:World) (Y:Ly) (T:List Th),Sep W W.heap.size V (kT p Y K'::T)->Calls Tryz.prog 23 #[Je p] V fun e w'=>∃ ao cap,e=.returned (.slice ao mf cap)/\Sep W W.heap.size w' (kT p Y K'::Jv elH (.slice ao mf cap) F::T)):=fun V Y T s=>by
   have h:=Jv8 s
   rw[hh,hF,hmf] at h
   exact h
  have HM:=Ja hm
  have HFF:=Ja hF
  have HMF:=Ja hmf
  have HG:=Ja hg
  clear hm hH hh hF hmf hg
  go_wp2_with (first
   | (go_at_call 23;refine Jqa (HH.out _ _ _ S3.out) ?_;rintro e w4 ⟨a4,c4,rfl,s4⟩;have f1:=(s4.blkCell (p:=w3.heap.size) mm2 0).1;have S4:=Ja s4;clear s4)
   | fail)
  generalize hq3:w3.heap.size=q3 at *
  clear hq3 f1
  go_loopw [12,13,14] (fun s12 s13 s14 wr=>∃ i j:Nat,i<=m/\(((H.take i).filter pf).length=j)/\s14=.int .i64 i/\s12=.int .i64 j/\s13=.int .i64 ((i:Int) - (j:Int))/\Sep W W.heap.size wr [kT p Y3 K',Jv elH (.slice a4 mf c4) F,blk q3 (.cells #[.int .i64 0,.int .u64 (g:Int),.int .i64 tk,.slice a3 lf c3] 42),Jv elH (.slice a2 m c2) H]) (fun _ _ s14 _=>m - (intOf s14).toNat)
  case atStart=>exact⟨0,0,Jqp _,rfl,rfl,rfl,rfl,S4.out⟩
  case round =>
   clear S4 S3
   obtain⟨i,j,hi,hj,rfl,rfl,rfl,s1⟩:=hrel
   have hji:j<=i:=by
    rw[<- hj]
    exact Jql (List.length_filter_le _ _) (by rw[List.length_take];omega)
   by_cases hlt:i<m
   ·have hltz:(i:Int)<(m:Int):=by omega
    obtain⟨x,hx⟩:∃ x,H[i]? = some x:=⟨_,Jqc (by have:=HM.out;omega)⟩
    obtain⟨gx,rfl,c0,c1,c2,c3,c4,c5,c6,c7⟩:=J1i s1 mm3 hx
    have hst:=J29 pf hx
    have w1:IntKind.i64.wrap ((i:Int) - (j:Int)+1)=(i:Int) - (j:Int)+1:=wri (by omega) (by omega)
    have HI:=Ja hi
    have HJ:=Ja hj
    have HJI:=Ja hji
    by_cases hp:pf x=true
    ·have hy:F[j]? = some x:=by
      have h:=J2x pf hx hp
      rw[hj,HFF.out] at h
      exact h
     obtain⟨gy,rfl,d0,d1,d2,d3,d4,d5,d6,d7⟩:=J1i s1 mm1 hy
     have hjm:(j:Int)<(mf:Int):=by
      have h:=(Jqb.1 hy).1
      have:=HMF.out
      omega
     have he:=fun V=>J15 V x
     have HST:Hid (((H.take (i+1)).filter pf).length=j+1):=by
      show _=_
      rw[hst,hj,if_pos hp]
     have S1:=Ja s1
     clear s1 hx hy hst hp hi hj hji
     go_wp2_with fail
     go_quiet (fail)
     go_wp2
     go_round
     case rel=>exact⟨i+1,j+1,by omega,HST.out,by go_num,by go_num,by congr 1;omega,S1.out.drewN _⟩
     case measure=>simp[intOf];omega
    ·have HST:Hid (((H.take (i+1)).filter pf).length=j):=by
      show _=_
      rw[hst,hj,if_neg hp]
      rfl
     by_cases hjm:j<mf
     ·have hjz:(j:Int)<(mf:Int):=by omega
      obtain⟨y,hy⟩:∃ y,F[j]? = some y:=⟨_,Jqc (by have:=HMF.out;omega)⟩
      obtain⟨gy,rfl,d0,d1,d2,d3,d4,d5,d6,d7⟩:=J1i s1 mm1 hy
      have hne:y≠x:=fun e=>by
       rw[e,<- HFF.out] at hy
       exact J4s (p:=pf) (by simpa using hp) j hy
      have he:=fun V=>J2h V hne
      have S1:=Ja s1
      clear s1 hx hy hst hp hi hj hji hne hjm
      go_wp2_with fail
      go_quiet (fail)
      go_wp2
      go_round
      case rel=>exact⟨i+1,j,by omega,HST.out,by go_num,rfl,by congr 1;omega,S1.out.drewN _⟩
      case measure=>simp[intOf];omega
     ·have hjz:decide (j<mf)=false:=decide_eq_false hjm
      have S1:=Ja s1
      clear s1 hx hst hp hi hj hji hjm
      go_wp2_with fail
      go_quiet (fail)
      go_wp2
      go_round
      case rel=>exact⟨i+1,j,by omega,HST.out,by go_num,rfl,by congr 1;omega,S1.out.drewN _⟩
      case measure=>simp[intOf];omega
   ·obtain rfl:i=m:=by omega
    have hltz:¬ ((i:Int)<(i:Int)):=by omega
    have hjf:j=mf:=by
     have h:=HM.out
     rw[<- hj,List.take_of_length_le (by omega),HFF.out]
     exact HMF.out
    subst hjf
    have hgi:(i:Int) - (j:Int)=(g:Int):=by
     have:=HG.out
     omega
    rw[hgi]
    have ug:IntKind.u64.wrap (g:Int)=(g:Int):=wru (by omega) (by have:=HG.out;omega)
    obtain⟨⟨K2,t2⟩,hX2⟩:∃ x,doK K' 0 ⟨4,(a:Int),0,0,0,0⟩=x:=⟨_,rfl⟩
    have hA:=J3y (K:=K') 0 (a:Int) hu
    rw[hX2] at hA
    obtain⟨e2,u2,k2,f2⟩:=t2
    simp only at hA
    have HD2:Hid (∀ (V:World) (Y:Ly) (T:List Th),Sep W W.heap.size V (kT p Y K'::T)->Calls Tryz.prog 13 #[Je p,.int .i64 0,.agg #[.int .i64 4,.int .i64 (a:Int),.int .i64 0,.int .i64 0,.int .i64 0,.int .i64 0]] V fun r w'=>∃ k ao ln cap,r=.returned (.agg #[.int .i64 e2,.int .u64 u2,.int .i64 k,.slice ao ln cap])/\∃ Y',Sep W W.heap.size w' (kT p Y' K2::T)):=fun V Y T s=>by
     have h:=J14 s HL.out KV'.out (by decide) 0 (c:=⟨4,(a:Int),0,0,0,0⟩) ⟨sm _ rfl,sm _ rfl,sm _ rfl,sm _ rfl,rfl⟩ (e:=e2) (x:=u2) (k:=k2) (f:=f2) hX2
     refine Jqa h ?_
     rintro r w' ⟨ao,cap,Y',rfl,s'⟩
     exact⟨_,_,_,_,rfl,_,s'.drop2⟩
    have S5:=Ja s1
    clear s1 hu hX2 hgi hj hji hi
    rcases hA with h0|⟨h0,h1⟩
    ·obtain⟨h1,h2,h3⟩:=J2u h0
     clear h0
     go_wp2_with (first
      | (go_at_call 13;refine Jqa (HD2.out _ _ _ S5.out) ?_;rintro r6 w6 ⟨k6,ao6,ln6,cap6,rfl,Y6,s6⟩;have s7:=(s6.box (.cells #[.int .i64 e2,.int .u64 u2,.int .i64 k6,.slice ao6 ln6 cap6] 42)).swap;have f1:=(s7.blkCell (p:=q3) mm3 1).1;have f2:=(s7.blkCell (p:=w6.heap.size) mm1 0).1;have f3:=(s7.blkCell (p:=w6.heap.size) mm1 1).1;have S6:=Ja s7;clear s6 s7)
      | (go_at_call 21;refine Jqa (J1j _ (HL.out.below S6.out.low)) ?_;rintro e w7 ⟨rfl,b7⟩;have B7:=Ja (S6.out.below b7).low;clear b7)
      | fail)
     go_ret
     exact⟨rfl,B7.out⟩
    ·subst h0 h1
     go_wp2_with (first
      | (go_at_call 13;refine Jqa (HD2.out _ _ _ S5.out) ?_;rintro r6 w6 ⟨k6,ao6,ln6,cap6,rfl,Y6,s6⟩;have s7:=(s6.box (.cells #[.int .i64 0,.int .u64 0,.int .i64 k6,.slice ao6 ln6 cap6] 42)).swap;have f1:=(s7.blkCell (p:=q3) mm3 1).1;have f2:=(s7.blkCell (p:=w6.heap.size) mm1 0).1;have f3:=(s7.blkCell (p:=w6.heap.size) mm1 1).1;have S6:=Ja s7;clear s6 s7)
      | (go_at_call 21;refine Jqa (J1j _ (HL.out.below S6.out.low)) ?_;rintro e w7 ⟨rfl,b7⟩;have B7:=Ja (S6.out.below b7).low;clear b7)
      | fail)
     go_ret
     exact⟨rfl,B7.out⟩
open Go.ChangeShapes Go.WideShapes Go.ChangeAt Go.Joins
theorem contract (H:Type) (enc:TypeId×Value->H) (W:World) (base:Nat) (args:Array Value) (ds gs:List (DataW H)) (before:List MemPlace)
  (hval:∀ (j:Nat) t v,Tryz.f6.params[j]? = some t->args[j]? = some v->Value.okWide Tryz.prog W .any base t v)
  (hW:DataW.Whole enc Tryz.prog Tryz.f6.params.toList Rows.kernelRevokesSpec.vars false W args.toList ds gs before) (hL:laidMetH Tryz.prog Rows.kernelRevokesRow.laid W) :
  Calls Tryz.prog 6 args W fun e W'=>∃ v,e=.returned v/\Rows.kernelRevokesSpec.post enc Tryz.prog Tryz.f6 false true false false W args v W':=by
 have hW':=hW
 obtain⟨p,q,hA0,hV,rfl,hfz,hnd⟩:=hW
 have hA:DataW.TrodAll enc Tryz.prog W 0 (fun _=>true) true Tryz.f6.params.toList args.toList ds p:=hA0
 rw[Tryz.params6] at hA hval
 obtain⟨v0,vs0,d0,ds0,p0,q0,hargs,rfl,rfl,h0,r0⟩:=trodAll_cons hA
 obtain⟨v1,vs1,d1,ds1,p1,q1,rfl,rfl,rfl,h1,r1⟩:=trodAll_cons r0
 obtain⟨v2,vs2,d2,ds2,p2,q2,rfl,rfl,rfl,h2,r2⟩:=trodAll_cons r1
 obtain⟨rfl,rfl,rfl⟩:=trodAll_nil r2
 obtain rfl:args=#[v0,v1,v2]:=by cases args;simp_all
 obtain⟨rfl,rfl⟩:=trodVars_none hV
 have k0:=h0
 have lt0:∀ x∈p0,x.block<W.heap.size:=by obtain⟨m,hm⟩:=k0;exact DataW.trod_lt m _ _ _ hm
 have k1:=h1
 have lt1:∀ x∈p1,x.block<W.heap.size:=by obtain⟨m,hm⟩:=k1;exact DataW.trod_lt m _ _ _ hm
 have k2:=h2
 have lt2:∀ x∈p2,x.block<W.heap.size:=by obtain⟨m,hm⟩:=k2;exact DataW.trod_lt m _ _ _ hm
 obtain⟨a0x,a0y,a0z,a0,l0,c0,rfl,u0,w0,t0,s0,b0⟩:=J2a (hval 0 24 v0 rfl rfl) h0
 obtain⟨a1,l1,c1,rfl,s1,b1⟩:=J2k (hval 1 25 v1 rfl rfl) h1
 obtain⟨a2,rfl,_,_,w2⟩:=open_int Tryz.underlying3 (hval 2 3 v2 rfl rfl) h2
 clear hA0
 refine(walk a0x a0y a0z a0 l0 c0 a1 l1 c1 a2 W (J08 hL) s0 s1 (bounds_i64 w2)).mono fun e W' ⟨he,bel⟩=>?_
 subst he
 exact⟨_,rfl,_,_,_,[],_,[],hW',trodAll_mk1 (shut_bool Tryz.underlying4 _),(trodAll_cons_mk (Below.trod Jol (by kernel_rfl) (of_decide_eq_true (by kernel_rfl)) k0 bel lt0) (trodAll_cons_mk (Below.trod Jol (by kernel_rfl) (of_decide_eq_true (by kernel_rfl)) k1 bel lt1) (trodAll_cons_mk (Below.trod Jol (by kernel_rfl) (of_decide_eq_true (by kernel_rfl)) k2 bel lt2) trodAll_mk0))),rfl,bel.frame _,fun h=>by cases h⟩
theorem laid_met (os:Os):laidMet Tryz.prog Rows.kernelRevokesRow.laid ((World.doorLaid Tryz.prog 40 os).forCall (fun _ _=>0) ⟨#[],#[.agg #[.int .i64 0,.int .i64 0,.int .i64 0,.slice none 0 0],.slice none 0 0,.int .i64 0],[]⟩).memory:=
 laidMet_of_run' 8 (by kernel_rfl) (by kernel_rfl)
theorem reads (os:Os) {H:Type} (enc:TypeId×Value->H):∃ places,DataW.whole enc Tryz.prog ((World.doorLaid Tryz.prog 40 os).forCall (fun _ _=>0) ⟨#[],#[.agg #[.int .i64 0,.int .i64 0,.int .i64 0,.slice none 0 0],.slice none 0 0,.int .i64 0],[]⟩).memory Tryz.f6.params.toList Rows.kernelRevokesSpec.vars false (#[.agg #[.int .i64 0,.int .i64 0,.int .i64 0,.slice none 0 0],.slice none 0 0,.int .i64 0]:Array Value).toList 8=some ([.agg [.lit (.int .i64 0),.lit (.int .i64 0),.lit (.int .i64 0),.nil],.nil,.lit (.int .i64 0)],[],places):=
 ⟨[],by kernel_rfl⟩
theorem lifted (os:Os) (started:os.Started) (H:Type) (enc:TypeId×Value->H) (F:Stop.Interp) :
  ReturnsInHanded {} Tryz.checked os 6 .any ((OpenSpec.ofChange Rows.kernelRevokesSpec).preRow enc Tryz.prog Tryz.f6 Rows.kernelRevokesRow.domain false Rows.kernelRevokesRow.laid) (((OpenSpec.ofChange Rows.kernelRevokesSpec).at F).post enc Tryz.prog Tryz.f6 false true false false):=by
 obtain⟨places,hx⟩:=reads os enc
 refine returnsInHanded_of_row (C:=Tryz.checked) (s:=OpenSpec.ofChange Rows.kernelRevokesSpec) J51 started (by kernel_rfl) Tryz.func6
  (witness_row_at (enc:=enc) (C:=Tryz.checked) false (World.doorLaid Tryz.prog 40 os) #[.agg #[.int .i64 0,.int .i64 0,.int .i64 0,.slice none 0 0],.slice none 0 0,.int .i64 0] rfl (by kernel_rfl) (by kernel_rfl) (by kernel_rfl)
   (OpenSpec.preRow_of_cond 8 hx (by kernel_rfl) (fun k hk=>by cases hk) (by kernel_rfl) (laid_met os))) ?_
 intro W base args ds gs before hval hW _ _ _ hL _ _
 exact contract H enc W base args ds gs before hval hW hL
theorem said:Rows.KernelRevokesSaid:=
 OpenClaim.holds_of_cond 6 Tryz.f6 rfl rfl rfl rfl rfl rfl rfl ⟨rfl,rfl,rfl,rfl,rfl⟩ rfl rfl rfl rfl rfl (by kernel_rfl) Tryz.func6 joined
  (of_decide_eq_true (by kernel_rfl)) (by unfold Func.isWrapper;first|(rw[if_pos (by decide +kernel)];kernel_rfl)|(rw[if_neg (by decide +kernel)];exact⟨rfl,rfl⟩))
  (fun os started H enc _ F=>by rw[OpenClaim.pre_eq_preRow];exact lifted os started H enc F)
theorem plain (f:FuncId) (fn:Func) (hf:Tryz.pinned.checked.prog.funcNamed "buttress/buttresslaw18.KernelRevokes" = some f) (hfn:Tryz.pinned.checked.prog.funcs[f]? = some fn) :
  true=Tryz.pinned.checked.prog.looks []/\∀ (j:Nat) t,fn.params[j]? = some t->Tryz.pinned.checked.prog.wantsStandIn t=false:=by
 obtain rfl:f=6:=Jqz ((show Tryz.prog.funcNamed "buttress/buttresslaw18.KernelRevokes" = some 6 by kernel_rfl).symm.trans hf) |>.symm
 obtain rfl:fn=Tryz.f6:=(Jqz (Tryz.func6.symm.trans hfn)).symm
 refine⟨by kernel_rfl,fun j t ht=>?_⟩
 rw[Tryz.params6] at ht
 have hm:t∈[24,25,3]:=by simpa using Array.mem_of_getElem? ht
 have hall:([24,25,3].all fun u => !Tryz.prog.wantsStandIn u)=true:=by kernel_rfl
 exact(show Tryz.prog.wantsStandIn t=false by simpa using List.all_eq_true.1 hall t hm)
end kernelRevokes
section
theorem kernelRevokes_card:Rows.KernelRevokesCardSaid:=
 Claim7.holds_tied_plain_at .later [] _ _ _ _ kernelRevokes.said (fun _ h=>by cases h) (by kernel_rfl) (fun _ h=>by cases h) kernelRevokes_row_tie rfl ⟨rfl,rfl⟩ (by kernel_rfl) rfl kernelRevokes.plain kernelRevokes.goes
end
end Go.Proofs.YtbfjjpdnoalojaaGreatDoor
