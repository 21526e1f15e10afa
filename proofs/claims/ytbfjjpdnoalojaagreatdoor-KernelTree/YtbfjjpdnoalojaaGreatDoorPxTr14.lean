/-
  KernelTree: each slot that has a capability is in the tree, once, and no other one: whatever the kernel began with and whatever was done, the statement's function returns true; the condition: that the three tables lie where they were laid.
-/
import Derived.Test.YtbfjjpdnoalojaaGreatDoorPa33
import Derived.Test.YtbfjjpdnoalojaaGreatDoorPxTr11
import Derived.Test.YtbfjjpdnoalojaaGreatDoorPxTr12
import Derived.Test.YtbfjjpdnoalojaaGreatDoorPxTr13
set_option maxHeartbeats 16000000
set_option maxRecDepth 100000
namespace Go.Proofs.YtbfjjpdnoalojaaGreatDoor
section
open Go.RowKit Go.Deep Go.Shelf
open Classical
theorem J3x {S:Sl.St} {E:Tr.St} (t:Ts S E) {x:Sl.Sl×Sl.Cp} (hx:x∈Sl.JX S):x.1.n=0/\x.2.k≠0/\Sl.JZ S (sl x.1.i)=some x.2:=by
 obtain⟨s,c⟩:=x
 rw[Sl.Jbm] at hx
 unfold Sl.Zg at hx
 cases ha:Sl.JZ S s with
 | none =>
  rw[ha] at hx
  cases hx
 | some d =>
  rw[ha] at hx
  simp only at hx
  split at hx
  ·cases hx
  ·rename_i hk
   cases hx
   have hn:s.n=0:=by
    by_cases h:s.n=0
    ·exact h
    ·have:=t.oth s c ha h
     subst this
     exact absurd Jle hk
   exact⟨hn,hk,by rw[<- J3g hn];exact ha⟩
theorem J35 {S:Sl.St} {E:Tr.St} (t:Ts S E) {i:Nat} {x:Sl.Sl×Sl.Cp} (hx:(Sl.JX S)[i]? = some x):x.2.k≠0/\∃ j0,j0<(Tr.JA E).length/\∀ j y,(Tr.JA E)[j]? = some y->((y.n=x.1.n/\y.i=x.1.i)↔j=j0):=by
 obtain⟨h1,h2,h3⟩:=J3x t (Jqi hx)
 refine⟨h2,?_⟩
 have hm:tr x.1.i∈Tr.JA E:=(t.tm _).2 ⟨rfl,_,h3,h2⟩
 obtain⟨j0,hj⟩:=List.mem_iff_getElem?.1 hm
 refine⟨j0,(Jqb.1 hj).1,fun j y hy=>⟨fun h=>?_,fun e=>?_⟩⟩
 ·have e:y=tr x.1.i:=by
   obtain⟨yn,yi⟩:=y
   obtain⟨e1,e2⟩:=h
   simp only at e1 e2
   rw[e1,e2,h1]
   rfl
  rw[e] at hy
  exact Jes t.tg hy hj
 ·subst e
  have:=Jqz (hy.symm.trans hj)
  subst this
  exact⟨h1.symm,rfl⟩
theorem Jjx (w:World) (a b a' b':Int):(Op.equalIn 10000 80 (.agg #[.int .i64 a,.int .i64 b]) (.agg #[.int .i64 a',.int .i64 b'])).run Tryz.prog w=.ok (decide (a=a'/\b=b')) w:=by
 have u3:=Tryz.underlying3
 have a3:=Tryz.isAgg3
 have z3:=Tryz.sizeOf3
 have hS:Tryz.prog.underlying 80 = some (.struct (Tryz.prog.fieldsOf 80)):=by kernel_rfl
 have hp:Tryz.prog.stoodInHeld 80 = false:=by kernel_rfl
 rw[show(10000:Nat)=9999+1 from rfl,run_equalIn_agg w 9999 80 _ _ hS hp]
 simp only[Program.fieldsOf,Tryz.underlying80]
 go_simp
 by_cases h1:a=a'<;>by_cases h2:b=b'<;>simp[h1,h2]
end
namespace kernelTree
open Go.RowKit Go.Deep Go.Shelf
open Classical
theorem walk (c bi li:Int) (ao:Option Addr) (Q:List Int) (cap:Nat) (so:Option Addr) (X:List Ox) (cap2:Nat) (W:World) (L:Lt W) (hQ:Ints W ao Q) (hX:Oxs W so X) :
  Calls Tryz.prog 7 #[.agg #[.int .i64 c,.int .i64 bi,.int .i64 li,.slice ao Q.length cap],.slice so X.length cap2] W fun e W'=>e=.returned (.bool true)/\Below W.heap.size W W':=by
 have b0:=Jb W (.cells #[.int .i64 c,.int .i64 bi,.int .i64 li,.slice ao Q.length cap] 24)
 have hB:=J2e _ (L.below b0) c bi li ao Q cap (SeeK.below hQ b0 (Jqd _)) so X cap2 (SeeK.below hX b0 (Jqd _))
 have HB:=Ja hB
 have B0:=Ja b0
 have HL:=Ja L
 clear hB hQ hX L b0
 generalize X.length=z at *
 go_enter Tryz.func7,Tryz.ntmps7
 go_wp2_with (first
  | (go_at_call 24;refine Jqa HB.out ?_;rintro e w1 ⟨p,rfl,n,K,Y,-,kv,s1⟩;have S1:=Ja (s1.base B0.out B0.out.size);have KV:=Ja kv.v.ts;clear s1 kv)
  | (go_at_call 23;refine Jqa (Jv8 S1.out) ?_;rintro e w2 ⟨a2,c2,rfl,s2⟩;have S2:=Ja s2;clear s2 S1)
  | (go_at_call 25;refine Jqa (J2w S2.out (Jql (IX KV.out) (by decide))) ?_;rintro e w3 ⟨a3,c3,rfl,s3⟩;have hln:(Tr.JA K.E).length=(Sl.JX K.S).length:=(by have h:=(J1j KV.out).length_eq;rw[List.length_map] at h;exact h.symm);rw[hln] at s3 ⊢;have S3:=Ja s3;have HLN:=Ja hln;clear s3 S2 hln)
  | fail)
 have HT:=Ja (fun i x (hx:(Sl.JX K.S)[i]? = some x)=>J35 KV.out hx)
 have h64:(Sl.JX K.S).length<=64:=by rw[J25 KV.out];exact IX KV.out
 generalize Sl.JX K.S=H at *
 generalize Tr.JA K.E=T at *
 obtain⟨m,hm⟩:∃ m,H.length=m:=⟨_,rfl⟩
 simp only[hm] at S3 HLN h64 ⊢
 go_loopw [8] (fun s8 wr=>∃ i:Nat,i<=m/\s8=.int .i64 i/\Sep W W.heap.size wr [kT p Y K,Tr.Joq (.slice a3 m c3) T,Jv elH (.slice a2 m c2) H]) (fun s8 _=>m - (intOf s8).toNat)
 case atStart=>exact⟨0,Jqp _,rfl,S3.out⟩
 case round =>
  clear S3
  obtain⟨i,hi,rfl,s1⟩:=hrel
  have S1:=Ja s1
  clear s1
  by_cases hlt:i<m
  ·have hltz:(i:Int)<(m:Int):=by omega
   obtain⟨x,hx⟩:∃ x,H[i]? = some x:=⟨_,Jqc (by omega)⟩
   obtain⟨hk,j0,hj0,hT⟩:=HT.out i x hx
   have HX:=Ja hx
   have HTj:=Ja hT
   have HJ0:=Ja (show j0<m by rw[<- HLN.out];exact hj0)
   clear hx hT hj0
   go_wp2_with fail
   go_loopw [9,10] (fun s9 s10 wx=>∃ j:Nat,j<=m/\s10=.int .i64 j/\s9=.int .i64 (if j0<j then 1 else 0)/\Sep W W.heap.size wx [kT p Y K,Tr.Joq (.slice a3 m c3) T,Jv elH (.slice a2 m c2) H]) (fun _ s10 _=>m - (intOf s10).toNat)
   case atStart=>exact⟨0,Jqp _,rfl,by rw[if_neg (Nat.not_lt_zero _)],S1.out⟩
   case round =>
    clear S1
    obtain⟨j,hj,rfl,rfl,s2⟩:=hrel
    by_cases hltj:j<m
    ·have hltjz:(j:Int)<(m:Int):=by omega
     obtain⟨y,hy⟩:∃ y,T[j]? = some y:=⟨_,Jqc (by rw[HLN.out];exact hltj)⟩
     have hyj:=HTj.out j y hy
     have rT:=show Tr.RowS _ (.slice a3 m c3) T from (s2.each _ mm1).1
     obtain⟨ao4,cap4,e4,hg4⟩:=rT.slice
     have e5:ao4=a3:=by injection e4 with q1 q2 q3;exact q1.symm
     rw[e5] at hg4
     clear e4 e5
     obtain⟨g,rfl⟩:=hg4 j (by rw[HLN.out];exact hltj)
     obtain⟨t0,t1⟩:=rT.cells hy
     obtain⟨g',rfl,hc⟩:=s2.listAt okH (ao:=a2) (n:=m) (cap:=c2) (A:=H) mm2 HX.out
     have u0:=hc 0 _ rfl
     have u1:=hc 1 _ rfl
     simp only[elH,Nat.add_zero] at u0 u1
     have S2:=Ja s2
     clear s2 rT hg4 hc hy
     obtain⟨⟨xn,xi⟩,xc⟩:=x
     obtain⟨yn,yi⟩:=y
     simp only at t0 t1 u0 u1 hyj
     have he:=fun w=>Jjx w yn yi xn xi
     by_cases hjj:j=j0
     ·have hd:decide (yn=xn/\yi=xi)=true:=decide_eq_true (hyj.2 hjj)
      rw[hd] at he
      subst hjj
      rw[if_neg (Nat.lt_irrefl _)]
      have HX2:=Ja HJ0.out
      clear hd hyj
      go_wp2_with fail
      go_quiet (fail)
      go_wp2
      go_round
      case rel=>exact⟨j+1,by omega,by go_num,by rw[if_pos (Nat.lt_succ_self _)],S2.out.drewN _⟩
      case measure=>simp[intOf];omega
     ·have hd:decide (yn=xn/\yi=xi)=false:=decide_eq_false fun h=>hjj (hyj.1 h)
      rw[hd] at he
      clear hd hyj
      have hif:(if j0<j then (1:Int) else 0)=(if j0<j+1 then (1:Int) else 0):=by
       by_cases h:j0<j
       ·rw[if_pos h,if_pos (by omega)]
       ·rw[if_neg h,if_neg (by omega)]
      rw[hif]
      have HJ:=Ja hjj
      clear hif hjj
      generalize hq:(if j0<j+1 then (1:Int) else 0)=q at *
      have HQ:=Ja hq
      clear hq
      go_wp2_with fail
      go_quiet (fail)
      go_wp2
      go_round
      case rel=>exact⟨j+1,by omega,by go_num,by rw[HQ.out],S2.out.drewN _⟩
      case measure=>simp[intOf];omega
    ·obtain rfl:j=m:=by omega
     have hltjz:¬ ((j:Int)<(j:Int)):=by omega
     have h1:=HJ0.out
     rw[if_pos h1]
     clear h1
     obtain⟨g',rfl,hc⟩:=s2.listAt okH (ao:=a2) (n:=j) (cap:=c2) (A:=H) mm2 HX.out
     have u2:=hc 2 _ rfl
     simp only[elH] at u2
     have S2:=Ja s2
     clear s2 hc
     obtain⟨xs,⟨k,x2,x3,x4,x5,x6⟩⟩:=x
     simp only at u2 hk
     have hkz:(k == 0)=false:=by simpa using hk
     go_wp2_with fail
     go_round
     case rel=>exact⟨i+1,by omega,by go_num,S2.out⟩
     case measure=>simp[intOf];omega
  ·obtain rfl:i=m:=by omega
   have hltz:¬ ((i:Int)<(i:Int)):=by omega
   go_wp2_with (first|(go_at_call 21;refine Jqa (J2g _ (HL.out.below S1.out.low)) ?_;rintro e w7 ⟨rfl,b7⟩;have B7:=Ja (S1.out.below b7).low;clear b7)|fail)
   go_ret
   exact⟨rfl,B7.out⟩
open Go.ChangeShapes Go.WideShapes Go.ChangeAt Go.Joins
theorem contract (H:Type) (enc:TypeId×Value->H) (W:World) (base:Nat) (args:Array Value) (ds gs:List (DataW H)) (before:List MemPlace)
  (hval:∀ (j:Nat) t v,Tryz.f7.params[j]? = some t->args[j]? = some v->Value.okWide Tryz.prog W .any base t v)
  (hW:DataW.Whole enc Tryz.prog Tryz.f7.params.toList Rows.kernelTreeSpec.vars false W args.toList ds gs before) (hL:laidMetH Tryz.prog Rows.kernelTreeRow.laid W) :
  Calls Tryz.prog 7 args W fun e W'=>∃ v,e=.returned v/\Rows.kernelTreeSpec.post enc Tryz.prog Tryz.f7 false true false false W args v W':=by
 have hW':=hW
 obtain⟨p,q,hA0,hV,rfl,hfz,hnd⟩:=hW
 have hA:DataW.TrodAll enc Tryz.prog W 0 (fun _=>true) true Tryz.f7.params.toList args.toList ds p:=hA0
 rw[Tryz.params7] at hA hval
 obtain⟨v0,vs0,d0,ds0,p0,q0,hargs,rfl,rfl,h0,r0⟩:=trodAll_cons hA
 obtain⟨v1,vs1,d1,ds1,p1,q1,rfl,rfl,rfl,h1,r1⟩:=trodAll_cons r0
 obtain⟨rfl,rfl,rfl⟩:=trodAll_nil r1
 obtain rfl:args=#[v0,v1]:=by cases args;simp_all
 obtain⟨rfl,rfl⟩:=trodVars_none hV
 have k0:=h0
 have lt0:∀ x∈p0,x.block<W.heap.size:=by obtain⟨m,hm⟩:=k0;exact DataW.trod_lt m _ _ _ hm
 have k1:=h1
 have lt1:∀ x∈p1,x.block<W.heap.size:=by obtain⟨m,hm⟩:=k1;exact DataW.trod_lt m _ _ _ hm
 obtain⟨a0x,a0y,a0z,a0,l0,c0,rfl,u0,w0,t0,s0,b0⟩:=J1u (hval 0 24 v0 rfl rfl) h0
 obtain⟨a1,l1,c1,rfl,s1,b1⟩:=J11 (hval 1 25 v1 rfl rfl) h1
 clear hA0
 refine(walk a0x a0y a0z a0 l0 c0 a1 l1 c1 W (J08 hL) s0 s1).mono fun e W' ⟨he,bel⟩=>?_
 subst he
 exact⟨_,rfl,_,_,_,[],_,[],hW',trodAll_mk1 (shut_bool Tryz.underlying4 _),(trodAll_cons_mk (Below.trod Jol (by kernel_rfl) (of_decide_eq_true (by kernel_rfl)) k0 bel lt0) (trodAll_cons_mk (Below.trod Jol (by kernel_rfl) (of_decide_eq_true (by kernel_rfl)) k1 bel lt1) trodAll_mk0)),rfl,bel.frame _,fun h=>by cases h⟩
theorem laid_met (os:Os):laidMet Tryz.prog Rows.kernelTreeRow.laid ((World.doorLaid Tryz.prog 40 os).forCall (fun _ _=>0) ⟨#[],#[.agg #[.int .i64 0,.int .i64 0,.int .i64 0,.slice none 0 0],.slice none 0 0],[]⟩).memory:=
 laidMet_of_run' 8 (by kernel_rfl) (by kernel_rfl)
theorem reads (os:Os) {H:Type} (enc:TypeId×Value->H):∃ places,DataW.whole enc Tryz.prog ((World.doorLaid Tryz.prog 40 os).forCall (fun _ _=>0) ⟨#[],#[.agg #[.int .i64 0,.int .i64 0,.int .i64 0,.slice none 0 0],.slice none 0 0],[]⟩).memory Tryz.f7.params.toList Rows.kernelTreeSpec.vars false (#[.agg #[.int .i64 0,.int .i64 0,.int .i64 0,.slice none 0 0],.slice none 0 0]:Array Value).toList 8=some ([.agg [.lit (.int .i64 0),.lit (.int .i64 0),.lit (.int .i64 0),.nil],.nil],[],places):=
 ⟨[],by kernel_rfl⟩
theorem lifted (os:Os) (started:os.Started) (H:Type) (enc:TypeId×Value->H) (F:Stop.Interp) :
  ReturnsInHanded {} Tryz.checked os 7 .any ((OpenSpec.ofChange Rows.kernelTreeSpec).preRow enc Tryz.prog Tryz.f7 Rows.kernelTreeRow.domain false Rows.kernelTreeRow.laid) (((OpenSpec.ofChange Rows.kernelTreeSpec).at F).post enc Tryz.prog Tryz.f7 false true false false):=by
 obtain⟨places,hx⟩:=reads os enc
 refine returnsInHanded_of_row (C:=Tryz.checked) (s:=OpenSpec.ofChange Rows.kernelTreeSpec) J41 started (by kernel_rfl) Tryz.func7
  (witness_row_at (enc:=enc) (C:=Tryz.checked) false (World.doorLaid Tryz.prog 40 os) #[.agg #[.int .i64 0,.int .i64 0,.int .i64 0,.slice none 0 0],.slice none 0 0] rfl (by kernel_rfl) (by kernel_rfl) (by kernel_rfl)
   (OpenSpec.preRow_of_cond 8 hx (by kernel_rfl) (fun k hk=>by cases hk) (by kernel_rfl) (laid_met os))) ?_
 intro W base args ds gs before hval hW _ _ _ hL _ _
 exact contract H enc W base args ds gs before hval hW hL
theorem said:Rows.KernelTreeSaid:=
 OpenClaim.holds_of_cond 7 Tryz.f7 rfl rfl rfl rfl rfl rfl rfl ⟨rfl,rfl,rfl,rfl,rfl⟩ rfl rfl rfl rfl rfl (by kernel_rfl) Tryz.func7 joined
  (of_decide_eq_true (by kernel_rfl)) (by unfold Func.isWrapper;first|(rw[if_pos (by decide +kernel)];kernel_rfl)|(rw[if_neg (by decide +kernel)];exact⟨rfl,rfl⟩))
  (fun os started H enc _ F=>by rw[OpenClaim.pre_eq_preRow];exact lifted os started H enc F)
theorem plain (f:FuncId) (fn:Func) (hf:Tryz.pinned.checked.prog.funcNamed "buttress/buttresslaw18.KernelTree" = some f) (hfn:Tryz.pinned.checked.prog.funcs[f]? = some fn) :
  true=Tryz.pinned.checked.prog.looks []/\∀ (j:Nat) t,fn.params[j]? = some t->Tryz.pinned.checked.prog.wantsStandIn t=false:=by
 obtain rfl:f=7:=Jqz ((show Tryz.prog.funcNamed "buttress/buttresslaw18.KernelTree" = some 7 by kernel_rfl).symm.trans hf) |>.symm
 obtain rfl:fn=Tryz.f7:=(Jqz (Tryz.func7.symm.trans hfn)).symm
 refine⟨by kernel_rfl,fun j t ht=>?_⟩
 rw[Tryz.params7] at ht
 have hm:t∈[24,25]:=by simpa using Array.mem_of_getElem? ht
 have hall:([24,25].all fun u => !Tryz.prog.wantsStandIn u)=true:=by kernel_rfl
 exact(show Tryz.prog.wantsStandIn t=false by simpa using List.all_eq_true.1 hall t hm)
end kernelTree
section
theorem kernelTree_card:Rows.KernelTreeCardSaid:=
 Claim7.holds_tied_plain_at .later [] _ _ _ _ kernelTree.said (fun _ h=>by cases h) (by kernel_rfl) (fun _ h=>by cases h) kernelTree_row_tie rfl ⟨rfl,rfl⟩ (by kernel_rfl) rfl kernelTree.plain kernelTree.goes
end
end Go.Proofs.YtbfjjpdnoalojaaGreatDoor
