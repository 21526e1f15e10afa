/- Below: KrFew KrBr; no condition. -/
import Derived.Test.YtbfjjpdnoalojaaGreatDoorPa25
set_option linter.unusedSectionVars false
namespace Go.Proofs.YtbfjjpdnoalojaaGreatDoor
section
section
variable [dCp:DecidableEq Sl.Cp] [dLim:∀ k,Decidable (Sl.ZV k)] [dBad:∀ k,Decidable (Sl.Xn k)] [dFit:∀ g z,Decidable (Sl.Fit g z)] [dF:∀ c:Sl.Cp,Decidable (Sl.Fine c)] [dMi:∀ c v,Decidable (Sl.JK c v)] [dWho:∀ x y,Decidable (Sl.Zx x y)] [dSl:DecidableEq Sl.Sl] [dLt:∀ a b,Decidable (Sl.MC a b)]
variable [dT:DecidableEq Tr.Sl]
theorem IX {S:Sl.St} {E:Tr.St} (t:Ts S E):E.length<=64:=by
 have hin:∀ i,i<E.length->(Tr.VB E i).n=0/\0<=(Tr.VB E i).i/\(Tr.VB E i).i<=63:=fun i hi=>by
  obtain⟨h0,c,hc,-⟩:=(t.tm (Tr.VB E i)).1 (Jqi (Im E i hi))
  refine⟨h0,?_⟩
  by_cases h:0<=(Tr.VB E i).i/\(Tr.VB E i).i<=63
  ·exact h
  ·rw[(GV t.n0 _).2 h] at hc
   cases hc
 have h:=AF (K:=(List.range E.length).map fun i=>(Tr.VB E i).i) 64 ?_ ?_
 ·simpa using h
 ·refine List.pairwise_map.2 (List.Pairwise.imp_of_mem (R:=fun a b=>a≠b) ?_ List.nodup_range)
  intro a b ha hb hab e
  have ha:=List.mem_range.1 ha
  have hb:=List.mem_range.1 hb
  refine hab (t.tg.one a b ha hb ?_)
  obtain⟨a0,-⟩:=hin a ha
  obtain⟨b0,-⟩:=hin b hb
  revert a0 b0 e
  cases Tr.VB E a
  cases Tr.VB E b
  intro a0 b0 e
  simp only at a0 b0 e
  rw[a0,b0,e]
 ·intro x hx
  obtain⟨i,hi,rfl⟩:=List.mem_map.1 hx
  have:=hin i (List.mem_range.1 hi)
  omega
section
variable [dL:∀ k:Int,Decidable (Ca.ZV k)] [dC:∀ c:Ca.Cp,Decidable (Ca.Fine c)] [dM:∀ (c:Ca.Cp) (v:Int),Decidable (Ca.JK c v)] [dCc:DecidableEq Ca.Cp] [dCb:∀ k,Decidable (Ca.Xn k)] [dCf:∀ g z,Decidable (Ca.Fit g z)] [dCw:∀ x y,Decidable (Ca.Zx x y)]
variable {n m:Nat} {K:Kr}
theorem Iv.retypes (v:Iv n m K) (hm:m<=900000) (core:Int) (c:Cl) (hB:I6 c.B) (hcore:Th.OQ K.h core) (h:(Jk K c.a).k≠0) (o:Int) (hE:Zt K c o=0):(0<=c.w/\c.w<=63/\c.w+c.C<=64)/\(1<=c.A/\c.A<=8)/\∀ j,Iv n (m+64) (Xe c.a core c.A c.B (Go.Proofs.YtbfjjpdnoalojaaGreatDoor.setU K o (Un.plU (FQ K o) c.A c.B c.C)) c.w ((Un.GF (FQ K o) c.A c.B c.C).take j)):=by
 unfold Zt at hE
 split at hE
 ·rename_i h1
  exact absurd hE h1
 ·rename_i h1
  have hpl:Un.plE (FQ K o) c.A c.B c.C=0:=Decidable.not_not.1 h1
  split at hE
  ·rename_i h2
   exact absurd hE h2
  ·rename_i h2
   have hfr:J4 K c.w c.C=0:=Decidable.not_not.1 h2
   split at hE
   ·cases hE
   ·rename_i h3
    have fd:=(Un.XV _ _ _ _).1 hpl
    have hlen:=Jd6 fd
    have hn:=fd.n0
    have hA:1<=c.A/\c.A<=8:=by
     have:=fd.sz
     unfold Un.Vo at this
     repeat' split at this
     all_goals omega
    have hU:=(Un.Jbw (I5 v _) fd).2.1
    have v1:=v.setU o hU
    have hbig:(c.A=2->K.S.length+c.C.toNat<=64)/\(c.A=3->K.h.L.length+c.C.toNat<=64):=by
     unfold Jcs at h3
     have h4:¬ ((c.A == 2 && decide (64<(K.S.length:Int)+c.C))=true)/\¬ ((c.A == 3 && decide (64<(K.h.L.length:Int)+c.C))=true):=by
      constructor
      ·intro e
       rw[e] at h3
       exact h3 rfl
      ·intro e
       rw[e] at h3
       exact h3 (Bool.or_true _)
     refine⟨fun e=>?_,fun e=>?_⟩
     ·have:=h4.1
      rw[e] at this
      simp at this
      omega
     ·have:=h4.2
      rw[e] at this
      simp at this
      omega
    have hfree:(0<=c.w/\c.w<=63/\c.w+c.C<=64)/\∀ j:Nat,j<c.C.toNat->(Jk K (c.w+(j:Int))).k=0:=by
     unfold J4 at hfr
     split at hfr
     ·rename_i h5
      refine⟨h5,fun j hj=>?_⟩
      split at hfr
      ·rename_i h6
       have:=List.all_eq_true.1 h6 j (by rw[List.mem_range];exact hj)
       simpa using this
      ·cases hfr
     ·cases hfr
    have hB2:c.A=2->1<=c.B/\c.B<=8:=fun e=>by
     have:=fd.sz
     unfold Un.Vo at this
     rw[e] at this
     simp only[show ¬ ((2:Int)=1) by decide,if_false,if_true] at this
     split at this
     ·assumption
     ·cases this
    refine⟨hfree.1,hA,fun j=>?_⟩
    have hlt:((Un.GF (FQ K o) c.A c.B c.C).take j).length<=c.C.toNat:=by rw[List.length_take,hlen];omega
    have r:=Iv.makes (a:=c.a) (core:=core) (A:=c.A) (B:=c.B) hA hB ((Un.GF (FQ K o) c.A c.B c.C).take j) (w:=c.w) v1 (MI v h) h (fun j hj=>Av v (by have:=hfree.1;omega) (hfree.2 j (by omega))) (by omega) (fun x hx=>by
     have:=Jbv fd (List.mem_of_mem_take hx)
     exact⟨this.1,by omega⟩) (fun e=>⟨hB2 e,by have h1:=hbig.1 e;show K.S.length+_<=64;omega⟩) (fun e=>⟨hcore,by have h1:=hbig.2 e;show K.h.L.length+_<=64;omega⟩)
    exact Iv.more (m':=m+64) r (by omega)
theorem Jor (K:Kr) (A B core x:Int):(Zh K A B core x).E=K.E:=by
 unfold Zh
 repeat' split
 all_goals rfl
theorem Jot (v:Iv n m K) (hm:m<=1000000) (A B core:Int):0<=madeN K A B core/\madeN K A B core<=1000001:=by
 have c1:=v.cu
 have c2:=v.cp
 have c3:=v.cn
 have c4:=v.cd
 have c5:=v.cf
 have c6:=v.ct
 have hl:=v.ts.ok.len
 have ht:=v.th.few
 have h1:0<=Sl.JW K.S B/\Sl.JW K.S B<=1000001:=by
  unfold Sl.JW
  split<;>omega
 have h2:0<=Th.JW K.h 0 core/\Th.JW K.h 0 core<=1000001:=by
  unfold Th.JW
  split<;>omega
 unfold madeN
 by_cases e1:A=1
 ·rw[if_pos e1];omega
 rw[if_neg e1]
 by_cases e2:A=2
 ·rw[if_pos e2];exact h1
 rw[if_neg e2]
 by_cases e3:A=3
 ·rw[if_pos e3];exact h2
 rw[if_neg e3]
 by_cases e4:A=4
 ·rw[if_pos e4];omega
 rw[if_neg e4]
 by_cases e5:A=5
 ·rw[if_pos e5];omega
 rw[if_neg e5]
 by_cases e8:A=8
 ·rw[if_pos e8];omega
 rw[if_neg e8]
 by_cases e6:A=6
 ·rw[if_pos e6];omega
 rw[if_neg e6]
 omega
theorem Jjq {n:Int} (h:(Jk K n).k≠0):0<=n/\n<=63:=by
 unfold Jk at h
 split at h
 ·assumption
 ·exact absurd rfl h
end
end
section
variable [dT:DecidableEq Tr.Sl] [dF:∀ c:Sl.Cp,Decidable (Sl.Fine c)]
theorem OS (a core A B x:Int):∀ (L:List Int) (K:Kr) (n:Int),Xe a core A B K n (L++[x])=Id (Zh (Xe a core A B K n L) A B core x) a (n+(L.length:Int)) ⟨A,madeN (Xe a core A B K n L) A B core,7,0,0,0⟩
 | [],K,n=>by simp[Xe]
 | y::L,K,n=>by
  have h:=OS a core A B x L (Id (Zh K A B core y) a n ⟨A,madeN K A B core,7,0,0,0⟩) (n+1)
  rw[show n+1+(L.length:Int)=n+((y::L).length:Int) by simp;omega] at h
  exact h
end
theorem Jpx {k b:Int} (h:Un.Vo k b=0):1<=k/\k<=8:=by
 unfold Un.Vo at h
 repeat' split at h
 all_goals omega
end
section
open Classical
variable {n m:Nat} {K:Kr}
theorem Jjw {i:Nat} {S:En.St} (h:K.P[i]? = some S):epN K (i:Int)=S:=by unfold epN;rw[Int.toNat_natCast,List.getD_eq_getElem?_getD,h];rfl
theorem OX {α:Type} {L:List α} {i:Nat} {x:α} (h:L[i]? = some x):L.set i x=L:=by
 obtain⟨hl,rfl⟩:=Jqb.1 h
 exact List.set_getElem_self hl
theorem Jew (c:Int):(c != 0)=decide (c≠0):=by
 by_cases h:c=0
 ·subst h;rfl
 ·have h1:(c != 0)=true:=by simpa using h
  rw[h1,decide_eq_true h]
theorem Jpq {S:En.St} {who:Int} (h:En.J8 S who≠0) (x:En.Ms) (z:Bool):En.XG S who x z=S:=by
 unfold En.J8 at h
 unfold En.XG
 split at h
 ·rename_i e
  rw[if_pos e]
 ·exact absurd rfl h
theorem Jpf {S:En.St} {who:Int} (h:En.J8 S who≠0) (z:Bool):En.XD S who z=S:=by
 unfold En.J8 at h
 unfold En.XD
 split at h
 ·rename_i e
  rw[if_pos e]
 ·exact absurd rfl h
theorem Js1 (K:Kr) (c:Sl.Cp):(UT K c).U=K.U/\(UT K c).D.length=K.D.length:=by
 unfold UT
 split
 ·exact⟨rfl,rfl⟩
 ·split
  ·exact⟨rfl,by simp⟩
  ·split
   ·exact⟨rfl,by simp⟩
   ·exact⟨rfl,rfl⟩
theorem Jj5 (K:Kr) (n:Int):(ZE K n).U=K.U/\(ZE K n).D.length=K.D.length:=by
 unfold ZE
 split
 ·exact Js1 (outK K n) _
 ·exact⟨rfl,rfl⟩
theorem Fe:∀ (L:List Int) (K:Kr),(goneAll K L).1.U=K.U/\(goneAll K L).1.D.length=K.D.length
 | [],_=>⟨rfl,rfl⟩
 | x::L,K=>by
  have h:=Fe L (ZE K x)
  have h2:=Jj5 K x
  exact⟨h.1.trans h2.1,h.2.trans h2.2⟩
theorem ON:∀ (L:List Int) (K:Kr),(goneAll K L).2.length<=L.length*(4096*K.D.length)
 | [],_=>Nat.le_of_eq (by simp[goneAll])
 | x::L,K=>by
  have h:=ON L (ZE K x)
  rw[(Jj5 K x).2] at h
  have h1:=On K x
  show(Vf K x++(goneAll (ZE K x) L).2).length<=(L.length+1)*(4096*K.D.length)
  rw[List.length_append,Nat.add_mul,Nat.one_mul]
  omega
theorem Jm7 (v:Iv n m K) (j:Int):∀ s∈Tr.Zo K.E (tr j),s.n=0/\0<=s.i/\s.i<=63:=fun s hs=>by
 have hm:s∈Tr.JA K.E:=by
  unfold Tr.Zo at hs
  split at hs
  ·unfold Tr.JA Tr.Jz at hs
   unfold Tr.JA
   obtain⟨e,he,rfl⟩:=List.mem_map.1 hs
   exact List.mem_map.2 ⟨e,List.mem_of_mem_drop (List.mem_of_mem_take he),rfl⟩
  ·cases hs
 obtain⟨h0,c,hc,-⟩:=(v.ts.tm s).1 hm
 refine⟨h0,?_⟩
 by_cases h:0<=s.i/\s.i<=63
 ·exact h
 ·rw[(GV v.ts.n0 s.i).2 h] at hc
  cases hc
theorem Jin (v:Iv n m K) (j:Int):(Zc K j).length<=64:=by
 have h:(Zc K j).length=(Tr.Zo K.E (tr j)).length:=by
  unfold Zc
  simp
 have h2:=IX v.ts
 rw[h]
 have:(Tr.Zo K.E (tr j)).length<=K.E.length:=by
  unfold Tr.Zo
  split
  ·unfold Tr.JA Tr.Jz
   rw[List.length_map,List.length_take,List.length_drop]
   omega
  ·exact Jqp _
 omega
theorem Jo0 {c:Sl.Cp} (hf:c.Fits) (hx:Sl.Fine c) {A B:Int} (hE:Ca.Zb (Xf c) A (VI B)=0):(EP (Ca.Vx (Xf c) A (VI B))).Fits:=by
 have hn:0<=A/\A<=7:=by
  unfold Ca.Zb at hE
  split at hE
  ·split at hE
   ·assumption
   ·cases hE
  ·cases hE
 have hr:0<=(Xf c).r/\(Xf c).r<=7:=by
  rcases hx with e|⟨_,_,h,_⟩
  ·subst e
   decide
  ·exact h
 have h:=Ca.Jg9 (c:=Xf c) (n:=A) (v:=VI B) ⟨hf.k,hf.o,hf.r,hf.b,hf.g,hf.z⟩ hr hn (Ez B)
 unfold Ca.Vx
 rw[if_pos hE]
 exact⟨h.k,h.o,h.r,h.b,h.g,h.z⟩
end
end Go.Proofs.YtbfjjpdnoalojaaGreatDoor
