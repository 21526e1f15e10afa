/-
  What stands below: KrDo KrCall KrSlot KL2 KF3 KM; no condition but what each says.
-/
import Derived.Test.YtilnjnblpeeigaaGreatDoorPb4
import Derived.Test.YtilnjnblpeeigaaGreatDoorPb14
import Derived.Test.YtilnjnblpeeigaaGreatDoorPb15
namespace Go.Proofs.YtilnjnblpeeigaaGreatDoor
set_option linter.unusedSectionVars false
section
variable [dCp:DecidableEq Sl.Cp] [dLim:∀ k,Decidable (Sl.Lim k)] [dBad:∀ k,Decidable (Sl.Bad k)] [dFit:∀ g z,Decidable (Sl.Fit g z)] [dF:∀ c:Sl.Cp,Decidable (Sl.Fine c)] [dMi:∀ c v,Decidable (Sl.MintR c v)] [dWho:∀ x y,Decidable (Sl.Whose x y)] [dSl:DecidableEq Sl.Sl] [dLt:∀ a b,Decidable (Sl.ltS a b)]
variable [dT:DecidableEq Tr.Sl] [dL:∀ k:Int,Decidable (Ca.Lim k)] [dC:∀ c:Ca.Cp,Decidable (Ca.Fine c)] [dM:∀ (c:Ca.Cp) (v:Int),Decidable (Ca.MintR c v)] [dCc:DecidableEq Ca.Cp] [dCb:∀ k,Decidable (Ca.Bad k)] [dCf:∀ g z,Decidable (Ca.Fit g z)] [dCw:∀ x y,Decidable (Ca.Whose x y)]
variable {n m:Nat} {K:Kr}
abbrev I6 (x:Int):Prop:=-9223372036854775808<=x/\x<=9223372036854775807
theorem made_fine {A o:Int} (hA:1<=A/\A<=8) (ho:0<=o/\o<=1000001):Sl.Fine ⟨A,o,7,0,0,0⟩/\(⟨A,o,7,0,0,0⟩:Sl.Cp).Fits:=by
 refine ⟨.inr ⟨⟨by simp only;omega,by simp only;omega⟩,⟨ho.1,by simp only;omega⟩,⟨by simp only;omega,by simp only;omega⟩,.inl rfl,.inl rfl,.inl ⟨rfl,rfl⟩,?_⟩,⟨by simp only;omega,by simp only;omega,by simp only;omega,by simp only;omega,by simp only;omega,by simp only;omega⟩⟩
 unfold Sl.Fit Sl.onesI
 simp
theorem Iv.makes {a core A B:Int} (hA:1<=A/\A<=8) (hB:I6 B):∀ (L:List Int) {K:Kr} {m:Nat} {w:Int} {ca:Sl.Cp},Iv n m K->Sl.atS K.S (sl a)=some ca->ca.k≠0->(∀ j:Nat,j<L.length->∃ d,Sl.atS K.S (sl (w+(j:Int)))=some d/\d.k=0)->m+L.length<=1000000->(∀ x∈L,U6 x) ->
  (A=2->(1<=B/\B<=8)/\K.S.length+L.length<=64)->(A=3->Th.isC K.h core/\K.h.L.length+L.length<=64)->Iv n (m+L.length) (makesK a core A B K w L)
 | [],_,_,_,_,v,_,_,_,_,_,_,_=>v
 | x::L,K,m,w,ca,v,ha,hak,hfree,hm,hx,h2,h3=>by
  rw [List.length_cons] at hm
  have e2:A=2->Sl.makeE K.S B=0:=fun e=>by
   obtain ⟨h1,h4⟩:=h2 e
   unfold Sl.makeE
   rw [if_pos h1,if_pos (by rw [List.length_cons] at h4;omega)]
  have e3:A=3->Th.makeE K.h 0 core=0:=fun e=>by
   obtain ⟨h1,h4⟩:=h3 e
   unfold Th.makeE
   rw [if_pos ⟨by decide,h1⟩,if_neg (by rw [List.length_cons] at h4;omega)]
  obtain ⟨v1,r1,o0,o1,le⟩:=v.made (A:=A) (B:=B) (core:=core) (x:=x) hA (by omega) hB (hx x (by simp)) e2 e3
  have hat:=fun i=>made_at v A B core x i
  obtain ⟨d,hd,hdk⟩:=hfree 0 (by simp)
  rw [show w+((0:Nat):Int)=w by omega] at hd
  obtain ⟨f1,f2⟩:=made_fine hA ⟨o0,o1⟩
  have v2:=v1.lay (a:=a) (w:=w) (c:=⟨A,madeN K A B core,7,0,0,0⟩) (by rw [hat];exact ha) hak (by rw [hat];exact hd) hdk f2 (by show A≠0;omega) f1 r1
  have hd1:Sl.atS (madeK K A B core x).S (sl w)=some d:=by rw [hat];exact hd
  have hkeep:∀ i c,i≠w->Sl.atS (madeK K A B core x).S (sl i)=some c->Sl.atS (layK (madeK K A B core x) a w ⟨A,madeN K A B core,7,0,0,0⟩).S (sl i)=some c:=fun i c hi hc=>by
   show Sl.atS (Sl.putS (madeK K A B core x).S (sl w) _) (sl i)=some c
   unfold Sl.putS
   split
   ·rw [Sl.atS_set hd1,if_neg (sl_ne hi)]
    exact hc
   ·exact hc
  have haw:a≠w:=fun e=>by
   rw [e,hd] at ha
   cases ha
   exact hak hdk
  have lens:(layK (madeK K A B core x) a w ⟨A,madeN K A B core,7,0,0,0⟩).S.length=(madeK K A B core x).S.length:=put_len _ _ _
  have r:=Iv.makes (a:=a) (core:=core) hA hB L (K:=layK (madeK K A B core x) a w ⟨A,madeN K A B core,7,0,0,0⟩) (m:=m+1) (w:=w+1) (ca:=ca) v2 (hkeep a ca haw (by rw [hat];exact ha)) hak (fun j hj=>by
   obtain ⟨d2,hd2,hd2k⟩:=hfree (j+1) (by rw [List.length_cons];omega)
   refine ⟨d2,hkeep _ _ (by omega) ?_,hd2k⟩
   rw [hat]
   have e:w+1+(j:Int)=w+((j+1:Nat):Int):=by omega
   rw [e]
   exact hd2) (by omega) (fun y hy=>hx y (by simp [hy])) (fun e=>by
   obtain ⟨h1,h4⟩:=h2 e
   refine ⟨h1,?_⟩
   rw [lens]
   rw [List.length_cons] at h4
   have:(madeK K A B core x).S.length<=K.S.length+1:=by
    unfold madeK
    rw [if_neg (by omega),if_pos e]
    show (Sl.makeS K.S B).length<=_
    unfold Sl.makeS
    split <;> simp
   omega) (fun e=>by
   obtain ⟨h1,h4⟩:=h3 e
   rw [List.length_cons] at h4
   have hh:(layK (madeK K A B core x) a w ⟨A,madeN K A B core,7,0,0,0⟩).h=Th.makeH K.h 0 core:=by
    show (madeK K A B core x).h=_
    unfold madeK
    rw [if_neg (by omega),if_neg (by omega),if_pos e]
   rw [hh]
   have hL:(Th.makeH K.h 0 core).L.length<=K.h.L.length+1/\(Th.makeH K.h 0 core).Q.length=K.h.Q.length:=by
    unfold Th.makeH
    split <;> simp
   refine ⟨?_,by omega⟩
   unfold Th.isC at *
   rw [hL.2]
   exact h1)
  show Iv n (m+(x::L).length) (makesK a core A B (layK (madeK K A B core x) a w ⟨A,madeN K A B core,7,0,0,0⟩) (w+1) L)
  rw [List.length_cons,show m+(L.length+1)=m+1+L.length by omega]
  exact r
theorem unN_fits (v:Iv n m K) (o:Int):(unN K o).Fits:=by
 unfold unN
 rw [List.getD_eq_getElem?_getD]
 cases e:K.U[o.toNat]? with
 | none=>exact Un.zero_fits
 | some u=>exact v.un u (List.mem_of_getElem? e)
theorem pl_len {u:Un.Un} {k b c:Int} (h:Un.Found u k b c):(Un.plL u k b c).length=c.toNat:=by
 unfold Un.plL
 rw [if_pos ((Un.found_iff u k b c).2 h)]
 simp [Un.runL]
theorem Iv.retype (v:Iv n m K) (hm:m<=900000) (core:Int) (c:Cl) (hB:I6 c.B) (hcore:Th.isC K.h core) (h:(capN K c.a).k≠0):Iv n (m+64) (retypeK K core c (capN K c.a).o):=by
 unfold retypeK
 by_cases hE:retypeE K c (capN K c.a).o=0
 ·rw [if_pos hE]
  unfold retypeE at hE
  split at hE
  ·rename_i h1
   exact absurd hE h1
  ·rename_i h1
   have hpl:Un.plE (unN K (capN K c.a).o) c.A c.B c.C=0:=Decidable.not_not.1 h1
   split at hE
   ·rename_i h2
    exact absurd hE h2
   ·rename_i h2
    have hfr:freeE K c.w c.C=0:=Decidable.not_not.1 h2
    split at hE
    ·cases hE
    ·rename_i h3
     have fd:=(Un.found_iff _ _ _ _).1 hpl
     have hlen:=pl_len fd
     have hn:=fd.n0
     have hA:1<=c.A/\c.A<=8:=by
      have:=fd.sz
      unfold Un.szE at this
      repeat' split at this
      all_goals omega
     have hU:=(Un.place_ok (unN_fits v _) fd).2.1
     have v1:=v.setU (capN K c.a).o hU
     have hbig:(c.A=2->K.S.length+c.C.toNat<=64)/\(c.A=3->K.h.L.length+c.C.toNat<=64):=by
      unfold bigB at h3
      have h4:¬ ((c.A == 2 && decide (64<(K.S.length:Int)+c.C))=true)/\¬ ((c.A == 3 && decide (64<(K.h.L.length:Int)+c.C))=true):=by
       constructor
       ·intro e
        rw [e] at h3
        exact h3 rfl
       ·intro e
        rw [e] at h3
        exact h3 (Bool.or_true _)
      refine ⟨fun e=>?_,fun e=>?_⟩
      ·have:=h4.1
       rw [e] at this
       simp at this
       omega
      ·have:=h4.2
       rw [e] at this
       simp at this
       omega
     have hfree:(0<=c.w/\c.w<=63/\c.w+c.C<=64)/\∀ j:Nat,j<c.C.toNat->(capN K (c.w+(j:Int))).k=0:=by
      unfold freeE at hfr
      split at hfr
      ·rename_i h5
       refine ⟨h5,fun j hj=>?_⟩
       split at hfr
       ·rename_i h6
        have:=List.all_eq_true.1 h6 j (by rw [List.mem_range];exact hj)
        simpa using this
       ·cases hfr
      ·cases hfr
     have hB2:c.A=2->1<=c.B/\c.B<=8:=fun e=>by
      have:=fd.sz
      unfold Un.szE at this
      rw [e] at this
      simp only [show ¬ ((2:Int)=1) by decide,if_false,if_true] at this
      split at this
      ·assumption
      ·cases this
     have r:=Iv.makes (a:=c.a) (core:=core) (A:=c.A) (B:=c.B) hA hB (Un.plL (unN K (capN K c.a).o) c.A c.B c.C) (w:=c.w) v1 (cap_at v h) h (fun j hj=>by
      rw [hlen] at hj
      exact cap_free v (by have:=hfree.1;omega) (hfree.2 j hj)) (by rw [hlen];omega) (fun x hx=>by
      have:=place_bd fd hx
      exact ⟨this.1,by omega⟩) (fun e=>⟨hB2 e,by rw [hlen];exact hbig.1 e⟩) (fun e=>⟨hcore,by rw [hlen];exact hbig.2 e⟩)
     exact r.more (by rw [hlen];omega)
 ·rw [if_neg hE]
  exact v.more (by omega)
end
end Go.Proofs.YtilnjnblpeeigaaGreatDoor
namespace Go.Proofs.YtilnjnblpeeigaaGreatDoor
set_option linter.unusedSectionVars false
section
variable [dCp:DecidableEq Sl.Cp] [dLim:∀ k,Decidable (Sl.Lim k)] [dBad:∀ k,Decidable (Sl.Bad k)] [dFit:∀ g z,Decidable (Sl.Fit g z)] [dF:∀ c:Sl.Cp,Decidable (Sl.Fine c)] [dMi:∀ c v,Decidable (Sl.MintR c v)] [dWho:∀ x y,Decidable (Sl.Whose x y)] [dSl:DecidableEq Sl.Sl] [dLt:∀ a b,Decidable (Sl.ltS a b)]
variable [dT:DecidableEq Tr.Sl] [dL:∀ k:Int,Decidable (Ca.Lim k)] [dC:∀ c:Ca.Cp,Decidable (Ca.Fine c)] [dM:∀ (c:Ca.Cp) (v:Int),Decidable (Ca.MintR c v)] [dCc:DecidableEq Ca.Cp] [dCb:∀ k,Decidable (Ca.Bad k)] [dCf:∀ g z,Decidable (Ca.Fit g z)] [dCw:∀ x y,Decidable (Ca.Whose x y)]
variable {n m:Nat} {K:Kr}
theorem epN_ok (v:Iv n m K) (o:Int):EpOk K.h (epN K o):=by
 unfold epN
 rw [List.getD_eq_getElem?_getD]
 cases e:K.P[o.toNat]? with
 | none=>exact ⟨En.good_nil,fun x hx=>by simp at hx⟩
 | some S=>exact v.ep S (List.mem_of_getElem? e)
theorem ntN_ok (v:Iv n m K) (o:Int):NtOk K.h (ntN K o):=by
 unfold ntN
 rw [List.getD_eq_getElem?_getD]
 cases e:K.N[o.toNat]? with
 | none=>exact ⟨No.good_0,fun x hx=>by simp [No.ns0] at hx⟩
 | some S=>exact v.nt S (List.mem_of_getElem? e)
theorem spN_ok (v:Iv n m K) (o:Int):Ta.Good (spN K o):=by
 unfold spN
 rw [List.getD_eq_getElem?_getD]
 cases e:K.D[o.toNat]? with
 | none=>exact Ta.good0
 | some S=>exact v.sp S (List.mem_of_getElem? e)
theorem ep_tail {h:Th.Hs} {S:En.St} (k:EpOk h S):EpOk h S.tail:=⟨En.good_tail k.1,fun x hx=>k.2 x (List.mem_of_mem_tail hx)⟩
theorem ep_send {h:Th.Hs} {S:En.St} (k:EpOk h S) {who:Int} (hw:Tid h who) {x:En.Ms} (hg:U6 x.g) (ha:U6 x.a) (z:Bool):EpOk h (En.sendS S who x z):=by
 refine ⟨En.good_send k.1 _ _ _,fun y hy=>?_⟩
 unfold En.sendS at hy
 split at hy
 ·exact k.2 y hy
 ·split at hy
  ·exact (ep_tail k).2 y hy
  ·split at hy
   ·rcases List.mem_append.1 hy with hy | hy
    ·exact k.2 y hy
    ·have:y=⟨who,true,x⟩:=by simpa using hy
     subst this
     exact ⟨hw,hg,ha⟩
   ·exact k.2 y hy
theorem ep_recv {h:Th.Hs} {S:En.St} (k:EpOk h S) {who:Int} (hw:Tid h who) (z:Bool):EpOk h (En.recvS S who z):=by
 refine ⟨En.good_recv k.1 _ _,fun y hy=>?_⟩
 unfold En.recvS at hy
 split at hy
 ·exact k.2 y hy
 ·split at hy
  ·exact (ep_tail k).2 y hy
  ·split at hy
   ·rcases List.mem_append.1 hy with hy | hy
    ·exact k.2 y hy
    ·have:y=⟨who,false,En.ms0⟩:=by simpa using hy
     subst this
     exact ⟨hw,⟨Int.le_refl 0,by show (0:Int)<=_;decide⟩,⟨Int.le_refl 0,by show (0:Int)<=_;decide⟩⟩
   ·exact k.2 y hy
def MsOk (x:En.Ms):Prop:=U6 x.g/\U6 x.a
theorem ms0_ok:MsOk En.ms0:=⟨⟨Int.le_refl 0,by show (0:Int)<=_;decide⟩,⟨Int.le_refl 0,by show (0:Int)<=_;decide⟩⟩
theorem send_ms {S:En.St} {who:Int} {x:En.Ms} (hx:MsOk x):MsOk (En.sendM S who x).m:=by
 unfold En.sendM
 repeat' split
 all_goals first
  | exact ms0_ok
  | exact hx
theorem recv_ms {h:Th.Hs} {S:En.St} (k:EpOk h S) {who:Int}:MsOk (En.recvM S who).m:=by
 unfold En.recvM
 split
 ·exact ms0_ok
 ·cases S with
  | nil=>exact ms0_ok
  | cons y T =>
   have:=k.2 y (by simp)
   simp only
   split
   ·exact ⟨this.2.1,this.2.2⟩
   ·exact ms0_ok
theorem Iv.get (v:Iv n m K) (id:Int) {x:En.Ms} (hx:MsOk x):Iv n m (getK K id x):=
 v.thr (Th.inv_reg (Th.inv_reg (Th.inv_reg v.th _ _ _ hx.1) _ _ _ (u64_ok _)) _ _ _ hx.2) ((reg_len _ _ _ _).then ((reg_len _ _ _ _).then (reg_len _ _ _ _)))
theorem Iv.wake (v:Iv n m K) (id:Int):Iv n m (wakeK K id):=v.thr (Th.inv_resume v.th id) (resume_len _ _)
theorem Iv.rest (v:Iv n m K) (core who c:Int):Iv n m (restK K core who c):=by
 unfold restK
 split
 ·exact v
 ·exact v.thr (Th.inv_pick (Th.inv_block v.th who) core) ((block_len _ _).then (pick_len _ _))
theorem Iv.sent (v:Iv n m K) (core who:Int) (c:Cl) {x:En.Mt} (hx:MsOk x.m) (wk:Int):Iv n m (sentK K core who c x wk).1:=by
 unfold sentK
 split
 ·exact (v.get _ hx).wake _
 ·exact v.rest _ _ _
theorem Iv.send (v:Iv n m K) (core:Int) {who:Int} (hw:Tid K.h who) (c:Cl) (x:Sl.Cp) (hx:U6 x.b):Iv n m (sendK K core who c x).1:=by
 have hm:MsOk ⟨c.A,u64 c.B,0,0,0,x.b,false⟩:=⟨hx,u64_ok _⟩
 unfold sendK
 split
 ·exact (v.setP x.o (ep_send (epN_ok v x.o) hw hm.1 hm.2 _)).sent core who c (send_ms hm) _
 ·exact v
theorem Iv.recv (v:Iv n m K) (core:Int) {who:Int} (hw:Tid K.h who) (c:Cl) (x:Sl.Cp):Iv n m (recvK K core who c x).1:=by
 unfold recvK
 split
 ·exact (v.setP x.o (ep_recv (epN_ok v x.o) hw _)).sent core who c (recv_ms (epN_ok v x.o)) _
 ·exact v
theorem nt_sig {h:Th.Hs} {S:No.Ns} (k:NtOk h S) {g:Int} (hg:U6 g):NtOk h (No.sigS S g):=by
 refine ⟨No.good_sig k.1 hg,fun x hx=>?_⟩
 unfold No.sigS at hx
 cases hl:S.l with
 | nil =>
  rw [hl] at hx
  simp at hx
 | cons y T =>
  rw [hl] at hx
  exact k.2 x (by rw [hl];exact List.mem_cons_of_mem _ hx)
theorem nt_wait {h:Th.Hs} {S:No.Ns} (k:NtOk h S) {who:Int} (hw:Tid h who) (z:Bool):NtOk h (No.waitS S who z):=by
 refine ⟨No.good_wait k.1 _ _,fun x hx=>?_⟩
 unfold No.waitS at hx
 split at hx
 ·exact k.2 x hx
 ·split at hx
  ·exact k.2 x hx
  ·split at hx
   ·rcases List.mem_append.1 hx with hx | hx
    ·exact k.2 x hx
    ·have:x=who:=by simpa using hx
     subst this
     exact hw
   ·exact k.2 x hx
theorem sigW_ok {S:No.Ns} {g:Int} (hg:U6 g):U6 (No.sigW S g):=by
 unfold No.sigW
 split
 ·exact ⟨Int.le_refl 0,by show (0:Int)<=_;decide⟩
 ·exact hg
theorem Iv.sig (v:Iv n m K) (o:Int) {g:Int} (hg:U6 g):Iv n m (sigK K o g):=by
 unfold sigK
 have v1:=v.setN o (nt_sig (ntN_ok v o) hg)
 split
 ·exact v1.thr (Th.inv_resume (Th.inv_reg v1.th _ _ _ (sigW_ok hg)) _) ((reg_len _ _ _ _).then (resume_len _ _))
 ·exact v1
theorem Iv.wait (v:Iv n m K) (core:Int) {who:Int} (hw:Tid K.h who) (c:Cl) (x:Sl.Cp):Iv n m (waitK K core who c x).1:=by
 unfold waitK
 split
 ·split
  ·exact v.setN _ (nt_wait (ntN_ok v x.o) hw _)
  ·exact (v.setN _ (nt_wait (ntN_ok v x.o) hw _)).rest _ _ _
 ·exact v
theorem tel_ok (v:Iv n m K) {f:Ir.Ln->Ir.Ln} (hf:∀ x,(f x).a=x.a/\(f x).g=x.g/\((f x).s≠none->x.s≠none)) (o:Int):∀ x∈Ir.telS f K.l o,LnOk K.N x:=fun x hx=>by
 unfold Ir.telS at hx
 split at hx
 ·exact v.ln x hx
 ·rename_i y hy
  unfold Ir.putI at hx
  rcases mem_set' hx with hx | rfl
  ·exact v.ln x hx
  ·intro he
   obtain ⟨e1,e2,e3⟩:=hf y
   have:=v.ln y (List.mem_of_getElem? (Ir.atI_some hy).2.2) (e3 he)
   rw [e1,e2]
   exact this
theorem ack_ok (x:Ir.Ln):(Ir.ackX x).a=x.a/\(Ir.ackX x).g=x.g/\((Ir.ackX x).s≠none->x.s≠none):=by
 obtain ⟨s,a,g⟩:=x
 rcases s with _ | _ | _ | _ <;> exact ⟨rfl,rfl,fun h=>(by first | exact h | (intro e;cases e))⟩
theorem telG_ok (v:Iv n m K) {f:Ir.Ln->Bool} (hf:∀ x,f x=true->x.s≠none) (o:Int):U6 (Ir.telG f K.l o):=by
 have z:U6 0:=⟨Int.le_refl 0,by decide⟩
 unfold Ir.telG
 split
 ·exact z
 ·rename_i y hy
  split
  ·rename_i hh
   exact (v.ln y (List.mem_of_getElem? (Ir.atI_some hy).2.2) (hf y hh)).2.2
  ·exact z
theorem isM_some (x:Ir.Ln) (h:Ir.isM x=true):x.s≠none:=by
 intro e
 unfold Ir.isM at h
 rw [e] at h
 cases h
theorem Iv.picked (v:Iv n m K) (core:Int):Iv n m (pickedK K core):=v.thr (Th.inv_pick v.th core) (pick_len _ _)
theorem runs_tid (v:Iv n m K) {core:Int} (h:Th.runsB K.h core=true):Tid K.h (Th.runsN K.h core)/\Th.isC K.h core:=by
 unfold Th.runsB at h
 unfold Th.runsN
 cases e:Th.runsO K.h core with
 | none =>
  rw [e] at h
  cases h
 | some i =>
  obtain ⟨x,hx,_,hi,_,hc⟩:=Th.runs_some e
  have ok:=v.th.each x (List.mem_of_getElem? hx)
  have:=ok.c
  refine ⟨⟨by simp,by simpa using hi⟩,?_⟩
  unfold Th.isC
  omega
theorem Iv.does (v:Iv n m K) (hm:m<=900000) {core who:Int} (hw:Tid K.h who) (hc:Th.isC K.h core) (c:Cl) (hB:I6 c.B) (h:(capN K c.a).k≠0):Iv n (m+64) (doesK K core who c (capN K c.a)).1:=by
 have w:=v.more (show m<=m+64 by omega)
 unfold doesK
 by_cases h0:c.q=0
 ·rw [if_pos h0]
  exact v.retype hm core c hB hc h
 rw [if_neg h0]
 by_cases h1:c.q=1
 ·rw [if_pos h1]
  exact (v.mint c h).more (by omega)
 rw [if_neg h1]
 by_cases h2:c.q=2
 ·rw [if_pos h2]
  exact (v.moved c h).more (by omega)
 rw [if_neg h2]
 by_cases h3:c.q=3
 ·rw [if_pos h3]
  split
  ·exact w
  ·exact w.gone _
 rw [if_neg h3]
 by_cases h4:c.q=4
 ·rw [if_pos h4]
  unfold revokeK
  split
  ·exact (Iv.goneAll _ w).setU _ ⟨(unN_fits w _).base,(unN_fits w _).bits,⟨Int.le_refl 0,by show (0:Int)<=_;decide⟩⟩
  ·exact Iv.goneAll _ w
 rw [if_neg h4]
 by_cases h5:c.q=5
 ·rw [if_pos h5]
  refine Iv.wake ?_ _
  unfold easedK
  split
  ·exact w.freed _
  ·exact w
 rw [if_neg h5]
 by_cases h6:c.q=6
 ·rw [if_pos h6]
  exact (w.freed _).thr (Th.inv_suspend w.th _) (suspend_len _ _)
 rw [if_neg h6]
 by_cases h7:c.q=7
 ·rw [if_pos h7]
  exact w.thr (Th.inv_prio w.th _ _) (prio_len _ _ _)
 rw [if_neg h7]
 by_cases h8:c.q=8
 ·rw [if_pos h8]
  exact w.send core hw c _ (cap_fits v h).b
 rw [if_neg h8]
 by_cases h9:c.q=9
 ·rw [if_pos h9]
  exact w.recv core hw c _
 rw [if_neg h9]
 by_cases h10:c.q=10
 ·rw [if_pos h10]
  exact w.sig _ (cap_fits v h).b
 rw [if_neg h10]
 by_cases h11:c.q=11
 ·rw [if_pos h11]
  exact w.wait core hw c _
 rw [if_neg h11]
 by_cases h12:c.q=12
 ·rw [if_pos h12]
  split
  ·exact w.setD _ (Ta.good_tab (spN_ok w _) _ _)
  ·exact w
 rw [if_neg h12]
 by_cases h13:c.q=13
 ·rw [if_pos h13]
  split
  ·exact w.setD _ (Ta.good_map (spN_ok w _) _ _)
  ·exact w
 rw [if_neg h13]
 by_cases h14:c.q=14
 ·rw [if_pos h14]
  split
  ·exact w.setD _ (Ta.good_unm (spN_ok w _) _)
  ·exact w
 rw [if_neg h14]
 by_cases h15:c.q=15
 ·rw [if_pos h15]
  split
  ·rename_i hk
   have hk2:(capN K c.w).k≠0:=by rw [hk];decide
   refine w.lines ((Ir.bind_len _ _ _ _).trans w.ll) fun x hx=>?_
   unfold Ir.bindS at hx
   split at hx
   ·exact w.ln x hx
   ·split at hx
    ·exact w.ln x hx
    ·split at hx
     ·unfold Ir.putI at hx
      rcases mem_set' hx with hx | rfl
      ·exact w.ln x hx
      ·exact fun _=>⟨cap_obj v hk2,(cap_ref v hk2).n hk,(cap_fits v hk2).b⟩
     ·exact w.ln x hx
  ·exact w
 ·rw [if_neg h15]
  have v1:Iv n (m+64) (ackedK K (capN K c.a).o):=w.lines (l:=Ir.telS Ir.ackX K.l (capN K c.a).o) ((Ir.tel_len _ _ _).trans w.ll) (tel_ok w ack_ok _)
  split
  ·exact v1.sig _ (telG_ok w isM_some _)
  ·exact v1
theorem Iv.call (v:Iv n m K) (hm:m<=900000) (core:Int) (c:Cl) (hB:I6 c.B):Iv n (m+64) (doK K core c).1:=by
 have w:=v.more (show m<=m+64 by omega)
 unfold doK
 split
 ·rename_i hr
  obtain ⟨t1,t2⟩:=runs_tid (v.picked core) hr
  split
  ·split
   ·exact w.thr (Th.inv_yield (w.picked core).th core) ((pick_len _ _).then (yield_len _ _))
   ·split
    ·rename_i hmay
     have hk:(capN K c.a).k≠0:=by
      unfold mayB at hmay
      intro e
      rw [e] at hmay
      simp at hmay
     exact (v.picked core).does hm t1 t2 c hB hk
    ·exact w.picked core
  ·exact w.picked core
 ·exact w.picked core
end
end Go.Proofs.YtilnjnblpeeigaaGreatDoor
namespace Go.Proofs.YtilnjnblpeeigaaGreatDoor
set_option linter.unusedSectionVars false
section
variable [dCp:DecidableEq Sl.Cp] [dLim:∀ k,Decidable (Sl.Lim k)] [dBad:∀ k,Decidable (Sl.Bad k)] [dFit:∀ g z,Decidable (Sl.Fit g z)] [dF:∀ c:Sl.Cp,Decidable (Sl.Fine c)] [dMi:∀ (c:Sl.Cp) (v:Int),Decidable (Sl.MintR c v)] [dWho:∀ x y,Decidable (Sl.Whose x y)] [dS:DecidableEq Sl.Sl] [dLt:∀ a b,Decidable (Sl.ltS a b)] [dIsN:∀ S c,Decidable (Sl.isN S c)] [dGuN:∀ a c d,Decidable (Sl.GuardN a c d)]
theorem slot6 {S:Sl.St} (h:(S.getD 0 []).length=64) {n:Int} (h0:0<=n) (h1:n<=63):Sl.slotR S ⟨2,0,7,0,0,0⟩ n 6=(⟨0,n⟩,0):=by
 obtain ⟨k,rfl⟩:=Int.eq_ofNat_of_zero_le h0
 have e0:Sl.nodeS S 0=S.getD 0 []:=rfl
 have eb:Sl.bitsN S ⟨2,0,7,0,0,0⟩=6:=by
  unfold Sl.bitsN Sl.bitsL
  rw [e0,h]
  rfl
 have er:Sl.restN S ⟨2,0,7,0,0,0⟩ 6=0:=by
  unfold Sl.restN
  rw [eb]
  rfl
 have hz:Sl.nameE S k ⟨2,0,7,0,0,0⟩ 6=0:=by
  rw [Sl.name_zero,eb]
  refine ⟨⟨rfl,.inr ⟨⟨by decide,by decide⟩,⟨by decide,by decide⟩,⟨by decide,by decide⟩,.inl rfl,.inl rfl,.inl ⟨rfl,rfl⟩,?_⟩,?_⟩,⟨Nat.zero_le _,?_⟩,Nat.le_refl _⟩
  ·unfold Sl.Fit
   decide
  ·rw [e0]
   intro e
   rw [e] at h
   cases h
  ·show ((Sl.fieldN k 6 0:Nat):Int)=0
   have:=Sl.fieldN_lt k 6 0
   omega
 have es:Sl.slotN S k ⟨2,0,7,0,0,0⟩ 6=⟨0,(k:Int)⟩:=by
  unfold Sl.slotN
  rw [er,eb]
  have:Sl.fieldN k 0 6=k:=by
   unfold Sl.fieldN
   rw [Nat.pow_zero,Nat.div_one]
   exact Nat.mod_eq_of_lt (by have:(2:Nat) ^ 6=64:=rfl;omega)
  rw [this]
 unfold Sl.slotR
 rw [if_pos ⟨by decide,by decide⟩]
 show Sl.look S k 65 _ 6=_
 unfold Sl.look
 rw [if_pos hz,if_pos er,es]
end
theorem few_ints {K:List Int} (m:Nat) (hn:K.Nodup) (hk:∀ x∈K,0<=x/\x<(m:Int)):K.length<=m:=by
 classical
 have hp:K.Perm (((List.range m).map fun n:Nat=>(n:Int)).filter fun x=>decide (x∈K)):=by
  refine (List.perm_ext_iff_of_nodup hn ?_).2 fun x=>?_
  ·refine List.Pairwise.filter _ ?_
   refine List.pairwise_map.2 ((List.nodup_range (n:=m)).imp fun {a b} h e=>h (by omega))
  ·rw [List.mem_filter,List.mem_map]
   simp only [List.mem_range,decide_eq_true_eq]
   constructor
   ·intro h
    have:=hk x h
    exact ⟨⟨x.toNat,by omega,by omega⟩,h⟩
   ·exact fun h=>h.2
 rw [hp.length_eq]
 refine Nat.le_trans (List.length_filter_le _ _) ?_
 rw [List.length_map,List.length_range]
 exact Nat.le_refl _
theorem ep_few {h:Th.Hs} (iv:Th.Inv h) {S:En.St} (k:EpOk h S):S.length<=64:=by
 have:=few_ints 64 (K:=S.map fun x=>x.n) (List.pairwise_map.2 k.1.one) fun x hx=>by
  obtain ⟨y,hy,rfl⟩:=List.mem_map.1 hx
  obtain ⟨h1,h2⟩:=(k.2 y hy).1
  have:=iv.few
  exact ⟨h1,by omega⟩
 simpa using this
theorem nt_few {h:Th.Hs} (iv:Th.Inv h) {S:No.Ns} (k:NtOk h S):S.l.length<=64:=
 few_ints 64 k.1.one fun x hx=>by
  obtain ⟨h1,h2⟩:=k.2 x hx
  have:=iv.few
  exact ⟨h1,by omega⟩
end Go.Proofs.YtilnjnblpeeigaaGreatDoor
namespace Go.Proofs.YtilnjnblpeeigaaGreatDoor
open Go.RowKit Go.Deep Go.Shelf
open Classical
section
variable {α β:Type} {f:α->β->Th}
theorem zip_mid {P:List α} {S:List β} {i:Nat} {a:α} {b:β} (h1:P[i]? = some a) (h2:S[i]? = some b):List.zipWith f P S=(List.zipWith f P S).take i++f a b::(List.zipWith f P S).drop (i+1):=by
 have h:(List.zipWith f P S)[i]? = some (f a b):=by rw [List.getElem?_zipWith,h1,h2]
 obtain ⟨hi,e⟩:=List.getElem?_eq_some_iff.1 h
 rw [<- e,<- List.drop_eq_getElem_cons hi,List.take_append_drop]
theorem zip_set {P:List α} {S:List β} {i:Nat} (a:α) (b:β) (h1:i<P.length) (h2:i<S.length):List.zipWith f (P.set i a) (S.set i b)=(List.zipWith f P S).take i++f a b::(List.zipWith f P S).drop (i+1):=by
 have e:List.zipWith f (P.set i a) (S.set i b)=(List.zipWith f P S).set i (f a b):=by
  apply List.ext_getElem?
  intro j
  rw [List.getElem?_zipWith,List.getElem?_set,List.getElem?_set,List.getElem?_set,List.getElem?_zipWith]
  by_cases hj:i=j
  ·subst hj
   rw [if_pos rfl,if_pos rfl,if_pos rfl,if_pos h1,if_pos h2,if_pos (by rw [List.length_zipWith];omega)]
  ·rw [if_neg hj,if_neg hj,if_neg hj]
 rw [e,List.set_eq_take_append_cons_drop,if_pos (by rw [List.length_zipWith];omega)]
end
section
variable {w0 w w':World} {r p:Nat} {Y:Ly} {K:Kr} {R:List Th}
theorem Sep.oneOf {α β:Type} {f:α->β->Th} {X:Prop} {A B:List Th} {P:List α} {S:List β} {i:Nat} {a:α} {b:β} (s:Sep w0 r w (many X (A++(List.zipWith f P S++B))::R)) (ha:P[i]? = some a) (hb:S[i]? = some b) :
  ∃ Q,Sep w0 r w (f a b::Q)/\∀ X' w' a' b' E,X'->Sep w0 r w' (f a' b'::(E++Q))->Sep w0 r w' (many X' (A++(List.zipWith f (P.set i a') (S.set i b')++B))::(E++R)):=by
 have e0:∀ x:Th,A++((List.zipWith f P S).take i++x::(List.zipWith f P S).drop (i+1)++B)=(A++(List.zipWith f P S).take i)++x::((List.zipWith f P S).drop (i+1)++B):=fun x=>by
  rw [List.append_assoc,List.append_assoc,List.cons_append]
 have e1:A++(List.zipWith f P S++B)=(A++(List.zipWith f P S).take i)++f a b::((List.zipWith f P S).drop (i+1)++B):=by
  rw [<- e0,<- zip_mid ha hb]
 refine ⟨_,Sep.into (P:=X) (by rw [<- e1];exact s),fun X' w' a' b' E hx h=>?_⟩
 have:=Sep.back (P':=X') hx h
 rw [<- e0,<- zip_set a' b' (List.getElem?_eq_some_iff.1 ha).1 (List.getElem?_eq_some_iff.1 hb).1] at this
 exact this
theorem map_set_fst {β:Type} {P:List (Nat×β)} {i q:Nat} {v:β} (h:P[i]? = some (q,v)) (v':β):(P.set i (q,v')).map (·.1)=P.map (·.1):=by
 apply List.ext_getElem?
 intro j
 rw [List.getElem?_map,List.getElem?_map,List.getElem?_set]
 by_cases hj:i=j
 ·subst hj
  rw [if_pos rfl,if_pos (List.getElem?_eq_some_iff.1 h).1,h]
  rfl
 ·rw [if_neg hj]
theorem Sep.epOf (s:Sep w0 r w (kT p Y K::R)) {i:Nat} {S:En.St} (hi:K.P[i]? = some S) :
  ∃ q v Q,Y.P[i]? = some (q,v)/\Sep w0 r w (En.epT q v S::Q)/\∀ w' v' T E,Sep w0 r w' (En.epT q v' T::(E++Q))->Sep w0 r w' (kT p { Y with P:=Y.P.set i (q,v') } { K with P:=K.P.set i T }::(E++R)):=by
 have hL:=s.fact
 obtain ⟨⟨q,v⟩,ha⟩:∃ a,Y.P[i]? = some a:=⟨_,List.getElem?_eq_getElem (by rw [hL.1];exact (List.getElem?_eq_some_iff.1 hi).1)⟩
 obtain ⟨Q,s1,bk⟩:=Sep.oneOf (f:=fun a S=>En.epT a.1 a.2 S) (A:=[blk p (objK Y K.fr K.tb),nT Y.n Y.F K.S,eT Y.t Y.tv K.E,Th.tT Y.h Y.hF K.h,Ir.lnT Y.l Y.lv K.l,lst elU Y.uv K.U,lst elPe Y.pv (Y.P.map (·.1)),lst elPn Y.nv (Y.N.map (·.1)),lst elPs Y.dv (Y.D.map (·.1))]) s ha hi
 refine ⟨q,v,Q,ha,s1,fun w' v' T E h=>?_⟩
 have:=bk (Lens { Y with P:=Y.P.set i (q,v') } { K with P:=K.P.set i T }) w' (q,v') T E ⟨by simp [hL.1],hL.2.1,hL.2.2⟩ h
 rw [<- map_set_fst ha v'] at this
 exact this
theorem Sep.ntOf (s:Sep w0 r w (kT p Y K::R)) {i:Nat} {S:No.Ns} (hi:K.N[i]? = some S) :
  ∃ q v Q,Y.N[i]? = some (q,v)/\Sep w0 r w (No.ntT q v S::Q)/\∀ w' v' T E,Sep w0 r w' (No.ntT q v' T::(E++Q))->Sep w0 r w' (kT p { Y with N:=Y.N.set i (q,v') } { K with N:=K.N.set i T }::(E++R)):=by
 have hL:=s.fact
 obtain ⟨⟨q,v⟩,ha⟩:∃ a,Y.N[i]? = some a:=⟨_,List.getElem?_eq_getElem (by rw [hL.2.1];exact (List.getElem?_eq_some_iff.1 hi).1)⟩
 obtain ⟨Q,s1,bk⟩:=Sep.oneOf (f:=fun a S=>No.ntT a.1 a.2 S) (A:=[blk p (objK Y K.fr K.tb),nT Y.n Y.F K.S,eT Y.t Y.tv K.E,Th.tT Y.h Y.hF K.h,Ir.lnT Y.l Y.lv K.l,lst elU Y.uv K.U,lst elPe Y.pv (Y.P.map (·.1)),lst elPn Y.nv (Y.N.map (·.1)),lst elPs Y.dv (Y.D.map (·.1))]++epsT Y.P K.P) s ha hi
 refine ⟨q,v,Q,ha,s1,fun w' v' T E h=>?_⟩
 have:=bk (Lens { Y with N:=Y.N.set i (q,v') } { K with N:=K.N.set i T }) w' (q,v') T E ⟨hL.1,by simp [hL.2.1],hL.2.2⟩ h
 rw [<- map_set_fst ha v'] at this
 exact this
theorem Sep.spOf (s:Sep w0 r w (kT p Y K::R)) {i:Nat} {S:Ta.Sp} (hi:K.D[i]? = some S) :
  ∃ q m Q,Y.D[i]? = some (q,m)/\Sep w0 r w (Ta.spT q m S::Q)/\∀ w' m' T E,Sep w0 r w' (Ta.spT q m' T::(E++Q))->Sep w0 r w' (kT p { Y with D:=Y.D.set i (q,m') } { K with D:=K.D.set i T }::(E++R)):=by
 have hL:=s.fact
 obtain ⟨⟨q,v⟩,ha⟩:∃ a,Y.D[i]? = some a:=⟨_,List.getElem?_eq_getElem (by rw [hL.2.2];exact (List.getElem?_eq_some_iff.1 hi).1)⟩
 have e0:∀ (h:List Th) (Z:List Th),h++(epsT Y.P K.P++(ntsT Y.N K.N++Z))=(h++(epsT Y.P K.P++ntsT Y.N K.N))++(Z++[]):=fun h Z=>by simp
 have s':=s
 unfold kT partsK at s'
 rw [e0] at s'
 obtain ⟨Q,s1,bk⟩:=Sep.oneOf (f:=fun a S=>Ta.spT a.1 a.2 S) s' ha hi
 refine ⟨q,v,Q,ha,s1,fun w' v' T E h=>?_⟩
 have:=bk (Lens { Y with D:=Y.D.set i (q,v') } { K with D:=K.D.set i T }) w' (q,v') T E ⟨hL.1,hL.2.1,by simp [hL.2.2]⟩ h
 rw [<- map_set_fst ha v',<- e0] at this
 exact this
theorem Sep.epRow (s:Sep w0 r w (kT p Y K::R)):Row elPe w Y.pv (Y.P.map (·.1))/\(Y.P.map (·.1)).length=K.P.length:=⟨by have h:=s.has (t:=lst elPe Y.pv (Y.P.map fun x=>x.1)) (by simp [partsK]);exact h,by rw [List.length_map];exact s.fact.1⟩
theorem Sep.ntRow (s:Sep w0 r w (kT p Y K::R)):Row elPn w Y.nv (Y.N.map (·.1))/\(Y.N.map (·.1)).length=K.N.length:=⟨by have h:=s.has (t:=lst elPn Y.nv (Y.N.map fun x=>x.1)) (by simp [partsK]);exact h,by rw [List.length_map];exact s.fact.2.1⟩
theorem Sep.spRow (s:Sep w0 r w (kT p Y K::R)):Row elPs w Y.dv (Y.D.map (·.1))/\(Y.D.map (·.1)).length=K.D.length:=⟨by have h:=s.has (t:=lst elPs Y.dv (Y.D.map fun x=>x.1)) (by simp [partsK]);exact h,by rw [List.length_map];exact s.fact.2.2⟩
theorem row_ptr {E:El Nat} (ok:El.Ok E) (he:∀ q,E.enc q=[ptr q]) (hk:E.k=1) {v:Value} {L:List Nat} {n:Nat} (h:Row E w v L) (hn:L.length=n):∃ ao cap,v = .slice ao n cap/\n<=9223372036854775807/\∀ i q,L[i]? = some q->∃ g,ao=some ⟨g,0,none⟩/\w.cell? ⟨g,i,none⟩=some (ptr q):=by
 obtain ⟨ao,cap,rfl,hc,hm,hg,_⟩:=h.slice
 subst hn
 refine ⟨ao,cap,rfl,Nat.le_trans hc hm,fun i q hi=>?_⟩
 obtain ⟨g,rfl⟩:=hg i (List.getElem?_eq_some_iff.1 hi).1
 refine ⟨g,rfl,?_⟩
 have:=h.cell ok hi (j:=0) (c:=ptr q) (by rw [he];rfl)
 rw [hk,Nat.mul_one,Nat.add_zero] at this
 exact this
theorem Sep.epPtr (s:Sep w0 r w (kT p Y K::R)):∃ ao cap,Y.pv = .slice ao K.P.length cap/\K.P.length<=9223372036854775807/\∀ i q v,Y.P[i]? = some (q,v)->∃ g,ao=some ⟨g,0,none⟩/\w.cell? ⟨g,i,none⟩=some (ptr q):=by
 obtain ⟨ao,cap,e,hm,h⟩:=row_ptr okPe (fun _=>rfl) rfl s.epRow.1 s.epRow.2
 exact ⟨ao,cap,e,hm,fun i q v hi=>h i q (by rw [List.getElem?_map,hi];rfl)⟩
theorem Sep.ntPtr (s:Sep w0 r w (kT p Y K::R)):∃ ao cap,Y.nv = .slice ao K.N.length cap/\K.N.length<=9223372036854775807/\∀ i q v,Y.N[i]? = some (q,v)->∃ g,ao=some ⟨g,0,none⟩/\w.cell? ⟨g,i,none⟩=some (ptr q):=by
 obtain ⟨ao,cap,e,hm,h⟩:=row_ptr okPn (fun _=>rfl) rfl s.ntRow.1 s.ntRow.2
 exact ⟨ao,cap,e,hm,fun i q v hi=>h i q (by rw [List.getElem?_map,hi];rfl)⟩
theorem Sep.spPtr (s:Sep w0 r w (kT p Y K::R)):∃ ao cap,Y.dv = .slice ao K.D.length cap/\K.D.length<=9223372036854775807/\∀ i q v,Y.D[i]? = some (q,v)->∃ g,ao=some ⟨g,0,none⟩/\w.cell? ⟨g,i,none⟩=some (ptr q):=by
 obtain ⟨ao,cap,e,hm,h⟩:=row_ptr okPs (fun _=>rfl) rfl s.spRow.1 s.spRow.2
 exact ⟨ao,cap,e,hm,fun i q v hi=>h i q (by rw [List.getElem?_map,hi];rfl)⟩
end
end Go.Proofs.YtilnjnblpeeigaaGreatDoor
namespace Go.Proofs.YtilnjnblpeeigaaGreatDoor
open Go.RowKit Go.Deep Go.Shelf
open Classical
def turned {α:Type} (f:α->α) (L:List α) (i:Nat):List α:=(L.take i).map f++L.drop i
section
variable {α:Type} {f:α->α} {L:List α} {i:Nat} {x:α}
theorem turned_0:turned f L 0=L:=by simp [turned]
theorem turned_all:turned f L L.length=L.map f:=by simp [turned]
theorem turned_get (h:L[i]? = some x):(turned f L i)[i]? = some x:=by
 have hi:=(List.getElem?_eq_some_iff.1 h).1
 unfold turned
 rw [List.getElem?_append_right (by rw [List.length_map,List.length_take];omega),List.length_map,List.length_take,List.getElem?_drop,Nat.min_eq_left (by omega),Nat.sub_self,Nat.add_zero]
 exact h
theorem turned_set (h:L[i]? = some x):(turned f L i).set i (f x)=turned f L (i+1):=by
 obtain ⟨hi,rfl⟩:=List.getElem?_eq_some_iff.1 h
 unfold turned
 rw [List.set_append_right _ _ (by rw [List.length_map,List.length_take];omega),List.length_map,List.length_take,Nat.min_eq_left (by omega),Nat.sub_self,List.drop_eq_getElem_cons hi,List.set_cons_zero,List.take_succ_eq_append_getElem hi,List.map_append,List.append_assoc]
 rfl
end
section
variable {w0 w w':World} {r p:Nat} {Y:Ly} {K:Kr} {R:List Th}
theorem Sep.epAt (s:Sep w0 r w (kT p Y K::R)) {ao:Option Addr} {n cap:Nat} (hv:Y.pv = .slice ao n cap) {i:Nat} {S:En.St} (hi:K.P[i]? = some S) :
  ∃ g q v Q,ao=some ⟨g,0,none⟩/\w.cell? ⟨g,i,none⟩=some (ptr q)/\Sep w0 r w (En.epT q v S::Q)/\∀ w' v' T E,Sep w0 r w' (En.epT q v' T::(E++Q))->Sep w0 r w' (kT p { Y with P:=Y.P.set i (q,v') } { K with P:=K.P.set i T }::(E++R)):=by
 obtain ⟨q,v,Q,h1,h2,h3⟩:=s.epOf hi
 obtain ⟨ao',cap',e,-,h4⟩:=s.epPtr
 rw [hv] at e
 cases e
 obtain ⟨g,rfl,h5⟩:=h4 i q v h1
 exact ⟨g,q,v,Q,rfl,h5,h2,h3⟩
theorem Sep.ntAt (s:Sep w0 r w (kT p Y K::R)) {ao:Option Addr} {n cap:Nat} (hv:Y.nv = .slice ao n cap) {i:Nat} {S:No.Ns} (hi:K.N[i]? = some S) :
  ∃ g q v Q,ao=some ⟨g,0,none⟩/\w.cell? ⟨g,i,none⟩=some (ptr q)/\Sep w0 r w (No.ntT q v S::Q)/\∀ w' v' T E,Sep w0 r w' (No.ntT q v' T::(E++Q))->Sep w0 r w' (kT p { Y with N:=Y.N.set i (q,v') } { K with N:=K.N.set i T }::(E++R)):=by
 obtain ⟨q,v,Q,h1,h2,h3⟩:=s.ntOf hi
 obtain ⟨ao',cap',e,-,h4⟩:=s.ntPtr
 rw [hv] at e
 cases e
 obtain ⟨g,rfl,h5⟩:=h4 i q v h1
 exact ⟨g,q,v,Q,rfl,h5,h2,h3⟩
def Few (K:Kr):Prop:=(∀ S∈K.P,S.length<=1000)/\∀ S∈K.N,S.l.length<=1000
set_option maxHeartbeats 4000000 in
theorem letGo_sep (s:Sep w0 r w (kT p Y K::R)) (hf:Few K) (id:Int) :
  Calls Tryz.prog 123 #[ptr p,.int .i64 id] w fun e w'=>e = .returned (.tuple #[])/\KS w0 r w' p (freed K id) R:=by
 have S1:=hid s
 have HF:=hid hf
 have c5:=s.k5
 obtain ⟨ao,cap,hpv,hzm,-⟩:=s.epPtr
 have HV:=hid hpv
 rw [hpv] at c5
 clear s hf hpv
 generalize hz:K.P.length=z at *
 have HZ:=hid hz
 clear hz
 go_enter Tryz.func123,Tryz.ntmps123
 go_wp2_with fail
 go_loopw [5,13] (fun _ s13 wr=>∃ (k:Nat) (P':List (Nat×Value)),k<=z/\s13 = .int .i64 k/\Sep w0 r wr (kT p { Y with P:=P' } { K with P:=turned (En.outS (En.isW id)) K.P k }::R)) (fun _ s13 _=>z - (intOf s13).toNat)
 case atStart=>exact ⟨0,Y.P,Nat.zero_le _,rfl,by rw [turned_0];exact S1.out⟩
 case round =>
  clear S1 c5
  obtain ⟨k,P',hk,rfl,s2⟩:=hrel
  by_cases hlt:k<z
  ·have hltz:(k:Int)<(z:Int):=by omega
   obtain ⟨S,hS⟩:∃ S,K.P[k]? = some S:=⟨_,List.getElem?_eq_getElem (by have:=HZ.out;omega)⟩
   obtain ⟨g,q,v,Q,rfl,cq,s3,bk⟩:=s2.epAt (n:=z) (cap:=cap) (ao:=ao) HV.out (turned_get hS)
   have hl:=HF.out.1 S (List.mem_of_getElem? hS)
   have HC:=hid (En.cancel_is' s3 id hl rfl rfl)
   have BK:=hid bk
   have HS:=hid hS
   clear s2 s3 bk hS hl
   go_wp2_with (go_at_call 188;refine Calls.mono HC.out ?_;rintro e w3 ⟨rfl,v',h3⟩;have S3:=hid (BK.out w3 v' _ [] h3);clear h3)
   go_roundw
   case rel=>exact ⟨k+1,_,by omega,by go_num,by rw [<- turned_set HS.out];exact S3.out⟩
   case measure=>simp [intOf];omega
  ·have hltz:¬ (k:Int)<(z:Int):=by omega
   obtain rfl:k=z:=by omega
   rw [<- HZ.out,turned_all] at s2
   have S2:=hid s2
   have c6:=s2.k6
   obtain ⟨bo,cap2,hnv,hym,-⟩:=s2.ntPtr
   rw [hnv] at c6
   have HV2:=hid hnv
   clear s2 hnv
   generalize hy:K.N.length=y at *
   have HY:=hid hy
   clear hy
   go_wp2_with fail
   go_loopw [7,26] (fun _ s26 wr=>∃ (k2:Nat) (N':List (Nat×Value)),k2<=y/\s26 = .int .i64 k2/\Sep w0 r wr (kT p { Y with P:=P',N:=N' } { K with P:=K.P.map (En.outS (En.isW id)),N:=turned (fun S=>No.canS S id) K.N k2 }::R)) (fun _ s26 _=>y - (intOf s26).toNat)
   case atStart=>exact ⟨0,Y.N,Nat.zero_le _,rfl,by rw [turned_0];exact S2.out⟩
   case round =>
    clear S2 c6
    obtain ⟨k2,N',hk2,rfl,s2⟩:=hrel
    by_cases hlt2:k2<y
    ·have hltz2:(k2:Int)<(y:Int):=by omega
     obtain ⟨S,hS⟩:∃ S,K.N[k2]? = some S:=⟨_,List.getElem?_eq_getElem (by have:=HY.out;omega)⟩
     obtain ⟨g,q,v,Q,rfl,cq,s3,bk⟩:=s2.ntAt (n:=y) (cap:=cap2) (ao:=bo) HV2.out (turned_get hS)
     have hl:=HF.out.2 S (List.mem_of_getElem? hS)
     have HC:=hid (No.cancel_is s3 id hl rfl rfl)
     have BK:=hid bk
     have HS:=hid hS
     clear s2 s3 bk hS hl
     go_wp2_with (go_at_call 189;refine Calls.mono HC.out ?_;rintro e w3 ⟨rfl,v',h3⟩;have S3:=hid (BK.out w3 v' _ [] h3);clear h3)
     go_roundw
     case rel=>exact ⟨k2+1,_,by omega,by go_num,by rw [<- turned_set (f:=fun S=>No.canS S id) HS.out];exact S3.out⟩
     case measure=>simp [intOf];omega
    ·have hltz2:¬ (k2:Int)<(y:Int):=by omega
     obtain rfl:k2=y:=by omega
     rw [<- HY.out,turned_all] at s2
     have S3:=hid s2
     clear s2
     go_wp2
     exact bodyPost_end (v:=.tuple #[]) (by simp [results,Tryz.results123,go_sem]) rfl ⟨rfl,_,S3.out⟩
def elW:El Int:=⟨32,210,1,8,fun x=>[.int .u64 x]⟩
theorem infoW:(Tryz.prog.info? 32).map (fun i=>(i.zero,i.size,i.bytes))=some (some (.int .u64 0),1,8):=by kernel_rfl
theorem okW:El.Ok elW:=⟨Tryz.underlying210,info_of infoW rfl,by decide,by decide,fun _=>rfl,by simp [elW,Value.oneCell']⟩
def regTo (h:Th.Hs) (id:Int) (L:List Int):Nat->Th.Hs
 | 0=>h
 | k+1=>Th.regH (regTo h id L k) id k (L.getD k 0)
set_option maxHeartbeats 4000000 in
theorem words_sep {v:Value} {L:List Int} (s:Sep w0 r w (kT p Y K::lst elW v L::R)) (hL:∀ x∈L,0<=x/\x<=18446744073709551615) (hl:L.length<=1000) (id:Int) :
  Calls Tryz.prog 146 #[ptr p,.int .i64 id,v] w fun e w'=>e = .returned (.tuple #[])/\KS w0 r w' p { K with h:=regTo K.h id L L.length } R:=by
 obtain ⟨ao,cap,rfl⟩:=s.listIs (E:=elW) (v:=v) (A:=L) (by simp)
 have S1:=hid s
 have HL:=hid hL
 clear s hL
 generalize hz:L.length=z at *
 have HZ:=hid hz
 clear hz
 go_enter Tryz.func146,Tryz.ntmps146
 go_wp2_with fail
 go_loopw [6,7,10] (fun _ _ s10 wr=>∃ (k:Nat) (F':Nat->Prop),k<=z/\s10 = .int .i64 k/\Sep w0 r wr (kT p { Y with hF:=F' } { K with h:=regTo K.h id L k }::lst elW (.slice ao z cap) L::R)) (fun _ _ s10 _=>z - (intOf s10).toNat)
 case atStart=>exact ⟨0,Y.hF,Nat.zero_le _,rfl,S1.out⟩
 case round =>
  clear S1
  obtain ⟨k,F',hk,rfl,s2⟩:=hrel
  by_cases hlt:k<z
  ·have hltz:(k:Int)<(z:Int):=by omega
   obtain ⟨x,hx⟩:∃ x,L[k]? = some x:=⟨_,List.getElem?_eq_getElem (by have:=HZ.out;omega)⟩
   obtain ⟨g,rfl,hc⟩:=s2.listAt okW (ao:=ao) (n:=z) (cap:=cap) (A:=L) (by simp) hx
   have d0:=hc 0 (.int .u64 x) rfl
   rw [show elW.k=1 from rfl,Nat.mul_one,Nat.add_zero] at d0
   have c2:=s2.k2
   obtain ⟨Q,s3,bk⟩:=s2.kH
   have HC:=hid (Th.reg_sep s3 id (k:Int) x (HL.out x (List.mem_of_getElem? hx)))
   have e1:L.getD k 0=x:=by rw [List.getD_eq_getElem?_getD,hx];rfl
   have E1:=hid e1
   have BK:=hid bk
   clear s2 s3 bk hx hc e1
   go_wp2_with (go_at_call 204;refine Calls.mono HC.out ?_;rintro e w3 ⟨rfl,F2,h3⟩;have S3:=hid (BK.out w3 F2 _ [] h3);clear h3)
   go_roundw
   case rel=>exact ⟨k+1,F2,by omega,by go_num,by unfold regTo;rw [E1.out];exact S3.out⟩
   case measure=>simp [intOf];omega
  ·have hltz:¬ (k:Int)<(z:Int):=by omega
   obtain rfl:k=z:=by omega
   have S2:=hid s2.drop2
   clear s2
   go_wp2
   exact bodyPost_end (v:=.tuple #[]) (by simp [results,Tryz.results146,go_sem]) rfl ⟨rfl,_,S2.out⟩
theorem wake_sep (s:Sep w0 r w (kT p Y K::R)) (id:Int) :
  Calls Tryz.prog 147 #[ptr p,.int .i64 id] w fun e w'=>e = .returned (.int .i64 id)/\KS w0 r w' p (wakeK K id) R:=by
 have c2:=s.k2
 have HC:=hid (k_resume s id)
 clear s
 go_enter Tryz.func147,Tryz.ntmps147
 go_wp2_with (go_at_call 54;refine Calls.mono HC.out ?_;rintro e w3 ⟨rfl,F3,S3⟩)
 go_ret
 exact ⟨rfl,_,S3⟩
end
end Go.Proofs.YtilnjnblpeeigaaGreatDoor
namespace Go.Proofs.YtilnjnblpeeigaaGreatDoor
open Go.RowKit Go.Deep Go.Shelf
open Classical
section
variable {w0 w w':World} {r p:Nat} {Y:Ly} {K:Kr} {R:List Th}
theorem Sep.epIn (s:Sep w0 r w (kT p Y K::R)) {i q:Nat} {v:Value} {S:En.St} (hi:K.P[i]? = some S) (hy:Y.P[i]? = some (q,v)) :
  ∃ Q,Sep w0 r w (En.epT q v S::Q)/\∀ w' v' T E,Sep w0 r w' (En.epT q v' T::(E++Q))->Sep w0 r w' (kT p { Y with P:=Y.P.set i (q,v') } { K with P:=K.P.set i T }::(E++R)):=by
 obtain ⟨q',v',Q,h1,h2,h3⟩:=s.epOf hi
 rw [hy] at h1
 cases h1
 exact ⟨Q,h2,h3⟩
theorem Sep.epWay {Y':Ly} (s:Sep w0 r w (kT p Y' K::R)) {g z cap i q:Nat} {v:Value} (hv:Y'.pv = .slice (some ⟨g,0,none⟩) z cap) (hi:Y'.P[i]? = some (q,v)):w.cell? ⟨g,i,none⟩=some (ptr q):=by
 obtain ⟨ao,cap',e,-,h⟩:=s.epPtr
 rw [hv] at e
 simp only [Value.slice.injEq] at e
 obtain ⟨rfl,-,-⟩:=e
 obtain ⟨g',e2,h5⟩:=h i q v hi
 cases e2
 exact h5
theorem set_ep {L:List (Nat×Value)} {i q:Nat} {v:Value} (h:L[i]? = some (q,v)) (v':Value):(L.set i (q,v'))[i]? = some (q,v'):=by
 rw [List.getElem?_set_self (List.getElem?_eq_some_iff.1 h).1]
theorem Sep.spIn (s:Sep w0 r w (kT p Y K::R)) {i q:Nat} {v:(Nat->Option Nat)} {S:Ta.Sp} (hi:K.D[i]? = some S) (hy:Y.D[i]? = some (q,v)) :
  ∃ Q,Sep w0 r w (Ta.spT q v S::Q)/\∀ w' v' T E,Sep w0 r w' (Ta.spT q v' T::(E++Q))->Sep w0 r w' (kT p { Y with D:=Y.D.set i (q,v') } { K with D:=K.D.set i T }::(E++R)):=by
 obtain ⟨q',v',Q,h1,h2,h3⟩:=s.spOf hi
 rw [hy] at h1
 cases h1
 exact ⟨Q,h2,h3⟩
theorem set_sp {L:List (Nat×(Nat->Option Nat))} {i q:Nat} {v:(Nat->Option Nat)} (h:L[i]? = some (q,v)) (v':(Nat->Option Nat)):(L.set i (q,v'))[i]? = some (q,v'):=by
 rw [List.getElem?_set_self (List.getElem?_eq_some_iff.1 h).1]
theorem k_send (s:Sep w0 r w (kT p Y K::R)) {i q:Nat} {v:Value} {S:En.St} (hi:K.P[i]? = some S) (hy:Y.P[i]? = some (q,v)) (n:Int) (m:En.Ms) (z:Bool) (hl:S.length<=1000) :
  Calls Tryz.prog 126 #[ptr q,.int .i64 n,.agg #[.int .i64 m.l,.int .u64 m.a,.int .u64 m.b,.int .u64 m.c,.int .u64 m.d,.int .u64 m.g,.bool m.q],.bool z] w fun e w'=>e = .returned (.tuple #[.agg #[.bool (En.sendM S n m).i,.int .i64 (En.sendM S n m).f,.int .i64 (En.sendM S n m).t,.int .i64 (En.sendM S n m).m.l,.int .u64 (En.sendM S n m).m.a,.int .u64 (En.sendM S n m).m.b,.int .u64 (En.sendM S n m).m.c,.int .u64 (En.sendM S n m).m.d,.int .u64 (En.sendM S n m).m.g,.bool (En.sendM S n m).m.q],.int .i64 (En.sendE S n)])/\∃ v',Sep w0 r w' (kT p { Y with P:=Y.P.set i (q,v') } { K with P:=K.P.set i (En.sendS S n m z) }::R):=by
 obtain ⟨Q,s1,bk⟩:=s.epIn hi hy
 refine Calls.mono (En.send_is s1 n m z hl rfl rfl rfl) ?_
 rintro e w' ⟨rfl,v',h⟩
 exact ⟨rfl,_,bk w' _ _ [] h⟩
theorem k_recv (s:Sep w0 r w (kT p Y K::R)) {i q:Nat} {v:Value} {S:En.St} (hi:K.P[i]? = some S) (hy:Y.P[i]? = some (q,v)) (n:Int) (z:Bool) (hl:S.length<=1000) :
  Calls Tryz.prog 128 #[ptr q,.int .i64 n,.bool z] w fun e w'=>e = .returned (.tuple #[.agg #[.bool (En.recvM S n).i,.int .i64 (En.recvM S n).f,.int .i64 (En.recvM S n).t,.int .i64 (En.recvM S n).m.l,.int .u64 (En.recvM S n).m.a,.int .u64 (En.recvM S n).m.b,.int .u64 (En.recvM S n).m.c,.int .u64 (En.recvM S n).m.d,.int .u64 (En.recvM S n).m.g,.bool (En.recvM S n).m.q],.int .i64 (En.sendE S n)])/\∃ v',Sep w0 r w' (kT p { Y with P:=Y.P.set i (q,v') } { K with P:=K.P.set i (En.recvS S n z) }::R):=by
 obtain ⟨Q,s1,bk⟩:=s.epIn hi hy
 refine Calls.mono (En.recv_is s1 n z hl rfl rfl rfl) ?_
 rintro e w' ⟨rfl,v',h⟩
 exact ⟨rfl,_,bk w' _ _ [] h⟩
theorem k_unm (s:Sep w0 r w (kT p Y K::R)) {i q:Nat} {v:(Nat->Option Nat)} {S:Ta.Sp} (hi:K.D[i]? = some S) (hy:Y.D[i]? = some (q,v)) (n:Int) :
  Calls Tryz.prog 133 #[ptr q,.int .i64 n] w fun e w'=>e = .returned (.tuple #[.agg #[.int .i64 (Ta.wlkP S n).fr,.int .i64 (Ta.wlkP S n).rt],.int .i64 (Ta.unmE S n)])/\∃ v',Sep w0 r w' (kT p { Y with D:=Y.D.set i (q,v') } { K with D:=K.D.set i (Ta.unmS S n) }::R):=by
 obtain ⟨Q,s1,bk⟩:=s.spIn hi hy
 refine Calls.mono (Ta.unm_is s1 n rfl rfl rfl) ?_
 rintro e w' ⟨rfl,h⟩
 exact ⟨rfl,_,bk w' _ _ [] h⟩
end
end Go.Proofs.YtilnjnblpeeigaaGreatDoor
