/- Below: KrDo KrCall KrSlot KL2 KF3 KM; no condition. -/
import Derived.Test.YtbfjjpdnoalojaaGreatDoorPa14
import Derived.Test.YtbfjjpdnoalojaaGreatDoorPa15
set_option maxHeartbeats 16000000
set_option linter.unusedSectionVars false
namespace Go.Proofs.YtbfjjpdnoalojaaGreatDoor
section
section
variable [dCp:DecidableEq Sl.Cp] [dLim:∀ k,Decidable (Sl.ZV k)] [dBad:∀ k,Decidable (Sl.Xn k)] [dFit:∀ g z,Decidable (Sl.Fit g z)] [dF:∀ c:Sl.Cp,Decidable (Sl.Fine c)] [dMi:∀ c v,Decidable (Sl.JK c v)] [dWho:∀ x y,Decidable (Sl.Zx x y)] [dSl:DecidableEq Sl.Sl] [dLt:∀ a b,Decidable (Sl.MC a b)]
variable [dT:DecidableEq Tr.Sl] [dL:∀ k:Int,Decidable (Ca.ZV k)] [dC:∀ c:Ca.Cp,Decidable (Ca.Fine c)] [dM:∀ (c:Ca.Cp) (v:Int),Decidable (Ca.JK c v)] [dCc:DecidableEq Ca.Cp] [dCb:∀ k,Decidable (Ca.Xn k)] [dCf:∀ g z,Decidable (Ca.Fit g z)] [dCw:∀ x y,Decidable (Ca.Zx x y)]
variable {n m:Nat} {K:Kr}
abbrev I6 (x:Int):Prop:=-9223372036854775808<=x/\x<=9223372036854775807
theorem Fw {A o:Int} (hA:1<=A/\A<=8) (ho:0<=o/\o<=1000001):Sl.Fine ⟨A,o,7,0,0,0⟩/\(⟨A,o,7,0,0,0⟩:Sl.Cp).Fits:=by
 refine⟨.inr ⟨⟨by simp only;omega,by simp only;omega⟩,⟨ho.1,by simp only;omega⟩,⟨by simp only;omega,by simp only;omega⟩,.inl rfl,.inl rfl,.inl ⟨rfl,rfl⟩,?_⟩,⟨by simp only;omega,by simp only;omega,by simp only;omega,by simp only;omega,by simp only;omega,by simp only;omega⟩⟩
 unfold Sl.Fit Sl.Jr
 simp
theorem Iv.makes {a core A B:Int} (hA:1<=A/\A<=8) (hB:I6 B):∀ (L:List Int) {K:Kr} {m:Nat} {w:Int} {ca:Sl.Cp},Iv n m K->Sl.JZ K.S (sl a)=some ca->ca.k≠0->(∀ j:Nat,j<L.length->∃ d,Sl.JZ K.S (sl (w+(j:Int)))=some d/\d.k=0)->m+L.length<=1000000->(∀ x∈L,U6 x) ->
  (A=2->(1<=B/\B<=8)/\K.S.length+L.length<=64)->(A=3->Th.OQ K.h core/\K.h.L.length+L.length<=64)->Iv n (m+L.length) (Xe a core A B K w L)
 | [],_,_,_,_,v,_,_,_,_,_,_,_=>v
 | x::L,K,m,w,ca,v,ha,hak,hfree,hm,hx,h2,h3=>by
  rw[List.length_cons] at hm
  have e2:A=2->Sl.JV K.S B=0:=fun e=>by
   obtain⟨h1,h4⟩:=h2 e
   unfold Sl.JV
   rw[if_pos h1,if_pos (by rw[List.length_cons] at h4;omega)]
  have e3:A=3->Th.JV K.h 0 core=0:=fun e=>by
   obtain⟨h1,h4⟩:=h3 e
   unfold Th.JV
   rw[if_pos ⟨by decide,h1⟩,if_neg (by rw[List.length_cons] at h4;omega)]
  obtain⟨v1,r1,o0,o1,le⟩:=v.made (A:=A) (B:=B) (core:=core) (x:=x) hA (by omega) hB (hx x (by simp)) e2 e3
  have hat:=fun i=>Jos v A B core x i
  obtain⟨d,hd,hdk⟩:=hfree 0 (by simp)
  rw[show w+((0:Nat):Int)=w by omega] at hd
  obtain⟨f1,f2⟩:=Fw hA ⟨o0,o1⟩
  have v2:=v1.lay (a:=a) (w:=w) (c:=⟨A,madeN K A B core,7,0,0,0⟩) (by rw[hat];exact ha) hak (by rw[hat];exact hd) hdk f2 (by show A≠0;omega) f1 r1
  have hd1:Sl.JZ (Zh K A B core x).S (sl w)=some d:=by rw[hat];exact hd
  have hkeep:∀ i c,i≠w->Sl.JZ (Zh K A B core x).S (sl i)=some c->Sl.JZ (Id (Zh K A B core x) a w ⟨A,madeN K A B core,7,0,0,0⟩).S (sl i)=some c:=fun i c hi hc=>by
   show Sl.JZ (Sl.ZL (Zh K A B core x).S (sl w) _) (sl i)=some c
   unfold Sl.ZL
   split
   ·rw[Sl.XL hd1,if_neg (Jb7 hi)]
    exact hc
   ·exact hc
  have haw:a≠w:=fun e=>by
   rw[e,hd] at ha
   cases ha
   exact hak hdk
  have lens:(Id (Zh K A B core x) a w ⟨A,madeN K A B core,7,0,0,0⟩).S.length=(Zh K A B core x).S.length:=UO _ _ _
  have r:=Iv.makes (a:=a) (core:=core) hA hB L (K:=Id (Zh K A B core x) a w ⟨A,madeN K A B core,7,0,0,0⟩) (m:=m+1) (w:=w+1) (ca:=ca) v2 (hkeep a ca haw (by rw[hat];exact ha)) hak (fun j hj=>by
   obtain⟨d2,hd2,hd2k⟩:=hfree (j+1) (by rw[List.length_cons];omega)
   refine⟨d2,hkeep _ _ (by omega) ?_,hd2k⟩
   rw[hat]
   have e:w+1+(j:Int)=w+((j+1:Nat):Int):=by omega
   rw[e]
   exact hd2) (by omega) (fun y hy=>hx y (by simp[hy])) (fun e=>by
   obtain⟨h1,h4⟩:=h2 e
   refine⟨h1,?_⟩
   rw[lens]
   rw[List.length_cons] at h4
   have:(Zh K A B core x).S.length<=K.S.length+1:=by
    unfold Zh
    rw[if_neg (by omega),if_pos e]
    show(Sl.Zq K.S B).length<=_
    unfold Sl.Zq
    split<;>simp
   omega) (fun e=>by
   obtain⟨h1,h4⟩:=h3 e
   rw[List.length_cons] at h4
   have hh:(Id (Zh K A B core x) a w ⟨A,madeN K A B core,7,0,0,0⟩).h=Th.JS K.h 0 core:=by
    show(Zh K A B core x).h=_
    unfold Zh
    rw[if_neg (by omega),if_neg (by omega),if_pos e]
   rw[hh]
   have hL:(Th.JS K.h 0 core).L.length<=K.h.L.length+1/\(Th.JS K.h 0 core).Q.length=K.h.Q.length:=by
    unfold Th.JS
    split<;>simp
   refine⟨?_,by omega⟩
   unfold Th.OQ at *
   rw[hL.2]
   exact h1)
  show Iv n (m+(x::L).length) (Xe a core A B (Id (Zh K A B core x) a w ⟨A,madeN K A B core,7,0,0,0⟩) (w+1) L)
  rw[List.length_cons,show m+(L.length+1)=m+1+L.length by omega]
  exact r
theorem I5 (v:Iv n m K) (o:Int):(FQ K o).Fits:=by
 unfold FQ
 rw[List.getD_eq_getElem?_getD]
 cases e:K.U[o.toNat]? with
 | none=>exact Un.Jiv
 | some u=>exact v.un u (Jqi e)
theorem Jd6 {u:Un.Un} {k b c:Int} (h:Un.Found u k b c):(Un.GF u k b c).length=c.toNat:=by
 unfold Un.GF
 rw[if_pos ((Un.XV u k b c).2 h)]
 simp[Un.Ig]
theorem Iv.retype (v:Iv n m K) (hm:m<=900000) (core:Int) (c:Cl) (hB:I6 c.B) (hcore:Th.OQ K.h core) (h:(Jk K c.a).k≠0):Iv n (m+64) (Ze K core c (Jk K c.a).o):=by
 unfold Ze
 by_cases hE:Zt K c (Jk K c.a).o=0
 ·rw[if_pos hE]
  unfold Zt at hE
  split at hE
  ·rename_i h1
   exact absurd hE h1
  ·rename_i h1
   have hpl:Un.plE (FQ K (Jk K c.a).o) c.A c.B c.C=0:=Decidable.not_not.1 h1
   split at hE
   ·rename_i h2
    exact absurd hE h2
   ·rename_i h2
    have hfr:J4 K c.w c.C=0:=Decidable.not_not.1 h2
    split at hE
    ·cases hE
    ·rename_i h3
     have fd:=(Un.XV _ _ _ _).1 hpl
     have hlen:=Jd6 fd
     have hn:=fd.n0
     have hA:1<=c.A/\c.A<=8:=by
      have:=fd.sz
      unfold Un.Vo at this
      repeat' split at this
      all_goals omega
     have hU:=(Un.Jbw (I5 v _) fd).2.1
     have v1:=v.setU (Jk K c.a).o hU
     have hbig:(c.A=2->K.S.length+c.C.toNat<=64)/\(c.A=3->K.h.L.length+c.C.toNat<=64):=by
      unfold Jcs at h3
      have h4:¬ ((c.A == 2 && decide (64<(K.S.length:Int)+c.C))=true)/\¬ ((c.A == 3 && decide (64<(K.h.L.length:Int)+c.C))=true):=by
       constructor
       ·intro e
        rw[e] at h3
        exact h3 rfl
       ·intro e
        rw[e] at h3
        exact h3 (Bool.or_true _)
      refine⟨fun e=>?_,fun e=>?_⟩
      ·have:=h4.1
       rw[e] at this
       simp at this
       omega
      ·have:=h4.2
       rw[e] at this
       simp at this
       omega
     have hfree:(0<=c.w/\c.w<=63/\c.w+c.C<=64)/\∀ j:Nat,j<c.C.toNat->(Jk K (c.w+(j:Int))).k=0:=by
      unfold J4 at hfr
      split at hfr
      ·rename_i h5
       refine⟨h5,fun j hj=>?_⟩
       split at hfr
       ·rename_i h6
        have:=List.all_eq_true.1 h6 j (by rw[List.mem_range];exact hj)
        simpa using this
       ·cases hfr
      ·cases hfr
     have hB2:c.A=2->1<=c.B/\c.B<=8:=fun e=>by
      have:=fd.sz
      unfold Un.Vo at this
      rw[e] at this
      simp only[show ¬ ((2:Int)=1) by decide,if_false,if_true] at this
      split at this
      ·assumption
      ·cases this
     have r:=Iv.makes (a:=c.a) (core:=core) (A:=c.A) (B:=c.B) hA hB (Un.GF (FQ K (Jk K c.a).o) c.A c.B c.C) (w:=c.w) v1 (MI v h) h (fun j hj=>by
      rw[hlen] at hj
      exact Av v (by have:=hfree.1;omega) (hfree.2 j hj)) (by rw[hlen];omega) (fun x hx=>by
      have:=Jbv fd hx
      exact⟨this.1,by omega⟩) (fun e=>⟨hB2 e,by rw[hlen];exact hbig.1 e⟩) (fun e=>⟨hcore,by rw[hlen];exact hbig.2 e⟩)
     exact r.more (by rw[hlen];omega)
 ·rw[if_neg hE]
  exact v.more (by omega)
theorem Jc3 (v:Iv n m K) (o:Int):EpOk K.h (epN K o):=by
 unfold epN
 rw[List.getD_eq_getElem?_getD]
 cases e:K.P[o.toNat]? with
 | none=>exact⟨En.Vg,fun x hx=>by simp at hx⟩
 | some S=>exact v.ep S (Jqi e)
theorem Jd0 (v:Iv n m K) (o:Int):NtOk K.h (ntN K o):=by
 unfold ntN
 rw[List.getD_eq_getElem?_getD]
 cases e:K.N[o.toNat]? with
 | none=>exact⟨No.Jdd,fun x hx=>by simp[No.ns0] at hx⟩
 | some S=>exact v.nt S (Jqi e)
theorem Jeg (v:Iv n m K) (o:Int):Ta.Good (spN K o):=by
 unfold spN
 rw[List.getD_eq_getElem?_getD]
 cases e:K.D[o.toNat]? with
 | none=>exact Ta.Je5
 | some S=>exact v.sp S (Jqi e)
theorem Je0 {h:Th.Hs} {S:En.St} (k:EpOk h S):EpOk h S.tail:=⟨En.Oq k.1,fun x hx=>k.2 x (List.mem_of_mem_tail hx)⟩
theorem Jnz {h:Th.Hs} {S:En.St} (k:EpOk h S) {who:Int} (hw:Tid h who) {x:En.Ms} (hg:U6 x.g) (ha:U6 x.a) (z:Bool):EpOk h (En.XG S who x z):=by
 refine⟨En.Jgr k.1 _ _ _,fun y hy=>?_⟩
 unfold En.XG at hy
 split at hy
 ·exact k.2 y hy
 ·split at hy
  ·exact(Je0 k).2 y hy
  ·split at hy
   ·rcases Jrc.1 hy with hy|hy
    ·exact k.2 y hy
    ·have:y=⟨who,true,x⟩:=by simpa using hy
     subst this
     exact⟨hw,hg,ha⟩
   ·exact k.2 y hy
theorem Jny {h:Th.Hs} {S:En.St} (k:EpOk h S) {who:Int} (hw:Tid h who) (z:Bool):EpOk h (En.XD S who z):=by
 refine⟨En.Jgq k.1 _ _,fun y hy=>?_⟩
 unfold En.XD at hy
 split at hy
 ·exact k.2 y hy
 ·split at hy
  ·exact(Je0 k).2 y hy
  ·split at hy
   ·rcases Jrc.1 hy with hy|hy
    ·exact k.2 y hy
    ·have:y=⟨who,false,En.EM⟩:=by simpa using hy
     subst this
     exact⟨hw,⟨Int.le_refl 0,by show(0:Int)<=_;decide⟩,⟨Int.le_refl 0,by show(0:Int)<=_;decide⟩⟩
   ·exact k.2 y hy
def Jco (x:En.Ms):Prop:=U6 x.g/\U6 x.a
theorem Gx:Jco En.EM:=⟨⟨Int.le_refl 0,by show(0:Int)<=_;decide⟩,⟨Int.le_refl 0,by show(0:Int)<=_;decide⟩⟩
theorem Jfw {S:En.St} {who:Int} {x:En.Ms} (hx:Jco x):Jco (En.Zj S who x).m:=by
 unfold En.Zj
 repeat' split
 all_goals first
  | exact Gx
  | exact hx
theorem Jfp {h:Th.Hs} {S:En.St} (k:EpOk h S) {who:Int}:Jco (En.Zi S who).m:=by
 unfold En.Zi
 split
 ·exact Gx
 ·cases S with
  | nil=>exact Gx
  | cons y T =>
   have:=k.2 y (by simp)
   simp only
   split
   ·exact⟨this.2.1,this.2.2⟩
   ·exact Gx
theorem Iv.get (v:Iv n m K) (id:Int) {x:En.Ms} (hx:Jco x):Iv n m (Jn3 K id x):=
 v.thr (Th.IJ (Th.IJ (Th.IJ v.th _ _ _ hx.1) _ _ _ (Ez _)) _ _ _ hx.2) ((Ah _ _ _ _).then ((Ah _ _ _ _).then (Ah _ _ _ _)))
theorem Iv.wake (v:Iv n m K) (id:Int):Iv n m (EB K id):=v.thr (Th.MS v.th id) (VY _ _)
theorem Iv.rest (v:Iv n m K) (core who c:Int):Iv n m (Mz K core who c):=by
 unfold Mz
 split
 ·exact v
 ·exact v.thr (Th.Mo (Th.Fp v.th who) core) ((Jf6 _ _).then (VU _ _))
theorem Iv.sent (v:Iv n m K) (core who:Int) (c:Cl) {x:En.Mt} (hx:Jco x.m) (wk:Int):Iv n m (OW K core who c x wk).1:=by
 unfold OW
 split
 ·exact(v.get _ hx).wake _
 ·exact v.rest _ _ _
theorem Iv.send (v:Iv n m K) (core:Int) {who:Int} (hw:Tid K.h who) (c:Cl) (x:Sl.Cp) (hx:U6 x.b):Iv n m (FK K core who c x).1:=by
 have hm:Jco ⟨c.A,VI c.B,0,0,0,x.b,false⟩:=⟨hx,Ez _⟩
 unfold FK
 split
 ·exact(v.setP x.o (Jnz (Jc3 v x.o) hw hm.1 hm.2 _)).sent core who c (Jfw hm) _
 ·exact v
theorem Iv.recv (v:Iv n m K) (core:Int) {who:Int} (hw:Tid K.h who) (c:Cl) (x:Sl.Cp):Iv n m (FH K core who c x).1:=by
 unfold FH
 split
 ·exact(v.setP x.o (Jny (Jc3 v x.o) hw _)).sent core who c (Jfp (Jc3 v x.o)) _
 ·exact v
theorem Jtt {h:Th.Hs} {S:No.Ns} (k:NtOk h S) {g:Int} (hg:U6 g):NtOk h (No.Jmh S g):=by
 refine⟨No.Jj7 k.1 hg,fun x hx=>?_⟩
 unfold No.Jmh at hx
 cases hl:S.l with
 | nil =>
  rw[hl] at hx
  simp at hx
 | cons y T =>
  rw[hl] at hx
  exact k.2 x (by rw[hl];exact Jmc hx)
theorem Jfk {h:Th.Hs} {S:No.Ns} (k:NtOk h S) {who:Int} (hw:Tid h who) (z:Bool):NtOk h (No.J6b S who z):=by
 refine⟨No.Jgs k.1 _ _,fun x hx=>?_⟩
 unfold No.J6b at hx
 split at hx
 ·exact k.2 x hx
 ·split at hx
  ·exact k.2 x hx
  ·split at hx
   ·rcases Jrc.1 hx with hx|hx
    ·exact k.2 x hx
    ·have:x=who:=by simpa using hx
     subst this
     exact hw
   ·exact k.2 x hx
theorem Jps {S:No.Ns} {g:Int} (hg:U6 g):U6 (No.Jt5 S g):=by
 unfold No.Jt5
 split
 ·exact⟨Int.le_refl 0,by show(0:Int)<=_;decide⟩
 ·exact hg
theorem Iv.sig (v:Iv n m K) (o:Int) {g:Int} (hg:U6 g):Iv n m (Jh4 K o g):=by
 unfold Jh4
 have v1:=v.setN o (Jtt (Jd0 v o) hg)
 split
 ·exact v1.thr (Th.MS (Th.IJ v1.th _ _ _ (Jps hg)) _) ((Ah _ _ _ _).then (VY _ _))
 ·exact v1
theorem Iv.wait (v:Iv n m K) (core:Int) {who:Int} (hw:Tid K.h who) (c:Cl) (x:Sl.Cp):Iv n m (Jf3 K core who c x).1:=by
 unfold Jf3
 split
 ·split
  ·exact v.setN _ (Jfk (Jd0 v x.o) hw _)
  ·exact(v.setN _ (Jfk (Jd0 v x.o) hw _)).rest _ _ _
 ·exact v
theorem Jt9 (v:Iv n m K) {f:Ir.Ln->Ir.Ln} (hf:∀ x,(f x).a=x.a/\(f x).g=x.g/\((f x).s≠none->x.s≠none)) (o:Int):∀ x∈Ir.Jif f K.l o,Jiy K.N x:=fun x hx=>by
 unfold Ir.Jif at hx
 split at hx
 ·exact v.ln x hx
 ·rename_i y hy
  unfold Ir.Md at hx
  rcases Mq hx with hx|rfl
  ·exact v.ln x hx
  ·intro he
   obtain⟨e1,e2,e3⟩:=hf y
   have:=v.ln y (Jqi (Ir.GT hy).2.2) (e3 he)
   rw[e1,e2]
   exact this
theorem Jr0 (x:Ir.Ln):(Ir.Jiz x).a=x.a/\(Ir.Jiz x).g=x.g/\((Ir.Jiz x).s≠none->x.s≠none):=by
 obtain⟨s,a,g⟩:=x
 rcases s with _|_|_|_<;>exact⟨rfl,rfl,fun h=>(by first|exact h|(intro e;cases e))⟩
theorem Jpz (v:Iv n m K) {f:Ir.Ln->Bool} (hf:∀ x,f x=true->x.s≠none) (o:Int):U6 (Ir.Jt8 f K.l o):=by
 have z:U6 0:=⟨Int.le_refl 0,by decide⟩
 unfold Ir.Jt8
 split
 ·exact z
 ·rename_i y hy
  split
  ·rename_i hh
   exact(v.ln y (Jqi (Ir.GT hy).2.2) (hf y hh)).2.2
  ·exact z
theorem Jkk (x:Ir.Ln) (h:Ir.isM x=true):x.s≠none:=by
 intro e
 unfold Ir.isM at h
 rw[e] at h
 cases h
theorem Iv.picked (v:Iv n m K) (core:Int):Iv n m (JQ K core):=v.thr (Th.Mo v.th core) (VU _ _)
theorem Jl5 (v:Iv n m K) {core:Int} (h:Th.Xm K.h core=true):Tid K.h (Th.XE K.h core)/\Th.OQ K.h core:=by
 unfold Th.Xm at h
 unfold Th.XE
 cases e:Th.Zu K.h core with
 | none =>
  rw[e] at h
  cases h
 | some i =>
  obtain⟨x,hx,_,hi,_,hc⟩:=Th.XF e
  have ok:=v.th.each x (Jqi hx)
  have:=ok.c
  refine⟨⟨by simp,by simpa using hi⟩,?_⟩
  unfold Th.OQ
  omega
theorem Iv.does (v:Iv n m K) (hm:m<=900000) {core who:Int} (hw:Tid K.h who) (hc:Th.OQ K.h core) (c:Cl) (hB:I6 c.B) (h:(Jk K c.a).k≠0):Iv n (m+64) (Ay K core who c (Jk K c.a)).1:=by
 have w:=v.more (show m<=m+64 by omega)
 unfold Ay
 by_cases h0:c.q=0
 ·rw[if_pos h0]
  exact v.retype hm core c hB hc h
 rw[if_neg h0]
 by_cases h1:c.q=1
 ·rw[if_pos h1]
  exact(v.mint c h).more (by omega)
 rw[if_neg h1]
 by_cases h2:c.q=2
 ·rw[if_pos h2]
  exact(v.moved c h).more (by omega)
 rw[if_neg h2]
 by_cases h3:c.q=3
 ·rw[if_pos h3]
  split
  ·exact w
  ·exact w.gone _
 rw[if_neg h3]
 by_cases h4:c.q=4
 ·rw[if_pos h4]
  unfold V9
  split
  ·exact(Iv.goneAll _ w).setU _ ⟨(I5 w _).base,(I5 w _).bits,⟨Int.le_refl 0,by show(0:Int)<=_;decide⟩⟩
  ·exact Iv.goneAll _ w
 rw[if_neg h4]
 by_cases h5:c.q=5
 ·rw[if_pos h5]
  refine Iv.wake ?_ _
  unfold AC
  split
  ·exact w.freed _
  ·exact w
 rw[if_neg h5]
 by_cases h6:c.q=6
 ·rw[if_pos h6]
  exact(w.freed _).thr (Th.Uq w.th _) (OZ _ _)
 rw[if_neg h6]
 by_cases h7:c.q=7
 ·rw[if_pos h7]
  exact w.thr (Th.Ja7 w.th _ _) (Jlr _ _ _)
 rw[if_neg h7]
 by_cases h8:c.q=8
 ·rw[if_pos h8]
  exact w.send core hw c _ (Mj v h).b
 rw[if_neg h8]
 by_cases h9:c.q=9
 ·rw[if_pos h9]
  exact w.recv core hw c _
 rw[if_neg h9]
 by_cases h10:c.q=10
 ·rw[if_pos h10]
  exact w.sig _ (Mj v h).b
 rw[if_neg h10]
 by_cases h11:c.q=11
 ·rw[if_pos h11]
  exact w.wait core hw c _
 rw[if_neg h11]
 by_cases h12:c.q=12
 ·rw[if_pos h12]
  split
  ·exact w.setD _ (Ta.Jaw (Jeg w _) _ _)
  ·exact w
 rw[if_neg h12]
 by_cases h13:c.q=13
 ·rw[if_pos h13]
  split
  ·exact w.setD _ (Ta.Jj6 (Jeg w _) _ _)
  ·exact w
 rw[if_neg h13]
 by_cases h14:c.q=14
 ·rw[if_pos h14]
  split
  ·exact w.setD _ (Ta.AO (Jeg w _) _)
  ·exact w
 rw[if_neg h14]
 by_cases h15:c.q=15
 ·rw[if_pos h15]
  split
  ·rename_i hk
   have hk2:(Jk K c.w).k≠0:=by rw[hk];decide
   refine w.lines ((Ir.Jjk _ _ _ _).trans w.ll) fun x hx=>?_
   unfold Ir.Jev at hx
   split at hx
   ·exact w.ln x hx
   ·split at hx
    ·exact w.ln x hx
    ·split at hx
     ·unfold Ir.Md at hx
      rcases Mq hx with hx|rfl
      ·exact w.ln x hx
      ·exact fun _=>⟨Jex v hk2,(MJ v hk2).n hk,(Mj v hk2).b⟩
     ·exact w.ln x hx
  ·exact w
 ·rw[if_neg h15]
  have v1:Iv n (m+64) (Aj K (Jk K c.a).o):=w.lines (l:=Ir.Jif Ir.Jiz K.l (Jk K c.a).o) ((Ir.Jp0 _ _ _).trans w.ll) (Jt9 w Jr0 _)
  split
  ·exact v1.sig _ (Jpz w Jkk _)
  ·exact v1
theorem Iv.call (v:Iv n m K) (hm:m<=900000) (core:Int) (c:Cl) (hB:I6 c.B):Iv n (m+64) (doK K core c).1:=by
 have w:=v.more (show m<=m+64 by omega)
 unfold doK
 split
 ·rename_i hr
  obtain⟨t1,t2⟩:=Jl5 (v.picked core) hr
  split
  ·split
   ·exact w.thr (Th.Fq (w.picked core).th core) ((VU _ _).then (Jis _ _))
   ·split
    ·rename_i hmay
     have hk:(Jk K c.a).k≠0:=by
      unfold Jk4 at hmay
      intro e
      rw[e] at hmay
      simp at hmay
     exact(v.picked core).does hm t1 t2 c hB hk
    ·exact w.picked core
  ·exact w.picked core
 ·exact w.picked core
end
section
variable [dCp:DecidableEq Sl.Cp] [dLim:∀ k,Decidable (Sl.ZV k)] [dBad:∀ k,Decidable (Sl.Xn k)] [dFit:∀ g z,Decidable (Sl.Fit g z)] [dF:∀ c:Sl.Cp,Decidable (Sl.Fine c)] [dMi:∀ (c:Sl.Cp) (v:Int),Decidable (Sl.JK c v)] [dWho:∀ x y,Decidable (Sl.Zx x y)] [dS:DecidableEq Sl.Sl] [dLt:∀ a b,Decidable (Sl.MC a b)] [dIsN:∀ S c,Decidable (Sl.Gq S c)] [dGuN:∀ a c d,Decidable (Sl.XT a c d)]
theorem J0f {S:Sl.St} (h:(S.getD 0 []).length=64) {n:Int} (h0:0<=n) (h1:n<=63):Sl.Ub S ⟨2,0,7,0,0,0⟩ n 6=(⟨0,n⟩,0):=by
 obtain⟨k,rfl⟩:=Jqg h0
 have e0:Sl.J5 S 0=S.getD 0 []:=rfl
 have eb:Sl.Xs S ⟨2,0,7,0,0,0⟩=6:=by
  unfold Sl.Xs Sl.J7
  rw[e0,h]
  rfl
 have er:Sl.XP S ⟨2,0,7,0,0,0⟩ 6=0:=by
  unfold Sl.XP
  rw[eb]
  rfl
 have hz:Sl.Vh S k ⟨2,0,7,0,0,0⟩ 6=0:=by
  rw[Sl.OB,eb]
  refine⟨⟨rfl,.inr ⟨⟨by decide,by decide⟩,⟨by decide,by decide⟩,⟨by decide,by decide⟩,.inl rfl,.inl rfl,.inl ⟨rfl,rfl⟩,?_⟩,?_⟩,⟨Jqp _,?_⟩,Jqd _⟩
  ·unfold Sl.Fit
   decide
  ·rw[e0]
   intro e
   rw[e] at h
   cases h
  ·show((Sl.Zm k 6 0:Nat):Int)=0
   have:=Sl.Og k 6 0
   omega
 have es:Sl.V0 S k ⟨2,0,7,0,0,0⟩ 6=⟨0,(k:Int)⟩:=by
  unfold Sl.V0
  rw[er,eb]
  have:Sl.Zm k 0 6=k:=by
   unfold Sl.Zm
   rw[Nat.pow_zero,Nat.div_one]
   exact Nat.mod_eq_of_lt (by have:(2:Nat) ^ 6=64:=rfl;omega)
  rw[this]
 unfold Sl.Ub
 rw[if_pos ⟨by decide,by decide⟩]
 show Sl.look S k 65 _ 6=_
 unfold Sl.look
 rw[if_pos hz,if_pos er,es]
end
theorem AF {K:List Int} (m:Nat) (hn:K.Nodup) (hk:∀ x∈K,0<=x/\x<(m:Int)):K.length<=m:=by
 classical
 have hp:K.Perm (((List.range m).map fun n:Nat=>(n:Int)).filter fun x=>decide (x∈K)):=by
  refine(List.perm_ext_iff_of_nodup hn ?_).2 fun x=>?_
  ·refine List.Pairwise.filter _ ?_
   refine List.pairwise_map.2 ((List.nodup_range (n:=m)).imp fun {a b} h e=>h (by omega))
  ·rw[List.mem_filter,List.mem_map]
   simp only[List.mem_range,decide_eq_true_eq]
   constructor
   ·intro h
    have:=hk x h
    exact⟨⟨x.toNat,by omega,by omega⟩,h⟩
   ·exact fun h=>h.2
 rw[hp.length_eq]
 refine Jql (List.length_filter_le _ _) ?_
 rw[List.length_map,List.length_range]
 exact Jqd _
theorem Jc4 {h:Th.Hs} (iv:Th.Inv h) {S:En.St} (k:EpOk h S):S.length<=64:=by
 have:=AF 64 (K:=S.map fun x=>x.n) (List.pairwise_map.2 k.1.one) fun x hx=>by
  obtain⟨y,hy,rfl⟩:=List.mem_map.1 hx
  obtain⟨h1,h2⟩:=(k.2 y hy).1
  have:=iv.few
  exact⟨h1,by omega⟩
 simpa using this
theorem Jts {h:Th.Hs} (iv:Th.Inv h) {S:No.Ns} (k:NtOk h S):S.l.length<=64:=
 AF 64 k.1.one fun x hx=>by
  obtain⟨h1,h2⟩:=k.2 x hx
  have:=iv.few
  exact⟨h1,by omega⟩
end
section
open Go.RowKit Go.Deep Go.Shelf
open Classical
section
variable {α β:Type} {f:α->β->Th}
theorem Jq2 {P:List α} {S:List β} {i:Nat} {a:α} {b:β} (h1:P[i]? = some a) (h2:S[i]? = some b):List.zipWith f P S=(List.zipWith f P S).take i++f a b::(List.zipWith f P S).drop (i+1):=by
 have h:(List.zipWith f P S)[i]? = some (f a b):=by rw[List.getElem?_zipWith,h1,h2]
 obtain⟨hi,e⟩:=Jqb.1 h
 rw[<- e,<- List.drop_eq_getElem_cons hi,List.take_append_drop]
theorem Jq3 {P:List α} {S:List β} {i:Nat} (a:α) (b:β) (h1:i<P.length) (h2:i<S.length):List.zipWith f (P.set i a) (S.set i b)=(List.zipWith f P S).take i++f a b::(List.zipWith f P S).drop (i+1):=by
 have e:List.zipWith f (P.set i a) (S.set i b)=(List.zipWith f P S).set i (f a b):=by
  apply List.ext_getElem?
  intro j
  rw[List.getElem?_zipWith,List.getElem?_set,List.getElem?_set,List.getElem?_set,List.getElem?_zipWith]
  by_cases hj:i=j
  ·subst hj
   rw[if_pos rfl,if_pos rfl,if_pos rfl,if_pos h1,if_pos h2,if_pos (by rw[List.length_zipWith];omega)]
  ·rw[if_neg hj,if_neg hj,if_neg hj]
 rw[e,List.set_eq_take_append_cons_drop,if_pos (by rw[List.length_zipWith];omega)]
end
section
variable {w0 w w':World} {r p:Nat} {Y:Ly} {K:Kr} {R:List Th}
theorem Sep.oneOf {α β:Type} {f:α->β->Th} {X:Prop} {A B:List Th} {P:List α} {S:List β} {i:Nat} {a:α} {b:β} (s:Sep w0 r w (O6 X (A++(List.zipWith f P S++B))::R)) (ha:P[i]? = some a) (hb:S[i]? = some b) :
  ∃ Q,Sep w0 r w (f a b::Q)/\∀ X' w' a' b' E,X'->Sep w0 r w' (f a' b'::(E++Q))->Sep w0 r w' (O6 X' (A++(List.zipWith f (P.set i a') (S.set i b')++B))::(E++R)):=by
 have e0:∀ x:Th,A++((List.zipWith f P S).take i++x::(List.zipWith f P S).drop (i+1)++B)=(A++(List.zipWith f P S).take i)++x::((List.zipWith f P S).drop (i+1)++B):=fun x=>by
  rw[List.append_assoc,List.append_assoc,List.cons_append]
 have e1:A++(List.zipWith f P S++B)=(A++(List.zipWith f P S).take i)++f a b::((List.zipWith f P S).drop (i+1)++B):=by
  rw[<- e0,<- Jq2 ha hb]
 refine⟨_,Sep.into (P:=X) (by rw[<- e1];exact s),fun X' w' a' b' E hx h=>?_⟩
 have:=Sep.back (P':=X') hx h
 rw[<- e0,<- Jq3 a' b' (List.getElem?_eq_some_iff.1 ha).1 (List.getElem?_eq_some_iff.1 hb).1] at this
 exact this
theorem Us {β:Type} {P:List (Nat×β)} {i q:Nat} {v:β} (h:P[i]? = some (q,v)) (v':β):(P.set i (q,v')).map (·.1)=P.map (·.1):=by
 apply List.ext_getElem?
 intro j
 rw[List.getElem?_map,List.getElem?_map,List.getElem?_set]
 by_cases hj:i=j
 ·subst hj
  rw[if_pos rfl,if_pos (List.getElem?_eq_some_iff.1 h).1,h]
  rfl
 ·rw[if_neg hj]
theorem Sep.epOf (s:Sep w0 r w (kT p Y K::R)) {i:Nat} {S:En.St} (hi:K.P[i]? = some S) :
  ∃ q v Q,Y.P[i]? = some (q,v)/\Sep w0 r w (En.VE q v S::Q)/\∀ w' v' T E,Sep w0 r w' (En.VE q v' T::(E++Q))->Sep w0 r w' (kT p { Y with P:=Y.P.set i (q,v') } { K with P:=K.P.set i T }::(E++R)):=by
 have hL:=s.fact
 obtain⟨⟨q,v⟩,ha⟩:∃ a,Y.P[i]? = some a:=⟨_,Jqc (by rw[hL.1];exact(Jqb.1 hi).1)⟩
 obtain⟨Q,s1,bk⟩:=Sep.oneOf (f:=fun a S=>En.VE a.1 a.2 S) (A:=[blk p (Xr Y K.fr K.tb),nT Y.n Y.F K.S,eT Y.t Y.tv K.E,Th.tT Y.h Y.hF K.h,Ir.lnT Y.l Y.lv K.l,Jv EI Y.uv K.U,Jv Mc Y.pv (Y.P.map (·.1)),Jv Ml Y.nv (Y.N.map (·.1)),Jv MN Y.dv (Y.D.map (·.1))]) s ha hi
 refine⟨q,v,Q,ha,s1,fun w' v' T E h=>?_⟩
 have:=bk (FT { Y with P:=Y.P.set i (q,v') } { K with P:=K.P.set i T }) w' (q,v') T E ⟨by simp[hL.1],hL.2.1,hL.2.2⟩ h
 rw[<- Us ha v'] at this
 exact this
theorem Sep.ntOf (s:Sep w0 r w (kT p Y K::R)) {i:Nat} {S:No.Ns} (hi:K.N[i]? = some S) :
  ∃ q v Q,Y.N[i]? = some (q,v)/\Sep w0 r w (No.Ed q v S::Q)/\∀ w' v' T E,Sep w0 r w' (No.Ed q v' T::(E++Q))->Sep w0 r w' (kT p { Y with N:=Y.N.set i (q,v') } { K with N:=K.N.set i T }::(E++R)):=by
 have hL:=s.fact
 obtain⟨⟨q,v⟩,ha⟩:∃ a,Y.N[i]? = some a:=⟨_,Jqc (by rw[hL.2.1];exact(Jqb.1 hi).1)⟩
 obtain⟨Q,s1,bk⟩:=Sep.oneOf (f:=fun a S=>No.Ed a.1 a.2 S) (A:=[blk p (Xr Y K.fr K.tb),nT Y.n Y.F K.S,eT Y.t Y.tv K.E,Th.tT Y.h Y.hF K.h,Ir.lnT Y.l Y.lv K.l,Jv EI Y.uv K.U,Jv Mc Y.pv (Y.P.map (·.1)),Jv Ml Y.nv (Y.N.map (·.1)),Jv MN Y.dv (Y.D.map (·.1))]++AE Y.P K.P) s ha hi
 refine⟨q,v,Q,ha,s1,fun w' v' T E h=>?_⟩
 have:=bk (FT { Y with N:=Y.N.set i (q,v') } { K with N:=K.N.set i T }) w' (q,v') T E ⟨hL.1,by simp[hL.2.1],hL.2.2⟩ h
 rw[<- Us ha v'] at this
 exact this
theorem Sep.spOf (s:Sep w0 r w (kT p Y K::R)) {i:Nat} {S:Ta.Sp} (hi:K.D[i]? = some S) :
  ∃ q m Q,Y.D[i]? = some (q,m)/\Sep w0 r w (Ta.UA q m S::Q)/\∀ w' m' T E,Sep w0 r w' (Ta.UA q m' T::(E++Q))->Sep w0 r w' (kT p { Y with D:=Y.D.set i (q,m') } { K with D:=K.D.set i T }::(E++R)):=by
 have hL:=s.fact
 obtain⟨⟨q,v⟩,ha⟩:∃ a,Y.D[i]? = some a:=⟨_,Jqc (by rw[hL.2.2];exact(Jqb.1 hi).1)⟩
 have e0:∀ (h:List Th) (Z:List Th),h++(AE Y.P K.P++(EN Y.N K.N++Z))=(h++(AE Y.P K.P++EN Y.N K.N))++(Z++[]):=fun h Z=>by simp
 have s':=s
 unfold kT MY at s'
 rw[e0] at s'
 obtain⟨Q,s1,bk⟩:=Sep.oneOf (f:=fun a S=>Ta.UA a.1 a.2 S) s' ha hi
 refine⟨q,v,Q,ha,s1,fun w' v' T E h=>?_⟩
 have:=bk (FT { Y with D:=Y.D.set i (q,v') } { K with D:=K.D.set i T }) w' (q,v') T E ⟨hL.1,hL.2.1,by simp[hL.2.2]⟩ h
 rw[<- Us ha v',<- e0] at this
 exact this
theorem Sep.epRow (s:Sep w0 r w (kT p Y K::R)):Row Mc w Y.pv (Y.P.map (·.1))/\(Y.P.map (·.1)).length=K.P.length:=⟨by have h:=s.has (t:=Jv Mc Y.pv (Y.P.map fun x=>x.1)) (by simp[MY]);exact h,by rw[List.length_map];exact s.fact.1⟩
theorem Sep.ntRow (s:Sep w0 r w (kT p Y K::R)):Row Ml w Y.nv (Y.N.map (·.1))/\(Y.N.map (·.1)).length=K.N.length:=⟨by have h:=s.has (t:=Jv Ml Y.nv (Y.N.map fun x=>x.1)) (by simp[MY]);exact h,by rw[List.length_map];exact s.fact.2.1⟩
theorem Sep.spRow (s:Sep w0 r w (kT p Y K::R)):Row MN w Y.dv (Y.D.map (·.1))/\(Y.D.map (·.1)).length=K.D.length:=⟨by have h:=s.has (t:=Jv MN Y.dv (Y.D.map fun x=>x.1)) (by simp[MY]);exact h,by rw[List.length_map];exact s.fact.2.2⟩
theorem GK {E:El Nat} (ok:El.Ok E) (he:∀ q,E.enc q=[Je q]) (hk:E.k=1) {v:Value} {L:List Nat} {n:Nat} (h:Row E w v L) (hn:L.length=n):∃ ao cap,v=.slice ao n cap/\n<=9223372036854775807/\∀ i q,L[i]? = some q->∃ g,ao=some ⟨g,0,none⟩/\w.cell? ⟨g,i,none⟩=some (Je q):=by
 obtain⟨ao,cap,rfl,hc,hm,hg,_⟩:=h.slice
 subst hn
 refine⟨ao,cap,rfl,Jql hc hm,fun i q hi=>?_⟩
 obtain⟨g,rfl⟩:=hg i (Jqb.1 hi).1
 refine⟨g,rfl,?_⟩
 have:=h.cell ok hi (j:=0) (c:=Je q) (by rw[he];rfl)
 rw[hk,Nat.mul_one,Nat.add_zero] at this
 exact this
theorem Sep.epPtr (s:Sep w0 r w (kT p Y K::R)):∃ ao cap,Y.pv=.slice ao K.P.length cap/\K.P.length<=9223372036854775807/\∀ i q v,Y.P[i]? = some (q,v)->∃ g,ao=some ⟨g,0,none⟩/\w.cell? ⟨g,i,none⟩=some (Je q):=by
 obtain⟨ao,cap,e,hm,h⟩:=GK Jz3 (fun _=>rfl) rfl s.epRow.1 s.epRow.2
 exact⟨ao,cap,e,hm,fun i q v hi=>h i q (by rw[List.getElem?_map,hi];rfl)⟩
theorem Sep.ntPtr (s:Sep w0 r w (kT p Y K::R)):∃ ao cap,Y.nv=.slice ao K.N.length cap/\K.N.length<=9223372036854775807/\∀ i q v,Y.N[i]? = some (q,v)->∃ g,ao=some ⟨g,0,none⟩/\w.cell? ⟨g,i,none⟩=some (Je q):=by
 obtain⟨ao,cap,e,hm,h⟩:=GK Jz4 (fun _=>rfl) rfl s.ntRow.1 s.ntRow.2
 exact⟨ao,cap,e,hm,fun i q v hi=>h i q (by rw[List.getElem?_map,hi];rfl)⟩
theorem Sep.spPtr (s:Sep w0 r w (kT p Y K::R)):∃ ao cap,Y.dv=.slice ao K.D.length cap/\K.D.length<=9223372036854775807/\∀ i q v,Y.D[i]? = some (q,v)->∃ g,ao=some ⟨g,0,none⟩/\w.cell? ⟨g,i,none⟩=some (Je q):=by
 obtain⟨ao,cap,e,hm,h⟩:=GK Jz5 (fun _=>rfl) rfl s.spRow.1 s.spRow.2
 exact⟨ao,cap,e,hm,fun i q v hi=>h i q (by rw[List.getElem?_map,hi];rfl)⟩
end
def turned {α:Type} (f:α->α) (L:List α) (i:Nat):List α:=(L.take i).map f++L.drop i
section
variable {α:Type} {f:α->α} {L:List α} {i:Nat} {x:α}
theorem IY:turned f L 0=L:=by simp[turned]
theorem M2:turned f L L.length=L.map f:=by simp[turned]
theorem M4 (h:L[i]? = some x):(turned f L i)[i]? = some x:=by
 have hi:=(Jqb.1 h).1
 unfold turned
 rw[List.getElem?_append_right (by rw[List.length_map,List.length_take];omega),List.length_map,List.length_take,List.getElem?_drop,Nat.min_eq_left (by omega),Nat.sub_self,Nat.add_zero]
 exact h
theorem M5 (h:L[i]? = some x):(turned f L i).set i (f x)=turned f L (i+1):=by
 obtain⟨hi,rfl⟩:=Jqb.1 h
 unfold turned
 rw[List.set_append_right _ _ (by rw[List.length_map,List.length_take];omega),List.length_map,List.length_take,Nat.min_eq_left (by omega),Nat.sub_self,List.drop_eq_getElem_cons hi,List.set_cons_zero,List.take_succ_eq_append_getElem hi,List.map_append,List.append_assoc]
 rfl
end
section
variable {w0 w w':World} {r p:Nat} {Y:Ly} {K:Kr} {R:List Th}
theorem Sep.epAt (s:Sep w0 r w (kT p Y K::R)) {ao:Option Addr} {n cap:Nat} (hv:Y.pv=.slice ao n cap) {i:Nat} {S:En.St} (hi:K.P[i]? = some S) :
  ∃ g q v Q,ao=some ⟨g,0,none⟩/\w.cell? ⟨g,i,none⟩=some (Je q)/\Sep w0 r w (En.VE q v S::Q)/\∀ w' v' T E,Sep w0 r w' (En.VE q v' T::(E++Q))->Sep w0 r w' (kT p { Y with P:=Y.P.set i (q,v') } { K with P:=K.P.set i T }::(E++R)):=by
 obtain⟨q,v,Q,h1,h2,h3⟩:=s.epOf hi
 obtain⟨ao',cap',e,-,h4⟩:=s.epPtr
 rw[hv] at e
 cases e
 obtain⟨g,rfl,h5⟩:=h4 i q v h1
 exact⟨g,q,v,Q,rfl,h5,h2,h3⟩
theorem Sep.ntAt (s:Sep w0 r w (kT p Y K::R)) {ao:Option Addr} {n cap:Nat} (hv:Y.nv=.slice ao n cap) {i:Nat} {S:No.Ns} (hi:K.N[i]? = some S) :
  ∃ g q v Q,ao=some ⟨g,0,none⟩/\w.cell? ⟨g,i,none⟩=some (Je q)/\Sep w0 r w (No.Ed q v S::Q)/\∀ w' v' T E,Sep w0 r w' (No.Ed q v' T::(E++Q))->Sep w0 r w' (kT p { Y with N:=Y.N.set i (q,v') } { K with N:=K.N.set i T }::(E++R)):=by
 obtain⟨q,v,Q,h1,h2,h3⟩:=s.ntOf hi
 obtain⟨ao',cap',e,-,h4⟩:=s.ntPtr
 rw[hv] at e
 cases e
 obtain⟨g,rfl,h5⟩:=h4 i q v h1
 exact⟨g,q,v,Q,rfl,h5,h2,h3⟩
def Few (K:Kr):Prop:=(∀ S∈K.P,S.length<=1000)/\∀ S∈K.N,S.l.length<=1000
theorem Fs (s:Sep w0 r w (kT p Y K::R)) (hf:Few K) (id:Int) :
  Calls Tryz.prog 231 #[Je p,.int .i64 id] w fun e w'=>e=.returned (.tuple #[])/\KS w0 r w' p (freed K id) R:=by
 have S1:=Ja s
 have HF:=Ja hf
 have c5:=s.k5
 obtain⟨ao,cap,hpv,hzm,-⟩:=s.epPtr
 have HV:=Ja hpv
 rw[hpv] at c5
 clear s hf hpv
 generalize hz:K.P.length=z at *
 have HZ:=Ja hz
 clear hz
 go_enter Tryz.func231,Tryz.ntmps231
 go_wp2_with fail
 go_loopw [5,13] (fun _ s13 wr=>∃ (k:Nat) (P':List (Nat×Value)),k<=z/\s13=.int .i64 k/\Sep w0 r wr (kT p { Y with P:=P' } { K with P:=turned (En.Ud (En.EL id)) K.P k }::R)) (fun _ s13 _=>z - (intOf s13).toNat)
 case atStart=>exact⟨0,Y.P,Jqp _,rfl,by rw[IY];exact S1.out⟩
 case round =>
  clear S1 c5
  obtain⟨k,P',hk,rfl,s2⟩:=hrel
  by_cases hlt:k<z
  ·have hltz:(k:Int)<(z:Int):=by omega
   obtain⟨S,hS⟩:∃ S,K.P[k]? = some S:=⟨_,Jqc (by have:=HZ.out;omega)⟩
   obtain⟨g,q,v,Q,rfl,cq,s3,bk⟩:=s2.epAt (n:=z) (cap:=cap) (ao:=ao) HV.out (M4 hS)
   have hl:=HF.out.1 S (Jqi hS)
   have HC:=Ja (En.Jcu s3 id hl rfl rfl)
   have BK:=Ja bk
   have HS:=Ja hS
   clear s2 s3 bk hS hl
   go_wp2_with (go_at_call 315;refine Jqa HC.out ?_;rintro e w3 ⟨rfl,v',h3⟩;have S3:=Ja (BK.out w3 v' _ [] h3);clear h3)
   go_roundw
   case rel=>exact⟨k+1,_,by omega,by go_num,by rw[<- M5 HS.out];exact S3.out⟩
   case measure=>simp[intOf];omega
  ·have hltz:¬ (k:Int)<(z:Int):=by omega
   obtain rfl:k=z:=by omega
   rw[<- HZ.out,M2] at s2
   have S2:=Ja s2
   have c6:=s2.k6
   obtain⟨bo,cap2,hnv,hym,-⟩:=s2.ntPtr
   rw[hnv] at c6
   have HV2:=Ja hnv
   clear s2 hnv
   generalize hy:K.N.length=y at *
   have HY:=Ja hy
   clear hy
   go_wp2_with fail
   go_loopw [7,26] (fun _ s26 wr=>∃ (k2:Nat) (N':List (Nat×Value)),k2<=y/\s26=.int .i64 k2/\Sep w0 r wr (kT p { Y with P:=P',N:=N' } { K with P:=K.P.map (En.Ud (En.EL id)),N:=turned (fun S=>No.G4 S id) K.N k2 }::R)) (fun _ s26 _=>y - (intOf s26).toNat)
   case atStart=>exact⟨0,Y.N,Jqp _,rfl,by rw[IY];exact S2.out⟩
   case round =>
    clear S2 c6
    obtain⟨k2,N',hk2,rfl,s2⟩:=hrel
    by_cases hlt2:k2<y
    ·have hltz2:(k2:Int)<(y:Int):=by omega
     obtain⟨S,hS⟩:∃ S,K.N[k2]? = some S:=⟨_,Jqc (by have:=HY.out;omega)⟩
     obtain⟨g,q,v,Q,rfl,cq,s3,bk⟩:=s2.ntAt (n:=y) (cap:=cap2) (ao:=bo) HV2.out (M4 hS)
     have hl:=HF.out.2 S (Jqi hS)
     have HC:=Ja (No.Ob s3 id hl rfl rfl)
     have BK:=Ja bk
     have HS:=Ja hS
     clear s2 s3 bk hS hl
     go_wp2_with (go_at_call 316;refine Jqa HC.out ?_;rintro e w3 ⟨rfl,v',h3⟩;have S3:=Ja (BK.out w3 v' _ [] h3);clear h3)
     go_roundw
     case rel=>exact⟨k2+1,_,by omega,by go_num,by rw[<- M5 (f:=fun S=>No.G4 S id) HS.out];exact S3.out⟩
     case measure=>simp[intOf];omega
    ·have hltz2:¬ (k2:Int)<(y:Int):=by omega
     obtain rfl:k2=y:=by omega
     rw[<- HY.out,M2] at s2
     have S3:=Ja s2
     clear s2
     go_wp2
     exact bodyPost_end (v:=.tuple #[]) (by simp[results,Tryz.results231,go_sem]) rfl ⟨rfl,_,S3.out⟩
def elW:El Int:=⟨39,228,1,8,fun x=>[.int .u64 x]⟩
theorem Jkh:(Tryz.prog.info? 39).map (fun i=>(i.zero,i.size,i.bytes))=some (some (.int .u64 0),1,8):=by kernel_rfl
theorem okW:El.Ok elW:=⟨Tryz.underlying228,ZA Jkh rfl,by decide,by decide,fun _=>rfl,by simp[elW,Value.oneCell']⟩
def Jby (h:Th.Hs) (id:Int) (L:List Int):Nat->Th.Hs
 | 0=>h
 | k+1=>Th.My (Jby h id L k) id k (L.getD k 0)
theorem Jir {v:Value} {L:List Int} (s:Sep w0 r w (kT p Y K::Jv elW v L::R)) (hL:∀ x∈L,0<=x/\x<=18446744073709551615) (hl:L.length<=1000) (id:Int) :
  Calls Tryz.prog 263 #[Je p,.int .i64 id,v] w fun e w'=>e=.returned (.tuple #[])/\KS w0 r w' p { K with h:=Jby K.h id L L.length } R:=by
 obtain⟨ao,cap,rfl⟩:=s.listIs (E:=elW) (v:=v) (A:=L) (by simp)
 have S1:=Ja s
 have HL:=Ja hL
 clear s hL
 generalize hz:L.length=z at *
 have HZ:=Ja hz
 clear hz
 go_enter Tryz.func263,Tryz.ntmps263
 go_wp2_with fail
 go_loopw [6,7,10] (fun _ _ s10 wr=>∃ (k:Nat) (F':Nat->Prop),k<=z/\s10=.int .i64 k/\Sep w0 r wr (kT p { Y with hF:=F' } { K with h:=Jby K.h id L k }::Jv elW (.slice ao z cap) L::R)) (fun _ _ s10 _=>z - (intOf s10).toNat)
 case atStart=>exact⟨0,Y.hF,Jqp _,rfl,S1.out⟩
 case round =>
  clear S1
  obtain⟨k,F',hk,rfl,s2⟩:=hrel
  by_cases hlt:k<z
  ·have hltz:(k:Int)<(z:Int):=by omega
   obtain⟨x,hx⟩:∃ x,L[k]? = some x:=⟨_,Jqc (by have:=HZ.out;omega)⟩
   obtain⟨g,rfl,hc⟩:=s2.listAt okW (ao:=ao) (n:=z) (cap:=cap) (A:=L) (by simp) hx
   have d0:=hc 0 (.int .u64 x) rfl
   rw[show elW.k=1 from rfl,Nat.mul_one,Nat.add_zero] at d0
   have c2:=s2.k2
   obtain⟨Q,s3,bk⟩:=s2.kH
   have HC:=Ja (Th.Jpg s3 id (k:Int) x (HL.out x (Jqi hx)))
   have e1:L.getD k 0=x:=by rw[List.getD_eq_getElem?_getD,hx];rfl
   have E1:=Ja e1
   have BK:=Ja bk
   clear s2 s3 bk hx hc e1
   go_wp2_with (go_at_call 327;refine Jqa HC.out ?_;rintro e w3 ⟨rfl,F2,h3⟩;have S3:=Ja (BK.out w3 F2 _ [] h3);clear h3)
   go_roundw
   case rel=>exact⟨k+1,F2,by omega,by go_num,by unfold Jby;rw[E1.out];exact S3.out⟩
   case measure=>simp[intOf];omega
  ·have hltz:¬ (k:Int)<(z:Int):=by omega
   obtain rfl:k=z:=by omega
   have S2:=Ja s2.drop2
   clear s2
   go_wp2
   exact bodyPost_end (v:=.tuple #[]) (by simp[results,Tryz.results263,go_sem]) rfl ⟨rfl,_,S2.out⟩
theorem Jm9 (s:Sep w0 r w (kT p Y K::R)) (id:Int) :
  Calls Tryz.prog 264 #[Je p,.int .i64 id] w fun e w'=>e=.returned (.int .i64 id)/\KS w0 r w' p (EB K id) R:=by
 have c2:=s.k2
 have HC:=Ja (Ja8 s id)
 clear s
 go_enter Tryz.func264,Tryz.ntmps264
 go_wp2_with (go_at_call 101;refine Jqa HC.out ?_;rintro e w3 ⟨rfl,F3,S3⟩)
 go_ret
 exact⟨rfl,_,S3⟩
theorem Sep.epIn (s:Sep w0 r w (kT p Y K::R)) {i q:Nat} {v:Value} {S:En.St} (hi:K.P[i]? = some S) (hy:Y.P[i]? = some (q,v)) :
  ∃ Q,Sep w0 r w (En.VE q v S::Q)/\∀ w' v' T E,Sep w0 r w' (En.VE q v' T::(E++Q))->Sep w0 r w' (kT p { Y with P:=Y.P.set i (q,v') } { K with P:=K.P.set i T }::(E++R)):=by
 obtain⟨q',v',Q,h1,h2,h3⟩:=s.epOf hi
 rw[hy] at h1
 cases h1
 exact⟨Q,h2,h3⟩
theorem Sep.epWay {Y':Ly} (s:Sep w0 r w (kT p Y' K::R)) {g z cap i q:Nat} {v:Value} (hv:Y'.pv=.slice (some ⟨g,0,none⟩) z cap) (hi:Y'.P[i]? = some (q,v)):w.cell? ⟨g,i,none⟩=some (Je q):=by
 obtain⟨ao,cap',e,-,h⟩:=s.epPtr
 rw[hv] at e
 simp only[Value.slice.injEq] at e
 obtain⟨rfl,-,-⟩:=e
 obtain⟨g',e2,h5⟩:=h i q v hi
 cases e2
 exact h5
theorem Mf {L:List (Nat×Value)} {i q:Nat} {v:Value} (h:L[i]? = some (q,v)) (v':Value):(L.set i (q,v'))[i]? = some (q,v'):=by
 rw[List.getElem?_set_self (List.getElem?_eq_some_iff.1 h).1]
theorem Sep.spIn (s:Sep w0 r w (kT p Y K::R)) {i q:Nat} {v:(Nat->Option Nat)} {S:Ta.Sp} (hi:K.D[i]? = some S) (hy:Y.D[i]? = some (q,v)) :
  ∃ Q,Sep w0 r w (Ta.UA q v S::Q)/\∀ w' v' T E,Sep w0 r w' (Ta.UA q v' T::(E++Q))->Sep w0 r w' (kT p { Y with D:=Y.D.set i (q,v') } { K with D:=K.D.set i T }::(E++R)):=by
 obtain⟨q',v',Q,h1,h2,h3⟩:=s.spOf hi
 rw[hy] at h1
 cases h1
 exact⟨Q,h2,h3⟩
theorem Jmd {L:List (Nat×(Nat->Option Nat))} {i q:Nat} {v:(Nat->Option Nat)} (h:L[i]? = some (q,v)) (v':(Nat->Option Nat)):(L.set i (q,v'))[i]? = some (q,v'):=by
 rw[List.getElem?_set_self (List.getElem?_eq_some_iff.1 h).1]
theorem Jkq (s:Sep w0 r w (kT p Y K::R)) {i q:Nat} {v:Value} {S:En.St} (hi:K.P[i]? = some S) (hy:Y.P[i]? = some (q,v)) (n:Int) (m:En.Ms) (z:Bool) (hl:S.length<=1000) :
  Calls Tryz.prog 234 #[Je q,.int .i64 n,.agg #[.int .i64 m.l,.int .u64 m.a,.int .u64 m.b,.int .u64 m.c,.int .u64 m.d,.int .u64 m.g,.bool m.q],.bool z] w fun e w'=>e=.returned (.tuple #[.agg #[.bool (En.Zj S n m).i,.int .i64 (En.Zj S n m).f,.int .i64 (En.Zj S n m).t,.int .i64 (En.Zj S n m).m.l,.int .u64 (En.Zj S n m).m.a,.int .u64 (En.Zj S n m).m.b,.int .u64 (En.Zj S n m).m.c,.int .u64 (En.Zj S n m).m.d,.int .u64 (En.Zj S n m).m.g,.bool (En.Zj S n m).m.q],.int .i64 (En.J8 S n)])/\∃ v',Sep w0 r w' (kT p { Y with P:=Y.P.set i (q,v') } { K with P:=K.P.set i (En.XG S n m z) }::R):=by
 obtain⟨Q,s1,bk⟩:=s.epIn hi hy
 refine Jqa (En.Jpp s1 n m z hl rfl rfl rfl) ?_
 rintro e w' ⟨rfl,v',h⟩
 exact⟨rfl,_,bk w' _ _ [] h⟩
theorem Jkp (s:Sep w0 r w (kT p Y K::R)) {i q:Nat} {v:Value} {S:En.St} (hi:K.P[i]? = some S) (hy:Y.P[i]? = some (q,v)) (n:Int) (z:Bool) (hl:S.length<=1000) :
  Calls Tryz.prog 236 #[Je q,.int .i64 n,.bool z] w fun e w'=>e=.returned (.tuple #[.agg #[.bool (En.Zi S n).i,.int .i64 (En.Zi S n).f,.int .i64 (En.Zi S n).t,.int .i64 (En.Zi S n).m.l,.int .u64 (En.Zi S n).m.a,.int .u64 (En.Zi S n).m.b,.int .u64 (En.Zi S n).m.c,.int .u64 (En.Zi S n).m.d,.int .u64 (En.Zi S n).m.g,.bool (En.Zi S n).m.q],.int .i64 (En.J8 S n)])/\∃ v',Sep w0 r w' (kT p { Y with P:=Y.P.set i (q,v') } { K with P:=K.P.set i (En.XD S n z) }::R):=by
 obtain⟨Q,s1,bk⟩:=s.epIn hi hy
 refine Jqa (En.Jpe s1 n z hl rfl rfl rfl) ?_
 rintro e w' ⟨rfl,v',h⟩
 exact⟨rfl,_,bk w' _ _ [] h⟩
theorem Jy7 (s:Sep w0 r w (kT p Y K::R)) {i q:Nat} {v:(Nat->Option Nat)} {S:Ta.Sp} (hi:K.D[i]? = some S) (hy:Y.D[i]? = some (q,v)) (n:Int) :
  Calls Tryz.prog 241 #[Je q,.int .i64 n] w fun e w'=>e=.returned (.tuple #[.agg #[.int .i64 (Ta.Xl S n).fr,.int .i64 (Ta.Xl S n).rt],.int .i64 (Ta.ET S n)])/\∃ v',Sep w0 r w' (kT p { Y with D:=Y.D.set i (q,v') } { K with D:=K.D.set i (Ta.Ue S n) }::R):=by
 obtain⟨Q,s1,bk⟩:=s.spIn hi hy
 refine Jqa (Ta.Ju7 s1 n rfl rfl rfl) ?_
 rintro e w' ⟨rfl,h⟩
 exact⟨rfl,_,bk w' _ _ [] h⟩
end
end
end Go.Proofs.YtbfjjpdnoalojaaGreatDoor
