/- Below: KrTree KrInv KrStep KrMake; no condition. -/
import Derived.Test.YtbfjjpdnoalojaaGreatDoorPa4
set_option linter.unusedSectionVars false
namespace Go.Proofs.YtbfjjpdnoalojaaGreatDoor
section
section
variable [dCp:DecidableEq Sl.Cp] [dLim:∀ k,Decidable (Sl.ZV k)] [dBad:∀ k,Decidable (Sl.Xn k)] [dFit:∀ g z,Decidable (Sl.Fit g z)] [dF:∀ c:Sl.Cp,Decidable (Sl.Fine c)] [dMi:∀ c v,Decidable (Sl.JK c v)] [dWho:∀ x y,Decidable (Sl.Zx x y)] [dSl:DecidableEq Sl.Sl] [dLt:∀ a b,Decidable (Sl.MC a b)]
variable [dT:DecidableEq Tr.Sl]
theorem Jnm {E:Tr.St} {i:Nat} (e:Tr.En) (t:Tr.Sl):t∈Tr.JA (Tr.Me E i e)↔t=e.s\/t∈Tr.JA E:=by
 unfold Tr.JA Tr.Me
 rw[List.map_append,List.map_cons,List.mem_append,List.mem_cons]
 have h:t∈E.map Tr.En.s↔t∈(E.take i).map Tr.En.s\/t∈(E.drop i).map Tr.En.s:=by
  conv=>lhs;rw[<- List.take_append_drop i E]
  rw[List.map_append,List.mem_append]
 rw[h]
 constructor
 ·rintro(h|h|h)
  ·exact .inr (.inl h)
  ·exact .inl h
  ·exact .inr (.inr h)
 ·rintro(h|h|h)
  ·exact .inr (.inl h)
  ·exact .inl h
  ·exact .inr (.inr h)
theorem Joy {E:Tr.St} {a s:Tr.Sl} (ha:a∈Tr.JA E) (hs:¬ s∈Tr.JA E) (t:Tr.Sl):t∈Tr.JA (Tr.addS E a s)↔t=s\/t∈Tr.JA E:=by
 have h1:=(Tr.VF E a).1 ha
 have h2:¬ Tr.Jl E s=true:=fun h=>hs ((Tr.VF E s).2 h)
 unfold Tr.addS
 rw[if_pos ⟨h1,h2⟩]
 exact Jnm _ t
theorem Ji7 {E:Tr.St} {s:Tr.Sl} (hs:¬ s∈Tr.JA E) (t:Tr.Sl):t∈Tr.JA (Tr.rootS E s)↔t=s\/t∈Tr.JA E:=by
 have h2:¬ Tr.Jl E s=true:=fun h=>hs ((Tr.VF E s).2 h)
 unfold Tr.rootS
 rw[if_neg h2]
 unfold Tr.JA
 rw[List.map_append,List.mem_append]
 simp only[List.map_cons,List.map_nil,List.mem_singleton]
 exact or_comm
theorem Im (E:Tr.St) (i:Nat) (h:i<E.length):(Tr.JA E)[i]? = some (Tr.VB E i):=by
 unfold Tr.JA Tr.VB Tr.Xo
 rw[List.getElem?_map,List.getElem?_eq_getElem h,List.getD_eq_getElem?_getD,List.getElem?_eq_getElem h]
 rfl
theorem Jes {E:Tr.St} (g:Tr.Good E) {i j:Nat} {t:Tr.Sl} (hi:(Tr.JA E)[i]? = some t) (hj:(Tr.JA E)[j]? = some t):i=j:=by
 have li:i<E.length:=by
  have:=(Jqb.1 hi).1
  unfold Tr.JA at this
  rwa [Jqs] at this
 have lj:j<E.length:=by
  have:=(Jqb.1 hj).1
  unfold Tr.JA at this
  rwa [Jqs] at this
 rw[Im E i li] at hi
 rw[Im E j lj] at hj
 exact g.one i j li lj ((Jqz hi).trans (Jqz hj).symm)
theorem Ji6 (E:Tr.St) (i k:Nat):Tr.JA (Tr.Z8 E i k)=Tr.JA E:=by
 unfold Tr.JA Tr.Z8
 rw[List.map_append,List.map_append,List.map_map]
 have e1:(Tr.En.s ∘ Tr.Jdl)=Tr.En.s:=rfl
 rw[e1,<- List.map_append,<- List.map_append]
 congr 1
 have e2:E.drop (i+1+k)=(E.drop (i+1)).drop k:=by rw[List.drop_drop]
 rw[e2,List.append_assoc,List.take_append_drop,List.take_append_drop]
theorem Joz {E:Tr.St} (g:Tr.Good E) {s:Tr.Sl} (hs:s∈Tr.JA E) (t:Tr.Sl):t∈Tr.JA (Tr.takeS E s)↔t∈Tr.JA E/\t≠s:=by
 have h1:=(Tr.VF E s).1 hs
 obtain⟨h2,h3⟩:=Tr.MZ h1
 unfold Tr.takeS
 rw[if_pos h1]
 unfold Tr.UB
 have e:Tr.JA ((Tr.Z8 E (Tr.pl E s) (Tr.Jz E (Tr.pl E s)).length).eraseIdx (Tr.pl E s))=(Tr.JA E).eraseIdx (Tr.pl E s):=by
  rw[<- Ji6 E (Tr.pl E s) (Tr.Jz E (Tr.pl E s)).length]
  unfold Tr.JA
  rw[List.eraseIdx_eq_take_drop_succ,List.eraseIdx_eq_take_drop_succ,List.map_append,List.map_take,List.map_drop]
 rw[e,List.mem_eraseIdx_iff_getElem?]
 have hat:(Tr.JA E)[Tr.pl E s]? = some s:=by rw[Im E _ h2,h3]
 constructor
 ·rintro⟨i,hi,hx⟩
  refine⟨Jqi hx,fun e=>hi ?_⟩
  subst e
  exact Jes g hx hat
 ·rintro⟨hm,hne⟩
  obtain⟨i,hi⟩:=List.mem_iff_getElem?.1 hm
  refine⟨i,fun e=>hne ?_,hi⟩
  rw[e,hat] at hi
  exact(Jqz hi).symm
theorem Jtr {E:Tr.St} (g:Tr.Good E) {a b:Tr.Sl} (ha:a∈Tr.JA E) (hb:¬ b∈Tr.JA E) (t:Tr.Sl):t∈Tr.JA (Tr.moveS E a b)↔t=b\/(t∈Tr.JA E/\t≠a):=by
 have h1:=(Tr.VF E a).1 ha
 have h0:¬ Tr.Jl E b=true:=fun h=>hb ((Tr.VF E b).2 h)
 obtain⟨h2,h3⟩:=Tr.MZ h1
 unfold Tr.moveS
 rw[if_pos ⟨h1,h0⟩]
 have e:Tr.JA (E.set (Tr.pl E a) ⟨b,Tr.Zl E (Tr.pl E a)⟩)=(Tr.JA E).set (Tr.pl E a) b:=by
  unfold Tr.JA
  rw[List.map_set]
 have hat:(Tr.JA E)[Tr.pl E a]? = some a:=by rw[Im E _ h2,h3]
 have hl:=(Jqb.1 hat).1
 rw[e]
 constructor
 ·intro hm
  obtain⟨i,hi⟩:=List.mem_iff_getElem?.1 hm
  by_cases hip:Tr.pl E a=i
  ·subst hip
   rw[List.getElem?_set_self hl] at hi
   exact .inl (Jqz hi).symm
  ·rw[List.getElem?_set_ne hip] at hi
   refine .inr ⟨Jqi hi,fun e=>hip ?_⟩
   subst e
   exact Jes g hat hi
 ·rintro(rfl|⟨hm,hne⟩)
  ·exact Jqi (List.getElem?_set_self hl)
  ·obtain⟨i,hi⟩:=List.mem_iff_getElem?.1 hm
   have hip:Tr.pl E a≠i:=fun e=>hne (by
    rw[<- e,hat] at hi
    exact(Jqz hi).symm)
   exact Jqi ((List.getElem?_set_ne hip).trans hi)
structure Ts (S:Sl.St) (E:Tr.St):Prop where
 ok:Sl.Okay S
 n0:(S.getD 0 []).length=64
 oth:∀ s c,Sl.JZ S s=some c->s.n≠0->c=Sl.no
 fine:∀ n c,Sl.JZ S (sl n)=some c->Sl.Fine c
 tg:Tr.Good E
 tm:∀ t:Tr.Sl,t∈Tr.JA E↔t.n=0/\∃ c,Sl.JZ S (sl t.i)=some c/\c.k≠0
theorem GV {S:Sl.St} (h:(S.getD 0 []).length=64) (n:Int):(0<=n/\n<=63->∃ c,Sl.JZ S (sl n)=some c)/\(¬ (0<=n/\n<=63)->Sl.JZ S (sl n)=none):=by
 unfold Sl.JZ sl
 refine⟨fun hn=>?_,fun hn=>?_⟩
 ·rw[if_pos ⟨Int.le_refl 0,hn.1⟩]
  exact⟨_,Jqc (show n.toNat<(S.getD (0:Int).toNat []).length by
   show n.toNat<(S.getD 0 []).length
   omega)⟩
 ·by_cases h0:(0:Int)<=0/\0<=n
  ·rw[if_pos h0]
   exact Jqy (show(S.getD 0 []).length<=n.toNat by omega)
  ·rw[if_neg h0]
theorem Ew {t:Tr.Sl} (h:t.n=0):t=tr t.i:=by
 obtain⟨a,b⟩:=t
 simp only at h
 subst h
 rfl
theorem Jb7 {n m:Int} (h:n≠m):sl n≠sl m:=fun e=>h (congrArg Sl.Sl.i e)
theorem Jee {S:Sl.St} (s:Sl.Sl) (c:Sl.Cp) (h:(S.getD 0 []).length=64):((Sl.Xj S s c).getD 0 []).length=64:=by
 unfold Sl.Xj
 rw[Sl.Xt]
 split
 ·rename_i hh
  rw[List.length_set,<- hh.1]
  exact h
 ·exact h
theorem Ts.over {S:Sl.St} {E E':Tr.St} (h:Ts S E) {n:Int} {d c:Sl.Cp} (hd:Sl.JZ S (sl n)=some d) (hf:c.Fits) (h0:c.k=0->c=Sl.no) (hc:Sl.Fine c) (g:Tr.Good E') (hm:∀ t:Tr.Sl,t∈Tr.JA E'↔t.n=0/\∃ x,(if t.i=n then some c else Sl.JZ S (sl t.i))=some x/\x.k≠0):Ts (Sl.Xj S (sl n) c) E':=by
 have hat:=fun t=>Sl.XL hd c t
 refine⟨h.ok.set hd hf h0,Jee _ _ h.n0,fun s x hx hn=>?_,fun m x hx=>?_,g,fun t=>?_⟩
 ·rw[hat,if_neg (fun e=>hn (by rw[e];rfl))] at hx
  exact h.oth s x hx hn
 ·rw[hat] at hx
  by_cases e:sl m=sl n
  ·rw[if_pos e] at hx
   cases hx
   exact hc
  ·rw[if_neg e] at hx
   exact h.fine m x hx
 ·rw[hm t,hat]
  by_cases e:t.i=n
  ·rw[if_pos e,if_pos (by rw[e])]
  ·rw[if_neg e,if_neg (Jb7 e)]
theorem Ga:Sl.Fine Sl.no:=.inl rfl
theorem Jle:Sl.no.k=0:=rfl
theorem Ts.lay {S:Sl.St} {E:Tr.St} (h:Ts S E) {a n:Int} {ca:Sl.Cp} {d c:Sl.Cp} (ha:Sl.JZ S (sl a)=some ca) (hak:ca.k≠0) (hd:Sl.JZ S (sl n)=some d) (hdk:d.k=0) (hf:c.Fits) (hk:c.k≠0) (hc:Sl.Fine c):Ts (Sl.ZL S (sl n) c) (Tr.addS E (tr a) (tr n)):=by
 have hE:Sl.VX S (sl n) c=0:=by
  unfold Sl.VX
  rw[hd]
  simp only[hc,hk,hdk,if_true,if_false]
 have hS:Sl.ZL S (sl n) c=Sl.Xj S (sl n) c:=by
  unfold Sl.ZL
  rw[hE]
  rfl
 rw[hS]
 have hta:tr a∈Tr.JA E:=(h.tm _).2 ⟨rfl,ca,ha,hak⟩
 have htn:¬ tr n∈Tr.JA E:=fun hm=>by
  obtain⟨_,x,hx,hxk⟩:=(h.tm _).1 hm
  have:Sl.JZ S (sl n)=some x:=hx
  rw[hd] at this
  cases this
  exact hxk hdk
 refine h.over hd hf (fun e=>absurd e hk) hc (h.tg.addS _ _) fun t=>?_
 rw[Joy hta htn,h.tm]
 constructor
 ·rintro(rfl|⟨h1,x,hx,hxk⟩)
  ·exact⟨rfl,c,if_pos rfl,hk⟩
  ·refine⟨h1,x,?_,hxk⟩
   rw[if_neg]
   ·exact hx
   ·intro e
    rw[e,hd] at hx
    cases hx
    exact hxk hdk
 ·rintro⟨h1,x,hx,hxk⟩
  by_cases e:t.i=n
  ·left
   rw[Ew h1,e]
  ·rw[if_neg e] at hx
   exact .inr ⟨h1,x,hx,hxk⟩
theorem Ts.out {S:Sl.St} {E:Tr.St} (h:Ts S E) (n:Int):Ts (Sl.takeS S (sl n)) (Tr.takeS E (tr n)):=by
 by_cases hE:Sl.ZS S (sl n)=0
 ·obtain⟨d,hd,hdk⟩:∃ d,Sl.JZ S (sl n)=some d/\d.k≠0:=by
   unfold Sl.ZS at hE
   split at hE
   ·cases hE
   ·rename_i d hd
    refine⟨d,hd,fun hk=>?_⟩
    rw[if_pos hk] at hE
    cases hE
  have hS:Sl.takeS S (sl n)=Sl.Xj S (sl n) Sl.no:=by
   unfold Sl.takeS
   rw[if_pos hE]
  rw[hS]
  have htn:tr n∈Tr.JA E:=(h.tm _).2 ⟨rfl,d,hd,hdk⟩
  refine h.over hd Sl.MW (fun _=>rfl) Ga (h.tg.takeS _) fun t=>?_
  rw[Joz h.tg htn,h.tm]
  constructor
  ·rintro⟨⟨h1,x,hx,hxk⟩,hne⟩
   refine⟨h1,x,?_,hxk⟩
   rw[if_neg]
   ·exact hx
   ·intro e
    apply hne
    rw[Ew h1,e]
  ·rintro⟨h1,x,hx,hxk⟩
   by_cases e:t.i=n
   ·rw[if_pos e] at hx
    cases hx
    exact absurd Jle hxk
   ·rw[if_neg e] at hx
    refine⟨⟨h1,x,hx,hxk⟩,fun e2=>e ?_⟩
    rw[e2]
    rfl
 ·have hS:Sl.takeS S (sl n)=S:=by
   unfold Sl.takeS
   rw[if_neg hE]
  have hno:¬ tr n∈Tr.JA E:=fun hm=>hE (by
   obtain⟨_,x,hx,hxk⟩:=(h.tm _).1 hm
   have hx2:Sl.JZ S (sl n)=some x:=hx
   unfold Sl.ZS
   rw[hx2]
   exact if_neg hxk)
  have hT:Tr.takeS E (tr n)=E:=by
   unfold Tr.takeS
   rw[if_neg fun hh=>hno ((Tr.VF _ _).2 hh)]
  rw[hS,hT]
  exact h
theorem Ts.move {S:Sl.St} {E:Tr.St} (h:Ts S E) {a n:Int} {c d:Sl.Cp} (ha:Sl.JZ S (sl a)=some c) (hak:c.k≠0) (hd:Sl.JZ S (sl n)=some d) (hdk:d.k=0):Ts (Sl.moveS S (sl a) (sl n)) (Tr.moveS E (tr a) (tr n)):=by
 have hne:a≠n:=fun e=>by
  rw[e,hd] at ha
  cases ha
  exact hak hdk
 have hE:Sl.AZ S (sl a) (sl n)=0:=by
  unfold Sl.AZ
  rw[ha,hd]
  simp only[hak,hdk,if_true,if_false]
 have hg:Sl.Vt S (sl a)=c:=by
  unfold Sl.Vt
  rw[ha]
  rfl
 have hS:Sl.moveS S (sl a) (sl n)=Sl.Xj (Sl.Xj S (sl n) c) (sl a) Sl.no:=by
  unfold Sl.moveS
  rw[if_pos hE,hg]
 rw[hS]
 have hta:tr a∈Tr.JA E:=(h.tm _).2 ⟨rfl,c,ha,hak⟩
 have htn:¬ tr n∈Tr.JA E:=fun hm=>by
  obtain⟨_,x,hx,hxk⟩:=(h.tm _).1 hm
  have:Sl.JZ S (sl n)=some x:=hx
  rw[hd] at this
  cases this
  exact hxk hdk
 have hat1:=fun t=>Sl.XL hd c t
 have ha2:Sl.JZ (Sl.Xj S (sl n) c) (sl a)=some c:=by rw[hat1,if_neg (Jb7 hne)];exact ha
 have hat2:=fun t=>Sl.XL ha2 Sl.no t
 have hfit:=(h.ok.at ha).1
 refine⟨(h.ok.set hd hfit fun e=>absurd e hak).set ha2 Sl.MW fun _=>rfl,Jee _ _ (Jee _ _ h.n0),fun s x hx hn=>?_,fun m x hx=>?_,h.tg.moveS _ _,fun t=>?_⟩
 ·rw[hat2,if_neg (fun e=>hn (by rw[e];rfl)),hat1,if_neg (fun e=>hn (by rw[e];rfl))] at hx
  exact h.oth s x hx hn
 ·rw[hat2] at hx
  by_cases e:sl m=sl a
  ·rw[if_pos e] at hx
   cases hx
   exact Ga
  ·rw[if_neg e,hat1] at hx
   by_cases e2:sl m=sl n
   ·rw[if_pos e2] at hx
    cases hx
    exact h.fine a c ha
   ·rw[if_neg e2] at hx
    exact h.fine m x hx
 ·rw[Jtr h.tg hta htn,h.tm,hat2,hat1]
  constructor
  ·rintro(rfl|⟨⟨h1,x,hx,hxk⟩,hna⟩)
   ·refine⟨rfl,c,?_,hak⟩
    show(if sl n=sl a then some Sl.no else if sl n=sl n then some c else Sl.JZ S (sl n))=some c
    rw[if_neg (Jb7 (Ne.symm hne)),if_pos rfl]
   ·refine⟨h1,x,?_,hxk⟩
    rw[if_neg,if_neg]
    ·exact hx
    ·intro e
     have:t.i=n:=congrArg Sl.Sl.i e
     rw[this,hd] at hx
     cases hx
     exact hxk hdk
    ·intro e
     have:t.i=a:=congrArg Sl.Sl.i e
     apply hna
     rw[Ew h1,this]
  ·rintro⟨h1,x,hx,hxk⟩
   by_cases e:sl t.i=sl a
   ·rw[if_pos e] at hx
    cases hx
    exact absurd Jle hxk
   ·rw[if_neg e] at hx
    by_cases e2:sl t.i=sl n
    ·left
     have:t.i=n:=congrArg Sl.Sl.i e2
     rw[Ew h1,this]
    ·rw[if_neg e2] at hx
     refine .inr ⟨⟨h1,x,hx,hxk⟩,fun e3=>e ?_⟩
     rw[e3]
     rfl
theorem Ts.make {S:Sl.St} {E:Tr.St} (h:Ts S E) (b:Int):Ts (Sl.Zq S b) E:=by
 unfold Sl.Zq
 by_cases hE:Sl.JV S b=0
 ·rw[if_pos hE]
  have hS1:0<S.length:=by
   have:=h.n0
   cases S with
   | nil=>simp at this
   | cons l T=>simp
  have hb:1<=b/\b<=8/\S.length<64:=by
   unfold Sl.JV at hE
   split at hE
   ·rename_i h1
    split at hE
    ·rename_i h2
     exact⟨h1.1,h1.2,h2⟩
    ·cases hE
   ·cases hE
  have hold:∀ s:Sl.Sl,s.n.toNat<S.length->Sl.JZ (S++[List.replicate (2 ^ b.toNat) Sl.no]) s=Sl.JZ S s:=fun s hs=>by
   unfold Sl.JZ
   rw[List.getD_eq_getElem?_getD,List.getElem?_append_left hs,<- List.getD_eq_getElem?_getD]
  have hsl:∀ n:Int,Sl.JZ (S++[List.replicate (2 ^ b.toNat) Sl.no]) (sl n)=Sl.JZ S (sl n):=fun n=>hold (sl n) hS1
  refine⟨⟨by rw[List.length_append];simp;omega,fun l hl=>?_,fun l hl c hc=>?_⟩,?_,fun s c hs hn=>?_,fun n c hc=>?_,h.tg,fun t=>?_⟩
  ·rcases Jrc.1 hl with hl|hl
   ·exact h.ok.row l hl
   ·have:l=List.replicate (2 ^ b.toNat) Sl.no:=by simpa using hl
    subst this
    exact .inr ⟨b.toNat,by omega,by omega,List.length_replicate⟩
  ·rcases Jrc.1 hl with hl|hl
   ·exact h.ok.cap l hl c hc
   ·have:l=List.replicate (2 ^ b.toNat) Sl.no:=by simpa using hl
    subst this
    have:=List.eq_of_mem_replicate hc
    subst this
    exact⟨Sl.MW,fun _=>rfl⟩
  ·rw[List.getD_eq_getElem?_getD,List.getElem?_append_left hS1,<- List.getD_eq_getElem?_getD]
   exact h.n0
  ·by_cases hl:s.n.toNat<S.length
   ·rw[hold s hl] at hs
    exact h.oth s c hs hn
   ·have hm:=Sl.VD hs
    obtain⟨_,_,h3,_,h5,_⟩:=hm
    rw[List.length_append,List.length_singleton] at h3
    have e:s.n.toNat=S.length:=by omega
    rw[e,List.getD_eq_getElem?_getD,List.getElem?_append_right (Nat.le_refl _),Nat.sub_self] at h5
    exact List.eq_of_mem_replicate (Jqi h5)
  ·rw[hsl] at hc
   exact h.fine n c hc
  ·rw[h.tm,hsl]
 ·rw[if_neg hE]
  exact h
end
theorem V6 (h:Th.Hs) (i:Nat) (x:Th.Td):(Th.Xc h i x).L.length=h.L.length/\(Th.Xc h i x).Q.length=h.Q.length:=by
 unfold Th.Xc Th.Ge
 refine⟨Jqr,?_⟩
 simp only
 split
 ·rw[List.length_set,List.length_set]
 ·rw[List.length_set]
theorem Jl9 (h:Th.Hs) (i:Nat) (x:Th.Td):(Th.M0 h i x).L.length=h.L.length/\(Th.M0 h i x).Q.length=h.Q.length:=⟨Jqr,rfl⟩
abbrev SameL (h h':Th.Hs):Prop:=h'.L.length=h.L.length/\h'.Q.length=h.Q.length
theorem SameL.refl (h:Th.Hs):SameL h h:=⟨rfl,rfl⟩
theorem SameL.then {a b c:Th.Hs} (h:SameL a b) (k:SameL b c):SameL a c:=⟨k.1.trans h.1,k.2.trans h.2⟩
theorem Ah (h:Th.Hs) (i k v:Int):SameL h (Th.My h i k v):=by
 unfold Th.My
 split
 ·exact Jl9 _ _ _
 ·exact SameL.refl h
theorem VY (h:Th.Hs) (i:Int):SameL h (Th.JR h i):=by
 unfold Th.JR
 split
 ·exact V6 _ _ _
 ·exact SameL.refl h
theorem OZ (h:Th.Hs) (i:Int):SameL h (Th.JM h i):=by
 unfold Th.JM
 split
 ·exact V6 _ _ _
 ·exact SameL.refl h
theorem Jf6 (h:Th.Hs) (i:Int):SameL h (Th.Xp h i):=by
 unfold Th.Xp
 split
 ·exact V6 _ _ _
 ·exact SameL.refl h
theorem Jlr (h:Th.Hs) (i p:Int):SameL h (Th.VW h i p):=by
 unfold Th.VW
 split
 ·exact V6 _ _ _
 ·exact SameL.refl h
theorem VU (h:Th.Hs) (c:Int):SameL h (Th.JB h c):=by
 unfold Th.JB
 split
 ·split
  ·exact SameL.refl h
  ·split
   ·exact V6 _ _ _
   ·split
    ·exact SameL.then (V6 _ _ _) (V6 _ _ _)
    ·exact SameL.refl h
 ·exact SameL.refl h
theorem Jis (h:Th.Hs) (c:Int):SameL h (Th.XR h c):=by
 unfold Th.XR
 split
 ·exact SameL.refl h
 ·exact SameL.then (V6 _ _ _) (VU _ _)
def Tid (h:Th.Hs) (i:Int):Prop:=0<=i/\i<(h.L.length:Int)
def U6 (x:Int):Prop:=0<=x/\x<=18446744073709551615
structure Ref (K:Kr) (c:Sl.Cp):Prop where
 u:c.k=1->c.o<(K.U.length:Int)
 s:c.k=2->c.o<(K.S.length:Int)
 t:c.k=3->c.o<(K.h.L.length:Int)
 p:c.k=4->c.o<(K.P.length:Int)
 n:c.k=5->c.o<(K.N.length:Int)
 d:c.k=8->c.o<(K.D.length:Int)
 l:c.k=9->c.o<8
structure Le (K K':Kr):Prop where
 u:K.U.length<=K'.U.length
 s:K.S.length<=K'.S.length
 t:K.h.L.length<=K'.h.L.length
 p:K.P.length<=K'.P.length
 n:K.N.length<=K'.N.length
 d:K.D.length<=K'.D.length
theorem Ref.mono {K K':Kr} {c:Sl.Cp} (r:Ref K c) (h:Le K K'):Ref K' c:=
 ⟨fun e=>by have:=r.u e;have:=h.u;omega,fun e=>by have:=r.s e;have:=h.s;omega,fun e=>by have:=r.t e;have:=h.t;omega,fun e=>by have:=r.p e;have:=h.p;omega,fun e=>by have:=r.n e;have:=h.n;omega,fun e=>by have:=r.d e;have:=h.d;omega,r.l⟩
theorem Jea (K:Kr):Ref K Sl.no:=⟨fun e=>(by cases e),fun e=>(by cases e),fun e=>(by cases e),fun e=>(by cases e),fun e=>(by cases e),fun e=>(by cases e),fun e=>(by cases e)⟩
def EpOk (h:Th.Hs) (S:En.St):Prop:=En.Good S/\∀ x∈S,Tid h x.n/\U6 x.m.g/\U6 x.m.a
def NtOk (h:Th.Hs) (S:No.Ns):Prop:=No.Good S/\∀ x∈S.l,Tid h x
def Jiy (N:List No.Ns) (x:Ir.Ln):Prop:=x.s≠none->0<=x.a/\x.a<(N.length:Int)/\U6 x.g
structure Iv (n m:Nat) (K:Kr):Prop where
 ts:Ts K.S K.E
 th:Th.Inv K.h
 co:K.h.Q.length=n
 ll:K.l.length=8
 ln:∀ x∈K.l,Jiy K.N x
 ref:∀ i c,Sl.JZ K.S (sl i)=some c->Ref K c
 ep:∀ S∈K.P,EpOk K.h S
 nt:∀ S∈K.N,NtOk K.h S
 sp:∀ D∈K.D,Ta.Good D
 un:∀ u∈K.U,u.Fits
 cu:K.U.length<=m+1
 cp:K.P.length<=m
 cn:K.N.length<=m
 cd:K.D.length<=m+1
 cf:K.fr<=m
 ct:K.tb<=m
theorem Tid.same {h h':Th.Hs} {i:Int} (t:Tid h i) (e:h.L.length<=h'.L.length):Tid h' i:=⟨t.1,by have:=t.2;omega⟩
theorem EpOk.same {h h':Th.Hs} {S:En.St} (k:EpOk h S) (e:h.L.length<=h'.L.length):EpOk h' S:=⟨k.1,fun x hx=>⟨(k.2 x hx).1.same e,(k.2 x hx).2⟩⟩
theorem NtOk.same {h h':Th.Hs} {S:No.Ns} (k:NtOk h S) (e:h.L.length<=h'.L.length):NtOk h' S:=⟨k.1,fun x hx=>(k.2 x hx).same e⟩
section
variable {n m:Nat} {K:Kr}
theorem Iv.more (v:Iv n m K) {m':Nat} (h:m<=m'):Iv n m' K:=
 { v with cu:=by have:=v.cu;omega,cp:=by have:=v.cp;omega,cn:=by have:=v.cn;omega,cd:=by have:=v.cd;omega,cf:=by have:=v.cf;omega,ct:=by have:=v.ct;omega }
theorem Iv.thr (v:Iv n m K) {h':Th.Hs} (i:Th.Inv h') (e:SameL K.h h'):Iv n m { K with h:=h' }:=
 { v with
  th:=i
  co:=e.2.trans v.co
  ref:=fun j c hc=>(v.ref j c hc).mono ⟨Jqd _,Jqd _,Nat.le_of_eq e.1.symm,Jqd _,Jqd _,Jqd _⟩
  ep:=fun S hS=>(v.ep S hS).same (Nat.le_of_eq e.1.symm)
  nt:=fun S hS=>(v.nt S hS).same (Nat.le_of_eq e.1.symm) }
theorem Mq {α:Type} {L:List α} {i:Nat} {x y:α} (h:y∈L.set i x):y∈L\/y=x:=List.mem_or_eq_of_mem_set h
theorem Iv.setP (v:Iv n m K) (i:Int) {S:En.St} (k:EpOk K.h S):Iv n m (setP K i S):=
 { v with
  ref:=fun j c hc=>(v.ref j c hc).mono ⟨Jqd _,Jqd _,Jqd _,by unfold Go.Proofs.YtbfjjpdnoalojaaGreatDoor.setP;simp,Jqd _,Jqd _⟩
  ep:=fun T hT=>(Mq hT).elim (v.ep T) fun e=>e ▸ k
  cp:=by unfold Go.Proofs.YtbfjjpdnoalojaaGreatDoor.setP;simpa using v.cp }
theorem Iv.setN (v:Iv n m K) (i:Int) {S:No.Ns} (k:NtOk K.h S):Iv n m (setN K i S):=
 { v with
  ln:=fun x hx=>by
   have:=v.ln x hx
   unfold Jiy Go.Proofs.YtbfjjpdnoalojaaGreatDoor.setN at *
   simpa using this
  ref:=fun j c hc=>(v.ref j c hc).mono ⟨Jqd _,Jqd _,Jqd _,Jqd _,by unfold Go.Proofs.YtbfjjpdnoalojaaGreatDoor.setN;simp,Jqd _⟩
  nt:=fun T hT=>(Mq hT).elim (v.nt T) fun e=>e ▸ k
  cn:=by unfold Go.Proofs.YtbfjjpdnoalojaaGreatDoor.setN;simpa using v.cn }
theorem Iv.setD (v:Iv n m K) (i:Int) {D:Ta.Sp} (k:Ta.Good D):Iv n m (setD K i D):=
 { v with
  ref:=fun j c hc=>(v.ref j c hc).mono ⟨Jqd _,Jqd _,Jqd _,Jqd _,Jqd _,by unfold Go.Proofs.YtbfjjpdnoalojaaGreatDoor.setD;simp⟩
  sp:=fun T hT=>(Mq hT).elim (v.sp T) fun e=>e ▸ k
  cd:=by unfold Go.Proofs.YtbfjjpdnoalojaaGreatDoor.setD;simpa using v.cd }
theorem Iv.setU (v:Iv n m K) (i:Int) {u:Un.Un} (k:u.Fits):Iv n m (setU K i u):=
 { v with
  ref:=fun j c hc=>(v.ref j c hc).mono ⟨by unfold Go.Proofs.YtbfjjpdnoalojaaGreatDoor.setU;simp,Jqd _,Jqd _,Jqd _,Jqd _,Jqd _⟩
  un:=fun T hT=>(Mq hT).elim (v.un T) fun e=>e ▸ k
  cu:=by unfold Go.Proofs.YtbfjjpdnoalojaaGreatDoor.setU;simpa using v.cu }
theorem Iv.lines (v:Iv n m K) {l:List Ir.Ln} (h:l.length=8) (k:∀ x∈l,Jiy K.N x):Iv n m { K with l:=l }:={ v with ll:=h,ln:=k,ref:=fun j c hc=>(v.ref j c hc).mono ⟨Jqd _,Jqd _,Jqd _,Jqd _,Jqd _,Jqd _⟩ }
theorem Iv.slots (v:Iv n m K) {S:Sl.St} {E:Tr.St} (t:Ts S E) (hl:K.S.length<=S.length) (r:∀ i c,Sl.JZ S (sl i)=some c->Ref K c):Iv n m { K with S:=S,E:=E }:=
 { v with
  ts:=t
  ref:=fun j c hc=>(r j c hc).mono ⟨Jqd _,hl,Jqd _,Jqd _,Jqd _,Jqd _⟩ }
theorem Iv.freed (v:Iv n m K) (id:Int):Iv n m (freed K id):=
 { v with
  ln:=fun x hx=>by
   have:=v.ln x hx
   unfold Jiy Go.Proofs.YtbfjjpdnoalojaaGreatDoor.freed at *
   simpa using this
  ref:=fun j c hc=>(v.ref j c hc).mono ⟨Jqd _,Jqd _,Jqd _,by unfold Go.Proofs.YtbfjjpdnoalojaaGreatDoor.freed;simp,by unfold Go.Proofs.YtbfjjpdnoalojaaGreatDoor.freed;simp,Jqd _⟩
  ep:=fun T hT=>by
   obtain⟨S,hS,rfl⟩:=List.mem_map.1 hT
   obtain⟨k1,k2⟩:=v.ep S hS
   exact⟨En.Jav k1 _,fun x hx=>k2 x (List.mem_filter.1 hx).1⟩
  nt:=fun T hT=>by
   obtain⟨S,hS,rfl⟩:=List.mem_map.1 hT
   obtain⟨k1,k2⟩:=v.nt S hS
   exact⟨No.Jas k1 _,fun x hx=>k2 x (List.mem_filter.1 hx).1⟩
  cp:=by unfold Go.Proofs.YtbfjjpdnoalojaaGreatDoor.freed;simpa using v.cp
  cn:=by unfold Go.Proofs.YtbfjjpdnoalojaaGreatDoor.freed;simpa using v.cn }
theorem Iv.spaces (v:Iv n m K) (f:Ta.Sp->Ta.Sp) (k:∀ D,Ta.Good D->Ta.Good (f D)):Iv n m { K with D:=K.D.map f }:=
 { v with
  ref:=fun j c hc=>(v.ref j c hc).mono ⟨Jqd _,Jqd _,Jqd _,Jqd _,Jqd _,by simp⟩
  sp:=fun T hT=>by
   obtain⟨D,hD,rfl⟩:=List.mem_map.1 hT
   exact k D (v.sp D hD)
  cd:=by simpa using v.cd }
theorem Fj:∀ (L:List Int) {D:Ta.Sp},Ta.Good D->Ta.Good (X7 D L)
 | [],_,g=>g
 | x::L,D,g=>by
  show Ta.Good (X7 (Ta.Ue D x) L)
  exact Fj L (Ta.AO g x)
theorem Jau (o:Int) {D:Ta.Sp} (g:Ta.Good D):Ta.Good (U5 o D).1:=by
 have key:∀ (l:List Nat) (x:Ta.Sp×List Ta.La),Ta.Good x.1->Ta.Good (l.foldl (MM o) x).1:=fun l=>by
  induction l with
  | nil=>intro x hx;exact hx
  | cons j l ih =>
   intro x hx
   refine ih _ ?_
   unfold MM
   split
   ·exact Ta.Jat hx _
   ·exact hx
 exact key _ _ g
end
section
variable [dCp:DecidableEq Sl.Cp] [dLim:∀ k,Decidable (Sl.ZV k)] [dBad:∀ k,Decidable (Sl.Xn k)] [dFit:∀ g z,Decidable (Sl.Fit g z)] [dF:∀ c:Sl.Cp,Decidable (Sl.Fine c)] [dMi:∀ c v,Decidable (Sl.JK c v)] [dWho:∀ x y,Decidable (Sl.Zx x y)] [dSl:DecidableEq Sl.Sl] [dLt:∀ a b,Decidable (Sl.MC a b)]
variable [dT:DecidableEq Tr.Sl] [dL:∀ k:Int,Decidable (Ca.ZV k)] [dC:∀ c:Ca.Cp,Decidable (Ca.Fine c)] [dM:∀ (c:Ca.Cp) (v:Int),Decidable (Ca.JK c v)] [dCc:DecidableEq Ca.Cp] [dCb:∀ k,Decidable (Ca.Xn k)] [dCf:∀ g z,Decidable (Ca.Fit g z)] [dCw:∀ x y,Decidable (Ca.Zx x y)]
variable {n m:Nat} {K:Kr}
theorem MI (v:Iv n m K) {a:Int} (h:(Jk K a).k≠0):Sl.JZ K.S (sl a)=some (Jk K a):=by
 unfold Jk at h ⊢
 by_cases ha:0<=a/\a<=63
 ·rw[if_pos ha] at h ⊢
  obtain⟨c,hc⟩:=(GV v.ts.n0 a).1 ha
  unfold Sl.Vt at h ⊢
  rw[hc]
  rfl
 ·rw[if_neg ha] at h
  exact absurd Jle h
theorem Av (v:Iv n m K) {a:Int} (ha:0<=a/\a<=63) (h:(Jk K a).k=0):∃ d,Sl.JZ K.S (sl a)=some d/\d.k=0:=by
 obtain⟨c,hc⟩:=(GV v.ts.n0 a).1 ha
 unfold Jk at h
 rw[if_pos ha] at h
 unfold Sl.Vt at h
 rw[hc] at h
 exact⟨c,hc,h⟩
theorem Au (v:Iv n m K) {a:Int} (h:(Jk K a).k≠0):Sl.Fine (Jk K a):=v.ts.fine a _ (MI v h)
theorem Mj (v:Iv n m K) {a:Int} (h:(Jk K a).k≠0):(Jk K a).Fits:=(v.ts.ok.at (MI v h)).1
theorem MJ (v:Iv n m K) {a:Int} (h:(Jk K a).k≠0):Ref K (Jk K a):=v.ref a _ (MI v h)
theorem Jex (v:Iv n m K) {a:Int} (h:(Jk K a).k≠0):0<=(Jk K a).o:=by
 rcases Au v h with e|⟨_,h2,_⟩
 ·rw[e] at h
  exact absurd Jle h
 ·exact h2.1
theorem AK (v:Iv n m K) {w:Int} (h:J4 K w 1=0):(0<=w/\w<=63)/\∃ d,Sl.JZ K.S (sl w)=some d/\d.k=0:=by
 unfold J4 at h
 split at h
 ·rename_i h1
  split at h
  ·rename_i h2
   refine⟨⟨h1.1,h1.2.1⟩,Av v ⟨h1.1,h1.2.1⟩ ?_⟩
   have:=List.all_eq_true.1 h2 0 (by decide)
   simpa using this
  ·cases h
 ·cases h
theorem Jmu (S:Sl.St) (s:Sl.Sl):(Sl.takeS S s).length=S.length:=by
 unfold Sl.takeS
 split
 ·exact Sl.Uy _ _ _
 ·rfl
theorem Jtx (j i:Int) {c:Sl.Cp} (h:Sl.JZ (Sl.takeS K.S (sl j)) (sl i)=some c):c=Sl.no\/Sl.JZ K.S (sl i)=some c:=by
 unfold Sl.takeS at h
 split at h
 ·rename_i hE
  cases hd:Sl.JZ K.S (sl j) with
  | none =>
   unfold Sl.ZS at hE
   rw[hd] at hE
   cases hE
  | some d =>
   rw[Sl.XL hd] at h
   split at h
   ·cases h
    exact .inl rfl
   ·exact .inr h
 ·exact .inr h
theorem Iv.outK (v:Iv n m K) (j:Int):Iv n m (outK K j):=
 v.slots (v.ts.out j) (Nat.le_of_eq (Jmu _ _).symm) fun i c hc=>(Jtx j i hc).elim (fun e=>e ▸ Jea K) fun h=>v.ref i c h
theorem Iv.dead (v:Iv n m K) (c:Sl.Cp):Iv n m (UT K c):=by
 unfold UT
 split
 ·exact(v.freed c.o).thr (Th.Uq v.th c.o) (OZ _ _)
 ·split
  ·exact v.spaces _ fun D g=>Fj _ g
  ·split
   ·exact v.spaces _ fun D g=>Jau _ g
   ·exact v
theorem Iv.gone (v:Iv n m K) (j:Int):Iv n m (ZE K j):=by
 unfold ZE
 split
 ·exact(v.outK j).dead _
 ·exact v.outK j
theorem Iv.goneAll:∀ (L:List Int) {K:Kr},Iv n m K->Iv n m (goneAll K L).1
 | [],_,v=>v
 | j::L,K,v=>by
  show Iv n m (Go.Proofs.YtbfjjpdnoalojaaGreatDoor.goneAll (ZE K j) L).1
  exact Iv.goneAll L (v.gone j)
theorem Jku {S:Sl.St} {w:Int} {d c:Sl.Cp} (hd:Sl.JZ S (sl w)=some d) (i:Int) {x:Sl.Cp} (h:Sl.JZ (Sl.ZL S (sl w) c) (sl i)=some x):x=c\/Sl.JZ S (sl i)=some x:=by
 unfold Sl.ZL at h
 split at h
 ·rw[Sl.XL hd] at h
  split at h
  ·cases h
   exact .inl rfl
  ·exact .inr h
 ·exact .inr h
theorem UO (S:Sl.St) (s:Sl.Sl) (c:Sl.Cp):(Sl.ZL S s c).length=S.length:=by
 unfold Sl.ZL
 split
 ·exact Sl.Uy _ _ _
 ·rfl
theorem Iv.lay (v:Iv n m K) {a w:Int} {ca d c:Sl.Cp} (ha:Sl.JZ K.S (sl a)=some ca) (hak:ca.k≠0) (hd:Sl.JZ K.S (sl w)=some d) (hdk:d.k=0) (hf:c.Fits) (hk:c.k≠0) (hc:Sl.Fine c) (r:Ref K c):Iv n m (Id K a w c):=
 v.slots (v.ts.lay ha hak hd hdk hf hk hc) (Nat.le_of_eq (UO _ _ _).symm) fun i x hx=>(Jku hd i hx).elim (fun e=>e ▸ r) fun h=>v.ref i x h
theorem Jn0 {c:Ca.Cp} (h:Ca.Fine c):Sl.Fine (EP c):=by
 rcases h with e|h
 ·subst e
  exact .inl rfl
 ·exact .inr h
theorem Ez (x:Int):U6 (VI x):=by
 unfold U6 VI
 omega
theorem Iv.mint (v:Iv n m K) (c:Cl) (h:(Jk K c.a).k≠0):Iv n m (Fy K c (Jk K c.a)):=by
 unfold Fy
 by_cases hE:Zb K c (Jk K c.a)=0
 ·rw[if_pos hE]
  unfold Zb at hE
  split at hE
  ·rename_i h1
   exact absurd hE h1
  ·rename_i h1
   have h1':J4 K c.w 1=0:=Decidable.not_not.1 h1
   obtain⟨_,d,hd,hdk⟩:=AK v h1'
   have hm:=hE
   unfold Ca.Zb at hE
   split at hE
   ·rename_i hf
    split at hE
    ·rename_i hn
     split at hE
     ·cases hE
     ·rename_i hr
      have hR:Ca.Vx (Xf (Jk K c.a)) c.A (VI c.B)=Ca.Ut (Xf (Jk K c.a)) c.A (VI c.B):=by
       unfold Ca.Vx
       rw[if_pos hm]
      rw[hR]
      have hv:VI c.B=0\/Ca.Xn (Xf (Jk K c.a)).k:=by
       by_cases h0:VI c.B=0
       ·exact .inl h0
       ·right
        by_cases hb:Ca.Xn (Xf (Jk K c.a)).k
        ·exact hb
        ·exact absurd (.inr ⟨h0,fun h=>hb h.1⟩) hr
      have hfi:=Ca.Jg8 hf h hn hv
      have hcf:=Mj v h
      have hu:=Ez c.B
      have hk:(EP (Ca.Ut (Xf (Jk K c.a)) c.A (VI c.B))).k=(Jk K c.a).k:=rfl
      have ho:(EP (Ca.Ut (Xf (Jk K c.a)) c.A (VI c.B))).o=(Jk K c.a).o:=rfl
      have hr0:=MJ v h
      refine v.lay (MI v h) h hd hdk ?_ (by rw[hk];exact h) (Jn0 hfi) ⟨fun e=>by rw[ho];exact hr0.u (hk ▸ e),fun e=>by rw[ho];exact hr0.s (hk ▸ e),fun e=>by rw[ho];exact hr0.t (hk ▸ e),fun e=>by rw[ho];exact hr0.p (hk ▸ e),fun e=>by rw[ho];exact hr0.n (hk ▸ e),fun e=>by rw[ho];exact hr0.d (hk ▸ e),fun e=>by rw[ho];exact hr0.l (hk ▸ e)⟩
      refine⟨hcf.k,hcf.o,?_,?_,hcf.g,hcf.z⟩
      ·rcases hfi with e|⟨_,_,h3,_⟩
       ·rw[e]
        decide
       ·have h4:(EP (Ca.Ut (Xf (Jk K c.a)) c.A (VI c.B))).r=(Ca.Ut (Xf (Jk K c.a)) c.A (VI c.B)).r:=rfl
        rw[h4]
        omega
      ·show 0<=(if VI c.B=0 then (Jk K c.a).b else VI c.B)/\(if VI c.B=0 then (Jk K c.a).b else VI c.B)<=18446744073709551615
       split
       ·exact hcf.b
       ·exact hu
    ·cases hE
   ·cases hE
 ·rw[if_neg hE]
  exact v
theorem Iv.moved (v:Iv n m K) (c:Cl) (h:(Jk K c.a).k≠0):Iv n m (Jfj K c):=by
 unfold Jfj
 split
 ·rename_i hE
  obtain⟨_,d,hd,hdk⟩:=AK v hE
  have t:=v.ts.move (MI v h) h hd hdk
  refine v.slots t ?_ fun i x hx=>?_
  ·unfold Sl.moveS
   split
   ·rw[Sl.Uy,Sl.Uy]
    exact Jqd _
   ·exact Jqd _
  ·unfold Sl.moveS at hx
   split at hx
   ·have hg:Sl.Vt K.S (sl c.a)=Jk K c.a:=by
     unfold Sl.Vt
     rw[MI v h]
     rfl
    rw[hg] at hx
    have ha2:∃ y,Sl.JZ (Sl.Xj K.S (sl c.w) (Jk K c.a)) (sl c.a)=some y:=by
     rw[Sl.XL hd]
     split
     ·exact⟨_,rfl⟩
     ·exact⟨_,MI v h⟩
    obtain⟨y,hy⟩:=ha2
    rw[Sl.XL hy] at hx
    split at hx
    ·cases hx
     exact Jea K
    ·rw[Sl.XL hd] at hx
     split at hx
     ·cases hx
      exact MJ v h
     ·exact v.ref i x hx
   ·exact v.ref i x hx
 ·exact v
end
section
variable [dCp:DecidableEq Sl.Cp] [dLim:∀ k,Decidable (Sl.ZV k)] [dBad:∀ k,Decidable (Sl.Xn k)] [dFit:∀ g z,Decidable (Sl.Fit g z)] [dF:∀ c:Sl.Cp,Decidable (Sl.Fine c)] [dMi:∀ c v,Decidable (Sl.JK c v)] [dWho:∀ x y,Decidable (Sl.Zx x y)] [dSl:DecidableEq Sl.Sl] [dLt:∀ a b,Decidable (Sl.MC a b)]
variable [dT:DecidableEq Tr.Sl]
variable {n m:Nat} {K:Kr}
theorem Jbv {u:Un.Un} {k b c:Int} (h:Un.Found u k b c) {x:Int} (hx:x∈Un.GF u k b c):0<=x/\x<=1099512676352:=by
 have ok:=h.ok
 unfold Un.GF at hx
 rw[if_pos ((Un.XV u k b c).2 h)] at hx
 unfold Un.Ig at hx
 obtain⟨i,hi,rfl⟩:=List.mem_map.1 hx
 rw[List.mem_range] at hi
 have hr:=h.room
 unfold Un.M9 at hr
 have h1:0<=Un.Xb u (Un.ZB k b):=by
  unfold Un.Xb Un.upI
  omega
 have hz:0<=Un.ZB k b/\Un.ZB k b<=20:=by
  have:=h.sz
  unfold Un.ZB
  rw[if_neg (by rw[this];decide)]
  unfold Un.Vo at this
  repeat' split at this
  all_goals
   repeat' split
   all_goals omega
 have h2:=Un.IZ _ hz.1 hz.2
 have h3:=Un.IZ u.bits ok.1.1 ok.1.2
 have h4:(i:Int)*Un.JT (Un.ZB k b)<=c*Un.JT (Un.ZB k b):=Int.mul_le_mul_of_nonneg_right (by omega) (by omega)
 have h5:0<=(i:Int)*Un.JT (Un.ZB k b):=Int.mul_nonneg (by omega) (by omega)
 have h6:=ok.2.2.1
 omega
theorem Jbf (hS:0<K.S.length) (B i:Int):Sl.JZ (Sl.Zq K.S B) (sl i)=Sl.JZ K.S (sl i):=by
 unfold Sl.Zq
 split
 ·unfold Sl.JZ
  show(if 0<=(sl i).n/\0<=(sl i).i then ((K.S++[List.replicate (2 ^ B.toNat) Sl.no]).getD (sl i).n.toNat [])[(sl i).i.toNat]? else none)=_
  have:(K.S++[List.replicate (2 ^ B.toNat) Sl.no]).getD (sl i).n.toNat []=K.S.getD (sl i).n.toNat []:=by
   rw[List.getD_eq_getElem?_getD,List.getElem?_append_left (by show(0:Int).toNat<_;exact hS),<- List.getD_eq_getElem?_getD]
  rw[this]
 ·rfl
theorem Jm4 {S:Sl.St} {E:Tr.St} (t:Ts S E):0<S.length:=by
 have:=t.n0
 cases S with
 | nil=>simp at this
 | cons l T=>simp
theorem Jos (v:Iv n m K) (A B core x i:Int):Sl.JZ (Zh K A B core x).S (sl i)=Sl.JZ K.S (sl i):=by
 unfold Zh
 split
 ·rfl
 ·split
  ·exact Jbf (Jm4 v.ts) B i
  ·repeat' split
   all_goals rfl
theorem Iv.made (v:Iv n m K) {A B core x:Int} (hA:1<=A/\A<=8) (hm:m<=1000000) (hB : -9223372036854775808<=B/\B<=9223372036854775807) (hx:U6 x) (h2:A=2->Sl.JV K.S B=0) (h3:A=3->Th.JV K.h 0 core=0) :
  Iv n (m+1) (Zh K A B core x)/\Ref (Zh K A B core x) ⟨A,madeN K A B core,7,0,0,0⟩/\0<=madeN K A B core/\madeN K A B core<=1000001/\Le K (Zh K A B core x):=by
 have w:=v.more (show m<=m+1 by omega)
 have c1:=v.cu
 have c2:=v.cp
 have c3:=v.cn
 have c4:=v.cd
 have c5:=v.cf
 have c6:=v.ct
 have hAA:A=1\/A=2\/A=3\/A=4\/A=5\/A=6\/A=7\/A=8:=by omega
 have hAA2:=hAA
 unfold Zh madeN
 rcases hAA with rfl|rfl|rfl|rfl|rfl|rfl|rfl|rfl
 ·simp only[if_true]
  refine⟨{ w with ref:=fun j c hc=>(v.ref j c hc).mono ⟨by simp,Jqd _,Jqd _,Jqd _,Jqd _,Jqd _⟩,un:=fun u hu=>?_,cu:=by simp;omega },⟨fun _=>by simp;omega,fun e=>(by cases e),fun e=>(by cases e),fun e=>(by cases e),fun e=>(by cases e),fun e=>(by cases e),fun e=>(by cases e)⟩,by omega,by omega,⟨by simp,Jqd _,Jqd _,Jqd _,Jqd _,Jqd _⟩⟩
  rcases Jrc.1 hu with hu|hu
  ·exact v.un u hu
  ·have:u=⟨x,B,0⟩:=by simpa using hu
   subst this
   exact⟨hx,hB,⟨Int.le_refl 0,by show(0:Int)<=18446744073709551615;decide⟩⟩
 ·have e0:=h2 rfl
  simp only[if_true,if_false,show ¬ ((2:Int)=1) by decide]
  have hN:Sl.JW K.S B=K.S.length:=by
   unfold Sl.JW
   rw[if_pos e0]
  have hS:(Sl.Zq K.S B).length=K.S.length+1:=by
   unfold Sl.Zq
   rw[if_pos e0]
   simp
  have hl:=v.ts.ok.len
  refine⟨{ w with ts:=v.ts.make B,ref:=fun j c hc=>(v.ref j c (by rw[<- Jbf (Jm4 v.ts) B j];exact hc)).mono ⟨Jqd _,by simp only;omega,Jqd _,Jqd _,Jqd _,Jqd _⟩ },⟨fun e=>(by cases e),fun _=>by simp only;omega,fun e=>(by cases e),fun e=>(by cases e),fun e=>(by cases e),fun e=>(by cases e),fun e=>(by cases e)⟩,by omega,by omega,⟨Jqd _,by simp only;omega,Jqd _,Jqd _,Jqd _,Jqd _⟩⟩
 ·have e0:=h3 rfl
  simp only[if_true,if_false,show ¬ ((3:Int)=1) by decide,show ¬ ((3:Int)=2) by decide]
  have hN:Th.JW K.h 0 core=K.h.L.length:=by
   unfold Th.JW
   rw[if_pos e0]
  have hL:(Th.JS K.h 0 core).L.length=K.h.L.length+1/\(Th.JS K.h 0 core).Q.length=K.h.Q.length:=by
   unfold Th.JS
   rw[if_pos e0]
   simp
  have hl:=v.th.few
  have hle:K.h.L.length<=(Th.JS K.h 0 core).L.length:=by omega
  refine⟨{ w with th:=Th.AT v.th 0 core,co:=hL.2.trans v.co,ref:=fun j c hc=>(v.ref j c hc).mono ⟨Jqd _,Jqd _,hle,Jqd _,Jqd _,Jqd _⟩,ep:=fun S hS=>(v.ep S hS).same hle,nt:=fun S hS=>(v.nt S hS).same hle },⟨fun e=>(by cases e),fun e=>(by cases e),fun _=>by simp only;omega,fun e=>(by cases e),fun e=>(by cases e),fun e=>(by cases e),fun e=>(by cases e)⟩,by omega,by omega,⟨Jqd _,Jqd _,hle,Jqd _,Jqd _,Jqd _⟩⟩
 ·simp only[if_true,if_false,show ¬ ((4:Int)=1) by decide,show ¬ ((4:Int)=2) by decide,show ¬ ((4:Int)=3) by decide]
  refine⟨{ w with ref:=fun j c hc=>(v.ref j c hc).mono ⟨Jqd _,Jqd _,Jqd _,by simp,Jqd _,Jqd _⟩,ep:=fun S hS=>?_,cp:=by simp;omega },⟨fun e=>(by cases e),fun e=>(by cases e),fun e=>(by cases e),fun _=>by simp;omega,fun e=>(by cases e),fun e=>(by cases e),fun e=>(by cases e)⟩,by omega,by omega,⟨Jqd _,Jqd _,Jqd _,by simp,Jqd _,Jqd _⟩⟩
  rcases Jrc.1 hS with hS|hS
  ·exact v.ep S hS
  ·have:S=[]:=by simpa using hS
   subst this
   exact⟨En.Vg,fun x hx=>by simp at hx⟩
 ·simp only[if_true,if_false,show ¬ ((5:Int)=1) by decide,show ¬ ((5:Int)=2) by decide,show ¬ ((5:Int)=3) by decide,show ¬ ((5:Int)=4) by decide]
  refine⟨{ w with ln:=fun y hy he=>?_,ref:=fun j c hc=>(v.ref j c hc).mono ⟨Jqd _,Jqd _,Jqd _,Jqd _,by simp,Jqd _⟩,nt:=fun S hS=>?_,cn:=by simp;omega },⟨fun e=>(by cases e),fun e=>(by cases e),fun e=>(by cases e),fun e=>(by cases e),fun _=>by simp;omega,fun e=>(by cases e),fun e=>(by cases e)⟩,by omega,by omega,⟨Jqd _,Jqd _,Jqd _,Jqd _,by simp,Jqd _⟩⟩
  ·have:=v.ln y hy he
   refine⟨this.1,?_,this.2.2⟩
   have:=this.2.1
   simp
   omega
  ·rcases Jrc.1 hS with hS|hS
   ·exact v.nt S hS
   ·have:S=No.ns0:=by simpa using hS
    subst this
    exact⟨No.Jdd,fun x hx=>by simp[No.ns0] at hx⟩
 ·simp only[if_true,if_false,show ¬ ((6:Int)=1) by decide,show ¬ ((6:Int)=2) by decide,show ¬ ((6:Int)=3) by decide,show ¬ ((6:Int)=4) by decide,show ¬ ((6:Int)=5) by decide,show ¬ ((6:Int)=8) by decide]
  exact⟨{ w with ref:=fun j c hc=>(v.ref j c hc).mono ⟨Jqd _,Jqd _,Jqd _,Jqd _,Jqd _,Jqd _⟩,cf:=by simp only;omega },⟨fun e=>(by cases e),fun e=>(by cases e),fun e=>(by cases e),fun e=>(by cases e),fun e=>(by cases e),fun e=>(by cases e),fun e=>(by cases e)⟩,by omega,by omega,⟨Jqd _,Jqd _,Jqd _,Jqd _,Jqd _,Jqd _⟩⟩
 ·simp only[if_false,show ¬ ((7:Int)=1) by decide,show ¬ ((7:Int)=2) by decide,show ¬ ((7:Int)=3) by decide,show ¬ ((7:Int)=4) by decide,show ¬ ((7:Int)=5) by decide,show ¬ ((7:Int)=8) by decide,show ¬ ((7:Int)=6) by decide]
  exact⟨{ w with ref:=fun j c hc=>(v.ref j c hc).mono ⟨Jqd _,Jqd _,Jqd _,Jqd _,Jqd _,Jqd _⟩,ct:=by simp only;omega },⟨fun e=>(by cases e),fun e=>(by cases e),fun e=>(by cases e),fun e=>(by cases e),fun e=>(by cases e),fun e=>(by cases e),fun e=>(by cases e)⟩,by omega,by omega,⟨Jqd _,Jqd _,Jqd _,Jqd _,Jqd _,Jqd _⟩⟩
 ·simp only[if_true,if_false,show ¬ ((8:Int)=1) by decide,show ¬ ((8:Int)=2) by decide,show ¬ ((8:Int)=3) by decide,show ¬ ((8:Int)=4) by decide,show ¬ ((8:Int)=5) by decide]
  refine⟨{ w with ref:=fun j c hc=>(v.ref j c hc).mono ⟨Jqd _,Jqd _,Jqd _,Jqd _,Jqd _,by simp⟩,sp:=fun D hD=>?_,cd:=by simp;omega },⟨fun e=>(by cases e),fun e=>(by cases e),fun e=>(by cases e),fun e=>(by cases e),fun e=>(by cases e),fun _=>by simp;omega,fun e=>(by cases e)⟩,by omega,by omega,⟨Jqd _,Jqd _,Jqd _,Jqd _,Jqd _,by simp⟩⟩
  rcases Jrc.1 hD with hD|hD
  ·exact v.sp D hD
  ·have:D=Ta.FN:=by simpa using hD
   subst this
   exact Ta.Je5
end
end
end Go.Proofs.YtbfjjpdnoalojaaGreatDoor
