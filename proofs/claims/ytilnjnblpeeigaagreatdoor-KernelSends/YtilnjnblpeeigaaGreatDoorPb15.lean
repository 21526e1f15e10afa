/-
  What stands below: KrTree KrInv KrStep KrMake; no condition but what each says.
-/
import Derived.Test.YtilnjnblpeeigaaGreatDoorPb4
namespace Go.Proofs.YtilnjnblpeeigaaGreatDoor
set_option linter.unusedSectionVars false
section
variable [dCp:DecidableEq Sl.Cp] [dLim:∀ k,Decidable (Sl.Lim k)] [dBad:∀ k,Decidable (Sl.Bad k)] [dFit:∀ g z,Decidable (Sl.Fit g z)] [dF:∀ c:Sl.Cp,Decidable (Sl.Fine c)] [dMi:∀ c v,Decidable (Sl.MintR c v)] [dWho:∀ x y,Decidable (Sl.Whose x y)] [dSl:DecidableEq Sl.Sl] [dLt:∀ a b,Decidable (Sl.ltS a b)]
variable [dT:DecidableEq Tr.Sl]
theorem all_put {E:Tr.St} {i:Nat} (e:Tr.En) (t:Tr.Sl):t∈Tr.allS (Tr.putN E i e)↔t=e.s\/t∈Tr.allS E:=by
 unfold Tr.allS Tr.putN
 rw [List.map_append,List.map_cons,List.mem_append,List.mem_cons]
 have h:t∈E.map Tr.En.s↔t∈(E.take i).map Tr.En.s\/t∈(E.drop i).map Tr.En.s:=by
  conv=>lhs;rw [<- List.take_append_drop i E]
  rw [List.map_append,List.mem_append]
 rw [h]
 constructor
 ·rintro (h | h | h)
  ·exact .inr (.inl h)
  ·exact .inl h
  ·exact .inr (.inr h)
 ·rintro (h | h | h)
  ·exact .inr (.inl h)
  ·exact .inl h
  ·exact .inr (.inr h)
theorem mem_add {E:Tr.St} {a s:Tr.Sl} (ha:a∈Tr.allS E) (hs:¬ s∈Tr.allS E) (t:Tr.Sl):t∈Tr.allS (Tr.addS E a s)↔t=s\/t∈Tr.allS E:=by
 have h1:=(Tr.mem_all E a).1 ha
 have h2:¬ Tr.hasB E s=true:=fun h=>hs ((Tr.mem_all E s).2 h)
 unfold Tr.addS
 rw [if_pos ⟨h1,h2⟩]
 exact all_put _ t
theorem all_root {E:Tr.St} {s:Tr.Sl} (hs:¬ s∈Tr.allS E) (t:Tr.Sl):t∈Tr.allS (Tr.rootS E s)↔t=s\/t∈Tr.allS E:=by
 have h2:¬ Tr.hasB E s=true:=fun h=>hs ((Tr.mem_all E s).2 h)
 unfold Tr.rootS
 rw [if_neg h2]
 unfold Tr.allS
 rw [List.map_append,List.mem_append]
 simp only [List.map_cons,List.map_nil,List.mem_singleton]
 exact or_comm
theorem all_get (E:Tr.St) (i:Nat) (h:i<E.length):(Tr.allS E)[i]? = some (Tr.slt E i):=by
 unfold Tr.allS Tr.slt Tr.atE
 rw [List.getElem?_map,List.getElem?_eq_getElem h,List.getD_eq_getElem?_getD,List.getElem?_eq_getElem h]
 rfl
theorem all_one {E:Tr.St} (g:Tr.Good E) {i j:Nat} {t:Tr.Sl} (hi:(Tr.allS E)[i]? = some t) (hj:(Tr.allS E)[j]? = some t):i=j:=by
 have li:i<E.length:=by
  have:=(List.getElem?_eq_some_iff.1 hi).1
  unfold Tr.allS at this
  rwa [List.length_map] at this
 have lj:j<E.length:=by
  have:=(List.getElem?_eq_some_iff.1 hj).1
  unfold Tr.allS at this
  rwa [List.length_map] at this
 rw [all_get E i li] at hi
 rw [all_get E j lj] at hj
 exact g.one i j li lj ((Option.some.inj hi).trans (Option.some.inj hj).symm)
theorem all_less (E:Tr.St) (i k:Nat):Tr.allS (Tr.lessN E i k)=Tr.allS E:=by
 unfold Tr.allS Tr.lessN
 rw [List.map_append,List.map_append,List.map_map]
 have e1:(Tr.En.s ∘ Tr.less)=Tr.En.s:=rfl
 rw [e1,<- List.map_append,<- List.map_append]
 congr 1
 have e2:E.drop (i+1+k)=(E.drop (i+1)).drop k:=by rw [List.drop_drop]
 rw [e2,List.append_assoc,List.take_append_drop,List.take_append_drop]
theorem mem_out {E:Tr.St} (g:Tr.Good E) {s:Tr.Sl} (hs:s∈Tr.allS E) (t:Tr.Sl):t∈Tr.allS (Tr.takeS E s)↔t∈Tr.allS E/\t≠s:=by
 have h1:=(Tr.mem_all E s).1 hs
 obtain ⟨h2,h3⟩:=Tr.pl_slt h1
 unfold Tr.takeS
 rw [if_pos h1]
 unfold Tr.takeN
 have e:Tr.allS ((Tr.lessN E (Tr.pl E s) (Tr.underN E (Tr.pl E s)).length).eraseIdx (Tr.pl E s))=(Tr.allS E).eraseIdx (Tr.pl E s):=by
  rw [<- all_less E (Tr.pl E s) (Tr.underN E (Tr.pl E s)).length]
  unfold Tr.allS
  rw [List.eraseIdx_eq_take_drop_succ,List.eraseIdx_eq_take_drop_succ,List.map_append,List.map_take,List.map_drop]
 rw [e,List.mem_eraseIdx_iff_getElem?]
 have hat:(Tr.allS E)[Tr.pl E s]? = some s:=by rw [all_get E _ h2,h3]
 constructor
 ·rintro ⟨i,hi,hx⟩
  refine ⟨List.mem_of_getElem? hx,fun e=>hi ?_⟩
  subst e
  exact all_one g hx hat
 ·rintro ⟨hm,hne⟩
  obtain ⟨i,hi⟩:=List.mem_iff_getElem?.1 hm
  refine ⟨i,fun e=>hne ?_,hi⟩
  rw [e,hat] at hi
  exact (Option.some.inj hi).symm
theorem mem_mv {E:Tr.St} (g:Tr.Good E) {a b:Tr.Sl} (ha:a∈Tr.allS E) (hb:¬ b∈Tr.allS E) (t:Tr.Sl):t∈Tr.allS (Tr.moveS E a b)↔t=b\/(t∈Tr.allS E/\t≠a):=by
 have h1:=(Tr.mem_all E a).1 ha
 have h0:¬ Tr.hasB E b=true:=fun h=>hb ((Tr.mem_all E b).2 h)
 obtain ⟨h2,h3⟩:=Tr.pl_slt h1
 unfold Tr.moveS
 rw [if_pos ⟨h1,h0⟩]
 have e:Tr.allS (E.set (Tr.pl E a) ⟨b,Tr.dep E (Tr.pl E a)⟩)=(Tr.allS E).set (Tr.pl E a) b:=by
  unfold Tr.allS
  rw [List.map_set]
 have hat:(Tr.allS E)[Tr.pl E a]? = some a:=by rw [all_get E _ h2,h3]
 have hl:=(List.getElem?_eq_some_iff.1 hat).1
 rw [e]
 constructor
 ·intro hm
  obtain ⟨i,hi⟩:=List.mem_iff_getElem?.1 hm
  by_cases hip:Tr.pl E a=i
  ·subst hip
   rw [List.getElem?_set_self hl] at hi
   exact .inl (Option.some.inj hi).symm
  ·rw [List.getElem?_set_ne hip] at hi
   refine .inr ⟨List.mem_of_getElem? hi,fun e=>hip ?_⟩
   subst e
   exact all_one g hat hi
 ·rintro (rfl | ⟨hm,hne⟩)
  ·exact List.mem_of_getElem? (List.getElem?_set_self hl)
  ·obtain ⟨i,hi⟩:=List.mem_iff_getElem?.1 hm
   have hip:Tr.pl E a≠i:=fun e=>hne (by
    rw [<- e,hat] at hi
    exact (Option.some.inj hi).symm)
   exact List.mem_of_getElem? ((List.getElem?_set_ne hip).trans hi)
structure Ts (S:Sl.St) (E:Tr.St):Prop where
 ok:Sl.Okay S
 n0:(S.getD 0 []).length=64
 oth:∀ s c,Sl.atS S s=some c->s.n≠0->c=Sl.no
 fine:∀ n c,Sl.atS S (sl n)=some c->Sl.Fine c
 tg:Tr.Good E
 tm:∀ t:Tr.Sl,t∈Tr.allS E↔t.n=0/\∃ c,Sl.atS S (sl t.i)=some c/\c.k≠0
theorem at_sl {S:Sl.St} (h:(S.getD 0 []).length=64) (n:Int):(0<=n/\n<=63->∃ c,Sl.atS S (sl n)=some c)/\(¬ (0<=n/\n<=63)->Sl.atS S (sl n)=none):=by
 unfold Sl.atS sl
 refine ⟨fun hn=>?_,fun hn=>?_⟩
 ·rw [if_pos ⟨Int.le_refl 0,hn.1⟩]
  exact ⟨_,List.getElem?_eq_getElem (show n.toNat<(S.getD (0:Int).toNat []).length by
   show n.toNat<(S.getD 0 []).length
   omega)⟩
 ·by_cases h0:(0:Int)<=0/\0<=n
  ·rw [if_pos h0]
   exact List.getElem?_eq_none (show (S.getD 0 []).length<=n.toNat by omega)
  ·rw [if_neg h0]
theorem tr_inj {t:Tr.Sl} (h:t.n=0):t=tr t.i:=by
 obtain ⟨a,b⟩:=t
 simp only at h
 subst h
 rfl
theorem sl_ne {n m:Int} (h:n≠m):sl n≠sl m:=fun e=>h (congrArg Sl.Sl.i e)
theorem set_n0 {S:Sl.St} (s:Sl.Sl) (c:Sl.Cp) (h:(S.getD 0 []).length=64):((Sl.setS S s c).getD 0 []).length=64:=by
 unfold Sl.setS
 rw [Sl.getD_set]
 split
 ·rename_i hh
  rw [List.length_set,<- hh.1]
  exact h
 ·exact h
theorem Ts.over {S:Sl.St} {E E':Tr.St} (h:Ts S E) {n:Int} {d c:Sl.Cp} (hd:Sl.atS S (sl n)=some d) (hf:c.Fits) (h0:c.k=0->c=Sl.no) (hc:Sl.Fine c) (g:Tr.Good E') (hm:∀ t:Tr.Sl,t∈Tr.allS E'↔t.n=0/\∃ x,(if t.i=n then some c else Sl.atS S (sl t.i))=some x/\x.k≠0):Ts (Sl.setS S (sl n) c) E':=by
 have hat:=fun t=>Sl.atS_set hd c t
 refine ⟨h.ok.set hd hf h0,set_n0 _ _ h.n0,fun s x hx hn=>?_,fun m x hx=>?_,g,fun t=>?_⟩
 ·rw [hat,if_neg (fun e=>hn (by rw [e];rfl))] at hx
  exact h.oth s x hx hn
 ·rw [hat] at hx
  by_cases e:sl m=sl n
  ·rw [if_pos e] at hx
   cases hx
   exact hc
  ·rw [if_neg e] at hx
   exact h.fine m x hx
 ·rw [hm t,hat]
  by_cases e:t.i=n
  ·rw [if_pos e,if_pos (by rw [e])]
  ·rw [if_neg e,if_neg (sl_ne e)]
theorem fine_no:Sl.Fine Sl.no:=.inl rfl
theorem no_k:Sl.no.k=0:=rfl
theorem Ts.lay {S:Sl.St} {E:Tr.St} (h:Ts S E) {a n:Int} {ca:Sl.Cp} {d c:Sl.Cp} (ha:Sl.atS S (sl a)=some ca) (hak:ca.k≠0) (hd:Sl.atS S (sl n)=some d) (hdk:d.k=0) (hf:c.Fits) (hk:c.k≠0) (hc:Sl.Fine c):Ts (Sl.putS S (sl n) c) (Tr.addS E (tr a) (tr n)):=by
 have hE:Sl.putE S (sl n) c=0:=by
  unfold Sl.putE
  rw [hd]
  simp only [hc,hk,hdk,if_true,if_false]
 have hS:Sl.putS S (sl n) c=Sl.setS S (sl n) c:=by
  unfold Sl.putS
  rw [hE]
  rfl
 rw [hS]
 have hta:tr a∈Tr.allS E:=(h.tm _).2 ⟨rfl,ca,ha,hak⟩
 have htn:¬ tr n∈Tr.allS E:=fun hm=>by
  obtain ⟨_,x,hx,hxk⟩:=(h.tm _).1 hm
  have:Sl.atS S (sl n)=some x:=hx
  rw [hd] at this
  cases this
  exact hxk hdk
 refine h.over hd hf (fun e=>absurd e hk) hc (h.tg.addS _ _) fun t=>?_
 rw [mem_add hta htn,h.tm]
 constructor
 ·rintro (rfl | ⟨h1,x,hx,hxk⟩)
  ·exact ⟨rfl,c,if_pos rfl,hk⟩
  ·refine ⟨h1,x,?_,hxk⟩
   rw [if_neg]
   ·exact hx
   ·intro e
    rw [e,hd] at hx
    cases hx
    exact hxk hdk
 ·rintro ⟨h1,x,hx,hxk⟩
  by_cases e:t.i=n
  ·left
   rw [tr_inj h1,e]
  ·rw [if_neg e] at hx
   exact .inr ⟨h1,x,hx,hxk⟩
theorem Ts.out {S:Sl.St} {E:Tr.St} (h:Ts S E) (n:Int):Ts (Sl.takeS S (sl n)) (Tr.takeS E (tr n)):=by
 by_cases hE:Sl.takeE S (sl n)=0
 ·obtain ⟨d,hd,hdk⟩:∃ d,Sl.atS S (sl n)=some d/\d.k≠0:=by
   unfold Sl.takeE at hE
   split at hE
   ·cases hE
   ·rename_i d hd
    refine ⟨d,hd,fun hk=>?_⟩
    rw [if_pos hk] at hE
    cases hE
  have hS:Sl.takeS S (sl n)=Sl.setS S (sl n) Sl.no:=by
   unfold Sl.takeS
   rw [if_pos hE]
  rw [hS]
  have htn:tr n∈Tr.allS E:=(h.tm _).2 ⟨rfl,d,hd,hdk⟩
  refine h.over hd Sl.no_fits (fun _=>rfl) fine_no (h.tg.takeS _) fun t=>?_
  rw [mem_out h.tg htn,h.tm]
  constructor
  ·rintro ⟨⟨h1,x,hx,hxk⟩,hne⟩
   refine ⟨h1,x,?_,hxk⟩
   rw [if_neg]
   ·exact hx
   ·intro e
    apply hne
    rw [tr_inj h1,e]
  ·rintro ⟨h1,x,hx,hxk⟩
   by_cases e:t.i=n
   ·rw [if_pos e] at hx
    cases hx
    exact absurd no_k hxk
   ·rw [if_neg e] at hx
    refine ⟨⟨h1,x,hx,hxk⟩,fun e2=>e ?_⟩
    rw [e2]
    rfl
 ·have hS:Sl.takeS S (sl n)=S:=by
   unfold Sl.takeS
   rw [if_neg hE]
  have hno:¬ tr n∈Tr.allS E:=fun hm=>hE (by
   obtain ⟨_,x,hx,hxk⟩:=(h.tm _).1 hm
   have hx2:Sl.atS S (sl n)=some x:=hx
   unfold Sl.takeE
   rw [hx2]
   exact if_neg hxk)
  have hT:Tr.takeS E (tr n)=E:=by
   unfold Tr.takeS
   rw [if_neg fun hh=>hno ((Tr.mem_all _ _).2 hh)]
  rw [hS,hT]
  exact h
theorem Ts.move {S:Sl.St} {E:Tr.St} (h:Ts S E) {a n:Int} {c d:Sl.Cp} (ha:Sl.atS S (sl a)=some c) (hak:c.k≠0) (hd:Sl.atS S (sl n)=some d) (hdk:d.k=0):Ts (Sl.moveS S (sl a) (sl n)) (Tr.moveS E (tr a) (tr n)):=by
 have hne:a≠n:=fun e=>by
  rw [e,hd] at ha
  cases ha
  exact hak hdk
 have hE:Sl.moveE S (sl a) (sl n)=0:=by
  unfold Sl.moveE
  rw [ha,hd]
  simp only [hak,hdk,if_true,if_false]
 have hg:Sl.getC S (sl a)=c:=by
  unfold Sl.getC
  rw [ha]
  rfl
 have hS:Sl.moveS S (sl a) (sl n)=Sl.setS (Sl.setS S (sl n) c) (sl a) Sl.no:=by
  unfold Sl.moveS
  rw [if_pos hE,hg]
 rw [hS]
 have hta:tr a∈Tr.allS E:=(h.tm _).2 ⟨rfl,c,ha,hak⟩
 have htn:¬ tr n∈Tr.allS E:=fun hm=>by
  obtain ⟨_,x,hx,hxk⟩:=(h.tm _).1 hm
  have:Sl.atS S (sl n)=some x:=hx
  rw [hd] at this
  cases this
  exact hxk hdk
 have hat1:=fun t=>Sl.atS_set hd c t
 have ha2:Sl.atS (Sl.setS S (sl n) c) (sl a)=some c:=by rw [hat1,if_neg (sl_ne hne)];exact ha
 have hat2:=fun t=>Sl.atS_set ha2 Sl.no t
 have hfit:=(h.ok.at ha).1
 refine ⟨(h.ok.set hd hfit fun e=>absurd e hak).set ha2 Sl.no_fits fun _=>rfl,set_n0 _ _ (set_n0 _ _ h.n0),fun s x hx hn=>?_,fun m x hx=>?_,h.tg.moveS _ _,fun t=>?_⟩
 ·rw [hat2,if_neg (fun e=>hn (by rw [e];rfl)),hat1,if_neg (fun e=>hn (by rw [e];rfl))] at hx
  exact h.oth s x hx hn
 ·rw [hat2] at hx
  by_cases e:sl m=sl a
  ·rw [if_pos e] at hx
   cases hx
   exact fine_no
  ·rw [if_neg e,hat1] at hx
   by_cases e2:sl m=sl n
   ·rw [if_pos e2] at hx
    cases hx
    exact h.fine a c ha
   ·rw [if_neg e2] at hx
    exact h.fine m x hx
 ·rw [mem_mv h.tg hta htn,h.tm,hat2,hat1]
  constructor
  ·rintro (rfl | ⟨⟨h1,x,hx,hxk⟩,hna⟩)
   ·refine ⟨rfl,c,?_,hak⟩
    show (if sl n=sl a then some Sl.no else if sl n=sl n then some c else Sl.atS S (sl n))=some c
    rw [if_neg (sl_ne (Ne.symm hne)),if_pos rfl]
   ·refine ⟨h1,x,?_,hxk⟩
    rw [if_neg,if_neg]
    ·exact hx
    ·intro e
     have:t.i=n:=congrArg Sl.Sl.i e
     rw [this,hd] at hx
     cases hx
     exact hxk hdk
    ·intro e
     have:t.i=a:=congrArg Sl.Sl.i e
     apply hna
     rw [tr_inj h1,this]
  ·rintro ⟨h1,x,hx,hxk⟩
   by_cases e:sl t.i=sl a
   ·rw [if_pos e] at hx
    cases hx
    exact absurd no_k hxk
   ·rw [if_neg e] at hx
    by_cases e2:sl t.i=sl n
    ·left
     have:t.i=n:=congrArg Sl.Sl.i e2
     rw [tr_inj h1,this]
    ·rw [if_neg e2] at hx
     refine .inr ⟨⟨h1,x,hx,hxk⟩,fun e3=>e ?_⟩
     rw [e3]
     rfl
theorem Ts.make {S:Sl.St} {E:Tr.St} (h:Ts S E) (b:Int):Ts (Sl.makeS S b) E:=by
 unfold Sl.makeS
 by_cases hE:Sl.makeE S b=0
 ·rw [if_pos hE]
  have hS1:0<S.length:=by
   have:=h.n0
   cases S with
   | nil=>simp at this
   | cons l T=>simp
  have hb:1<=b/\b<=8/\S.length<64:=by
   unfold Sl.makeE at hE
   split at hE
   ·rename_i h1
    split at hE
    ·rename_i h2
     exact ⟨h1.1,h1.2,h2⟩
    ·cases hE
   ·cases hE
  have hold:∀ s:Sl.Sl,s.n.toNat<S.length->Sl.atS (S++[List.replicate (2 ^ b.toNat) Sl.no]) s=Sl.atS S s:=fun s hs=>by
   unfold Sl.atS
   rw [List.getD_eq_getElem?_getD,List.getElem?_append_left hs,<- List.getD_eq_getElem?_getD]
  have hsl:∀ n:Int,Sl.atS (S++[List.replicate (2 ^ b.toNat) Sl.no]) (sl n)=Sl.atS S (sl n):=fun n=>hold (sl n) hS1
  refine ⟨⟨by rw [List.length_append];simp;omega,fun l hl=>?_,fun l hl c hc=>?_⟩,?_,fun s c hs hn=>?_,fun n c hc=>?_,h.tg,fun t=>?_⟩
  ·rcases List.mem_append.1 hl with hl | hl
   ·exact h.ok.row l hl
   ·have:l=List.replicate (2 ^ b.toNat) Sl.no:=by simpa using hl
    subst this
    exact .inr ⟨b.toNat,by omega,by omega,List.length_replicate⟩
  ·rcases List.mem_append.1 hl with hl | hl
   ·exact h.ok.cap l hl c hc
   ·have:l=List.replicate (2 ^ b.toNat) Sl.no:=by simpa using hl
    subst this
    have:=List.eq_of_mem_replicate hc
    subst this
    exact ⟨Sl.no_fits,fun _=>rfl⟩
  ·rw [List.getD_eq_getElem?_getD,List.getElem?_append_left hS1,<- List.getD_eq_getElem?_getD]
   exact h.n0
  ·by_cases hl:s.n.toNat<S.length
   ·rw [hold s hl] at hs
    exact h.oth s c hs hn
   ·have hm:=Sl.atS_mem hs
    obtain ⟨_,_,h3,_,h5,_⟩:=hm
    rw [List.length_append,List.length_singleton] at h3
    have e:s.n.toNat=S.length:=by omega
    rw [e,List.getD_eq_getElem?_getD,List.getElem?_append_right (Nat.le_refl _),Nat.sub_self] at h5
    exact List.eq_of_mem_replicate (List.mem_of_getElem? h5)
  ·rw [hsl] at hc
   exact h.fine n c hc
  ·rw [h.tm,hsl]
 ·rw [if_neg hE]
  exact h
end
end Go.Proofs.YtilnjnblpeeigaaGreatDoor
namespace Go.Proofs.YtilnjnblpeeigaaGreatDoor
set_option linter.unusedSectionVars false
theorem gen_len (h:Th.Hs) (i:Nat) (x:Th.Td):(Th.genH h i x).L.length=h.L.length/\(Th.genH h i x).Q.length=h.Q.length:=by
 unfold Th.genH Th.genQ
 refine ⟨List.length_set,?_⟩
 simp only
 split
 ·rw [List.length_set,List.length_set]
 ·rw [List.length_set]
theorem setH_len (h:Th.Hs) (i:Nat) (x:Th.Td):(Th.setH h i x).L.length=h.L.length/\(Th.setH h i x).Q.length=h.Q.length:=⟨List.length_set,rfl⟩
abbrev SameL (h h':Th.Hs):Prop:=h'.L.length=h.L.length/\h'.Q.length=h.Q.length
theorem SameL.refl (h:Th.Hs):SameL h h:=⟨rfl,rfl⟩
theorem SameL.then {a b c:Th.Hs} (h:SameL a b) (k:SameL b c):SameL a c:=⟨k.1.trans h.1,k.2.trans h.2⟩
theorem reg_len (h:Th.Hs) (i k v:Int):SameL h (Th.regH h i k v):=by
 unfold Th.regH
 split
 ·exact setH_len _ _ _
 ·exact SameL.refl h
theorem resume_len (h:Th.Hs) (i:Int):SameL h (Th.resumeH h i):=by
 unfold Th.resumeH
 split
 ·exact gen_len _ _ _
 ·exact SameL.refl h
theorem suspend_len (h:Th.Hs) (i:Int):SameL h (Th.suspendH h i):=by
 unfold Th.suspendH
 split
 ·exact gen_len _ _ _
 ·exact SameL.refl h
theorem block_len (h:Th.Hs) (i:Int):SameL h (Th.blockH h i):=by
 unfold Th.blockH
 split
 ·exact gen_len _ _ _
 ·exact SameL.refl h
theorem prio_len (h:Th.Hs) (i p:Int):SameL h (Th.prioH h i p):=by
 unfold Th.prioH
 split
 ·exact gen_len _ _ _
 ·exact SameL.refl h
theorem pick_len (h:Th.Hs) (c:Int):SameL h (Th.pickH h c):=by
 unfold Th.pickH
 split
 ·split
  ·exact SameL.refl h
  ·split
   ·exact gen_len _ _ _
   ·split
    ·exact SameL.then (gen_len _ _ _) (gen_len _ _ _)
    ·exact SameL.refl h
 ·exact SameL.refl h
theorem yield_len (h:Th.Hs) (c:Int):SameL h (Th.yieldH h c):=by
 unfold Th.yieldH
 split
 ·exact SameL.refl h
 ·exact SameL.then (gen_len _ _ _) (pick_len _ _)
def Tid (h:Th.Hs) (i:Int):Prop:=0<=i/\i<(h.L.length:Int)
def U6 (x:Int):Prop:=0<=x/\x<=18446744073709551615
structure Ref (K:Kr) (c:Sl.Cp):Prop where
 u:c.k=1->c.o<(K.U.length:Int)
 s:c.k=2->c.o<(K.S.length:Int)
 t:c.k=3->c.o<(K.h.L.length:Int)
 p:c.k=4->c.o<(K.P.length:Int)
 n:c.k=5->c.o<(K.N.length:Int)
 d:c.k=8->c.o<(K.D.length:Int)
 l:c.k=9->c.o<8
structure Le (K K':Kr):Prop where
 u:K.U.length<=K'.U.length
 s:K.S.length<=K'.S.length
 t:K.h.L.length<=K'.h.L.length
 p:K.P.length<=K'.P.length
 n:K.N.length<=K'.N.length
 d:K.D.length<=K'.D.length
theorem Ref.mono {K K':Kr} {c:Sl.Cp} (r:Ref K c) (h:Le K K'):Ref K' c:=
 ⟨fun e=>by have:=r.u e;have:=h.u;omega,fun e=>by have:=r.s e;have:=h.s;omega,fun e=>by have:=r.t e;have:=h.t;omega,fun e=>by have:=r.p e;have:=h.p;omega,fun e=>by have:=r.n e;have:=h.n;omega,fun e=>by have:=r.d e;have:=h.d;omega,r.l⟩
theorem ref_no (K:Kr):Ref K Sl.no:=⟨fun e=>(by cases e),fun e=>(by cases e),fun e=>(by cases e),fun e=>(by cases e),fun e=>(by cases e),fun e=>(by cases e),fun e=>(by cases e)⟩
def EpOk (h:Th.Hs) (S:En.St):Prop:=En.Good S/\∀ x∈S,Tid h x.n/\U6 x.m.g/\U6 x.m.a
def NtOk (h:Th.Hs) (S:No.Ns):Prop:=No.Good S/\∀ x∈S.l,Tid h x
def LnOk (N:List No.Ns) (x:Ir.Ln):Prop:=x.s≠none->0<=x.a/\x.a<(N.length:Int)/\U6 x.g
structure Iv (n m:Nat) (K:Kr):Prop where
 ts:Ts K.S K.E
 th:Th.Inv K.h
 co:K.h.Q.length=n
 ll:K.l.length=8
 ln:∀ x∈K.l,LnOk K.N x
 ref:∀ i c,Sl.atS K.S (sl i)=some c->Ref K c
 ep:∀ S∈K.P,EpOk K.h S
 nt:∀ S∈K.N,NtOk K.h S
 sp:∀ D∈K.D,Ta.Good D
 un:∀ u∈K.U,u.Fits
 cu:K.U.length<=m+1
 cp:K.P.length<=m
 cn:K.N.length<=m
 cd:K.D.length<=m+1
 cf:K.fr<=m
 ct:K.tb<=m
theorem Tid.same {h h':Th.Hs} {i:Int} (t:Tid h i) (e:h.L.length<=h'.L.length):Tid h' i:=⟨t.1,by have:=t.2;omega⟩
theorem EpOk.same {h h':Th.Hs} {S:En.St} (k:EpOk h S) (e:h.L.length<=h'.L.length):EpOk h' S:=⟨k.1,fun x hx=>⟨(k.2 x hx).1.same e,(k.2 x hx).2⟩⟩
theorem NtOk.same {h h':Th.Hs} {S:No.Ns} (k:NtOk h S) (e:h.L.length<=h'.L.length):NtOk h' S:=⟨k.1,fun x hx=>(k.2 x hx).same e⟩
section
variable {n m:Nat} {K:Kr}
theorem Iv.more (v:Iv n m K) {m':Nat} (h:m<=m'):Iv n m' K:=
 { v with cu:=by have:=v.cu;omega,cp:=by have:=v.cp;omega,cn:=by have:=v.cn;omega,cd:=by have:=v.cd;omega,cf:=by have:=v.cf;omega,ct:=by have:=v.ct;omega }
theorem Iv.thr (v:Iv n m K) {h':Th.Hs} (i:Th.Inv h') (e:SameL K.h h'):Iv n m { K with h:=h' }:=
 { v with
  th:=i
  co:=e.2.trans v.co
  ref:=fun j c hc=>(v.ref j c hc).mono ⟨Nat.le_refl _,Nat.le_refl _,Nat.le_of_eq e.1.symm,Nat.le_refl _,Nat.le_refl _,Nat.le_refl _⟩
  ep:=fun S hS=>(v.ep S hS).same (Nat.le_of_eq e.1.symm)
  nt:=fun S hS=>(v.nt S hS).same (Nat.le_of_eq e.1.symm) }
theorem mem_set' {α:Type} {L:List α} {i:Nat} {x y:α} (h:y∈L.set i x):y∈L\/y=x:=List.mem_or_eq_of_mem_set h
theorem Iv.setP (v:Iv n m K) (i:Int) {S:En.St} (k:EpOk K.h S):Iv n m (setP K i S):=
 { v with
  ref:=fun j c hc=>(v.ref j c hc).mono ⟨Nat.le_refl _,Nat.le_refl _,Nat.le_refl _,by unfold Go.Proofs.YtilnjnblpeeigaaGreatDoor.setP;simp,Nat.le_refl _,Nat.le_refl _⟩
  ep:=fun T hT=>(mem_set' hT).elim (v.ep T) fun e=>e ▸ k
  cp:=by unfold Go.Proofs.YtilnjnblpeeigaaGreatDoor.setP;simpa using v.cp }
theorem Iv.setN (v:Iv n m K) (i:Int) {S:No.Ns} (k:NtOk K.h S):Iv n m (setN K i S):=
 { v with
  ln:=fun x hx=>by
   have:=v.ln x hx
   unfold LnOk Go.Proofs.YtilnjnblpeeigaaGreatDoor.setN at *
   simpa using this
  ref:=fun j c hc=>(v.ref j c hc).mono ⟨Nat.le_refl _,Nat.le_refl _,Nat.le_refl _,Nat.le_refl _,by unfold Go.Proofs.YtilnjnblpeeigaaGreatDoor.setN;simp,Nat.le_refl _⟩
  nt:=fun T hT=>(mem_set' hT).elim (v.nt T) fun e=>e ▸ k
  cn:=by unfold Go.Proofs.YtilnjnblpeeigaaGreatDoor.setN;simpa using v.cn }
theorem Iv.setD (v:Iv n m K) (i:Int) {D:Ta.Sp} (k:Ta.Good D):Iv n m (setD K i D):=
 { v with
  ref:=fun j c hc=>(v.ref j c hc).mono ⟨Nat.le_refl _,Nat.le_refl _,Nat.le_refl _,Nat.le_refl _,Nat.le_refl _,by unfold Go.Proofs.YtilnjnblpeeigaaGreatDoor.setD;simp⟩
  sp:=fun T hT=>(mem_set' hT).elim (v.sp T) fun e=>e ▸ k
  cd:=by unfold Go.Proofs.YtilnjnblpeeigaaGreatDoor.setD;simpa using v.cd }
theorem Iv.setU (v:Iv n m K) (i:Int) {u:Un.Un} (k:u.Fits):Iv n m (setU K i u):=
 { v with
  ref:=fun j c hc=>(v.ref j c hc).mono ⟨by unfold Go.Proofs.YtilnjnblpeeigaaGreatDoor.setU;simp,Nat.le_refl _,Nat.le_refl _,Nat.le_refl _,Nat.le_refl _,Nat.le_refl _⟩
  un:=fun T hT=>(mem_set' hT).elim (v.un T) fun e=>e ▸ k
  cu:=by unfold Go.Proofs.YtilnjnblpeeigaaGreatDoor.setU;simpa using v.cu }
theorem Iv.lines (v:Iv n m K) {l:List Ir.Ln} (h:l.length=8) (k:∀ x∈l,LnOk K.N x):Iv n m { K with l:=l }:={ v with ll:=h,ln:=k,ref:=fun j c hc=>(v.ref j c hc).mono ⟨Nat.le_refl _,Nat.le_refl _,Nat.le_refl _,Nat.le_refl _,Nat.le_refl _,Nat.le_refl _⟩ }
theorem Iv.slots (v:Iv n m K) {S:Sl.St} {E:Tr.St} (t:Ts S E) (hl:K.S.length<=S.length) (r:∀ i c,Sl.atS S (sl i)=some c->Ref K c):Iv n m { K with S:=S,E:=E }:=
 { v with
  ts:=t
  ref:=fun j c hc=>(r j c hc).mono ⟨Nat.le_refl _,hl,Nat.le_refl _,Nat.le_refl _,Nat.le_refl _,Nat.le_refl _⟩ }
theorem Iv.freed (v:Iv n m K) (id:Int):Iv n m (freed K id):=
 { v with
  ln:=fun x hx=>by
   have:=v.ln x hx
   unfold LnOk Go.Proofs.YtilnjnblpeeigaaGreatDoor.freed at *
   simpa using this
  ref:=fun j c hc=>(v.ref j c hc).mono ⟨Nat.le_refl _,Nat.le_refl _,Nat.le_refl _,by unfold Go.Proofs.YtilnjnblpeeigaaGreatDoor.freed;simp,by unfold Go.Proofs.YtilnjnblpeeigaaGreatDoor.freed;simp,Nat.le_refl _⟩
  ep:=fun T hT=>by
   obtain ⟨S,hS,rfl⟩:=List.mem_map.1 hT
   obtain ⟨k1,k2⟩:=v.ep S hS
   exact ⟨En.good_out k1 _,fun x hx=>k2 x (List.mem_filter.1 hx).1⟩
  nt:=fun T hT=>by
   obtain ⟨S,hS,rfl⟩:=List.mem_map.1 hT
   obtain ⟨k1,k2⟩:=v.nt S hS
   exact ⟨No.good_can k1 _,fun x hx=>k2 x (List.mem_filter.1 hx).1⟩
  cp:=by unfold Go.Proofs.YtilnjnblpeeigaaGreatDoor.freed;simpa using v.cp
  cn:=by unfold Go.Proofs.YtilnjnblpeeigaaGreatDoor.freed;simpa using v.cn }
theorem Iv.spaces (v:Iv n m K) (f:Ta.Sp->Ta.Sp) (k:∀ D,Ta.Good D->Ta.Good (f D)):Iv n m { K with D:=K.D.map f }:=
 { v with
  ref:=fun j c hc=>(v.ref j c hc).mono ⟨Nat.le_refl _,Nat.le_refl _,Nat.le_refl _,Nat.le_refl _,Nat.le_refl _,by simp⟩
  sp:=fun T hT=>by
   obtain ⟨D,hD,rfl⟩:=List.mem_map.1 hT
   exact k D (v.sp D hD)
  cd:=by simpa using v.cd }
theorem good_unmL:∀ (L:List Int) {D:Ta.Sp},Ta.Good D->Ta.Good (unmL D L)
 | [],_,g=>g
 | x::L,D,g=>by
  show Ta.Good (unmL (Ta.unmS D x) L)
  exact good_unmL L (Ta.good_unm g x)
theorem good_drpAll (o:Int) {D:Ta.Sp} (g:Ta.Good D):Ta.Good (drpAll o D).1:=by
 have key:∀ (l:List Nat) (x:Ta.Sp×List Ta.La),Ta.Good x.1->Ta.Good (l.foldl (drpStep o) x).1:=fun l=>by
  induction l with
  | nil=>intro x hx;exact hx
  | cons j l ih =>
   intro x hx
   refine ih _ ?_
   unfold drpStep
   split
   ·exact Ta.good_drp hx _
   ·exact hx
 exact key _ _ g
end
end Go.Proofs.YtilnjnblpeeigaaGreatDoor
namespace Go.Proofs.YtilnjnblpeeigaaGreatDoor
set_option linter.unusedSectionVars false
section
variable [dCp:DecidableEq Sl.Cp] [dLim:∀ k,Decidable (Sl.Lim k)] [dBad:∀ k,Decidable (Sl.Bad k)] [dFit:∀ g z,Decidable (Sl.Fit g z)] [dF:∀ c:Sl.Cp,Decidable (Sl.Fine c)] [dMi:∀ c v,Decidable (Sl.MintR c v)] [dWho:∀ x y,Decidable (Sl.Whose x y)] [dSl:DecidableEq Sl.Sl] [dLt:∀ a b,Decidable (Sl.ltS a b)]
variable [dT:DecidableEq Tr.Sl] [dL:∀ k:Int,Decidable (Ca.Lim k)] [dC:∀ c:Ca.Cp,Decidable (Ca.Fine c)] [dM:∀ (c:Ca.Cp) (v:Int),Decidable (Ca.MintR c v)] [dCc:DecidableEq Ca.Cp] [dCb:∀ k,Decidable (Ca.Bad k)] [dCf:∀ g z,Decidable (Ca.Fit g z)] [dCw:∀ x y,Decidable (Ca.Whose x y)]
variable {n m:Nat} {K:Kr}
theorem cap_at (v:Iv n m K) {a:Int} (h:(capN K a).k≠0):Sl.atS K.S (sl a)=some (capN K a):=by
 unfold capN at h ⊢
 by_cases ha:0<=a/\a<=63
 ·rw [if_pos ha] at h ⊢
  obtain ⟨c,hc⟩:=(at_sl v.ts.n0 a).1 ha
  unfold Sl.getC at h ⊢
  rw [hc]
  rfl
 ·rw [if_neg ha] at h
  exact absurd no_k h
theorem cap_free (v:Iv n m K) {a:Int} (ha:0<=a/\a<=63) (h:(capN K a).k=0):∃ d,Sl.atS K.S (sl a)=some d/\d.k=0:=by
 obtain ⟨c,hc⟩:=(at_sl v.ts.n0 a).1 ha
 unfold capN at h
 rw [if_pos ha] at h
 unfold Sl.getC at h
 rw [hc] at h
 exact ⟨c,hc,h⟩
theorem cap_fine (v:Iv n m K) {a:Int} (h:(capN K a).k≠0):Sl.Fine (capN K a):=v.ts.fine a _ (cap_at v h)
theorem cap_fits (v:Iv n m K) {a:Int} (h:(capN K a).k≠0):(capN K a).Fits:=(v.ts.ok.at (cap_at v h)).1
theorem cap_ref (v:Iv n m K) {a:Int} (h:(capN K a).k≠0):Ref K (capN K a):=v.ref a _ (cap_at v h)
theorem cap_obj (v:Iv n m K) {a:Int} (h:(capN K a).k≠0):0<=(capN K a).o:=by
 rcases cap_fine v h with e | ⟨_,h2,_⟩
 ·rw [e] at h
  exact absurd no_k h
 ·exact h2.1
theorem free_one (v:Iv n m K) {w:Int} (h:freeE K w 1=0):(0<=w/\w<=63)/\∃ d,Sl.atS K.S (sl w)=some d/\d.k=0:=by
 unfold freeE at h
 split at h
 ·rename_i h1
  split at h
  ·rename_i h2
   refine ⟨⟨h1.1,h1.2.1⟩,cap_free v ⟨h1.1,h1.2.1⟩ ?_⟩
   have:=List.all_eq_true.1 h2 0 (by decide)
   simpa using this
  ·cases h
 ·cases h
theorem take_len (S:Sl.St) (s:Sl.Sl):(Sl.takeS S s).length=S.length:=by
 unfold Sl.takeS
 split
 ·exact Sl.setS_len _ _ _
 ·rfl
theorem out_at (j i:Int) {c:Sl.Cp} (h:Sl.atS (Sl.takeS K.S (sl j)) (sl i)=some c):c=Sl.no\/Sl.atS K.S (sl i)=some c:=by
 unfold Sl.takeS at h
 split at h
 ·rename_i hE
  cases hd:Sl.atS K.S (sl j) with
  | none =>
   unfold Sl.takeE at hE
   rw [hd] at hE
   cases hE
  | some d =>
   rw [Sl.atS_set hd] at h
   split at h
   ·cases h
    exact .inl rfl
   ·exact .inr h
 ·exact .inr h
theorem Iv.outK (v:Iv n m K) (j:Int):Iv n m (outK K j):=
 v.slots (v.ts.out j) (Nat.le_of_eq (take_len _ _).symm) fun i c hc=>(out_at j i hc).elim (fun e=>e ▸ ref_no K) fun h=>v.ref i c h
theorem Iv.dead (v:Iv n m K) (c:Sl.Cp):Iv n m (deadK K c):=by
 unfold deadK
 split
 ·exact (v.freed c.o).thr (Th.inv_suspend v.th c.o) (suspend_len _ _)
 ·split
  ·exact v.spaces _ fun D g=>good_unmL _ g
  ·split
   ·exact v.spaces _ fun D g=>good_drpAll _ g
   ·exact v
theorem Iv.gone (v:Iv n m K) (j:Int):Iv n m (goneK K j):=by
 unfold goneK
 split
 ·exact (v.outK j).dead _
 ·exact v.outK j
theorem Iv.goneAll:∀ (L:List Int) {K:Kr},Iv n m K->Iv n m (goneAll K L).1
 | [],_,v=>v
 | j::L,K,v=>by
  show Iv n m (Go.Proofs.YtilnjnblpeeigaaGreatDoor.goneAll (goneK K j) L).1
  exact Iv.goneAll L (v.gone j)
theorem lay_at {S:Sl.St} {w:Int} {d c:Sl.Cp} (hd:Sl.atS S (sl w)=some d) (i:Int) {x:Sl.Cp} (h:Sl.atS (Sl.putS S (sl w) c) (sl i)=some x):x=c\/Sl.atS S (sl i)=some x:=by
 unfold Sl.putS at h
 split at h
 ·rw [Sl.atS_set hd] at h
  split at h
  ·cases h
   exact .inl rfl
  ·exact .inr h
 ·exact .inr h
theorem put_len (S:Sl.St) (s:Sl.Sl) (c:Sl.Cp):(Sl.putS S s c).length=S.length:=by
 unfold Sl.putS
 split
 ·exact Sl.setS_len _ _ _
 ·rfl
theorem Iv.lay (v:Iv n m K) {a w:Int} {ca d c:Sl.Cp} (ha:Sl.atS K.S (sl a)=some ca) (hak:ca.k≠0) (hd:Sl.atS K.S (sl w)=some d) (hdk:d.k=0) (hf:c.Fits) (hk:c.k≠0) (hc:Sl.Fine c) (r:Ref K c):Iv n m (layK K a w c):=
 v.slots (v.ts.lay ha hak hd hdk hf hk hc) (Nat.le_of_eq (put_len _ _ _).symm) fun i x hx=>(lay_at hd i hx).elim (fun e=>e ▸ r) fun h=>v.ref i x h
theorem fine_ca {c:Ca.Cp} (h:Ca.Fine c):Sl.Fine (ofCa c):=by
 rcases h with e | h
 ·subst e
  exact .inl rfl
 ·exact .inr h
theorem u64_ok (x:Int):U6 (u64 x):=by
 unfold U6 u64
 omega
theorem Iv.mint (v:Iv n m K) (c:Cl) (h:(capN K c.a).k≠0):Iv n m (mintK K c (capN K c.a)):=by
 unfold mintK
 by_cases hE:mintE K c (capN K c.a)=0
 ·rw [if_pos hE]
  unfold mintE at hE
  split at hE
  ·rename_i h1
   exact absurd hE h1
  ·rename_i h1
   have h1':freeE K c.w 1=0:=Decidable.not_not.1 h1
   obtain ⟨_,d,hd,hdk⟩:=free_one v h1'
   have hm:=hE
   unfold Ca.mintE at hE
   split at hE
   ·rename_i hf
    split at hE
    ·rename_i hn
     split at hE
     ·cases hE
     ·rename_i hr
      have hR:Ca.mintR (toCa (capN K c.a)) c.A (u64 c.B)=Ca.mintC (toCa (capN K c.a)) c.A (u64 c.B):=by
       unfold Ca.mintR
       rw [if_pos hm]
      rw [hR]
      have hv:u64 c.B=0\/Ca.Bad (toCa (capN K c.a)).k:=by
       by_cases h0:u64 c.B=0
       ·exact .inl h0
       ·right
        by_cases hb:Ca.Bad (toCa (capN K c.a)).k
        ·exact hb
        ·exact absurd (.inr ⟨h0,fun h=>hb h.1⟩) hr
      have hfi:=Ca.mint_fine hf h hn hv
      have hcf:=cap_fits v h
      have hu:=u64_ok c.B
      have hk:(ofCa (Ca.mintC (toCa (capN K c.a)) c.A (u64 c.B))).k=(capN K c.a).k:=rfl
      have ho:(ofCa (Ca.mintC (toCa (capN K c.a)) c.A (u64 c.B))).o=(capN K c.a).o:=rfl
      have hr0:=cap_ref v h
      refine v.lay (cap_at v h) h hd hdk ?_ (by rw [hk];exact h) (fine_ca hfi) ⟨fun e=>by rw [ho];exact hr0.u (hk ▸ e),fun e=>by rw [ho];exact hr0.s (hk ▸ e),fun e=>by rw [ho];exact hr0.t (hk ▸ e),fun e=>by rw [ho];exact hr0.p (hk ▸ e),fun e=>by rw [ho];exact hr0.n (hk ▸ e),fun e=>by rw [ho];exact hr0.d (hk ▸ e),fun e=>by rw [ho];exact hr0.l (hk ▸ e)⟩
      refine ⟨hcf.k,hcf.o,?_,?_,hcf.g,hcf.z⟩
      ·rcases hfi with e | ⟨_,_,h3,_⟩
       ·rw [e]
        decide
       ·have h4:(ofCa (Ca.mintC (toCa (capN K c.a)) c.A (u64 c.B))).r=(Ca.mintC (toCa (capN K c.a)) c.A (u64 c.B)).r:=rfl
        rw [h4]
        omega
      ·show 0<=(if u64 c.B=0 then (capN K c.a).b else u64 c.B)/\(if u64 c.B=0 then (capN K c.a).b else u64 c.B)<=18446744073709551615
       split
       ·exact hcf.b
       ·exact hu
    ·cases hE
   ·cases hE
 ·rw [if_neg hE]
  exact v
theorem Iv.moved (v:Iv n m K) (c:Cl) (h:(capN K c.a).k≠0):Iv n m (moveK K c):=by
 unfold moveK
 split
 ·rename_i hE
  obtain ⟨_,d,hd,hdk⟩:=free_one v hE
  have t:=v.ts.move (cap_at v h) h hd hdk
  refine v.slots t ?_ fun i x hx=>?_
  ·unfold Sl.moveS
   split
   ·rw [Sl.setS_len,Sl.setS_len]
    exact Nat.le_refl _
   ·exact Nat.le_refl _
  ·unfold Sl.moveS at hx
   split at hx
   ·have hg:Sl.getC K.S (sl c.a)=capN K c.a:=by
     unfold Sl.getC
     rw [cap_at v h]
     rfl
    rw [hg] at hx
    have ha2:∃ y,Sl.atS (Sl.setS K.S (sl c.w) (capN K c.a)) (sl c.a)=some y:=by
     rw [Sl.atS_set hd]
     split
     ·exact ⟨_,rfl⟩
     ·exact ⟨_,cap_at v h⟩
    obtain ⟨y,hy⟩:=ha2
    rw [Sl.atS_set hy] at hx
    split at hx
    ·cases hx
     exact ref_no K
    ·rw [Sl.atS_set hd] at hx
     split at hx
     ·cases hx
      exact cap_ref v h
     ·exact v.ref i x hx
   ·exact v.ref i x hx
 ·exact v
end
end Go.Proofs.YtilnjnblpeeigaaGreatDoor
namespace Go.Proofs.YtilnjnblpeeigaaGreatDoor
set_option linter.unusedSectionVars false
section
variable [dCp:DecidableEq Sl.Cp] [dLim:∀ k,Decidable (Sl.Lim k)] [dBad:∀ k,Decidable (Sl.Bad k)] [dFit:∀ g z,Decidable (Sl.Fit g z)] [dF:∀ c:Sl.Cp,Decidable (Sl.Fine c)] [dMi:∀ c v,Decidable (Sl.MintR c v)] [dWho:∀ x y,Decidable (Sl.Whose x y)] [dSl:DecidableEq Sl.Sl] [dLt:∀ a b,Decidable (Sl.ltS a b)]
variable [dT:DecidableEq Tr.Sl]
variable {n m:Nat} {K:Kr}
theorem place_bd {u:Un.Un} {k b c:Int} (h:Un.Found u k b c) {x:Int} (hx:x∈Un.plL u k b c):0<=x/\x<=1099512676352:=by
 have ok:=h.ok
 unfold Un.plL at hx
 rw [if_pos ((Un.found_iff u k b c).2 h)] at hx
 unfold Un.runL at hx
 obtain ⟨i,hi,rfl⟩:=List.mem_map.1 hx
 rw [List.mem_range] at hi
 have hr:=h.room
 unfold Un.roomB at hr
 have h1:0<=Un.firstI u (Un.szN k b):=by
  unfold Un.firstI Un.upI
  omega
 have hz:0<=Un.szN k b/\Un.szN k b<=20:=by
  have:=h.sz
  unfold Un.szN
  rw [if_neg (by rw [this];decide)]
  unfold Un.szE at this
  repeat' split at this
  all_goals
   repeat' split
   all_goals omega
 have h2:=Un.twoI_20 _ hz.1 hz.2
 have h3:=Un.twoI_20 u.bits ok.1.1 ok.1.2
 have h4:(i:Int)*Un.twoI (Un.szN k b)<=c*Un.twoI (Un.szN k b):=Int.mul_le_mul_of_nonneg_right (by omega) (by omega)
 have h5:0<=(i:Int)*Un.twoI (Un.szN k b):=Int.mul_nonneg (by omega) (by omega)
 have h6:=ok.2.2.1
 omega
theorem makeS_at (hS:0<K.S.length) (B i:Int):Sl.atS (Sl.makeS K.S B) (sl i)=Sl.atS K.S (sl i):=by
 unfold Sl.makeS
 split
 ·unfold Sl.atS
  show (if 0<=(sl i).n/\0<=(sl i).i then ((K.S++[List.replicate (2 ^ B.toNat) Sl.no]).getD (sl i).n.toNat [])[(sl i).i.toNat]? else none)=_
  have:(K.S++[List.replicate (2 ^ B.toNat) Sl.no]).getD (sl i).n.toNat []=K.S.getD (sl i).n.toNat []:=by
   rw [List.getD_eq_getElem?_getD,List.getElem?_append_left (by show (0:Int).toNat<_;exact hS),<- List.getD_eq_getElem?_getD]
  rw [this]
 ·rfl
theorem ts_pos {S:Sl.St} {E:Tr.St} (t:Ts S E):0<S.length:=by
 have:=t.n0
 cases S with
 | nil=>simp at this
 | cons l T=>simp
theorem made_at (v:Iv n m K) (A B core x i:Int):Sl.atS (madeK K A B core x).S (sl i)=Sl.atS K.S (sl i):=by
 unfold madeK
 split
 ·rfl
 ·split
  ·exact makeS_at (ts_pos v.ts) B i
  ·repeat' split
   all_goals rfl
theorem Iv.made (v:Iv n m K) {A B core x:Int} (hA:1<=A/\A<=8) (hm:m<=1000000) (hB : -9223372036854775808<=B/\B<=9223372036854775807) (hx:U6 x) (h2:A=2->Sl.makeE K.S B=0) (h3:A=3->Th.makeE K.h 0 core=0) :
  Iv n (m+1) (madeK K A B core x)/\Ref (madeK K A B core x) ⟨A,madeN K A B core,7,0,0,0⟩/\0<=madeN K A B core/\madeN K A B core<=1000001/\Le K (madeK K A B core x):=by
 have w:=v.more (show m<=m+1 by omega)
 have c1:=v.cu
 have c2:=v.cp
 have c3:=v.cn
 have c4:=v.cd
 have c5:=v.cf
 have c6:=v.ct
 have hAA:A=1\/A=2\/A=3\/A=4\/A=5\/A=6\/A=7\/A=8:=by omega
 have hAA2:=hAA
 unfold madeK madeN
 rcases hAA with rfl | rfl | rfl | rfl | rfl | rfl | rfl | rfl
 ·simp only [if_true]
  refine ⟨{ w with ref:=fun j c hc=>(v.ref j c hc).mono ⟨by simp,Nat.le_refl _,Nat.le_refl _,Nat.le_refl _,Nat.le_refl _,Nat.le_refl _⟩,un:=fun u hu=>?_,cu:=by simp;omega },⟨fun _=>by simp;omega,fun e=>(by cases e),fun e=>(by cases e),fun e=>(by cases e),fun e=>(by cases e),fun e=>(by cases e),fun e=>(by cases e)⟩,by omega,by omega,⟨by simp,Nat.le_refl _,Nat.le_refl _,Nat.le_refl _,Nat.le_refl _,Nat.le_refl _⟩⟩
  rcases List.mem_append.1 hu with hu | hu
  ·exact v.un u hu
  ·have:u=⟨x,B,0⟩:=by simpa using hu
   subst this
   exact ⟨hx,hB,⟨Int.le_refl 0,by show (0:Int)<=18446744073709551615;decide⟩⟩
 ·have e0:=h2 rfl
  simp only [if_true,if_false,show ¬ ((2:Int)=1) by decide]
  have hN:Sl.makeN K.S B=K.S.length:=by
   unfold Sl.makeN
   rw [if_pos e0]
  have hS:(Sl.makeS K.S B).length=K.S.length+1:=by
   unfold Sl.makeS
   rw [if_pos e0]
   simp
  have hl:=v.ts.ok.len
  refine ⟨{ w with ts:=v.ts.make B,ref:=fun j c hc=>(v.ref j c (by rw [<- makeS_at (ts_pos v.ts) B j];exact hc)).mono ⟨Nat.le_refl _,by simp only;omega,Nat.le_refl _,Nat.le_refl _,Nat.le_refl _,Nat.le_refl _⟩ },⟨fun e=>(by cases e),fun _=>by simp only;omega,fun e=>(by cases e),fun e=>(by cases e),fun e=>(by cases e),fun e=>(by cases e),fun e=>(by cases e)⟩,by omega,by omega,⟨Nat.le_refl _,by simp only;omega,Nat.le_refl _,Nat.le_refl _,Nat.le_refl _,Nat.le_refl _⟩⟩
 ·have e0:=h3 rfl
  simp only [if_true,if_false,show ¬ ((3:Int)=1) by decide,show ¬ ((3:Int)=2) by decide]
  have hN:Th.makeN K.h 0 core=K.h.L.length:=by
   unfold Th.makeN
   rw [if_pos e0]
  have hL:(Th.makeH K.h 0 core).L.length=K.h.L.length+1/\(Th.makeH K.h 0 core).Q.length=K.h.Q.length:=by
   unfold Th.makeH
   rw [if_pos e0]
   simp
  have hl:=v.th.few
  have hle:K.h.L.length<=(Th.makeH K.h 0 core).L.length:=by omega
  refine ⟨{ w with th:=Th.inv_make v.th 0 core,co:=hL.2.trans v.co,ref:=fun j c hc=>(v.ref j c hc).mono ⟨Nat.le_refl _,Nat.le_refl _,hle,Nat.le_refl _,Nat.le_refl _,Nat.le_refl _⟩,ep:=fun S hS=>(v.ep S hS).same hle,nt:=fun S hS=>(v.nt S hS).same hle },⟨fun e=>(by cases e),fun e=>(by cases e),fun _=>by simp only;omega,fun e=>(by cases e),fun e=>(by cases e),fun e=>(by cases e),fun e=>(by cases e)⟩,by omega,by omega,⟨Nat.le_refl _,Nat.le_refl _,hle,Nat.le_refl _,Nat.le_refl _,Nat.le_refl _⟩⟩
 ·simp only [if_true,if_false,show ¬ ((4:Int)=1) by decide,show ¬ ((4:Int)=2) by decide,show ¬ ((4:Int)=3) by decide]
  refine ⟨{ w with ref:=fun j c hc=>(v.ref j c hc).mono ⟨Nat.le_refl _,Nat.le_refl _,Nat.le_refl _,by simp,Nat.le_refl _,Nat.le_refl _⟩,ep:=fun S hS=>?_,cp:=by simp;omega },⟨fun e=>(by cases e),fun e=>(by cases e),fun e=>(by cases e),fun _=>by simp;omega,fun e=>(by cases e),fun e=>(by cases e),fun e=>(by cases e)⟩,by omega,by omega,⟨Nat.le_refl _,Nat.le_refl _,Nat.le_refl _,by simp,Nat.le_refl _,Nat.le_refl _⟩⟩
  rcases List.mem_append.1 hS with hS | hS
  ·exact v.ep S hS
  ·have:S=[]:=by simpa using hS
   subst this
   exact ⟨En.good_nil,fun x hx=>by simp at hx⟩
 ·simp only [if_true,if_false,show ¬ ((5:Int)=1) by decide,show ¬ ((5:Int)=2) by decide,show ¬ ((5:Int)=3) by decide,show ¬ ((5:Int)=4) by decide]
  refine ⟨{ w with ln:=fun y hy he=>?_,ref:=fun j c hc=>(v.ref j c hc).mono ⟨Nat.le_refl _,Nat.le_refl _,Nat.le_refl _,Nat.le_refl _,by simp,Nat.le_refl _⟩,nt:=fun S hS=>?_,cn:=by simp;omega },⟨fun e=>(by cases e),fun e=>(by cases e),fun e=>(by cases e),fun e=>(by cases e),fun _=>by simp;omega,fun e=>(by cases e),fun e=>(by cases e)⟩,by omega,by omega,⟨Nat.le_refl _,Nat.le_refl _,Nat.le_refl _,Nat.le_refl _,by simp,Nat.le_refl _⟩⟩
  ·have:=v.ln y hy he
   refine ⟨this.1,?_,this.2.2⟩
   have:=this.2.1
   simp
   omega
  ·rcases List.mem_append.1 hS with hS | hS
   ·exact v.nt S hS
   ·have:S=No.ns0:=by simpa using hS
    subst this
    exact ⟨No.good_0,fun x hx=>by simp [No.ns0] at hx⟩
 ·simp only [if_true,if_false,show ¬ ((6:Int)=1) by decide,show ¬ ((6:Int)=2) by decide,show ¬ ((6:Int)=3) by decide,show ¬ ((6:Int)=4) by decide,show ¬ ((6:Int)=5) by decide,show ¬ ((6:Int)=8) by decide]
  exact ⟨{ w with ref:=fun j c hc=>(v.ref j c hc).mono ⟨Nat.le_refl _,Nat.le_refl _,Nat.le_refl _,Nat.le_refl _,Nat.le_refl _,Nat.le_refl _⟩,cf:=by simp only;omega },⟨fun e=>(by cases e),fun e=>(by cases e),fun e=>(by cases e),fun e=>(by cases e),fun e=>(by cases e),fun e=>(by cases e),fun e=>(by cases e)⟩,by omega,by omega,⟨Nat.le_refl _,Nat.le_refl _,Nat.le_refl _,Nat.le_refl _,Nat.le_refl _,Nat.le_refl _⟩⟩
 ·simp only [if_false,show ¬ ((7:Int)=1) by decide,show ¬ ((7:Int)=2) by decide,show ¬ ((7:Int)=3) by decide,show ¬ ((7:Int)=4) by decide,show ¬ ((7:Int)=5) by decide,show ¬ ((7:Int)=8) by decide,show ¬ ((7:Int)=6) by decide]
  exact ⟨{ w with ref:=fun j c hc=>(v.ref j c hc).mono ⟨Nat.le_refl _,Nat.le_refl _,Nat.le_refl _,Nat.le_refl _,Nat.le_refl _,Nat.le_refl _⟩,ct:=by simp only;omega },⟨fun e=>(by cases e),fun e=>(by cases e),fun e=>(by cases e),fun e=>(by cases e),fun e=>(by cases e),fun e=>(by cases e),fun e=>(by cases e)⟩,by omega,by omega,⟨Nat.le_refl _,Nat.le_refl _,Nat.le_refl _,Nat.le_refl _,Nat.le_refl _,Nat.le_refl _⟩⟩
 ·simp only [if_true,if_false,show ¬ ((8:Int)=1) by decide,show ¬ ((8:Int)=2) by decide,show ¬ ((8:Int)=3) by decide,show ¬ ((8:Int)=4) by decide,show ¬ ((8:Int)=5) by decide]
  refine ⟨{ w with ref:=fun j c hc=>(v.ref j c hc).mono ⟨Nat.le_refl _,Nat.le_refl _,Nat.le_refl _,Nat.le_refl _,Nat.le_refl _,by simp⟩,sp:=fun D hD=>?_,cd:=by simp;omega },⟨fun e=>(by cases e),fun e=>(by cases e),fun e=>(by cases e),fun e=>(by cases e),fun e=>(by cases e),fun _=>by simp;omega,fun e=>(by cases e)⟩,by omega,by omega,⟨Nat.le_refl _,Nat.le_refl _,Nat.le_refl _,Nat.le_refl _,Nat.le_refl _,by simp⟩⟩
  rcases List.mem_append.1 hD with hD | hD
  ·exact v.sp D hD
  ·have:D=Ta.sp0:=by simpa using hD
   subst this
   exact Ta.good0
end
end Go.Proofs.YtilnjnblpeeigaaGreatDoor
