/- Below: KrGone KI1 KI2 KF2 KF4; no condition. -/
import Derived.Test.YtbfjjpdnoalojaaGreatDoorPa16
set_option maxHeartbeats 16000000
set_option maxRecDepth 100000
set_option linter.unusedSectionVars false
namespace Go.Proofs.YtbfjjpdnoalojaaGreatDoor
section
theorem Jp7 (S:Ta.Sp) (m n:Int) (h:n≠m):(Ta.Ue S m).f n=S.f n:=by
 unfold Ta.Ue
 split
 ·show Ta.UR S.f m none n=S.f n
  unfold Ta.UR
  rw[if_neg h]
 ·rfl
theorem Jf2:∀ (L:List Int) (S:Ta.Sp) (n:Int),n ∉ L->Ta.Xl (X7 S L) n=Ta.Xl S n
 | [],_,_,_=>rfl
 | m::L,S,n,h=>by
  have h1:n≠m:=fun e=>h (by rw[e];exact Jms)
  have h2:n ∉ L:=fun e=>h (Jmc e)
  show Ta.Xl (X7 (Ta.Ue S m) L) n=_
  rw[Jf2 L _ n h2]
  unfold Ta.Xl
  rw[Jp7 S m n h1]
theorem Jip (S:Ta.Sp) (L:List Int) (n:Int):X7 S (L++[n])=Ta.Ue (X7 S L) n:=by
 unfold X7
 rw[List.foldl_append]
 rfl
theorem Jj3 (f:Int->Option Ta.Pg) (o:Int):(Ta.Ve f o).Nodup:=by
 unfold Ta.Ve
 refine List.pairwise_map.2 (((Ta.Jb4 f 0 4096).filter _).imp fun {a b} h e=>?_)
 rw[e] at h
 exact absurd h (Int.lt_irrefl _)
theorem Je2 (f:Int->Option Ta.Pg) (o:Int):(Ta.Ve f o).length<=4096:=by
 unfold Ta.Ve
 rw[List.length_map]
 exact Jql (List.length_filter_le _ _) (Ta.Jer f)
theorem Jj2 {S:Ta.Sp} {o:Int} {j:Nat} {n:Int} (h:(Ta.Ve S.f o)[j]? = some n):Ta.Xl (X7 S ((Ta.Ve S.f o).take j)) n=Ta.Xl S n:=by
 refine Jf2 _ _ _ fun hm=>?_
 obtain⟨i,hi,e⟩:=List.mem_iff_getElem.1 hm
 rw[List.length_take] at hi
 rw[List.getElem_take] at e
 obtain⟨hj,e2⟩:=Jqb.1 h
 have:=(List.nodup_iff_pairwise_ne.1 (Jj3 S.f o))
 exact List.pairwise_iff_getElem.1 this i j (by omega) hj (by omega) (e.trans e2.symm)
def Vw (s:Int) (S:Ta.Sp) (o:Int) (j:Nat):List Lr:=Jq s (((Ta.Ve S.f o).take j).map fun n=>(n,Ta.Xl S n))
theorem Jdb {s:Int} {S:Ta.Sp} {o:Int} {j:Nat} {n:Int} (h:(Ta.Ve S.f o)[j]? = some n):Vw s S o (j+1)=Vw s S o j++[⟨s,n,(Ta.Xl S n).fr,(Ta.Xl S n).rt⟩]:=by
 obtain⟨hj,rfl⟩:=Jqb.1 h
 unfold Vw Jq
 rw[List.take_succ_eq_append_getElem hj,List.map_append,List.map_append]
 rfl
theorem Fg (s:Int) (S:Ta.Sp) (o:Int):Vw s S o (Ta.Ve S.f o).length=Jq s (AL S o):=by
 unfold Vw AL
 rw[List.take_length]
theorem Fh (s:Int) (S:Ta.Sp) (o:Int) (j:Nat):(Vw s S o j).length<=4096:=by
 unfold Vw Jq
 rw[List.length_map,List.length_map,List.length_take]
 have:=Je2 S.f o
 omega
theorem Ff (o:Int):∀ (L M:List Ta.Sp) (i:Nat),ZY o i (L++M)=ZY o i L++ZY o (i+L.length) M
 | [],M,i=>by simp[ZY]
 | D::L,M,i=>by
  show Jq (i:Int) (AL D o)++ZY o (i+1) (L++M)=_
  rw[Ff o L M (i+1),List.length_cons,show i+(L.length+1)=i+1+L.length by omega]
  simp[ZY,List.append_assoc]
theorem Jda {o:Int} {K:List Ta.Sp} {k:Nat} {D:Ta.Sp} (h:K[k]? = some D):ZY o 0 (K.take (k+1))=ZY o 0 (K.take k)++Jq (k:Int) (AL D o):=by
 obtain⟨hk,rfl⟩:=Jqb.1 h
 rw[List.take_succ_eq_append_getElem hk,Ff,List.length_take,Nat.min_eq_left (by omega),Nat.zero_add]
 simp[ZY]
theorem Om (o:Int):∀ (L:List Ta.Sp) (i:Nat),(ZY o i L).length<=4096*L.length
 | [],_=>by simp[ZY]
 | D::L,i=>by
  show(Jq (i:Int) (AL D o)++ZY o (i+1) L).length<=_
  have h1:=Om o L (i+1)
  have h2:(Jq (i:Int) (AL D o)).length<=4096:=by
   rw[<- Fg]
   exact Fh _ _ _ _
  rw[List.length_append,List.length_cons]
  omega
def XM (o:Int) (D:Ta.Sp) (j:Nat):Ta.Sp×List Ta.La:=(List.range j).foldl (MM o) (D,[])
theorem EZ (o:Int) (D:Ta.Sp) (j:Nat):XM o D (j+1)=MM o (XM o D j) j:=by
 unfold XM
 rw[List.range_succ,List.foldl_append]
 rfl
theorem AA (o:Int) (D:Ta.Sp):∀ j,(XM o D j).2.length<=64*j
 | 0=>by simp[XM]
 | j+1=>by
  rw[EZ]
  have h:=AA o D j
  unfold MM
  split
  ·have h2:(Ta.plP (XM o D j).1.f j).length<=64:=Ta.IP _ _ _
   simp only[List.length_append]
   omega
  ·omega
theorem Fu (s:Int) (A B:List Ta.La):Jq s (A++B)=Jq s A++Jq s B:=by
 unfold Jq
 rw[List.map_append]
theorem Ow (s:Int) (A:List Ta.La):(Jq s A).length=A.length:=by
 unfold Jq
 rw[List.length_map]
theorem Fi (o:Int):∀ (L M:List Ta.Sp) (i:Nat),ZP o i (L++M)=ZP o i L++ZP o (i+L.length) M
 | [],M,i=>by simp[ZP]
 | D::L,M,i=>by
  show Jq (i:Int) (U5 o D).2++ZP o (i+1) (L++M)=_
  rw[Fi o L M (i+1),List.length_cons,show i+(L.length+1)=i+1+L.length by omega]
  simp[ZP,List.append_assoc]
theorem Jdc {o:Int} {K:List Ta.Sp} {k:Nat} {D:Ta.Sp} (h:K[k]? = some D):ZP o 0 (K.take (k+1))=ZP o 0 (K.take k)++Jq (k:Int) (XM o D 64).2:=by
 obtain⟨hk,rfl⟩:=Jqb.1 h
 rw[List.take_succ_eq_append_getElem hk,Fi,List.length_take,Nat.min_eq_left (by omega),Nat.zero_add]
 simp[ZP,U5,XM]
theorem Oo (o:Int):∀ (L:List Ta.Sp) (i:Nat),(ZP o i L).length<=4096*L.length
 | [],_=>by simp[ZP]
 | D::L,i=>by
  show(Jq (i:Int) (U5 o D).2++ZP o (i+1) L).length<=_
  have h1:=Oo o L (i+1)
  have h2:(U5 o D).2.length<=64*64:=AA o D 64
  rw[List.length_append,List.length_cons,Ow]
  omega
section
variable [dT:DecidableEq Tr.Sl] [dF:∀ c:Sl.Cp,Decidable (Sl.Fine c)] [dL:∀ k:Int,Decidable (Ca.ZV k)] [dC:∀ c:Ca.Cp,Decidable (Ca.Fine c)] [dM:∀ (c:Ca.Cp) (v:Int),Decidable (Ca.JK c v)]
theorem MQ:∀ (A:List Int) (K:Kr) (n:Int),goneAll K (A++[n])=(ZE (goneAll K A).1 n,(goneAll K A).2++Vf (goneAll K A).1 n)
 | [],K,n=>by simp[goneAll]
 | a::A,K,n=>by
  show((goneAll (ZE K a) (A++[n])).1,Vf K a++(goneAll (ZE K a) (A++[n])).2)=_
  rw[MQ A (ZE K a) n]
  simp[goneAll,List.append_assoc]
theorem On (K:Kr) (n:Int):(Vf K n).length<=4096*K.D.length:=by
 unfold Vf
 split
 ·unfold Jjt
  split
  ·exact Om _ _ _
  ·split
   ·exact Oo _ _ _
   ·simp
 ·simp
end
end
section
open Go.RowKit Go.Deep Go.Shelf
open Classical
section
variable {α:Type} {E:El α} {w0 w w':World} {r p:Nat} {R:List Th}
theorem Sep.moreB (ok:El.Ok E) {u:Value} {A:List α} (h:Sep w0 r w (Jv E u A::R)) (ty:TypeId) (x:α) {C:Array Value} (hC:C.toList=E.enc x) (hl:(A.length+1)*E.by'<=140737488355328) (hm:A.length+1<=maxLen) :
  ∃ v' w',(Builtin.append_ #[E.sl,E.sl] ty #[u,.slice (some ⟨w.heap.size,0,none⟩) 1 1]).run Tryz.prog (w.alloc (.cells C E.e))=.ok v' w'/\Sep w0 r w' (Jv E v' (A++[x])::R):=by
 have h1:=h.below (Jb w (.cells C E.e))
 obtain⟨i,z,hi,z1,z2,z3,z4⟩:=ok.info
 have hown:Row E (w.alloc (.cells C E.e)) u A:=h1.head
 obtain⟨v',w',r1,r2,r3,_,r4⟩:=run_append_own_at (P:=Tryz.prog) (w:=w.alloc (.cells C E.e)) 0 E.sl ty E.e i z E.k E.by' ok.hu hi z1 z2 z3 z4 ok.pos u A.length (Jc E.enc A) hown ⟨w.heap.size,0,none⟩ 1 1 (E.enc x) (by rw[ok.len,Nat.one_mul])
  (fun j c hj=>by
   rw[JG,Nat.zero_add]
   have:=blk_alloc_new w (.cells C E.e)
   simp only[World.cell?]
   rw[this]
   rw[<- hC] at hj
   simpa using hj) (ok.one x) hm hl (Jqp _)
 have r2':Row E w' v' (A++[x]):=by
  unfold Row
  rw[List.length_append,Jt,JE]
  simpa [Jc] using r2
 refine⟨v',w',r1,h1.turn (t:=Jv E u A) (t':=Jv E v' (A++[x])) r2' (Turn.grown r3 fun k hk=>.inl hk) fun y hy=>?_⟩
 rcases r4 with e|e
 ·exact .inl (e.symm.trans hy)
 ·have:some (w.alloc (.cells C E.e)).heap.size=some y:=e.symm.trans hy
  cases this
  exact .inr (Jqd _)
end
section
variable {w0 w w':World} {r p:Nat} {Y:Ly} {K:Kr} {R:List Th}
theorem Xx {α:Type} {L:List α} {i:Nat} {x:α} (h:L[i]? = some x):L.set i x=L:=by
 apply List.ext_getElem?
 intro j
 rw[List.getElem?_set]
 by_cases hj:i=j
 ·subst hj
  rw[if_pos rfl,if_pos (List.getElem?_eq_some_iff.1 h).1,h]
 ·rw[if_neg hj]
theorem Jkn (s:Sep w0 r w (kT p Y K::R)) {i q:Nat} {v:(Nat->Option Nat)} {S:Ta.Sp} (hi:K.D[i]? = some S) (hy:Y.D[i]? = some (q,v)) (o:Int) {L:List Int} (hL:Ta.Ve S.f o=L) :
  Calls Tryz.prog 353 #[Je q,.int .i64 o] w fun e w'=>∃ ao cap,e=.returned (.slice ao L.length cap)/\Sep w0 r w' (kT p Y K::Ta.Xa (.slice ao L.length cap) L::R):=by
 obtain⟨Q,s1,bk⟩:=s.spIn hi hy
 refine Jqa (Ta.Js7 s1 o hL) ?_
 rintro e w' ⟨u,rfl,h⟩
 have h2:=bk w' _ _ [_] h
 rw[Xx hi,Xx hy] at h2
 obtain⟨ao,cap,rfl⟩:=h2.listIs (E:=Ta.Ui) (v:=u) (A:=L) (by simp)
 exact⟨ao,cap,rfl,h2⟩
theorem EA (s:Sep w0 r w (kT p Y K::R)) (hd:K.D.length<=1000000) (o:Int) :
  Calls Tryz.prog 312 #[Je p,.int .i64 o] w fun e w'=>∃ v,e=.returned v/\KS w0 r w' p { K with D:=K.D.map fun D=>X7 D (Ta.Ve D.f o) } (Jv Vq v (ZY o 0 K.D)::R):=by
 have c7:=s.k7
 obtain⟨ao,cap,hdv,hzm,-⟩:=s.spPtr
 have HV:=Ja hdv
 rw[hdv] at c7
 have S1:=Ja (s.nil (E:=Vq)).swap
 have HD:=Ja hd
 clear s hdv hd
 generalize hz:K.D.length=z at *
 have HZ:=Ja hz
 clear hz
 go_enter Tryz.func312,Tryz.ntmps312
 go_wp2_with fail
 go_loopw [5,6,7,9,10,11,17] (fun s5 _ _ _ _ _ s17 wr=>∃ (k:Nat) (D':List (Nat×(Nat->Option Nat))),k<=z/\s17=.int .i64 k/\Sep w0 r wr (kT p { Y with D:=D' } { K with D:=turned (fun D=>X7 D (Ta.Ve D.f o)) K.D k }::Jv Vq s5 (ZY o 0 (K.D.take k))::R)) (fun _ _ _ _ _ _ s17 _=>z - (intOf s17).toNat)
 case atStart=>exact⟨0,Y.D,Jqp _,rfl,by rw[IY];exact S1.out⟩
 case round =>
  clear S1 c7
  obtain⟨k,D',hk,rfl,s2⟩:=hrel
  by_cases hlt:k<z
  ·have hltz:(k:Int)<(z:Int):=by omega
   obtain⟨S,hS⟩:∃ S,K.D[k]? = some S:=⟨_,Jqc (by have:=HZ.out;omega)⟩
   have hg:=M4 (f:=fun D=>X7 D (Ta.Ve D.f o)) hS
   obtain⟨q,v,Q,hy,-,-⟩:=s2.spOf hg
   obtain⟨ao2,cap2,e2,-,hpt⟩:=s2.spPtr
   have e3:=HV.out
   rw[show({ Y with D:=D' }:Ly).dv=Y.dv from rfl,e3] at e2
   simp only[Value.slice.injEq] at e2
   obtain⟨rfl,hln,rfl⟩:=e2
   obtain⟨g,rfl,cq⟩:=hpt k q v hy
   obtain⟨L,hL⟩:∃ L,Ta.Ve S.f o=L:=⟨_,rfl⟩
   have HF:=Ja (Jkn s2 hg hy o hL)
   have HG:=Ja (And.intro hS (And.intro hg (And.intro hy hL)))
   have HS2:=Ja s2
   have hN:∃ N,L.length=N:=⟨_,rfl⟩
   obtain⟨N,hN⟩:=hN
   rw[hN] at HF
   have hN4:N<=4096:=by
    rw[<- hN,<- hL]
    exact Je2 _ _
   have HN:=Ja hN
   clear s2 hS hg hy hL Q hpt e3 hln hN
   go_wp2_with (go_at_call 353;refine Jqa HF.out ?_;rintro e w3 ⟨ao3,cap3,rfl,s3⟩;have S3:=Ja s3;clear s3 cq HF)
   go_loopw [5,9,10,11,26] (fun s5 _ _ _ s26 wr=>∃ (j:Nat) (m':Nat->Option Nat),j<=N/\s26=.int .i64 j/\Sep w0 r wr (kT p { Y with D:=D'.set k (q,m') } { K with D:=(turned (fun D=>X7 D (Ta.Ve D.f o)) K.D k).set k (X7 S (L.take j)) }::Jv Vq s5 (ZY o 0 (K.D.take k)++Vw k S o j)::Ta.Xa (.slice ao3 N cap3) L::R)) (fun _ _ _ _ s26 _=>N - (intOf s26).toNat)
   case atStart =>
    refine⟨0,v,Jqp _,rfl,?_⟩
    rw[Xx HG.out.2.2.1,show X7 S (L.take 0)=S from rfl,Xx HG.out.2.1,show Vw k S o 0=[] from rfl,List.append_nil]
    exact S3.out.third.swap.third.third
   case round =>
    clear S3 HS2
    obtain⟨j,m',hj,rfl,s4⟩:=hrel
    by_cases hlt2:j<N
    ·have hltz2:(j:Int)<(N:Int):=by omega
     obtain⟨n,hn⟩:∃ n,L[j]? = some n:=⟨_,Jqc (by have:=HN.out;omega)⟩
     obtain⟨g3,rfl,hc⟩:=s4.listAt Ta.okI (ao:=ao3) (n:=N) (cap:=cap3) (A:=L) (by simp) hn
     have d0:=hc 0 (.int .i64 n) rfl
     rw[show Ta.Ui.k=1 from rfl,Nat.mul_one,Nat.add_zero] at d0
     have hi2:((turned (fun D=>X7 D (Ta.Ve D.f o)) K.D k).set k (X7 S (L.take j)))[k]? = some (X7 S (L.take j)):=by
      rw[List.getElem?_set_self (List.getElem?_eq_some_iff.1 HG.out.2.1).1]
     have hy2:(D'.set k (q,m'))[k]? = some (q,m'):=Jmd HG.out.2.2.1 _
     have hk2:=Jy7 s4 hi2 hy2 n
     have hP:Ta.Xl (X7 S (L.take j)) n=Ta.Xl S n:=by
      have:=Jj2 (S:=S) (o:=o) (j:=j) (n:=n) (by rw[HG.out.2.2.2];exact hn)
      rw[HG.out.2.2.2] at this
      exact this
     simp only[hP,List.set_set] at hk2
     obtain⟨x,hx⟩:∃ x,Ta.Xl S n=x:=⟨_,rfl⟩
     rw[hx] at hk2
     have HC:=Ja hk2
     have HR:Hid (X7 S (L.take (j+1))=Ta.Ue (X7 S (L.take j)) n/\Vw k S o (j+1)=Vw k S o j++[⟨k,n,x.fr,x.rt⟩]):=by
      refine⟨?_,?_⟩
      ·obtain⟨hjl,rfl⟩:=Jqb.1 hn
       rw[List.take_succ_eq_append_getElem hjl,Jip]
      ·rw[Jdb (n:=n) (by rw[HG.out.2.2.2];exact hn),hx]
     have HLen:Hid ((ZY o 0 (K.D.take k)++Vw k S o j).length<=4096*1000001):=by
      have h1:=Om o (K.D.take k) 0
      have h2:=Fh k S o j
      have h3:=HD.out
      show(ZY o 0 (K.D.take k)++Vw k S o j).length<=4096*1000001
      rw[List.length_take] at h1
      rw[List.length_append]
      omega
     obtain⟨a5,c5,rfl⟩:=s4.listIs (E:=Vq) (v:=u5) (A:=ZY o 0 (K.D.take k)++Vw k S o j) (by simp)
     have HL2:=Ja hlt2
     clear s4 hc hn hi2 hy2 hk2 hP hx hlt2
     generalize hG:ZY o 0 (K.D.take k)++Vw k S o j=G at *
     have HGG:=Ja hG
     clear hG
     go_wp2_with fail
     refine Jqa HC.out ?_
     rintro e w5 ⟨rfl,x3,s5⟩
     have s6:=(s5.box (.cells #[.int .i64 x.fr,.int .i64 x.rt] 182)).third.swap
     obtain⟨v7,w7,r7,s7⟩:=s6.moreB okR 40 ⟨k,n,x.fr,x.rt⟩ (C:=#[.int .i64 k,.int .i64 n,.int .i64 x.fr,.int .i64 x.rt]) rfl (by have:=HLen.out;simp only[Vq];omega) (by have:=HLen.out;unfold maxLen;omega)
     rw[show(w5.alloc (.cells #[.int .i64 x.fr,.int .i64 x.rt] 182)).heap.size=w5.heap.size+1 by simp] at r7
     simp only[Vq] at r7
     have R7:=Ja r7
     have S7:=Ja s7
     clear s5 s6 s7 r7
     generalize G.length=ln at *
     go_wp2_with (at_builtin;refine Jd rfl _ _ _ _ rfl _ _ _ _ rfl rfl R7.out ?_)
     go_roundw
     case rel =>
      refine⟨j+1,x3,by have:=HL2.out;omega,by go_num,?_⟩
      rw[HR.out.1,HR.out.2,<- List.append_assoc,HGG.out]
      exact S7.out.swap.del3
     case measure=>simp[intOf];have:=HL2.out;omega
    ·have hltz2:¬ (j:Int)<(N:Int):=by omega
     obtain rfl:j=N:=by omega
     have hS:=HG.out.1
     have e1:X7 S (L.take j)=(fun D=>X7 D (Ta.Ve D.f o)) S:=by
      show X7 S (L.take j)=X7 S (Ta.Ve S.f o)
      rw[HG.out.2.2.2,<- HN.out,List.take_length]
     have e2:ZY o 0 (K.D.take k)++Vw k S o j=ZY o 0 (K.D.take (k+1)):=by
      rw[Jda hS,<- Fg,HG.out.2.2.2,HN.out]
     rw[e1,e2,M5 (f:=fun D=>X7 D (Ta.Ve D.f o)) hS] at s4
     have S4:=Ja s4.del3
     clear s4
     go_wp2
     go_roundw
     case rel=>exact⟨k+1,_,by omega,by go_num,S4.out⟩
     case measure=>simp[intOf];omega
  ·have hltz:¬ (k:Int)<(z:Int):=by omega
   obtain rfl:k=z:=by omega
   rw[<- HZ.out,M2,List.take_length] at s2
   have S2:=Ja s2
   clear s2
   go_wp2
   go_ret
   exact⟨_,rfl,_,S2.out⟩
theorem Jy6 (s:Sep w0 r w (kT p Y K::R)) {i q:Nat} {v:(Nat->Option Nat)} {S:Ta.Sp} (hi:K.D[i]? = some S) (hy:Y.D[i]? = some (q,v)) (o:Int) :
  Calls Tryz.prog 354 #[Je q,.int .i64 o] w fun e w'=>e=.returned (.tuple #[.int .i64 (Ta.Zw S o),.bool (Ta.Jl S o)])/\Sep w0 r w' (kT p Y K::R):=by
 obtain⟨Q,s1,bk⟩:=s.spIn hi hy
 refine Jqa (Ta.Jx7 s1 o rfl rfl) ?_
 rintro e w' ⟨rfl,h⟩
 have h2:=bk w' _ _ [] h
 rw[Xx hi,Xx hy] at h2
 exact⟨rfl,h2⟩
theorem Jth (s:Sep w0 r w (kT p Y K::R)) {i q:Nat} {v:(Nat->Option Nat)} {S:Ta.Sp} (hi:K.D[i]? = some S) (hy:Y.D[i]? = some (q,v)) (o:Int) {L:List Ta.La} (hL:Ta.AB S o=L) :
  Calls Tryz.prog 355 #[Je q,.int .i64 o] w fun e w'=>∃ ao cap,e=.returned (.tuple #[.slice ao L.length cap,.int .i64 (Ta.Az S o)])/\∃ v',Sep w0 r w' (kT p { Y with D:=Y.D.set i (q,v') } { K with D:=K.D.set i (Ta.Iw S o) }::Ta.AX (.slice ao L.length cap) L::R):=by
 obtain⟨Q,s1,bk⟩:=s.spIn hi hy
 refine Jqa (Ta.Js2 s1 o rfl hL rfl) ?_
 rintro e w' ⟨u,m',rfl,h⟩
 have h2:=bk w' _ _ [_] h
 obtain⟨ao,cap,rfl⟩:=h2.listIs (E:=Ta.elL) (v:=u) (A:=L) (by simp)
 exact⟨ao,cap,rfl,m',h2⟩
theorem EH (s:Sep w0 r w (kT p Y K::R)) (hd:K.D.length<=1000000) (o:Int) :
  Calls Tryz.prog 313 #[Je p,.int .i64 o] w fun e w'=>∃ v,e=.returned v/\KS w0 r w' p { K with D:=K.D.map fun D=>(XM o D 64).1 } (Jv Vq v (ZP o 0 K.D)::R):=by
 have c7:=s.k7
 obtain⟨ao,cap,hdv,hzm,-⟩:=s.spPtr
 have HV:=Ja hdv
 rw[hdv] at c7
 have S1:=Ja (s.nil (E:=Vq)).swap
 have HD:=Ja hd
 clear s hdv hd
 generalize hz:K.D.length=z at *
 have HZ:=Ja hz
 clear hz
 go_enter Tryz.func313,Tryz.ntmps313
 go_wp2_with fail
 go_loopw [5,6,7,8,9,10,11,12,14,20] (fun s5 _ _ _ _ _ _ _ _ s20 wr=>∃ (k:Nat) (D':List (Nat×(Nat->Option Nat))),k<=z/\s20=.int .i64 k/\Sep w0 r wr (kT p { Y with D:=D' } { K with D:=turned (fun D=>(XM o D 64).1) K.D k }::Jv Vq s5 (ZP o 0 (K.D.take k))::R)) (fun _ _ _ _ _ _ _ _ _ s20 _=>z - (intOf s20).toNat)
 case atStart=>exact⟨0,Y.D,Jqp _,rfl,by rw[IY];exact S1.out⟩
 case round =>
  clear S1 c7
  obtain⟨k,D',hk,rfl,s2⟩:=hrel
  by_cases hlt:k<z
  ·have hltz:(k:Int)<(z:Int):=by omega
   obtain⟨S,hS⟩:∃ S,K.D[k]? = some S:=⟨_,Jqc (by have:=HZ.out;omega)⟩
   have hg:=M4 (f:=fun D=>(XM o D 64).1) hS
   obtain⟨q,v,Q,hy,-,-⟩:=s2.spOf hg
   obtain⟨ao2,cap2,e2,-,hpt⟩:=s2.spPtr
   have e3:=HV.out
   rw[show({ Y with D:=D' }:Ly).dv=Y.dv from rfl,e3] at e2
   simp only[Value.slice.injEq] at e2
   obtain⟨rfl,hln,rfl⟩:=e2
   obtain⟨g,rfl,cq⟩:=hpt k q v hy
   have HG:=Ja (And.intro hS (And.intro hg hy))
   have HS2:=Ja s2
   have HLT:=Ja hlt
   clear s2 hS hg hy Q hpt e3 hln hlt
   go_wp2_with fail
   clear cq
   go_loopw [5,8,9,10,11,12,14,25] (fun s5 _ _ _ _ _ _ s25 wr=>∃ (j:Nat) (m':Nat->Option Nat),j<=64/\s25=.int .i64 j/\Sep w0 r wr (kT p { Y with D:=D'.set k (q,m') } { K with D:=(turned (fun D=>(XM o D 64).1) K.D k).set k (XM o S j).1 }::Jv Vq s5 (ZP o 0 (K.D.take k)++Jq k (XM o S j).2)::R)) (fun _ _ _ _ _ _ _ s25 _=>64 - (intOf s25).toNat)
   case atStart =>
    refine⟨0,v,Jqp _,rfl,?_⟩
    rw[Xx HG.out.2.2,show(XM o S 0).1=S from rfl,Xx HG.out.2.1,show Jq (k:Int) (XM o S 0).2=[] from rfl,List.append_nil]
    exact HS2.out
   case round =>
    clear HS2
    obtain⟨j,m',hj,rfl,s4⟩:=hrel
    by_cases hlt2:j<64
    ·have hltz2:(j:Int)<64:=by omega
     obtain⟨X,hX⟩:∃ X,(XM o S j).1=X:=⟨_,rfl⟩
     rw[hX] at s4
     have hi2:((turned (fun D=>(XM o D 64).1) K.D k).set k X)[k]? = some X:=by
      rw[List.getElem?_set_self (List.getElem?_eq_some_iff.1 HG.out.2.1).1]
     have hy2:(D'.set k (q,m'))[k]? = some (q,m'):=Jmd HG.out.2.2 _
     have hk1:=Jy6 s4 hi2 hy2 (j:Int)
     have hmore:=EZ o S j
     unfold MM at hmore
     rw[hX] at hmore
     have HXX:=Ja hX
     have HJL:=Ja (AA o S j)
     obtain⟨b,hb⟩:∃ b,Ta.Jl X (j:Int)=b:=⟨_,rfl⟩
     obtain⟨nn,hnn⟩:∃ nn,Ta.Zw X (j:Int)=nn:=⟨_,rfl⟩
     rw[hb,hnn] at hk1 hmore
     have HC:=Ja hk1
     have HB:=Ja (And.intro hb (And.intro hi2 hy2))
     have HJ2:=Ja hlt2
     clear hk1 hb hnn hX hi2 hy2 s4 hlt2
     by_cases hyes:b=true/\nn=o
     ·obtain⟨rfl,rfl⟩:=hyes
      rw[show(true && nn == nn)=true by simp,if_pos rfl] at hmore
      have HM:=Ja hmore
      have hE0:Ta.Az X (j:Int)=0:=by
       unfold Ta.Az
       rw[if_neg (by have:=HJ2.out;omega)]
       have:=HB.out.1
       unfold Ta.Jl at this
       rw[if_pos this]
      obtain⟨L,hL⟩:∃ L,Ta.plP X.f j=L:=⟨_,rfl⟩
      have hdl:Ta.AB X (j:Int)=L:=by
       unfold Ta.AB
       rw[if_pos hE0,Int.toNat_natCast,hL]
      have HDL:=Ja (And.intro hdl hL)
      clear hmore hE0 hdl hL
      go_wp2_with fail
      refine Jqa HC.out ?_
      rintro e w5 ⟨rfl,s5⟩
      have hk2:=Jth s5 HB.out.2.1 HB.out.2.2 (j:Int) HDL.out.1
      simp only[List.set_set] at hk2
      obtain⟨N,hN⟩:∃ N,L.length=N:=⟨_,rfl⟩
      rw[hN] at hk2
      have HC2:=Ja hk2
      have HN:=Ja hN
      have hN64:N<=64:=by
       rw[<- hN,<- HDL.out.2]
       exact Ta.IP _ _ _
      clear s5 hk2 hN HC
      go_wp2_with fail
      refine Jqa HC2.out ?_
      rintro e w6 ⟨ao3,cap3,rfl,m2,s6⟩
      have S6:=Ja s6
      clear s6 HC2
      go_wp2_with fail
      go_loopw [5,14,49] (fun s5 _ s49 wr=>∃ (i:Nat),i<=N/\s49=.int .i64 i/\Sep w0 r wr (kT p { Y with D:=D'.set k (q,m2) } { K with D:=(turned (fun D=>(XM nn D 64).1) K.D k).set k (Ta.Iw X (j:Int)) }::Jv Vq s5 (ZP nn 0 (K.D.take k)++Jq k (XM nn S j).2++Jq k (L.take i))::Ta.AX (.slice ao3 N cap3) L::R)) (fun _ _ s49 _=>N - (intOf s49).toNat)
      case atStart =>
       refine⟨0,Jqp _,rfl,?_⟩
       rw[show Jq (k:Int) (L.take 0)=[] from rfl,List.append_nil]
       exact S6.out.third.swap.third.third
      case round =>
       clear S6
       obtain⟨i,hi,rfl,s7⟩:=hrel
       by_cases hlt3:i<N
       ·have hltz3:(i:Int)<(N:Int):=by omega
        obtain⟨x,hx⟩:∃ x,L[i]? = some x:=⟨_,Jqc (by have:=HN.out;omega)⟩
        obtain⟨g3,rfl,hc⟩:=s7.listAt Ta.okL (ao:=ao3) (n:=N) (cap:=cap3) (A:=L) (by simp) hx
        have d0:wr.cell? ⟨g3,i*3,none⟩=some (.int .i64 x.1):=hc 0 _ rfl
        have d1:wr.cell? ⟨g3,i*3+1,none⟩=some (.int .i64 x.2.fr):=hc 1 _ rfl
        have d2:wr.cell? ⟨g3,i*3+2,none⟩=some (.int .i64 x.2.rt):=hc 2 _ rfl
        have HR:Hid (Jq (k:Int) (L.take (i+1))=Jq (k:Int) (L.take i)++[⟨k,x.1,x.2.fr,x.2.rt⟩]):=by
         obtain⟨hil,rfl⟩:=Jqb.1 hx
         show Jq (k:Int) (L.take (i+1))=_
         rw[List.take_succ_eq_append_getElem hil,Fu]
         rfl
        have HLen:Hid ((ZP nn 0 (K.D.take k)++Jq (k:Int) (XM nn S j).2++Jq (k:Int) (L.take i)).length<=4096*1000001):=by
         have h1:=Oo nn (K.D.take k) 0
         have h2:=HJL.out
         have h3:=HD.out
         have h4:=HLT.out
         have h5:=HJ2.out
         show(ZP nn 0 (K.D.take k)++Jq (k:Int) (XM nn S j).2++Jq (k:Int) (L.take i)).length<=4096*1000001
         rw[List.length_take] at h1
         rw[List.length_append,List.length_append,Ow,Ow,List.length_take]
         omega
        obtain⟨a5,c5,rfl⟩:=s7.listIs (E:=Vq) (v:=u5) (A:=ZP nn 0 (K.D.take k)++Jq (k:Int) (XM nn S j).2++Jq (k:Int) (L.take i)) (by simp)
        generalize hG:ZP nn 0 (K.D.take k)++Jq (k:Int) (XM nn S j).2++Jq (k:Int) (L.take i)=G at *
        have HGG:=Ja hG
        have s8:=(s7.box (.cells #[.int .i64 x.1,.int .i64 x.2.fr,.int .i64 x.2.rt] 184)).third.swap
        obtain⟨v9,w9,r9,s9⟩:=s8.moreB okR 40 ⟨k,x.1,x.2.fr,x.2.rt⟩ (C:=#[.int .i64 k,.int .i64 x.1,.int .i64 x.2.fr,.int .i64 x.2.rt]) rfl (by have:=HLen.out;simp only[Vq];omega) (by have:=HLen.out;unfold maxLen;omega)
        rw[show(wr.alloc (.cells #[.int .i64 x.1,.int .i64 x.2.fr,.int .i64 x.2.rt] 184)).heap.size=wr.heap.size+1 by simp] at r9
        simp only[Vq] at r9
        have R9:=Ja r9
        have S9:=Ja s9
        have HL3:=Ja hlt3
        clear s7 s8 s9 r9 hc hx hG hlt3
        generalize G.length=ln at *
        go_wp2_with (at_builtin;refine Jd rfl _ _ _ _ rfl _ _ _ _ rfl rfl R9.out ?_)
        go_roundw
        case rel =>
         refine⟨i+1,by have:=HL3.out;omega,by go_num,?_⟩
         rw[HR.out,<- List.append_assoc,HGG.out]
         exact S9.out.swap.del3
        case measure=>simp[intOf];have:=HL3.out;omega
       ·have hltz3:¬ (i:Int)<(N:Int):=by omega
        obtain rfl:i=N:=by omega
        have e1:ZP nn 0 (K.D.take k)++Jq (k:Int) (XM nn S j).2++Jq (k:Int) (L.take i)=ZP nn 0 (K.D.take k)++Jq (k:Int) (XM nn S (j+1)).2:=by
         rw[HM.out,<- HN.out,List.take_length,List.append_assoc,<- Fu,HDL.out.2]
        have e2:Ta.Iw X (j:Int)=(XM nn S (j+1)).1:=by rw[HM.out]
        rw[e1,e2] at s7
        have S7:=Ja s7.del3
        clear s7 e1 e2
        go_wp2
        go_roundw
        case rel=>exact⟨j+1,m2,by have:=HJ2.out;omega,by go_num,S7.out⟩
        case measure=>simp[intOf];have:=HJ2.out;omega
     ·have hno:(b && nn == o)=false:=by
       cases b with
       | false=>rfl
       | true =>
        have:nn≠o:=fun e=>hyes ⟨rfl,e⟩
        simpa using this
      rw[hno,if_neg (by decide)] at hmore
      have HM:=Ja hmore
      have hcase:b=false\/(b=true/\nn≠o):=by
       cases b with
       | false=>exact .inl rfl
       | true=>exact .inr ⟨rfl,fun e=>hyes ⟨rfl,e⟩⟩
      clear hmore hno hyes
      rcases hcase with rfl|⟨rfl,hne⟩
      ·go_wp2_with (go_at_call 354;refine Jqa HC.out ?_;rintro e w5 ⟨rfl,s5⟩;have S5:=Ja s5;clear s5 HC)
       go_roundw
       case rel=>exact⟨j+1,m',by have:=HJ2.out;omega,by go_num,by rw[HM.out,HXX.out];exact S5.out⟩
       case measure=>simp[intOf];have:=HJ2.out;omega
      ·have hne1:(nn != o)=true:=by simpa using hne
       have hne2:(nn == o)=false:=by simpa using hne
       clear hne
       go_wp2_with (go_at_call 354;refine Jqa HC.out ?_;rintro e w5 ⟨rfl,s5⟩;have S5:=Ja s5;clear s5 HC)
       go_roundw
       case rel=>exact⟨j+1,m',by have:=HJ2.out;omega,by go_num,by rw[HM.out,HXX.out];exact S5.out⟩
       case measure=>simp[intOf];have:=HJ2.out;omega
    ·have hltz2:¬ (j:Int)<64:=by omega
     obtain rfl:j=64:=by omega
     have hS:=HG.out.1
     rw[<- Jdc hS,M5 (f:=fun D=>(XM o D 64).1) hS] at s4
     have S4:=Ja s4
     clear s4
     go_wp2
     go_roundw
     case rel=>exact⟨k+1,_,by have:=HLT.out;omega,by go_num,S4.out⟩
     case measure=>simp[intOf];have:=HLT.out;omega
  ·have hltz:¬ (k:Int)<(z:Int):=by omega
   obtain rfl:k=z:=by omega
   rw[<- HZ.out,M2,List.take_length] at s2
   have S2:=Ja s2
   clear s2
   go_wp2
   go_ret
   exact⟨_,rfl,_,S2.out⟩
theorem Jp5 {n:Int} (h0:0<=n) (h1:n<=63):IntKind.u64.wrap n=n:=by
 rw[IntKind.wrap_u64]
 omega
theorem Jkx (s:Sep w0 r w (kT p Y K::R)) (h6:(K.S.getD 0 []).length=64) {n:Int} (h0:0<=n) (h1:n<=63) :
  Calls Tryz.prog 102 #[Je Y.n,.agg #[.int .i64 2,.int .i64 0,.int .i64 7,.int .u64 0,.int .u64 0,.int .i64 0],.int .u64 n,.int .i64 6] w fun e w'=>e=.returned (.tuple #[.agg #[.int .i64 0,.int .i64 n],.int .i64 0])/\Below w.heap.size w w':=by
 have h:=Jti s ⟨2,0,7,0,0,0⟩ n 6 ⟨⟨by decide,by decide⟩,⟨by decide,by decide⟩,⟨by decide,by decide⟩,⟨by decide,by decide⟩,⟨by decide,by decide⟩,⟨by decide,by decide⟩⟩ ⟨h0,by omega⟩
 rw[J0f h6 h0 h1] at h
 exact h
theorem Sep.put2 {q:Nat} {a b:Value} {ty:TypeId} (s:Sep w0 r w (blk q (.cells #[a,b] ty)::R)) (c d:Value):Sep w0 r ((w.setCell ⟨q,0,none⟩ c).setCell ⟨q,1,none⟩ d) (blk q (.cells #[c,d] ty)::R):=by
 have:=(s.putB 0 c).putB 1 d
 simpa using this
theorem Sep.cells2 {q:Nat} {a b:Value} {ty:TypeId} (s:Sep w0 r w R) (h:blk q (.cells #[a,b] ty)∈R):w.cell? ⟨q,0,none⟩=some a/\w.cell? ⟨q,1,none⟩=some b/\w.frozen? ⟨q,0,none⟩=false/\w.frozen? ⟨q,1,none⟩=false:=
 ⟨(s.blkCell h 0).1,(s.blkCell h 1).1,(s.blkCell h 0).2,(s.blkCell h 1).2⟩
theorem Eq (s:Sep w0 r w (kT p Y K::R)) (h6:(K.S.getD 0 []).length=64) {n:Int} (h0:0<=n) (h1:n<=63) :
  Calls Tryz.prog 39 #[Je p,.int .i64 n] w fun e w'=>e=.returned (.tuple #[.agg #[.int .i64 0,.int .i64 n],.bool true])/\Sep w0 r w' (kT p Y K::R):=by
 have hq0:¬ n<0:=by omega
 have hq1:¬ n ≥ 64:=by omega
 have hu:=Jp5 h0 h1
 have s1:=(s.box (.cells #[.int .i64 0,.int .i64 0] 80)).swap
 have c0:=s1.k0
 have S1:=Ja s1
 have HU:=Ja (And.intro h0 h1)
 clear s s1 h0 h1
 generalize hw:w.alloc (.cells #[.int .i64 0,.int .i64 0] 80)=w1 at *
 have HW:=Ja hw
 clear hw
 go_enter Tryz.func39,Tryz.ntmps39
 go_wp2_with (first|rw[HW.out]|fail)
 generalize w.heap.size=q at *
 have SB:=Ja (S1.out.box (.cells #[.int .i64 0,.int .i64 0] 80)).swap.drew
 have c0a:=Jx c0 (.cells #[.int .i64 0,.int .i64 0] 80)
 go_cut [6,7] from 15 to 25 (fun s6 s7 wx=>∃ k,s6=.pointer (some ⟨k,0,none⟩)/\s7=.int .i64 0/\Sep w0 r wx (blk k (.cells #[.int .i64 0,.int .i64 n] 80)::kT p Y K::blk q (.cells #[.int .i64 0,.int .i64 0] 80)::R))
 case first =>
  go_region_with (first
   | (go_at_call 34;(with_reducible refine Jqa (X8 2 0 (w1.alloc (.cells #[.int .i64 0,.int .i64 0] 80)).drew) ?_);rintro e w2 ⟨rfl,b2⟩;have SA:=Ja (SB.out.below b2);have c2:=SA.out.k0;clear b2;simp only[EF])
   | (go_at_call 34;(with_reducible refine Jqa (X8 2 0 w1.drew) ?_);rintro e w2 ⟨rfl,b2⟩;have SN:=Ja (S1.out.drew.below b2);have c2:=SN.out.k0;have c2a:=Jx c2 (.cells #[.int .i64 0,.int .i64 0] 80);have SM:=Ja (SN.out.box (.cells #[.int .i64 0,.int .i64 0] 80)).swap;clear b2;simp only[EF])
   | (go_at_call 102;(with_reducible refine Jqa (Jkx SA.out h6 HU.out.1 HU.out.2) ?_);rintro e w3 ⟨rfl,b3⟩;have s3:=(SA.out.below b3).swap;obtain⟨z0,z1,z2,z3⟩:=s3.cells2 (Jms);have S5:=Ja (s3.put2 (.int .i64 0) (.int .i64 n));clear s3 b3)
   | (go_at_call 102;(with_reducible refine Jqa (Jkx SM.out h6 HU.out.1 HU.out.2) ?_);rintro e w3 ⟨rfl,b3⟩;have s3:=(SM.out.below b3).swap;obtain⟨z0,z1,z2,z3⟩:=s3.cells2 (Jms);have S5:=Ja (s3.put2 (.int .i64 0) (.int .i64 n));clear s3 b3)
   | (go_at_call 102;(with_reducible refine Jqa (Jkx SN.out h6 HU.out.1 HU.out.2) ?_);rintro e w3 ⟨rfl,b3⟩;have S5:=Ja ((SN.out.below b3).box (.cells #[.int .i64 0,.int .i64 n] 80));clear b3))
  all_goals go_wp2_with fail
  all_goals go_meet
  all_goals exact⟨_,rfl,rfl,S5.out⟩
 case rest =>
  obtain⟨k,rfl,rfl,s3⟩:=hcut
  obtain⟨z0,z1,-,-⟩:=s3.cells2 (Jms)
  have s4:=s3.drop.swap
  obtain⟨y0,y1,y2,y3⟩:=s4.cells2 (Jms)
  have s5:=s4.put2 (.int .i64 0) (.int .i64 n)
  obtain⟨r0,r1,-,-⟩:=s5.cells2 (Jms)
  have S5:=Ja s5.drop
  have R5:=Ja (And.intro r0 r1)
  clear s3 s4 s5 r0 r1 c0 c0a S1 SB
  go_wp2
  refine bodyPost_ret (v:=.tuple #[.agg #[.int .i64 0,.int .i64 n],.bool true]) ?_ rfl ⟨rfl,S5.out⟩
  simp[results,Tryz.f39,go_sem,R5.out.1,R5.out.2]
theorem Jfx (s:Sep w0 r w (kT p Y K::R)) {n:Int} (h:¬ (0<=n/\n<=63)) :
  Calls Tryz.prog 39 #[Je p,.int .i64 n] w fun e w'=>e=.returned (.tuple #[.agg #[.int .i64 0,.int .i64 0],.bool false])/\Sep w0 r w' (kT p Y K::R):=by
 have S1:=Ja (s.below (Jb w (.cells #[.int .i64 0,.int .i64 0] 80)))
 clear s
 by_cases h0:n<0
 ·go_enter Tryz.func39,Tryz.ntmps39
  go_wp2
  refine bodyPost_ret (v:=.tuple #[.agg #[.int .i64 0,.int .i64 0],.bool false]) ?_ rfl ⟨rfl,S1.out⟩
  simp[results,Tryz.f39,go_sem]
 ·have h1:n ≥ 64:=by omega
  clear h
  go_enter Tryz.func39,Tryz.ntmps39
  go_wp2
  refine bodyPost_ret (v:=.tuple #[.agg #[.int .i64 0,.int .i64 0],.bool false]) ?_ rfl ⟨rfl,S1.out⟩
  simp[results,Tryz.f39,go_sem]
theorem Sep.put6 {q:Nat} {a b c d e f:Value} {ty:TypeId} (s:Sep w0 r w (blk q (.cells #[a,b,c,d,e,f] ty)::R)) (a' b' c' d' e' f':Value):Sep w0 r ((((((w.setCell ⟨q,0,none⟩ a').setCell ⟨q,1,none⟩ b').setCell ⟨q,2,none⟩ c').setCell ⟨q,3,none⟩ d').setCell ⟨q,4,none⟩ e').setCell ⟨q,5,none⟩ f') (blk q (.cells #[a',b',c',d',e',f'] ty)::R):=by
 have:=(((((s.putB 0 a').putB 1 b').putB 2 c').putB 3 d').putB 4 e').putB 5 f'
 simpa using this
theorem Sep.cells6 {q:Nat} {a b c d e f:Value} {ty:TypeId} (s:Sep w0 r w R) (h:blk q (.cells #[a,b,c,d,e,f] ty)∈R):w.cell? ⟨q,0,none⟩=some a/\w.cell? ⟨q,1,none⟩=some b/\w.cell? ⟨q,2,none⟩=some c/\w.cell? ⟨q,3,none⟩=some d/\w.cell? ⟨q,4,none⟩=some e/\w.cell? ⟨q,5,none⟩=some f/\∀ j,w.frozen? ⟨q,j,none⟩=false:=
 ⟨(s.blkCell h 0).1,(s.blkCell h 1).1,(s.blkCell h 2).1,(s.blkCell h 3).1,(s.blkCell h 4).1,(s.blkCell h 5).1,fun j=>(s.blkCell h j).2⟩
theorem Jn2 (s:Sep w0 r w (kT p Y K::R)) {n:Int} (h0:0<=n) (h1:n<=63) {c:Sl.Cp} (hc:Jk K n=c) :
  Calls Tryz.prog 202 #[Je Y.n,.agg #[.int .i64 0,.int .i64 n]] w fun e w'=>∃ x,e=.returned (.tuple #[.agg #[.int .i64 c.k,.int .i64 c.o,.int .i64 c.r,.int .u64 c.b,.int .u64 c.g,.int .i64 c.z],.int .i64 x])/\Below w.heap.size w w':=by
 have e1:Sl.Vt K.S ⟨0,n⟩=c:=by
  rw[<- hc]
  unfold Jk
  rw[if_pos ⟨h0,h1⟩]
  rfl
 have h:=Jy5 s ⟨0,n⟩ ⟨⟨by show _<=(0:Int);omega,by show(0:Int)<=_;omega⟩,⟨by show _<=n;omega,by show n<=_;omega⟩⟩
 rw[e1] at h
 exact h.mono fun e w' k=>⟨_,k.1,k.2⟩
theorem Jj8 (s:Sep w0 r w (kT p Y K::R)) (h6:(K.S.getD 0 []).length=64) {n:Int} (h0:0<=n) (h1:n<=63) {c:Sl.Cp} (hc:Jk K n=c) :
  Calls Tryz.prog 143 #[Je p,.int .i64 n] w fun e w'=>e=.returned (.tuple #[.agg #[.int .i64 0,.int .i64 n],.agg #[.int .i64 c.k,.int .i64 c.o,.int .i64 c.r,.int .u64 c.b,.int .u64 c.g,.int .i64 c.z],.bool (c.k != 0)])/\Sep w0 r w' (kT p Y K::R):=by
 have s1:=((s.box (.cells #[.int .i64 0,.int .i64 0] 80)).swap.box (.cells #[.int .i64 0,.int .i64 0,.int .i64 0,.int .u64 0,.int .u64 0,.int .i64 0] 82)).swap
 have S1:=Ja s1
 have HU:=Ja (And.intro h0 h1)
 have HC:=Ja hc
 clear s s1 h0 h1 hc
 rw[show(w.alloc (.cells #[.int .i64 0,.int .i64 0] 80)).heap.size=w.heap.size+1 by simp] at S1
 generalize hw:(w.alloc (.cells #[.int .i64 0,.int .i64 0] 80)).alloc (.cells #[.int .i64 0,.int .i64 0,.int .i64 0,.int .u64 0,.int .u64 0,.int .i64 0] 82)=w1 at *
 have HW:=Ja hw
 clear hw
 generalize hck:(c.k != 0)=ck
 go_enter Tryz.func143,Tryz.ntmps143
 go_wp2_with (first
  | rw[HW.out]
  | (go_at_call 39;refine Jqa (Eq S1.out h6 HU.out.1 HU.out.2) ?_;rintro e w2 ⟨rfl,s2⟩;have S2:=Ja (s2.box (.cells #[.int .i64 0,.int .i64 n] 80)).swap;have c0:=S2.out.k0;obtain⟨z0,z1,-,-⟩:=S2.out.cells2 (q:=w2.heap.size) (a:=.int .i64 0) (b:=.int .i64 n) (ty:=80) (by simp);clear s2 S1)
  | fail)
 have HS:=Ja S2.out
 generalize w2.alloc (.cells #[.int .i64 0,.int .i64 n] 80)=w3 at *
 generalize w2.heap.size=k at *
 generalize w.heap.size+1=q2 at *
 generalize w.heap.size=q at *
 clear S2
 have SB:=Ja (HS.out.box (.cells #[.int .i64 0,.int .i64 0,.int .i64 0,.int .u64 0,.int .u64 0,.int .i64 0] 82)).swap.drew
 have c0a:=Jx c0 (.cells #[.int .i64 0,.int .i64 0,.int .i64 0,.int .u64 0,.int .u64 0,.int .i64 0] 82)
 have z0a:=Jx z0 (.cells #[.int .i64 0,.int .i64 0,.int .i64 0,.int .u64 0,.int .u64 0,.int .i64 0] 82)
 have z1a:=Jx z1 (.cells #[.int .i64 0,.int .i64 0,.int .i64 0,.int .u64 0,.int .u64 0,.int .i64 0] 82)
 go_cut [9,10] from 21 to 29 (fun s9 s10 wx=>∃ k2 x,s9=.pointer (some ⟨k2,0,none⟩)/\s10=.int .i64 x/\Sep w0 r wx (blk k2 (.cells #[.int .i64 c.k,.int .i64 c.o,.int .i64 c.r,.int .u64 c.b,.int .u64 c.g,.int .i64 c.z] 82)::kT p Y K::blk k (.cells #[.int .i64 0,.int .i64 n] 80)::blk q2 (.cells #[.int .i64 0,.int .i64 0,.int .i64 0,.int .u64 0,.int .u64 0,.int .i64 0] 82)::blk q (.cells #[.int .i64 0,.int .i64 0] 80)::R))
 case first =>
  go_region_with (first
   | (go_at_call 202;(with_reducible refine Jqa (Jn2 SB.out HU.out.1 HU.out.2 HC.out) ?_);rintro e w4 ⟨x,rfl,b4⟩;have s4:=(SB.out.below b4).swap;obtain⟨y0,y1,y2,y3,y4,y5,yf⟩:=s4.cells6 (Jms);have yf0:=yf 0;have yf1:=yf 1;have yf2:=yf 2;have yf3:=yf 3;have yf4:=yf 4;have yf5:=yf 5;have S5:=Ja (s4.put6 (.int .i64 c.k) (.int .i64 c.o) (.int .i64 c.r) (.int .u64 c.b) (.int .u64 c.g) (.int .i64 c.z));clear s4 b4 yf)
   | (go_at_call 202;(with_reducible refine Jqa (Jn2 HS.out.drew HU.out.1 HU.out.2 HC.out) ?_);rintro e w4 ⟨x,rfl,b4⟩;have S5:=Ja ((HS.out.drew.below b4).box (.cells #[.int .i64 c.k,.int .i64 c.o,.int .i64 c.r,.int .u64 c.b,.int .u64 c.g,.int .i64 c.z] 82));clear b4))
  all_goals go_wp2_with fail
  all_goals go_meet
  all_goals exact⟨_,_,rfl,rfl,S5.out⟩
 case rest =>
  obtain⟨k2,x,rfl,rfl,s5⟩:=hcut
  clear c0 c0a z0 z1 z0a z1a SB HS HC
  obtain⟨a0,a1,a2,a3,a4,a5,-⟩:=s5.cells6 (q:=k2) (a:=.int .i64 c.k) (Jms)
  obtain⟨z0,z1,-,-⟩:=s5.cells2 (q:=k) (a:=.int .i64 0) (b:=.int .i64 n) (ty:=80) (by simp)
  have s6:=s5.drop.drop2.third.swap
  obtain⟨b0,b1,b2,b3⟩:=s6.cells2 (Jms)
  obtain⟨e0,e1,e2,e3,e4,e5,ef⟩:=s6.swap.cells6 (Jms)
  have ef0:=ef 0
  have ef1:=ef 1
  have ef2:=ef 2
  have ef3:=ef 3
  have ef4:=ef 4
  have ef5:=ef 5
  obtain⟨p1,p2⟩:=Jqq.1 s5.apart
  obtain⟨-,p3⟩:=Jqq.1 p2
  obtain⟨p4,-⟩:=Jqq.1 p3
  have n1:k2≠q:=p1 (blk q (.cells #[.int .i64 0,.int .i64 0] 80)) (by simp) k2 rfl
  have n2:k2≠q2:=p1 (blk q2 (.cells #[.int .i64 0,.int .i64 0,.int .i64 0,.int .u64 0,.int .u64 0,.int .i64 0] 82)) (by simp) k2 rfl
  have n3:k≠q:=p4 (blk q (.cells #[.int .i64 0,.int .i64 0] 80)) (by simp) k rfl
  have n4:k≠q2:=p4 (blk q2 (.cells #[.int .i64 0,.int .i64 0,.int .i64 0,.int .u64 0,.int .u64 0,.int .i64 0] 82)) (by simp) k rfl
  clear p1 p2 p3 p4
  have hne:q≠q2:=fun e=>(Jqq.1 s6.apart).1 _ (Jms) q rfl e
  have hne2:q2≠q:=hne.symm
  have s7:=((s6.put2 (.int .i64 0) (.int .i64 n)).swap.put6 (.int .i64 c.k) (.int .i64 c.o) (.int .i64 c.r) (.int .u64 c.b) (.int .u64 c.g) (.int .i64 c.z)).drew
  obtain⟨g0,g1,g2,g3,g4,g5,-⟩:=s7.cells6 (Jms)
  obtain⟨h0,h1,-,-⟩:=s7.cells2 (q:=q) (a:=.int .i64 0) (b:=.int .i64 n) (ty:=80) (by simp)
  have S7:=Ja s7.drop.drop
  have G7:=Ja (And.intro (And.intro g0 g1) (And.intro (And.intro g2 g3) (And.intro g4 g5)))
  have H7:=Ja (And.intro h0 h1)
  have HCK:=Ja hck
  clear s5 s6 s7 g0 g1 g2 g3 g4 g5 h0 h1 ef hck
  go_wp2_with fail
  go_region
  all_goals go_wp2
  all_goals refine bodyPost_ret (v:=.tuple #[.agg #[.int .i64 0,.int .i64 n],.agg #[.int .i64 c.k,.int .i64 c.o,.int .i64 c.r,.int .u64 c.b,.int .u64 c.g,.int .i64 c.z],.bool ck]) ?_ rfl ⟨rfl,S7.out⟩
  all_goals simp[results,Tryz.f143,go_sem,G7.out.1.1,G7.out.1.2,G7.out.2.1.1,G7.out.2.1.2,G7.out.2.2.1,G7.out.2.2.2,H7.out.1,H7.out.2]
  all_goals exact HCK.out
theorem Jn8 (s:Sep w0 r w (kT p Y K::R)) {n:Int} (h:¬ (0<=n/\n<=63)) :
  Calls Tryz.prog 143 #[Je p,.int .i64 n] w fun e w'=>e=.returned (.tuple #[.agg #[.int .i64 0,.int .i64 0],.agg #[.int .i64 0,.int .i64 0,.int .i64 0,.int .u64 0,.int .u64 0,.int .i64 0],.bool false])/\Sep w0 r w' (kT p Y K::R):=by
 have s1:=((s.box (.cells #[.int .i64 0,.int .i64 0] 80)).swap.box (.cells #[.int .i64 0,.int .i64 0,.int .i64 0,.int .u64 0,.int .u64 0,.int .i64 0] 82)).swap
 have S1:=Ja s1
 have HN:=Ja h
 clear s s1 h
 rw[show(w.alloc (.cells #[.int .i64 0,.int .i64 0] 80)).heap.size=w.heap.size+1 by simp] at S1
 generalize hw:(w.alloc (.cells #[.int .i64 0,.int .i64 0] 80)).alloc (.cells #[.int .i64 0,.int .i64 0,.int .i64 0,.int .u64 0,.int .u64 0,.int .i64 0] 82)=w1 at *
 have HW:=Ja hw
 clear hw
 go_enter Tryz.func143,Tryz.ntmps143
 go_wp2_with (first|rw[HW.out]|fail)
 refine Jqa (Jfx S1.out HN.out) ?_
 rintro e w2 ⟨rfl,s2⟩
 have s3:=((s2.box (.cells #[.int .i64 0,.int .i64 0] 80)).swap).drop2
 obtain⟨y0,y1,y2,y3,y4,y5,yf⟩:=s3.swap.cells6 (Jms)
 have yf0:=yf 0
 have yf1:=yf 1
 have yf2:=yf 2
 have yf3:=yf 3
 have yf4:=yf 4
 have yf5:=yf 5
 have s4:=s3.third.swap
 obtain⟨x0,x1,x2,x3⟩:=s4.cells2 (Jms)
 have hn1:w.heap.size+1≠w.heap.size:=by omega
 have s5:=(s4.put2 (.int .i64 0) (.int .i64 0)).swap.put6 (.int .i64 0) (.int .i64 0) (.int .i64 0) (.int .u64 0) (.int .u64 0) (.int .i64 0)
 obtain⟨g0,g1,g2,g3,g4,g5,-⟩:=s5.cells6 (Jms)
 obtain⟨h0,h1,-,-⟩:=s5.swap.cells2 (Jms)
 have S7:=Ja s5.drop.drop
 have G7:=Ja (And.intro (And.intro g0 g1) (And.intro (And.intro g2 g3) (And.intro g4 g5)))
 have H7:=Ja (And.intro h0 h1)
 clear s2 s3 s4 s5 g0 g1 g2 g3 g4 g5 h0 h1 yf S1
 go_wp2
 refine bodyPost_ret (v:=.tuple #[.agg #[.int .i64 0,.int .i64 0],.agg #[.int .i64 0,.int .i64 0,.int .i64 0,.int .u64 0,.int .u64 0,.int .i64 0],.bool false]) ?_ rfl ⟨rfl,S7.out⟩
 simp[results,Tryz.f143,go_sem,G7.out.1.1,G7.out.1.2,G7.out.2.1.1,G7.out.2.1.2,G7.out.2.2.1,G7.out.2.2.2,H7.out.1,H7.out.2]
end
end
end Go.Proofs.YtbfjjpdnoalojaaGreatDoor
