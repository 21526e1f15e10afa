/- Below: KpIr KpTa KrMath KEl KF1 KFr; no condition. -/
import Derived.Test.YtbfjjpdnoalojaaGreatDoorPa1
import Derived.Test.YtbfjjpdnoalojaaGreatDoorPa2
import Derived.Test.YtbfjjpdnoalojaaGreatDoorPa3
set_option maxHeartbeats 16000000
namespace Go.Proofs.YtbfjjpdnoalojaaGreatDoor
namespace Ir
abbrev Is:=Option (Option Bool)
def num:Is->Int
 | none=>0
 | some none=>1
 | some (some false)=>2
 | some (some true)=>3
structure Ln where
 s:Is
 a:Int
 g:Int
def ln0:Ln:=⟨none,0,0⟩
def atI (S:List Ln) (n:Int):Option Ln:=if 0<=n then S[n.toNat]? else none
def Md (S:List Ln) (n:Int) (x:Ln):List Ln:=S.set n.toNat x
def Jiz (x:Ln):Ln:=match x.s with
 | none=>x
 | some none=>x
 | some (some false)=>⟨(some none),x.a,x.g⟩
 | some (some true)=>⟨(some (some false)),x.a,x.g⟩
def isO (x:Ln):Bool:=match x.s with
 | some none=>true
 | _=>false
def isM (x:Ln):Bool:=match x.s with
 | some (some true)=>true
 | _=>false
def isU (x:Ln):Bool:=match x.s with
 | none=>true
 | _=>false
def Jw3 (S:List Ln) (n a:Int):Int:=match atI S n with
 | none=>130
 | some x=>if a<0 then 1 else if isU x=true then 0 else 131
def Jev (S:List Ln) (n a g:Int):List Ln:=match atI S n with
 | none=>S
 | some x=>if a<0 then S else if isU x=true then Md S n ⟨(some none),a,g⟩ else S
def J0i (S:List Ln) (n:Int):Int:=match atI S n with
 | none=>130
 | some _=>0
def J05 (f:Ln->Bool) (S:List Ln) (n:Int):Bool:=match atI S n with
 | none=>false
 | some x=>f x
def J0h (f:Ln->Bool) (S:List Ln) (n:Int):Int:=match atI S n with
 | none=>0
 | some x=>if f x=true then x.a else 0
def Jt8 (f:Ln->Bool) (S:List Ln) (n:Int):Int:=match atI S n with
 | none=>0
 | some x=>if f x=true then x.g else 0
def Jif (h:Ln->Ln) (S:List Ln) (n:Int):List Ln:=match atI S n with
 | none=>S
 | some x=>Md S n (h x)
theorem UO (S:List Ln) (n:Int) (x:Ln):(Md S n x).length=S.length:=by simp[Md]
theorem Jjk (S:List Ln) (n a g:Int):(Jev S n a g).length=S.length:=by
 unfold Jev
 split
 ·rfl
 ·split
  ·rfl
  ·split
   ·exact UO _ _ _
   ·rfl
theorem Jp0 (h:Ln->Ln) (S:List Ln) (n:Int):(Jif h S n).length=S.length:=by
 unfold Jif
 split
 ·rfl
 ·exact UO _ _ _
theorem GT {S:List Ln} {n:Int} {x:Ln} (h:atI S n=some x):0<=n/\n<S.length/\S[n.toNat]? = some x:=by
 unfold atI at h
 split at h
 ·rename_i h0
  have:=(Jqb.1 h).1
  exact⟨h0,by omega,h⟩
 ·cases h
end Ir
namespace Ta
structure Pg where
 fr:Int
 rt:Int
def pg0:Pg:=⟨0,0⟩
structure Sp where
 t:Int->Option Int
 f:Int->Option Pg
def FN:Sp:=⟨fun _=>none,fun _=>none⟩
def UR {α:Type} (g:Int->α) (i:Int) (v:α):Int->α:=fun j=>if j=i then v else g j
structure Good (S:Sp):Prop where
 t:∀ i m,S.t i=some m->0<=i/\i<64/\0<=m
 f:∀ n p,S.f n=some p->0<=n/\n<4096/\(S.t (n / 64)).isSome=true
theorem Je5:Good FN:=⟨fun _ _ h=>(by cases h),fun _ _ h=>(by cases h)⟩
theorem Good.nothing {S:Sp} (g:Good S) {n:Int} (h:S.t (n / 64)=none):S.f n=none:=by
 cases e:S.f n with
 | none=>rfl
 | some p =>
  have:=(g.f n p e).2.2
  rw[h] at this
  cases this
theorem Good.out {S:Sp} (g:Good S) {n:Int} (h:n<0\/4096<=n):S.f n=none:=by
 cases e:S.f n with
 | none=>rfl
 | some p =>
  have:=g.f n p e
  omega
theorem Good.outT {S:Sp} (g:Good S) {i:Int} (h:i<0\/64<=i):S.t i=none:=by
 cases e:S.t i with
 | none=>rfl
 | some p =>
  have:=g.t i p e
  omega
def Oa (S:Sp) (n:Int):Bool:=(List.range 64).any fun k=>S.t (k:Nat) == some n
theorem EU {S:Sp} {n:Int}:Oa S n=true↔∃ k:Nat,k<64/\S.t k=some n:=by
 unfold Oa
 rw[List.any_eq_true]
 constructor
 ·rintro⟨k,hk,h⟩
  exact⟨k,List.mem_range.1 hk,by simpa using h⟩
 ·rintro⟨k,hk,h⟩
  exact⟨k,List.mem_range.2 hk,by simpa using h⟩
def IS (S:Sp) (i n:Int):Int:=if i<0\/64<=i\/n<0 then 1 else if (S.t i).isSome=true\/Oa S n=true then 140 else 0
def IT (S:Sp) (i n:Int):Sp:=if IS S i n=0 then ⟨UR S.t i (some n),S.f⟩ else S
def Az (S:Sp) (i:Int):Int:=if i<0\/64<=i then 1 else if (S.t i).isSome=true then 0 else 141
def Eh (f:Int->Option Pg) (i:Int):Int->Option Pg:=fun n=>if n / 64=i then none else f n
def Iw (S:Sp) (i:Int):Sp:=if Az S i=0 then ⟨UR S.t i none,Eh S.f i⟩ else S
def Jow (S:Sp) (n:Int) (p:Pg):Int:=if n<0\/4096<=n\/p.fr<0\/p.rt<0\/7<p.rt then 1 else if (S.t (n / 64)).isSome=true then (if (S.f n).isSome=true then 140 else 0) else 141
def Jtq (S:Sp) (n:Int) (p:Pg):Sp:=if Jow S n p=0 then ⟨S.t,UR S.f n (some p)⟩ else S
def ET (S:Sp) (n:Int):Int:=if n<0\/4096<=n then 1 else if (S.f n).isSome=true then 0 else 141
def Ue (S:Sp) (n:Int):Sp:=if ET S n=0 then ⟨S.t,UR S.f n none⟩ else S
def Xl (S:Sp) (n:Int):Pg:=(S.f n).getD pg0
def Jv1 (S:Sp) (n:Int):Bool:=(S.f n).isSome
def Zw (S:Sp) (i:Int):Int:=(S.t i).getD 0
def Jl (S:Sp) (i:Int):Bool:=(S.t i).isSome
theorem Jfy {S:Sp} {i n:Int} (h:IS S i n=0):0<=i/\i<64/\0<=n/\S.t i=none/\Oa S n=false:=by
 unfold IS at h
 split at h
 ·cases h
 ·split at h
  ·cases h
  ·rename_i h1 h2
   simp only[not_or,Bool.not_eq_true,Option.isSome_eq_false_iff,Option.isNone_iff_eq_none] at h2
   exact⟨by omega,by omega,by omega,h2.1,h2.2⟩
theorem Jox {S:Sp} {n:Int} {p:Pg} (h:Jow S n p=0):0<=n/\n<4096/\(S.t (n / 64)).isSome=true/\S.f n=none/\0<=p.fr/\0<=p.rt/\p.rt<=7:=by
 unfold Jow at h
 split at h
 ·cases h
 ·split at h
  ·split at h
   ·cases h
   ·rename_i h1 h2 h3
    exact⟨by omega,by omega,h2,by simpa using h3,by omega,by omega,by omega⟩
  ·cases h
theorem Jp6 {S:Sp} {n:Int} (h:ET S n=0):0<=n/\n<4096/\∃ p,S.f n=some p:=by
 unfold ET at h
 split at h
 ·cases h
 ·split at h
  ·rename_i h1 h2
   exact⟨by omega,by omega,Option.isSome_iff_exists.1 h2⟩
  ·cases h
theorem Jaw {S:Sp} (g:Good S) (i n:Int):Good (IT S i n):=by
 unfold IT
 split
 ·rename_i h
  obtain⟨h0,h1,h2,h3,_⟩:=Jfy h
  refine⟨fun j m hj=>?_,fun k p hk=>?_⟩
  ·simp only[UR] at hj
   split at hj
   ·cases hj
    omega
   ·exact g.t j m hj
  ·obtain⟨a,b,c⟩:=g.f k p hk
   refine⟨a,b,?_⟩
   simp only[UR]
   split
   ·rfl
   ·exact c
 ·exact g
theorem Jat {S:Sp} (g:Good S) (i:Int):Good (Iw S i):=by
 unfold Iw
 split
 ·refine⟨fun j m hj=>?_,fun k p hk=>?_⟩
  ·simp only[UR] at hj
   split at hj
   ·cases hj
   ·exact g.t j m hj
  ·simp only[Eh] at hk
   split at hk
   ·cases hk
   ·rename_i h
    obtain⟨a,b,c⟩:=g.f k p hk
    refine⟨a,b,?_⟩
    simp only[UR,if_neg h]
    exact c
 ·exact g
theorem Jj6 {S:Sp} (g:Good S) (n:Int) (p:Pg):Good (Jtq S n p):=by
 unfold Jtq
 split
 ·rename_i h
  obtain⟨h0,h1,h2,_⟩:=Jox h
  refine⟨g.t,fun k q hk=>?_⟩
  simp only[UR] at hk
  split at hk
  ·rename_i e
   subst e
   exact⟨h0,h1,h2⟩
  ·exact g.f k q hk
 ·exact g
theorem AO {S:Sp} (g:Good S) (n:Int):Good (Ue S n):=by
 unfold Ue
 split
 ·refine⟨g.t,fun k q hk=>?_⟩
  simp only[UR] at hk
  split at hk
  ·cases hk
  ·exact g.f k q hk
 ·exact g
abbrev La:=Int×Pg
def atN (f:Int->Option Pg) (n:Nat):Option La:=(f (n:Int)).map fun p=>((n:Int),p)
def seg (f:Int->Option Pg) (a k:Nat):List La:=(List.range' a k).filterMap (atN f)
def Ji5 (f:Int->Option Pg):List La:=seg f 0 4096
theorem Jpm (f:Int->Option Pg) (a k m:Nat):seg f a (k+m)=seg f a k++seg f (a+k) m:=by
 unfold seg
 rw[<- List.range'_append_1,List.filterMap_append]
theorem Jpo {f:Int->Option Pg} {a k:Nat} {n:Int} {p:Pg}:(n,p)∈seg f a k↔(a:Int)<=n/\n<a+k/\f n=some p:=by
 unfold seg atN
 rw[List.mem_filterMap]
 constructor
 ·rintro⟨m,hm,h⟩
  rw[List.mem_range'_1] at hm
  obtain⟨q,hq,e⟩:=Jqt.1 h
  cases e
  exact⟨by omega,by omega,hq⟩
 ·rintro⟨h0,h1,h2⟩
  have e:((n.toNat:Nat):Int)=n:=by omega
  refine⟨n.toNat,List.mem_range'_1.2 ⟨by omega,by omega⟩,?_⟩
  rw[e,h2]
  rfl
theorem Jb4 (f:Int->Option Pg) (a k:Nat):(seg f a k).Pairwise fun x y=>x.1<y.1:=by
 unfold seg
 rw[List.pairwise_filterMap]
 refine(List.pairwise_lt_range' (s:=a) (n:=k)).imp ?_
 intro i j hij x hx y hy
 obtain⟨p,_,rfl⟩:=Jqt.1 hx
 obtain⟨q,_,rfl⟩:=Jqt.1 hy
 simp only
 omega
theorem IP (f:Int->Option Pg) (a k:Nat):(seg f a k).length<=k:=by
 have:=List.length_filterMap_le (atN f) (List.range' a k)
 rw[List.length_range'] at this
 exact this
theorem Jer (f:Int->Option Pg):(Ji5 f).length<=4096:=IP f 0 4096
theorem Jly {L M:List La} (h1:L.Pairwise fun x y=>x.1<y.1) (h2:M.Pairwise fun x y=>x.1<y.1) (h:∀ x,x∈L↔x∈M):L=M:=by
 have n1:L.Nodup:=h1.imp fun {x y} hxy e=>by rw[e] at hxy;exact Int.lt_irrefl _ hxy
 have n2:M.Nodup:=h2.imp fun {x y} hxy e=>by rw[e] at hxy;exact Int.lt_irrefl _ hxy
 refine List.Perm.eq_of_pairwise (le:=fun x y=>x.1<y.1) (fun a b _ _ h1 h2=>absurd (Int.lt_trans h1 h2) (Int.lt_irrefl _)) h1 h2 ((List.perm_ext_iff_of_nodup n1 n2).2 h)
theorem Jpn {f:Int->Option Pg} {a k:Nat} {L:List La} (h1:L.Pairwise fun x y=>x.1<y.1) (h:∀ n p,(n,p)∈L↔(a:Int)<=n/\n<a+k/\f n=some p):L=seg f a k:=
 Jly h1 (Jb4 f a k) fun ⟨n,p⟩=>by rw[h,Jpo]
def Zf (f:Int->Option Pg) (i:Int):Int->Option Pg:=fun n=>if n / 64=i then f n else none
def plP (f:Int->Option Pg) (i:Nat):List La:=seg f (64*i) 64
theorem Jo8 (f:Int->Option Pg) (i:Nat):seg f 0 (64*(i+1))=seg f 0 (64*i)++plP f i:=by
 rw[show 64*(i+1)=64*i+64 by omega,Jpm,Nat.zero_add]
 rfl
theorem Jom {S:Sp} {i:Nat} {K:List Int} (hk:K.Pairwise (· < ·)) (hm:∀ x,x∈K↔(Zf S.f i x).isSome=true):K.map (fun k=>(k,(Zf S.f i k).getD pg0))=plP S.f i:=by
 refine Jpn (List.pairwise_map.2 (hk.imp fun {x y} h=>h)) fun n p=>?_
 rw[List.mem_map]
 constructor
 ·rintro⟨k,hk,e⟩
  have h1:=(hm k).1 hk
  obtain⟨rfl,rfl⟩:=Prod.mk.injEq .. ▸ e
  unfold Zf at h1 ⊢
  split at h1
  ·rename_i h2
   rw[if_pos h2]
   obtain⟨p,hp⟩:=Option.isSome_iff_exists.1 h1
   rw[hp]
   refine⟨by omega,by omega,rfl⟩
  ·cases h1
 ·rintro⟨h0,h1,h2⟩
  have h3:n / 64=(i:Int):=by omega
  refine⟨n,(hm n).2 ?_,?_⟩
  ·unfold Zf
   rw[if_pos h3,h2]
   rfl
  ·unfold Zf
   rw[if_pos h3,h2]
   rfl
theorem Jca {ss ks:List Int} (hp:ss.Perm ks) (hn:ks.Nodup):(ss.mergeSort fun x y=>decide (x<=y)).Pairwise (· < ·)/\∀ x,x∈ss.mergeSort (fun x y=>decide (x<=y))↔x∈ks:=by
 have tr:∀ a b c:Int,decide (a<=b)=true->decide (b<=c)=true->decide (a<=c)=true:=fun a b c h1 h2=>by simp only[decide_eq_true_eq] at *;exact Int.le_trans h1 h2
 have to:∀ a b:Int,(decide (a<=b) || decide (b<=a))=true:=fun a b=>by simp only[Bool.or_eq_true,decide_eq_true_eq];exact Int.le_total a b
 have pm:(ss.mergeSort fun x y=>decide (x<=y)).Perm ks:=(List.mergeSort_perm _ _).trans hp
 refine⟨?_,fun x=>pm.mem_iff⟩
 have h1:=List.pairwise_mergeSort (le:=fun x y:Int=>decide (x<=y)) tr to ss
 have h2:(ss.mergeSort fun x y=>decide (x<=y)).Nodup:=pm.nodup_iff.2 hn
 refine(h1.and h2).imp fun {x y} h=>?_
 have:x<=y:=by simpa using h.1
 have:=h.2
 omega
def Gd (fr:Int) (x:La):Bool:=x.2.fr == fr
def Ve (f:Int->Option Pg) (fr:Int):List Int:=((Ji5 f).filter (Gd fr)).map (·.1)
end Ta
section
structure Kr where
 S:Sl.St
 E:Tr.St
 h:Th.Hs
 l:List Ir.Ln
 U:List Un.Un
 P:List En.St
 N:List No.Ns
 D:List Ta.Sp
 fr:Nat
 tb:Nat
structure Cl where
 q:Int
 a:Int
 w:Int
 A:Int
 B:Int
 C:Int
structure Lr where
 s:Int
 p:Int
 f:Int
 r:Int
structure Tl where
 e:Int
 w:Int
 k:Int
 f:List Lr
def Ii (e:Int):Tl:=⟨e,0,-1,[]⟩
def sl (n:Int):Sl.Sl:=⟨0,n⟩
def tr (n:Int):Tr.Sl:=⟨0,n⟩
def Xf (c:Sl.Cp):Ca.Cp:=⟨c.k,c.o,c.r,c.b,c.g,c.z⟩
def EP (c:Ca.Cp):Sl.Cp:=⟨c.k,c.o,c.r,c.b,c.g,c.z⟩
def Jk (K:Kr) (n:Int):Sl.Cp:=if 0<=n/\n<=63 then Sl.Vt K.S (sl n) else Sl.no
def VI (x:Int):Int:=x % 18446744073709551616
def freed (K:Kr) (id:Int):Kr:={ K with P:=K.P.map fun S=>En.Ud (En.EL id) S,N:=K.N.map fun S=>No.G4 S id }
def Jq9 (K:Kr) (id:Int):Int:=Th.Xh K.h id
def EB (K:Kr) (id:Int):Kr:={ K with h:=Th.JR K.h id }
def J0p (K:Kr) (id:Int):Int:=if Jq9 K id=0 then id else -1
def Mz (K:Kr) (core who c:Int):Kr:=if c=0 then K else { K with h:=Th.JB (Th.Xp K.h who) core }
def Jn3 (K:Kr) (id:Int) (m:En.Ms):Kr:={ K with h:=Th.My (Th.My (Th.My K.h id 0 m.g) id 1 (VI m.l)) id 2 m.a }
def epN (K:Kr) (n:Int):En.St:=K.P.getD n.toNat []
def ntN (K:Kr) (n:Int):No.Ns:=K.N.getD n.toNat No.ns0
def spN (K:Kr) (n:Int):Ta.Sp:=K.D.getD n.toNat Ta.FN
def FQ (K:Kr) (n:Int):Un.Un:=K.U.getD n.toNat Un.Un.zero
def setP (K:Kr) (n:Int) (S:En.St):Kr:={ K with P:=K.P.set n.toNat S }
def setN (K:Kr) (n:Int) (S:No.Ns):Kr:={ K with N:=K.N.set n.toNat S }
def setD (K:Kr) (n:Int) (S:Ta.Sp):Kr:={ K with D:=K.D.set n.toNat S }
def setU (K:Kr) (n:Int) (u:Un.Un):Kr:={ K with U:=K.U.set n.toNat u }
def Jh5 (K:Kr) (n:Int):Int:=if No.Jt4 (ntN K n)=true then No.Jh5 (ntN K n) else -1
def Jh4 (K:Kr) (n g:Int):Kr:=
 if No.Jt4 (ntN K n)=true then { setN K n (No.Jmh (ntN K n) g) with h:=Th.JR (Th.My K.h (No.Jh5 (ntN K n)) 0 (No.Jt5 (ntN K n) g)) (No.Jh5 (ntN K n)) } else setN K n (No.Jmh (ntN K n) g)
def Jq (s:Int) (L:List Ta.La):List Lr:=L.map fun x=>⟨s,x.1,x.2.fr,x.2.rt⟩
def AL (D:Ta.Sp) (o:Int):List Ta.La:=(Ta.Ve D.f o).map fun n=>(n,Ta.Xl D n)
def X7 (D:Ta.Sp) (L:List Int):Ta.Sp:=L.foldl Ta.Ue D
def ZY (o:Int):Nat->List Ta.Sp->List Lr
 | _,[]=>[]
 | i,D::L=>Jq (i:Int) (AL D o)++ZY o (i+1) L
def MM (o:Int) (x:Ta.Sp×List Ta.La) (j:Nat):Ta.Sp×List Ta.La:=
 if (Ta.Jl x.1 (j:Int) && Ta.Zw x.1 (j:Int) == o)=true then (Ta.Iw x.1 (j:Int),x.2++Ta.plP x.1.f j) else x
def U5 (o:Int) (D:Ta.Sp):Ta.Sp×List Ta.La:=(List.range 64).foldl (MM o) (D,[])
def ZP (o:Int):Nat->List Ta.Sp->List Lr
 | _,[]=>[]
 | i,D::L=>Jq (i:Int) (U5 o D).2++ZP o (i+1) L
section
variable [dT:DecidableEq Tr.Sl] [dF:∀ c:Sl.Cp,Decidable (Sl.Fine c)] [dL:∀ k:Int,Decidable (Ca.ZV k)] [dC:∀ c:Ca.Cp,Decidable (Ca.Fine c)] [dM:∀ (c:Ca.Cp) (v:Int),Decidable (Ca.JK c v)]
def outK (K:Kr) (n:Int):Kr:={ K with E:=Tr.takeS K.E (tr n),S:=Sl.takeS K.S (sl n) }
def Jkt (K:Kr) (c:Sl.Cp):Bool:=!((Sl.JX K.S).any fun x=>Ca.Jfv (Xf x.2) (Xf c))
def UT (K:Kr) (c:Sl.Cp):Kr:=
 if c.k=3 then { freed K c.o with h:=Th.JM K.h c.o }
 else if c.k=6 then { K with D:=K.D.map fun D=>X7 D (Ta.Ve D.f c.o) }
 else if c.k=7 then { K with D:=K.D.map fun D=>(U5 c.o D).1 }
 else K
def Jjt (K:Kr) (c:Sl.Cp):List Lr:=if c.k=6 then ZY c.o 0 K.D else if c.k=7 then ZP c.o 0 K.D else []
def ZE (K:Kr) (n:Int):Kr:=if Jkt (outK K n) (Sl.Vm K.S (sl n))=true then UT (outK K n) (Sl.Vm K.S (sl n)) else outK K n
def Vf (K:Kr) (n:Int):List Lr:=if Jkt (outK K n) (Sl.Vm K.S (sl n))=true then Jjt (outK K n) (Sl.Vm K.S (sl n)) else []
def goneAll:Kr->List Int->Kr×List Lr
 | K,[]=>(K,[])
 | K,n::L=>((goneAll (ZE K n) L).1,Vf K n++(goneAll (ZE K n) L).2)
def J4 (K:Kr) (from' O6:Int):Int:=
 if 0<=from'/\from'<=63/\from'+O6<=64 then (if (List.range O6.toNat).all (fun i=>(Jk K (from'+(i:Int))).k == 0)=true then 0 else 51) else 181
def Id (K:Kr) (a n:Int) (c:Sl.Cp):Kr:={ K with S:=Sl.ZL K.S (sl n) c,E:=Tr.addS K.E (tr a) (tr n) }
def madeN (K:Kr) (A B core:Int):Int:=
 if A=1 then K.U.length else if A=2 then Sl.JW K.S B else if A=3 then Th.JW K.h 0 core else if A=4 then K.P.length else if A=5 then K.N.length else if A=8 then K.D.length else if A=6 then K.fr else K.tb
def Zh (K:Kr) (A B core place:Int):Kr:=
 if A=1 then { K with U:=K.U++[⟨place,B,0⟩] }
 else if A=2 then { K with S:=Sl.Zq K.S B }
 else if A=3 then { K with h:=Th.JS K.h 0 core }
 else if A=4 then { K with P:=K.P++[[]] }
 else if A=5 then { K with N:=K.N++[No.ns0] }
 else if A=8 then { K with D:=K.D++[Ta.FN] }
 else if A=6 then { K with fr:=K.fr+1 }
 else { K with tb:=K.tb+1 }
def Xe (a core A B:Int):Kr->Int->List Int->Kr
 | K,_,[]=>K
 | K,n,x::L=>Xe a core A B (Id (Zh K A B core x) a n ⟨A,madeN K A B core,7,0,0,0⟩) (n+1) L
def Jcs (K:Kr) (c:Cl):Bool:=(c.A == 2 && decide (64<(K.S.length:Int)+c.C)) || (c.A == 3 && decide (64<(K.h.L.length:Int)+c.C))
def Zt (K:Kr) (c:Cl) (o:Int):Int:=
 if Un.plE (FQ K o) c.A c.B c.C≠0 then Un.plE (FQ K o) c.A c.B c.C else if J4 K c.w c.C≠0 then J4 K c.w c.C else if Jcs K c=true then 2 else 0
def Ze (K:Kr) (core:Int) (c:Cl) (o:Int):Kr:=
 if Zt K c o=0 then Xe c.a core c.A c.B (setU K o (Un.plU (FQ K o) c.A c.B c.C)) c.w (Un.GF (FQ K o) c.A c.B c.C) else K
def Zb (K:Kr) (c:Cl) (x:Sl.Cp):Int:=if J4 K c.w 1≠0 then J4 K c.w 1 else Ca.Zb (Xf x) c.A (VI c.B)
def Fy (K:Kr) (c:Cl) (x:Sl.Cp):Kr:=if Zb K c x=0 then Id K c.a c.w (EP (Ca.Vx (Xf x) c.A (VI c.B))) else K
def Jfj (K:Kr) (c:Cl):Kr:=if J4 K c.w 1=0 then { K with S:=Sl.moveS K.S (sl c.a) (sl c.w),E:=Tr.moveS K.E (tr c.a) (tr c.w) } else K
def Zc (K:Kr) (n:Int):List Int:=((Tr.Zo K.E (tr n)).map fun s=>s.i).reverse
def V9 (K:Kr) (n:Int) (x:Sl.Cp):Kr:=if x.k=1 then setU (goneAll K (Zc K n)).1 x.o ⟨(FQ K x.o).base,(FQ K x.o).bits,0⟩ else (goneAll K (Zc K n)).1
def Jla (q:Int):Int:=if q=0 then 1 else if q=5\/q=6\/q=7 then 3 else if q=8\/q=9 then 4 else if q=10\/q=11 then 5 else if q=12 then 7 else if q=13 then 6 else if q=14 then 8 else if q=15\/q=16 then 9 else 0
def Jk4 (c:Cl) (x:Sl.Cp):Bool:=
 !(x.k == 0) && (Jla c.q == 0 || x.k == Jla c.q) && !(c.q == 1 && x.k == 1) && (!(c.q == 8 || c.q == 10) || x.r / 2 % 2 == 1) && (!(c.q == 9 || c.q == 11) || x.r % 2 == 1)
def OW (K:Kr) (core who:Int) (c:Cl) (m:En.Mt) (wk:Int):Kr×Tl:=
 if m.i=true then (EB (Jn3 K m.t m.m) wk,⟨0,0,wk,[]⟩) else (Mz K core who c.C,Ii 0)
def FK (K:Kr) (core who:Int) (c:Cl) (x:Sl.Cp):Kr×Tl:=
 let m:En.Ms:=⟨c.A,VI c.B,0,0,0,x.b,false⟩
 if En.J8 (epN K x.o) who=0 then OW (setP K x.o (En.XG (epN K x.o) who m (decide (c.C≠0)))) core who c (En.Zj (epN K x.o) who m) (En.Zj (epN K x.o) who m).t else (K,Ii (En.J8 (epN K x.o) who))
def FH (K:Kr) (core who:Int) (c:Cl) (x:Sl.Cp):Kr×Tl:=
 if En.J8 (epN K x.o) who=0 then OW (setP K x.o (En.XD (epN K x.o) who (decide (c.C≠0)))) core who c (En.Zi (epN K x.o) who) (En.Zi (epN K x.o) who).f else (K,Ii (En.J8 (epN K x.o) who))
def Jf3 (K:Kr) (core who:Int) (c:Cl) (x:Sl.Cp):Kr×Tl:=
 if No.Jq8 (ntN K x.o) who=0 then
  (if No.J0n (ntN K x.o) who=true then (setN K x.o (No.J6b (ntN K x.o) who (decide (c.C≠0))),⟨0,No.J0o (ntN K x.o) who,-1,[]⟩) else (Mz (setN K x.o (No.J6b (ntN K x.o) who (decide (c.C≠0)))) core who c.C,Ii 0))
 else (K,Ii (No.Jq8 (ntN K x.o) who))
def AC (K:Kr) (id:Int):Kr:=if (Th.Gf K.h id).st=3 then freed K id else K
def Aj (K:Kr) (o:Int):Kr:={ K with l:=Ir.Jif Ir.Jiz K.l o }
def Ay (K:Kr) (core who:Int) (c:Cl) (x:Sl.Cp):Kr×Tl:=
 if c.q=0 then (Ze K core c x.o,Ii (Zt K c x.o))
 else if c.q=1 then (Fy K c x,Ii (Zb K c x))
 else if c.q=2 then (Jfj K c,Ii (J4 K c.w 1))
 else if c.q=3 then (if c.a=0 then (K,Ii 181) else (ZE K c.a,⟨0,0,-1,Vf K c.a⟩))
 else if c.q=4 then (V9 K c.a x,⟨0,(Zc K c.a).length,-1,(goneAll K (Zc K c.a)).2⟩)
 else if c.q=5 then (EB (AC K x.o) x.o,⟨Jq9 (AC K x.o) x.o,0,J0p (AC K x.o) x.o,[]⟩)
 else if c.q=6 then ({ freed K x.o with h:=Th.JM K.h x.o },Ii (Th.JY K.h x.o))
 else if c.q=7 then ({ K with h:=Th.VW K.h x.o c.A },Ii (Th.VV K.h x.o c.A))
 else if c.q=8 then FK K core who c x
 else if c.q=9 then FH K core who c x
 else if c.q=10 then (Jh4 K x.o x.b,⟨0,0,Jh5 K x.o,[]⟩)
 else if c.q=11 then Jf3 K core who c x
 else if c.q=12 then
  (if (Jk K c.w).k=8 then (setD K (Jk K c.w).o (Ta.IT (spN K (Jk K c.w).o) c.A x.o),Ii (Ta.IS (spN K (Jk K c.w).o) c.A x.o)) else (K,Ii 181))
 else if c.q=13 then
  (if (Jk K c.w).k=8 then (setD K (Jk K c.w).o (Ta.Jtq (spN K (Jk K c.w).o) c.A ⟨x.o,bits .and .i64 x.r c.B⟩),Ii (Ta.Jow (spN K (Jk K c.w).o) c.A ⟨x.o,bits .and .i64 x.r c.B⟩)) else (K,Ii 181))
 else if c.q=14 then
  (if Ta.ET (spN K x.o) c.A=0 then (setD K x.o (Ta.Ue (spN K x.o) c.A),⟨0,0,-1,[⟨x.o,c.A,(Ta.Xl (spN K x.o) c.A).fr,(Ta.Xl (spN K x.o) c.A).rt⟩]⟩) else (K,Ii (Ta.ET (spN K x.o) c.A)))
 else if c.q=15 then
  (if (Jk K c.w).k=5 then ({ K with l:=Ir.Jev K.l x.o (Jk K c.w).o (Jk K c.w).b },Ii (Ir.Jw3 K.l x.o (Jk K c.w).o)) else (K,Ii 181))
 else
  (if Ir.J05 Ir.isM K.l x.o=true then (Jh4 (Aj K x.o) (Ir.J0h Ir.isM K.l x.o) (Ir.Jt8 Ir.isM K.l x.o),⟨Ir.J0i K.l x.o,0,Jh5 (Aj K x.o) (Ir.J0h Ir.isM K.l x.o),[]⟩) else (Aj K x.o,Ii (Ir.J0i K.l x.o)))
def JQ (K:Kr) (core:Int):Kr:={ K with h:=Th.JB K.h core }
def doK (K:Kr) (core:Int) (c:Cl):Kr×Tl:=
 if Th.Xm (JQ K core).h core=true then
  (if 0<=c.q/\c.q<=17 then
   (if c.q=17 then ({ K with h:=Th.XR (JQ K core).h core },Ii 0)
       else if Jk4 c (Jk K c.a)=true then Ay (JQ K core) core (Th.XE (JQ K core).h core) c (Jk K c.a)
       else (JQ K core,Ii 181))
     else (JQ K core,Ii 180))
 else (JQ K core,Ii 182)
def Xw (K:Kr) (k o:Int):Kr:={ K with S:=Sl.ZL K.S (sl K.E.length) ⟨k,o,7,0,0,0⟩,E:=Tr.rootS K.E (tr K.E.length) }
def OL:Kr->Nat->List Int->Kr
 | K,_,[]=>K
 | K,i,p::L=>OL (Xw { K with h:=Th.JB (Th.JR (Th.JS K.h p (i:Int)) (i:Int)) (i:Int) } 3 (i:Int)) (i+1) L
def G0:Kr->Nat->Nat->Kr
 | K,_,0=>K
 | K,i,n+1=>G0 (Xw K 9 (i:Int)) (i+1) n
def Mi (n:Nat) (b:Int):Kr:=⟨Sl.Zq [] 6,[],Th.Vu n,List.replicate 8 Ir.ln0,[⟨0,b,0⟩],[],[],[Ta.FN],0,0⟩
def Aq (n:Nat) (b:Int) (m:Nat) (Q:List Int):Kr:=G0 (Xw (OL (Xw (Xw (Mi n b) 2 0) 1 0) 0 Q) 8 0) 0 m
end
end
section
open Go.RowKit Go.Deep Go.Shelf
def EI:El Un.Un:=⟨70,52,3,24,fun u=>[.int .u64 u.base,.int .i64 u.bits,.int .u64 u.used]⟩
def Mc:El Nat:=⟨169,92,1,8,fun q=>[Je q]⟩
def Ml:El Nat:=⟨173,93,1,8,fun q=>[Je q]⟩
def MN:El Nat:=⟨103,94,1,8,fun q=>[Je q]⟩
theorem Jy3:(Tryz.prog.info? 70).map (fun i=>(i.zero,i.size,i.bytes))=some (some (.agg #[.int .u64 0,.int .i64 0,.int .u64 0]),3,24):=by kernel_rfl
theorem Jta:(Tryz.prog.info? 169).map (fun i=>(i.zero,i.size,i.bytes))=some (some (.pointer none),1,8):=by kernel_rfl
theorem Jtb:(Tryz.prog.info? 173).map (fun i=>(i.zero,i.size,i.bytes))=some (some (.pointer none),1,8):=by kernel_rfl
theorem Jtc:(Tryz.prog.info? 103).map (fun i=>(i.zero,i.size,i.bytes))=some (some (.pointer none),1,8):=by kernel_rfl
theorem OU:El.Ok EI:=⟨Tryz.underlying52,ZA Jy3 rfl,by decide,by decide,fun _=>rfl,by simp[EI,Value.oneCell']⟩
theorem Jz3:El.Ok Mc:=⟨Tryz.underlying92,ZA Jta rfl,by decide,by decide,fun _=>rfl,by simp[Mc,Value.oneCell']⟩
theorem Jz4:El.Ok Ml:=⟨Tryz.underlying93,ZA Jtb rfl,by decide,by decide,fun _=>rfl,by simp[Ml,Value.oneCell']⟩
theorem Jz5:El.Ok MN:=⟨Tryz.underlying94,ZA Jtc rfl,by decide,by decide,fun _=>rfl,by simp[MN,Value.oneCell']⟩
def cLr (x:Lr):List Value:=[.int .i64 x.s,.int .i64 x.p,.int .i64 x.f,.int .i64 x.r]
def Vq:El Lr:=⟨243,40,4,32,cLr⟩
theorem Jy0:(Tryz.prog.info? 243).map (fun i=>(i.zero,i.size,i.bytes))=some (some (.agg #[.int .i64 0,.int .i64 0,.int .i64 0,.int .i64 0]),4,32):=by kernel_rfl
theorem okR:El.Ok Vq:=⟨Tryz.underlying40,ZA Jy0 rfl,by decide,by decide,fun _=>rfl,by simp[Vq,cLr,Value.oneCell']⟩
def cSl (x:Sl.Sl):List Value:=[.int .i64 x.n,.int .i64 x.i]
def Vr:El Sl.Sl:=⟨80,67,2,16,cSl⟩
theorem Jkg:(Tryz.prog.info? 80).map (fun i=>(i.zero,i.size,i.bytes))=some (some (.agg #[.int .i64 0,.int .i64 0]),2,16):=by kernel_rfl
theorem Jli:El.Ok Vr:=⟨Tryz.underlying67,ZA Jkg rfl,by decide,by decide,fun _=>rfl,by simp[Vr,cSl,Value.oneCell']⟩
def EF (k o:Int):Value:=.agg #[.int .i64 k,.int .i64 o,.int .i64 7,.int .u64 0,.int .u64 0,.int .i64 0]
def Jf (e w k:Int) (v:Value):Value:=.agg #[.int .i64 e,.int .u64 w,.int .i64 k,v]
theorem JI (e:Int) (w:World):Calls Tryz.prog 60 #[.int .i64 e] w fun x w'=>x=.returned (Jf e 0 (-1) (.slice none 0 0))/\Below w.heap.size w w':=by
 go_enter Tryz.func60,Tryz.ntmps60
 go_wp2
 refine bodyPost_ret (v:=Jf e 0 (-1) (.slice none 0 0)) ?_ rfl ⟨rfl,?_⟩
 ·simp[results,Tryz.f60,go_sem,Jf]
 ·exact Jb _ _
theorem X8 (k o:Int) (w:World):Calls Tryz.prog 34 #[.int .i64 k,.int .i64 o] w fun x w'=>x=.returned (EF k o)/\Below w.heap.size w w':=by
 go_enter Tryz.func34,Tryz.ntmps34
 go_wp2
 refine bodyPost_ret (v:=EF k o) ?_ rfl ⟨rfl,?_⟩
 ·simp[results,Tryz.f34,go_sem,EF]
 ·exact Jb _ _
theorem UG (n a b:Int) (w:World):Calls Tryz.prog 93 #[.int .i64 n,.int .i64 a,.int .i64 b] w fun x w'=>x=.returned (.bool (decide (a<=n) && decide (n<=b)))/\w'=w:=by
 go_enter Tryz.func93,Tryz.ntmps93
 by_cases h:a<=n
 ·have h2:n ≥ a:=h
  go_wp2
  go_ret
  exact⟨by simp[h],rfl⟩
 ·have h2:¬ n ≥ a:=h
  go_wp2
  go_ret
  exact⟨by simp;omega,rfl⟩
theorem Sep.putB {w0 w:World} {r p:Nat} {C:Array Value} {ty:TypeId} {R:List Th} (s:Sep w0 r w (blk p (.cells C ty)::R)) (j:Nat) (c:Value):Sep w0 r (w.setCell ⟨p,j,none⟩ c) (blk p (.cells (C.set! j c) ty)::R):=
 s.turn (t':=blk p (.cells (C.set! j c) ty)) (setBlock s.head c) (Turn.setCell _ w ⟨p,j,none⟩ c rfl) (Out.refl _ _)
theorem Sep.blkCell {w0 w:World} {r p:Nat} {C:Array Value} {ty:TypeId} {R:List Th} (s:Sep w0 r w R) (h:blk p (.cells C ty)∈R) (j:Nat):w.cell? ⟨p,j,none⟩=C[j]? /\ w.frozen? ⟨p,j,none⟩=false:=by
 have:=(s.each _ h).1
 have h1:w.heap[p]? = some (.cells C ty):=this
 simp[World.cell?,World.frozen?,h1]
theorem Jlf (ao:Option Addr) (n cap:Nat) (i:Int) (w:World):Calls Tryz.prog 90 #[.slice ao n cap,.int .i64 i] w fun x w'=>x=.returned (.bool (decide (0<=i) && decide (i<(n:Int))))/\w'=w:=by
 go_enter Tryz.func90,Tryz.ntmps90
 by_cases h:0<=i
 ·have h2:i ≥ 0:=h
  go_wp2
  go_ret
  exact⟨by simp[h],rfl⟩
 ·have h2:¬ i ≥ 0:=h
  go_wp2
  go_ret
  exact⟨by simp;omega,rfl⟩
theorem Ea (w:World) (C:Array Value) (ty:TypeId) (j:Nat):(w.alloc (.cells C ty)).cell? ⟨w.heap.size,j,none⟩=C[j]?:=by
 have:=blk_alloc_new w (.cells C ty)
 simp only[World.cell?]
 rw[this]
 rfl
section
variable {w0 w w':World} {r p:Nat} {C:Array Value} {ty:TypeId} {R:List Th}
theorem Uv {n:Nat} {j:Nat} (s:Sep w0 r w (blk p (.cells C ty)::R)) (hj:C[j]? = some (.int .i64 (n:Int))) (hn:n<=1000000) :
  Calls Tryz.prog 305 #[.pointer (some ⟨p,j,none⟩)] w fun e w'=>e=.returned (.int .i64 (n:Int))/\Sep w0 r w' (blk p (.cells (C.set! j (.int .i64 ((n+1:Nat):Int))) ty)::R):=by
 obtain⟨c1,f1⟩:=s.blkCell (Jms) j
 rw[hj] at c1
 have S1:=Ja (s.putB j (.int .i64 ((n+1:Nat):Int)))
 have hz:IntKind.i64.wrap ((n:Int)+1)=((n+1:Nat):Int):=by rw[IntKind.wrap_i64];omega
 have hz2:IntKind.i64.wrap (((n+1:Nat):Int) - 1)=(n:Int):=by rw[IntKind.wrap_i64];omega
 clear s hj
 generalize n+1=m at *
 go_enter Tryz.func305,Tryz.ntmps305
 go_wp2
 go_ret
 exact⟨rfl,S1.out⟩
theorem Ji3 {j:Nat} {u:Value} {A:List Nat} (x:Nat) (s:Sep w0 r w (Jv Mc u A::blk p (.cells C ty)::R)) (hj:C[j]? = some u) (hl:A.length<=1000000) :
  Calls Tryz.prog 301 #[.pointer (some ⟨p,j,none⟩),Je x] w fun e w'=>e=.returned (.int .i64 (A.length:Int))/\∃ v,Sep w0 r w' (Jv Mc v (A++[x])::blk p (.cells (C.set! j v) ty)::R):=by
 obtain⟨v4,w4,r4,s4⟩:=s.more Jz3 92 x (C:=#[Je x]) rfl hl
 obtain⟨a5,c5,rfl⟩:=s.listIs (E:=Mc) (v:=u) (A:=A) (by simp)
 obtain⟨a6,c6,rfl⟩:=s4.listIs (E:=Mc) (v:=v4) (A:=A++[x]) (by simp)
 obtain⟨c1,f1⟩:=s.blkCell (p:=p) (C:=C) (ty:=ty) (by simp) j
 obtain⟨c4,f4⟩:=s4.blkCell (p:=p) (C:=C) (ty:=ty) (by simp) j
 rw[hj] at c1 c4
 have hz:IntKind.i64.wrap (((A++[x]).length:Int) - 1)=(A.length:Int):=by rw[List.length_append,IntKind.wrap_i64];simp only[List.length_cons,List.length_nil];omega
 have c1x:=Jx c1 (.cells #[Je x] 169)
 generalize(A++[x]).length=m at *
 have S4:=Ja (s4.swap.putB j (.slice a6 m c6)).swap
 simp only[Mc] at r4
 have R4:=Ja r4
 clear s s4 r4 hj
 generalize A.length=n at *
 go_enter Tryz.func301,Tryz.ntmps301
 go_wp2_with (at_builtin;refine Jd rfl _ _ _ _ rfl _ _ _ _ rfl rfl R4.out ?_)
 go_ret
 exact⟨rfl,_,S4.out⟩
theorem Ji2 {j:Nat} {u:Value} {A:List Nat} (x:Nat) (s:Sep w0 r w (Jv Ml u A::blk p (.cells C ty)::R)) (hj:C[j]? = some u) (hl:A.length<=1000000) :
  Calls Tryz.prog 303 #[.pointer (some ⟨p,j,none⟩),Je x] w fun e w'=>e=.returned (.int .i64 (A.length:Int))/\∃ v,Sep w0 r w' (Jv Ml v (A++[x])::blk p (.cells (C.set! j v) ty)::R):=by
 obtain⟨v4,w4,r4,s4⟩:=s.more Jz4 93 x (C:=#[Je x]) rfl hl
 obtain⟨a5,c5,rfl⟩:=s.listIs (E:=Ml) (v:=u) (A:=A) (by simp)
 obtain⟨a6,c6,rfl⟩:=s4.listIs (E:=Ml) (v:=v4) (A:=A++[x]) (by simp)
 obtain⟨c1,f1⟩:=s.blkCell (p:=p) (C:=C) (ty:=ty) (by simp) j
 obtain⟨c4,f4⟩:=s4.blkCell (p:=p) (C:=C) (ty:=ty) (by simp) j
 rw[hj] at c1 c4
 have hz:IntKind.i64.wrap (((A++[x]).length:Int) - 1)=(A.length:Int):=by rw[List.length_append,IntKind.wrap_i64];simp only[List.length_cons,List.length_nil];omega
 have c1x:=Jx c1 (.cells #[Je x] 173)
 generalize(A++[x]).length=m at *
 have S4:=Ja (s4.swap.putB j (.slice a6 m c6)).swap
 simp only[Ml] at r4
 have R4:=Ja r4
 clear s s4 r4 hj
 generalize A.length=n at *
 go_enter Tryz.func303,Tryz.ntmps303
 go_wp2_with (at_builtin;refine Jd rfl _ _ _ _ rfl _ _ _ _ rfl rfl R4.out ?_)
 go_ret
 exact⟨rfl,_,S4.out⟩
theorem Ji0 {j:Nat} {u:Value} {A:List Nat} (x:Nat) (s:Sep w0 r w (Jv MN u A::blk p (.cells C ty)::R)) (hj:C[j]? = some u) (hl:A.length<=1000000) :
  Calls Tryz.prog 37 #[.pointer (some ⟨p,j,none⟩),Je x] w fun e w'=>e=.returned (.int .i64 (A.length:Int))/\∃ v,Sep w0 r w' (Jv MN v (A++[x])::blk p (.cells (C.set! j v) ty)::R):=by
 obtain⟨v4,w4,r4,s4⟩:=s.more Jz5 94 x (C:=#[Je x]) rfl hl
 obtain⟨a5,c5,rfl⟩:=s.listIs (E:=MN) (v:=u) (A:=A) (by simp)
 obtain⟨a6,c6,rfl⟩:=s4.listIs (E:=MN) (v:=v4) (A:=A++[x]) (by simp)
 obtain⟨c1,f1⟩:=s.blkCell (p:=p) (C:=C) (ty:=ty) (by simp) j
 obtain⟨c4,f4⟩:=s4.blkCell (p:=p) (C:=C) (ty:=ty) (by simp) j
 rw[hj] at c1 c4
 have hz:IntKind.i64.wrap (((A++[x]).length:Int) - 1)=(A.length:Int):=by rw[List.length_append,IntKind.wrap_i64];simp only[List.length_cons,List.length_nil];omega
 have c1x:=Jx c1 (.cells #[Je x] 103)
 generalize(A++[x]).length=m at *
 have S4:=Ja (s4.swap.putB j (.slice a6 m c6)).swap
 simp only[MN] at r4
 have R4:=Ja r4
 clear s s4 r4 hj
 generalize A.length=n at *
 go_enter Tryz.func37,Tryz.ntmps37
 go_wp2_with (at_builtin;refine Jd rfl _ _ _ _ rfl _ _ _ _ rfl rfl R4.out ?_)
 go_ret
 exact⟨rfl,_,S4.out⟩
theorem Ji4 {j:Nat} {u:Value} {A:List Un.Un} (x:Un.Un) (s:Sep w0 r w (Jv EI u A::blk p (.cells C ty)::R)) (hj:C[j]? = some u) (hl:A.length<=1000000) :
  Calls Tryz.prog 35 #[.pointer (some ⟨p,j,none⟩),.agg #[.int .u64 x.base,.int .i64 x.bits,.int .u64 x.used]] w fun e w'=>e=.returned (.int .i64 (A.length:Int))/\∃ v,Sep w0 r w' (Jv EI v (A++[x])::blk p (.cells (C.set! j v) ty)::R):=by
 have s1:=s.below (Jb w (.cells #[.int .u64 x.base,.int .i64 x.bits,.int .u64 x.used] 70))
 have d0:(w.alloc (.cells #[.int .u64 x.base,.int .i64 x.bits,.int .u64 x.used] 70)).cell? ⟨w.heap.size,0,none⟩=some (.int .u64 x.base):=Ea _ _ _ _
 have d1:(w.alloc (.cells #[.int .u64 x.base,.int .i64 x.bits,.int .u64 x.used] 70)).cell? ⟨w.heap.size,1,none⟩=some (.int .i64 x.bits):=Ea _ _ _ _
 have d2:(w.alloc (.cells #[.int .u64 x.base,.int .i64 x.bits,.int .u64 x.used] 70)).cell? ⟨w.heap.size,2,none⟩=some (.int .u64 x.used):=Ea _ _ _ _
 obtain⟨a5,c5,rfl⟩:=s.listIs (E:=EI) (v:=u) (A:=A) (by simp)
 clear s
 generalize hw:w.alloc (.cells #[.int .u64 x.base,.int .i64 x.bits,.int .u64 x.used] 70)=w1 at *
 obtain⟨v4,w4,r4,s4⟩:=s1.drew.more OU 52 x (C:=#[.int .u64 x.base,.int .i64 x.bits,.int .u64 x.used]) rfl hl
 obtain⟨a6,c6,rfl⟩:=s4.listIs (E:=EI) (v:=v4) (A:=A++[x]) (by simp)
 obtain⟨c1,f1⟩:=s1.blkCell (p:=p) (C:=C) (ty:=ty) (by simp) j
 obtain⟨c4,f4⟩:=s4.blkCell (p:=p) (C:=C) (ty:=ty) (by simp) j
 rw[hj] at c1 c4
 have hz:IntKind.i64.wrap (((A++[x]).length:Int) - 1)=(A.length:Int):=by rw[List.length_append,IntKind.wrap_i64];simp only[List.length_cons,List.length_nil];omega
 have c1x:=Jx c1 (.cells #[.int .u64 x.base,.int .i64 x.bits,.int .u64 x.used] 70)
 generalize(A++[x]).length=m at *
 have S4:=Ja (s4.swap.putB j (.slice a6 m c6)).swap
 simp only[EI] at r4
 have R4:=Ja r4
 clear s4 r4 hj s1
 generalize A.length=n at *
 have HW:=Ja hw
 clear hw
 go_enter Tryz.func35,Tryz.ntmps35
 go_wp2_with (rw[HW.out])
 generalize w.heap.size=q at *
 go_region_law (refine Jy rfl (.tmp 8) (.tmp 10) 52 52 rfl (.slice a5 n c5) (.slice (some ⟨w1.heap.size,0,none⟩) 1 1) _ _ (by simp[Act.eval]) (by simp[Act.eval]) R4.out ?_)
 all_goals
  go_wp2
  go_ret
  exact⟨rfl,_,S4.out⟩
end
def O6 (P:Prop) (L:List Th):Th where
 F:=fun x=>∃ t∈L,t.F x
 H:=fun w=>P/\(∀ t∈L,t.H w)/\L.Pairwise (fun a b=>∀ x,a.F x->¬ b.F x)
 lt:=fun w h x ⟨t,ht,hx⟩=>t.lt w (h.2.1 t ht) x hx
 keep:=fun w w' h k=>⟨h.1,fun t ht=>t.keep w w' (h.2.1 t ht) fun x hx=>k x ⟨t,ht,hx⟩,h.2.2⟩
section
variable {w0 w w':World} {r:Nat} {t x:Th} {P P':Prop} {A B L R E:List Th}
theorem Sep.opn (s:Sep w0 r w (O6 P L::R)):P/\Sep w0 r w (L++R):=by
 obtain⟨a1,a2⟩:=Jqq.1 s.apart
 obtain⟨h1,h2⟩:=s.each _ (Jms)
 refine⟨h1.1,s.low,s.size,fun u hu=>?_,List.pairwise_append.2 ⟨h1.2.2,a2,fun a ha b hb y hy=>a1 b hb y ⟨a,ha,hy⟩⟩⟩
 rcases Jrc.1 hu with hu|hu
 ·exact⟨h1.2.1 u hu,fun y hy=>h2 y ⟨u,hu,hy⟩⟩
 ·exact s.each u (Jmc hu)
theorem Sep.shut (p:P) (s:Sep w0 r w (L++R)):Sep w0 r w (O6 P L::R):=by
 obtain⟨a1,a2,a3⟩:=List.pairwise_append.1 s.apart
 refine⟨s.low,s.size,fun u hu=>?_,Jqq.2 ⟨fun b hb y ⟨a,ha,hy⟩=>a3 a ha b hb y hy,a2⟩⟩
 rcases List.mem_cons.1 hu with rfl|hu
 ·exact⟨⟨p,fun a ha=>(s.each a (List.mem_append_left _ ha)).1,a1⟩,fun y ⟨a,ha,hy⟩=>(s.each a (List.mem_append_left _ ha)).2 y hy⟩
 ·exact s.each u (List.mem_append_right _ hu)
theorem Sep.into (s:Sep w0 r w (O6 P (A++t::B)::R)):Sep w0 r w (t::(A++B++R)):=by
 refine s.opn.2.perm ?_
 rw[List.append_assoc,List.cons_append,List.append_assoc]
 exact List.perm_middle
theorem Sep.back (p:P') (s:Sep w0 r w (x::(E++(A++B++R)))):Sep w0 r w (O6 P' (A++x::B)::(E++R)):=by
 refine Sep.shut p (s.perm ?_)
 rw[List.append_assoc,List.append_assoc,List.cons_append]
 refine(Jre x ?_).trans List.perm_middle.symm
 refine List.Perm.trans (l₂:=A++(E++(B++R))) ?_ (List.Perm.append_left _ ?_)
 ·rw[<- List.append_assoc,<- List.append_assoc A E]
  exact List.Perm.append_right _ List.perm_append_comm
 ·rw[<- List.append_assoc,<- List.append_assoc]
  exact List.Perm.append_right _ List.perm_append_comm
theorem Sep.fact (s:Sep w0 r w (O6 P L::R)):P:=s.opn.1
theorem Sep.has (s:Sep w0 r w (O6 P L::R)) (h:t∈L):t.H w:=(s.opn.2.each t (List.mem_append_left _ h)).1
end
end
end Go.Proofs.YtbfjjpdnoalojaaGreatDoor
