/-
  What stands below: KpIr KpTa KrMath KEl KF1 KFr; no condition but what each says.
-/
import Derived.Test.YtilnjnblpeeigaaGreatDoorPb1
import Derived.Test.YtilnjnblpeeigaaGreatDoorPb2
import Derived.Test.YtilnjnblpeeigaaGreatDoorPb3
import Derived.WalkKit
namespace Go.Proofs.YtilnjnblpeeigaaGreatDoor.Ir
abbrev Is:=Option (Option Bool)
def num:Is->Int
 | none=>0
 | some none=>1
 | some (some false)=>2
 | some (some true)=>3
structure Ln where
 s:Is
 a:Int
 g:Int
def ln0:Ln:=⟨none,0,0⟩
def atI (S:List Ln) (n:Int):Option Ln:=if 0<=n then S[n.toNat]? else none
def putI (S:List Ln) (n:Int) (x:Ln):List Ln:=S.set n.toNat x
def ackX (x:Ln):Ln:=match x.s with
 | none=>x
 | some none=>x
 | some (some false)=>⟨(some none),x.a,x.g⟩
 | some (some true)=>⟨(some (some false)),x.a,x.g⟩
def isO (x:Ln):Bool:=match x.s with
 | some none=>true
 | _=>false
def isM (x:Ln):Bool:=match x.s with
 | some (some true)=>true
 | _=>false
def isU (x:Ln):Bool:=match x.s with
 | none=>true
 | _=>false
def bindE (S:List Ln) (n a:Int):Int:=match atI S n with
 | none=>130
 | some x=>if a<0 then 1 else if isU x=true then 0 else 131
def bindS (S:List Ln) (n a g:Int):List Ln:=match atI S n with
 | none=>S
 | some x=>if a<0 then S else if isU x=true then putI S n ⟨(some none),a,g⟩ else S
def telE (S:List Ln) (n:Int):Int:=match atI S n with
 | none=>130
 | some _=>0
def telB (f:Ln->Bool) (S:List Ln) (n:Int):Bool:=match atI S n with
 | none=>false
 | some x=>f x
def telA (f:Ln->Bool) (S:List Ln) (n:Int):Int:=match atI S n with
 | none=>0
 | some x=>if f x=true then x.a else 0
def telG (f:Ln->Bool) (S:List Ln) (n:Int):Int:=match atI S n with
 | none=>0
 | some x=>if f x=true then x.g else 0
def telS (h:Ln->Ln) (S:List Ln) (n:Int):List Ln:=match atI S n with
 | none=>S
 | some x=>putI S n (h x)
theorem put_len (S:List Ln) (n:Int) (x:Ln):(putI S n x).length=S.length:=by simp [putI]
theorem bind_len (S:List Ln) (n a g:Int):(bindS S n a g).length=S.length:=by
 unfold bindS
 split
 ·rfl
 ·split
  ·rfl
  ·split
   ·exact put_len _ _ _
   ·rfl
theorem tel_len (h:Ln->Ln) (S:List Ln) (n:Int):(telS h S n).length=S.length:=by
 unfold telS
 split
 ·rfl
 ·exact put_len _ _ _
theorem atI_some {S:List Ln} {n:Int} {x:Ln} (h:atI S n=some x):0<=n/\n<S.length/\S[n.toNat]? = some x:=by
 unfold atI at h
 split at h
 ·rename_i h0
  have:=(List.getElem?_eq_some_iff.1 h).1
  exact ⟨h0,by omega,h⟩
 ·cases h
end Go.Proofs.YtilnjnblpeeigaaGreatDoor.Ir
namespace Go.Proofs.YtilnjnblpeeigaaGreatDoor.Ta
structure Pg where
 fr:Int
 rt:Int
def pg0:Pg:=⟨0,0⟩
structure Sp where
 t:Int->Option Int
 f:Int->Option Pg
def sp0:Sp:=⟨fun _=>none,fun _=>none⟩
def upd {α:Type} (g:Int->α) (i:Int) (v:α):Int->α:=fun j=>if j=i then v else g j
structure Good (S:Sp):Prop where
 t:∀ i m,S.t i=some m->0<=i/\i<64/\0<=m
 f:∀ n p,S.f n=some p->0<=n/\n<4096/\(S.t (n / 64)).isSome=true
theorem good0:Good sp0:=⟨fun _ _ h=>(by cases h),fun _ _ h=>(by cases h)⟩
theorem Good.nothing {S:Sp} (g:Good S) {n:Int} (h:S.t (n / 64)=none):S.f n=none:=by
 cases e:S.f n with
 | none=>rfl
 | some p =>
  have:=(g.f n p e).2.2
  rw [h] at this
  cases this
theorem Good.out {S:Sp} (g:Good S) {n:Int} (h:n<0\/4096<=n):S.f n=none:=by
 cases e:S.f n with
 | none=>rfl
 | some p =>
  have:=g.f n p e
  omega
theorem Good.outT {S:Sp} (g:Good S) {i:Int} (h:i<0\/64<=i):S.t i=none:=by
 cases e:S.t i with
 | none=>rfl
 | some p =>
  have:=g.t i p e
  omega
def anyT (S:Sp) (n:Int):Bool:=(List.range 64).any fun k=>S.t (k:Nat) == some n
theorem anyT_true {S:Sp} {n:Int}:anyT S n=true↔∃ k:Nat,k<64/\S.t k=some n:=by
 unfold anyT
 rw [List.any_eq_true]
 constructor
 ·rintro ⟨k,hk,h⟩
  exact ⟨k,List.mem_range.1 hk,by simpa using h⟩
 ·rintro ⟨k,hk,h⟩
  exact ⟨k,List.mem_range.2 hk,by simpa using h⟩
def tabE (S:Sp) (i n:Int):Int:=if i<0\/64<=i\/n<0 then 1 else if (S.t i).isSome=true\/anyT S n=true then 140 else 0
def tabS (S:Sp) (i n:Int):Sp:=if tabE S i n=0 then ⟨upd S.t i (some n),S.f⟩ else S
def drpE (S:Sp) (i:Int):Int:=if i<0\/64<=i then 1 else if (S.t i).isSome=true then 0 else 141
def outP (f:Int->Option Pg) (i:Int):Int->Option Pg:=fun n=>if n / 64=i then none else f n
def drpS (S:Sp) (i:Int):Sp:=if drpE S i=0 then ⟨upd S.t i none,outP S.f i⟩ else S
def mapE (S:Sp) (n:Int) (p:Pg):Int:=if n<0\/4096<=n\/p.fr<0\/p.rt<0\/7<p.rt then 1 else if (S.t (n / 64)).isSome=true then (if (S.f n).isSome=true then 140 else 0) else 141
def mapS (S:Sp) (n:Int) (p:Pg):Sp:=if mapE S n p=0 then ⟨S.t,upd S.f n (some p)⟩ else S
def unmE (S:Sp) (n:Int):Int:=if n<0\/4096<=n then 1 else if (S.f n).isSome=true then 0 else 141
def unmS (S:Sp) (n:Int):Sp:=if unmE S n=0 then ⟨S.t,upd S.f n none⟩ else S
def wlkP (S:Sp) (n:Int):Pg:=(S.f n).getD pg0
def wlkB (S:Sp) (n:Int):Bool:=(S.f n).isSome
def hasN (S:Sp) (i:Int):Int:=(S.t i).getD 0
def hasB (S:Sp) (i:Int):Bool:=(S.t i).isSome
theorem tabE_ok {S:Sp} {i n:Int} (h:tabE S i n=0):0<=i/\i<64/\0<=n/\S.t i=none/\anyT S n=false:=by
 unfold tabE at h
 split at h
 ·cases h
 ·split at h
  ·cases h
  ·rename_i h1 h2
   simp only [not_or,Bool.not_eq_true,Option.isSome_eq_false_iff,Option.isNone_iff_eq_none] at h2
   exact ⟨by omega,by omega,by omega,h2.1,h2.2⟩
theorem mapE_ok {S:Sp} {n:Int} {p:Pg} (h:mapE S n p=0):0<=n/\n<4096/\(S.t (n / 64)).isSome=true/\S.f n=none/\0<=p.fr/\0<=p.rt/\p.rt<=7:=by
 unfold mapE at h
 split at h
 ·cases h
 ·split at h
  ·split at h
   ·cases h
   ·rename_i h1 h2 h3
    exact ⟨by omega,by omega,h2,by simpa using h3,by omega,by omega,by omega⟩
  ·cases h
theorem unmE_ok {S:Sp} {n:Int} (h:unmE S n=0):0<=n/\n<4096/\∃ p,S.f n=some p:=by
 unfold unmE at h
 split at h
 ·cases h
 ·split at h
  ·rename_i h1 h2
   exact ⟨by omega,by omega,Option.isSome_iff_exists.1 h2⟩
  ·cases h
theorem good_tab {S:Sp} (g:Good S) (i n:Int):Good (tabS S i n):=by
 unfold tabS
 split
 ·rename_i h
  obtain ⟨h0,h1,h2,h3,_⟩:=tabE_ok h
  refine ⟨fun j m hj=>?_,fun k p hk=>?_⟩
  ·simp only [upd] at hj
   split at hj
   ·cases hj
    omega
   ·exact g.t j m hj
  ·obtain ⟨a,b,c⟩:=g.f k p hk
   refine ⟨a,b,?_⟩
   simp only [upd]
   split
   ·rfl
   ·exact c
 ·exact g
theorem good_drp {S:Sp} (g:Good S) (i:Int):Good (drpS S i):=by
 unfold drpS
 split
 ·refine ⟨fun j m hj=>?_,fun k p hk=>?_⟩
  ·simp only [upd] at hj
   split at hj
   ·cases hj
   ·exact g.t j m hj
  ·simp only [outP] at hk
   split at hk
   ·cases hk
   ·rename_i h
    obtain ⟨a,b,c⟩:=g.f k p hk
    refine ⟨a,b,?_⟩
    simp only [upd,if_neg h]
    exact c
 ·exact g
theorem good_map {S:Sp} (g:Good S) (n:Int) (p:Pg):Good (mapS S n p):=by
 unfold mapS
 split
 ·rename_i h
  obtain ⟨h0,h1,h2,_⟩:=mapE_ok h
  refine ⟨g.t,fun k q hk=>?_⟩
  simp only [upd] at hk
  split at hk
  ·rename_i e
   subst e
   exact ⟨h0,h1,h2⟩
  ·exact g.f k q hk
 ·exact g
theorem good_unm {S:Sp} (g:Good S) (n:Int):Good (unmS S n):=by
 unfold unmS
 split
 ·refine ⟨g.t,fun k q hk=>?_⟩
  simp only [upd] at hk
  split at hk
  ·cases hk
  ·exact g.f k q hk
 ·exact g
abbrev La:=Int×Pg
def atN (f:Int->Option Pg) (n:Nat):Option La:=(f (n:Int)).map fun p=>((n:Int),p)
def seg (f:Int->Option Pg) (a k:Nat):List La:=(List.range' a k).filterMap (atN f)
def allP (f:Int->Option Pg):List La:=seg f 0 4096
theorem seg_add (f:Int->Option Pg) (a k m:Nat):seg f a (k+m)=seg f a k++seg f (a+k) m:=by
 unfold seg
 rw [<- List.range'_append_1,List.filterMap_append]
theorem seg_mem {f:Int->Option Pg} {a k:Nat} {n:Int} {p:Pg}:(n,p)∈seg f a k↔(a:Int)<=n/\n<a+k/\f n=some p:=by
 unfold seg atN
 rw [List.mem_filterMap]
 constructor
 ·rintro ⟨m,hm,h⟩
  rw [List.mem_range'_1] at hm
  obtain ⟨q,hq,e⟩:=Option.map_eq_some_iff.1 h
  cases e
  exact ⟨by omega,by omega,hq⟩
 ·rintro ⟨h0,h1,h2⟩
  have e:((n.toNat:Nat):Int)=n:=by omega
  refine ⟨n.toNat,List.mem_range'_1.2 ⟨by omega,by omega⟩,?_⟩
  rw [e,h2]
  rfl
theorem seg_rise (f:Int->Option Pg) (a k:Nat):(seg f a k).Pairwise fun x y=>x.1<y.1:=by
 unfold seg
 rw [List.pairwise_filterMap]
 refine (List.pairwise_lt_range' (s:=a) (n:=k)).imp ?_
 intro i j hij x hx y hy
 obtain ⟨p,_,rfl⟩:=Option.map_eq_some_iff.1 hx
 obtain ⟨q,_,rfl⟩:=Option.map_eq_some_iff.1 hy
 simp only
 omega
theorem seg_len (f:Int->Option Pg) (a k:Nat):(seg f a k).length<=k:=by
 have:=List.length_filterMap_le (atN f) (List.range' a k)
 rw [List.length_range'] at this
 exact this
theorem all_len (f:Int->Option Pg):(allP f).length<=4096:=seg_len f 0 4096
theorem rise_ext {L M:List La} (h1:L.Pairwise fun x y=>x.1<y.1) (h2:M.Pairwise fun x y=>x.1<y.1) (h:∀ x,x∈L↔x∈M):L=M:=by
 have n1:L.Nodup:=h1.imp fun {x y} hxy e=>by rw [e] at hxy;exact Int.lt_irrefl _ hxy
 have n2:M.Nodup:=h2.imp fun {x y} hxy e=>by rw [e] at hxy;exact Int.lt_irrefl _ hxy
 refine List.Perm.eq_of_pairwise (le:=fun x y=>x.1<y.1) (fun a b _ _ h1 h2=>absurd (Int.lt_trans h1 h2) (Int.lt_irrefl _)) h1 h2 ((List.perm_ext_iff_of_nodup n1 n2).2 h)
theorem seg_ext {f:Int->Option Pg} {a k:Nat} {L:List La} (h1:L.Pairwise fun x y=>x.1<y.1) (h:∀ n p,(n,p)∈L↔(a:Int)<=n/\n<a+k/\f n=some p):L=seg f a k:=
 rise_ext h1 (seg_rise f a k) fun ⟨n,p⟩=>by rw [h,seg_mem]
def atPl (f:Int->Option Pg) (i:Int):Int->Option Pg:=fun n=>if n / 64=i then f n else none
def plP (f:Int->Option Pg) (i:Nat):List La:=seg f (64*i) 64
theorem pl_step (f:Int->Option Pg) (i:Nat):seg f 0 (64*(i+1))=seg f 0 (64*i)++plP f i:=by
 rw [show 64*(i+1)=64*i+64 by omega,seg_add,Nat.zero_add]
 rfl
theorem laid_is {S:Sp} {i:Nat} {K:List Int} (hk:K.Pairwise (· < ·)) (hm:∀ x,x∈K↔(atPl S.f i x).isSome=true):K.map (fun k=>(k,(atPl S.f i k).getD pg0))=plP S.f i:=by
 refine seg_ext (List.pairwise_map.2 (hk.imp fun {x y} h=>h)) fun n p=>?_
 rw [List.mem_map]
 constructor
 ·rintro ⟨k,hk,e⟩
  have h1:=(hm k).1 hk
  obtain ⟨rfl,rfl⟩:=Prod.mk.injEq .. ▸ e
  unfold atPl at h1 ⊢
  split at h1
  ·rename_i h2
   rw [if_pos h2]
   obtain ⟨p,hp⟩:=Option.isSome_iff_exists.1 h1
   rw [hp]
   refine ⟨by omega,by omega,rfl⟩
  ·cases h1
 ·rintro ⟨h0,h1,h2⟩
  have h3:n / 64=(i:Int):=by omega
  refine ⟨n,(hm n).2 ?_,?_⟩
  ·unfold atPl
   rw [if_pos h3,h2]
   rfl
  ·unfold atPl
   rw [if_pos h3,h2]
   rfl
theorem sorted_rise {ss ks:List Int} (hp:ss.Perm ks) (hn:ks.Nodup):(ss.mergeSort fun x y=>decide (x<=y)).Pairwise (· < ·)/\∀ x,x∈ss.mergeSort (fun x y=>decide (x<=y))↔x∈ks:=by
 have tr:∀ a b c:Int,decide (a<=b)=true->decide (b<=c)=true->decide (a<=c)=true:=fun a b c h1 h2=>by simp only [decide_eq_true_eq] at *;exact Int.le_trans h1 h2
 have to:∀ a b:Int,(decide (a<=b) || decide (b<=a))=true:=fun a b=>by simp only [Bool.or_eq_true,decide_eq_true_eq];exact Int.le_total a b
 have pm:(ss.mergeSort fun x y=>decide (x<=y)).Perm ks:=(List.mergeSort_perm _ _).trans hp
 refine ⟨?_,fun x=>pm.mem_iff⟩
 have h1:=List.pairwise_mergeSort (le:=fun x y:Int=>decide (x<=y)) tr to ss
 have h2:(ss.mergeSort fun x y=>decide (x<=y)).Nodup:=pm.nodup_iff.2 hn
 refine (h1.and h2).imp fun {x y} h=>?_
 have:x<=y:=by simpa using h.1
 have:=h.2
 omega
def frmB (fr:Int) (x:La):Bool:=x.2.fr == fr
def frmL (f:Int->Option Pg) (fr:Int):List Int:=((allP f).filter (frmB fr)).map (·.1)
end Go.Proofs.YtilnjnblpeeigaaGreatDoor.Ta
namespace Go.Proofs.YtilnjnblpeeigaaGreatDoor
structure Kr where
 S:Sl.St
 E:Tr.St
 h:Th.Hs
 l:List Ir.Ln
 U:List Un.Un
 P:List En.St
 N:List No.Ns
 D:List Ta.Sp
 fr:Nat
 tb:Nat
structure Cl where
 q:Int
 a:Int
 w:Int
 A:Int
 B:Int
 C:Int
structure Lr where
 s:Int
 p:Int
 f:Int
 r:Int
structure Tl where
 e:Int
 w:Int
 k:Int
 f:List Lr
def tlE (e:Int):Tl:=⟨e,0,-1,[]⟩
def sl (n:Int):Sl.Sl:=⟨0,n⟩
def tr (n:Int):Tr.Sl:=⟨0,n⟩
def toCa (c:Sl.Cp):Ca.Cp:=⟨c.k,c.o,c.r,c.b,c.g,c.z⟩
def ofCa (c:Ca.Cp):Sl.Cp:=⟨c.k,c.o,c.r,c.b,c.g,c.z⟩
def capN (K:Kr) (n:Int):Sl.Cp:=if 0<=n/\n<=63 then Sl.getC K.S (sl n) else Sl.no
def u64 (x:Int):Int:=x % 18446744073709551616
def freed (K:Kr) (id:Int):Kr:={ K with P:=K.P.map fun S=>En.outS (En.isW id) S,N:=K.N.map fun S=>No.canS S id }
def wakeE (K:Kr) (id:Int):Int:=Th.resumeE K.h id
def wakeK (K:Kr) (id:Int):Kr:={ K with h:=Th.resumeH K.h id }
def wakeN (K:Kr) (id:Int):Int:=if wakeE K id=0 then id else -1
def restK (K:Kr) (core who c:Int):Kr:=if c=0 then K else { K with h:=Th.pickH (Th.blockH K.h who) core }
def getK (K:Kr) (id:Int) (m:En.Ms):Kr:={ K with h:=Th.regH (Th.regH (Th.regH K.h id 0 m.g) id 1 (u64 m.l)) id 2 m.a }
def epN (K:Kr) (n:Int):En.St:=K.P.getD n.toNat []
def ntN (K:Kr) (n:Int):No.Ns:=K.N.getD n.toNat No.ns0
def spN (K:Kr) (n:Int):Ta.Sp:=K.D.getD n.toNat Ta.sp0
def unN (K:Kr) (n:Int):Un.Un:=K.U.getD n.toNat Un.Un.zero
def setP (K:Kr) (n:Int) (S:En.St):Kr:={ K with P:=K.P.set n.toNat S }
def setN (K:Kr) (n:Int) (S:No.Ns):Kr:={ K with N:=K.N.set n.toNat S }
def setD (K:Kr) (n:Int) (S:Ta.Sp):Kr:={ K with D:=K.D.set n.toNat S }
def setU (K:Kr) (n:Int) (u:Un.Un):Kr:={ K with U:=K.U.set n.toNat u }
def sigN (K:Kr) (n:Int):Int:=if No.sigB (ntN K n)=true then No.sigN (ntN K n) else -1
def sigK (K:Kr) (n g:Int):Kr:=
 if No.sigB (ntN K n)=true then { setN K n (No.sigS (ntN K n) g) with h:=Th.resumeH (Th.regH K.h (No.sigN (ntN K n)) 0 (No.sigW (ntN K n) g)) (No.sigN (ntN K n)) } else setN K n (No.sigS (ntN K n) g)
def linesL (s:Int) (L:List Ta.La):List Lr:=L.map fun x=>⟨s,x.1,x.2.fr,x.2.rt⟩
def frmLa (D:Ta.Sp) (o:Int):List Ta.La:=(Ta.frmL D.f o).map fun n=>(n,Ta.wlkP D n)
def unmL (D:Ta.Sp) (L:List Int):Ta.Sp:=L.foldl Ta.unmS D
def goneF (o:Int):Nat->List Ta.Sp->List Lr
 | _,[]=>[]
 | i,D::L=>linesL (i:Int) (frmLa D o)++goneF o (i+1) L
def drpStep (o:Int) (x:Ta.Sp×List Ta.La) (j:Nat):Ta.Sp×List Ta.La:=
 if (Ta.hasB x.1 (j:Int) && Ta.hasN x.1 (j:Int) == o)=true then (Ta.drpS x.1 (j:Int),x.2++Ta.plP x.1.f j) else x
def drpAll (o:Int) (D:Ta.Sp):Ta.Sp×List Ta.La:=(List.range 64).foldl (drpStep o) (D,[])
def goneT (o:Int):Nat->List Ta.Sp->List Lr
 | _,[]=>[]
 | i,D::L=>linesL (i:Int) (drpAll o D).2++goneT o (i+1) L
section
variable [dT:DecidableEq Tr.Sl] [dF:∀ c:Sl.Cp,Decidable (Sl.Fine c)] [dL:∀ k:Int,Decidable (Ca.Lim k)] [dC:∀ c:Ca.Cp,Decidable (Ca.Fine c)] [dM:∀ (c:Ca.Cp) (v:Int),Decidable (Ca.MintR c v)]
def outK (K:Kr) (n:Int):Kr:={ K with E:=Tr.takeS K.E (tr n),S:=Sl.takeS K.S (sl n) }
def lastB (K:Kr) (c:Sl.Cp):Bool:=!((Sl.held K.S).any fun x=>Ca.sameB (toCa x.2) (toCa c))
def deadK (K:Kr) (c:Sl.Cp):Kr:=
 if c.k=3 then { freed K c.o with h:=Th.suspendH K.h c.o }
 else if c.k=6 then { K with D:=K.D.map fun D=>unmL D (Ta.frmL D.f c.o) }
 else if c.k=7 then { K with D:=K.D.map fun D=>(drpAll c.o D).1 }
 else K
def deadF (K:Kr) (c:Sl.Cp):List Lr:=if c.k=6 then goneF c.o 0 K.D else if c.k=7 then goneT c.o 0 K.D else []
def goneK (K:Kr) (n:Int):Kr:=if lastB (outK K n) (Sl.takeC K.S (sl n))=true then deadK (outK K n) (Sl.takeC K.S (sl n)) else outK K n
def goneL (K:Kr) (n:Int):List Lr:=if lastB (outK K n) (Sl.takeC K.S (sl n))=true then deadF (outK K n) (Sl.takeC K.S (sl n)) else []
def goneAll:Kr->List Int->Kr×List Lr
 | K,[]=>(K,[])
 | K,n::L=>((goneAll (goneK K n) L).1,goneL K n++(goneAll (goneK K n) L).2)
def freeE (K:Kr) (from' many:Int):Int:=
 if 0<=from'/\from'<=63/\from'+many<=64 then (if (List.range many.toNat).all (fun i=>(capN K (from'+(i:Int))).k == 0)=true then 0 else 51) else 181
def layK (K:Kr) (a n:Int) (c:Sl.Cp):Kr:={ K with S:=Sl.putS K.S (sl n) c,E:=Tr.addS K.E (tr a) (tr n) }
def madeN (K:Kr) (A B core:Int):Int:=
 if A=1 then K.U.length else if A=2 then Sl.makeN K.S B else if A=3 then Th.makeN K.h 0 core else if A=4 then K.P.length else if A=5 then K.N.length else if A=8 then K.D.length else if A=6 then K.fr else K.tb
def madeK (K:Kr) (A B core place:Int):Kr:=
 if A=1 then { K with U:=K.U++[⟨place,B,0⟩] }
 else if A=2 then { K with S:=Sl.makeS K.S B }
 else if A=3 then { K with h:=Th.makeH K.h 0 core }
 else if A=4 then { K with P:=K.P++[[]] }
 else if A=5 then { K with N:=K.N++[No.ns0] }
 else if A=8 then { K with D:=K.D++[Ta.sp0] }
 else if A=6 then { K with fr:=K.fr+1 }
 else { K with tb:=K.tb+1 }
def makesK (a core A B:Int):Kr->Int->List Int->Kr
 | K,_,[]=>K
 | K,n,x::L=>makesK a core A B (layK (madeK K A B core x) a n ⟨A,madeN K A B core,7,0,0,0⟩) (n+1) L
def bigB (K:Kr) (c:Cl):Bool:=(c.A == 2 && decide (64<(K.S.length:Int)+c.C)) || (c.A == 3 && decide (64<(K.h.L.length:Int)+c.C))
def retypeE (K:Kr) (c:Cl) (o:Int):Int:=
 if Un.plE (unN K o) c.A c.B c.C≠0 then Un.plE (unN K o) c.A c.B c.C else if freeE K c.w c.C≠0 then freeE K c.w c.C else if bigB K c=true then 2 else 0
def retypeK (K:Kr) (core:Int) (c:Cl) (o:Int):Kr:=
 if retypeE K c o=0 then makesK c.a core c.A c.B (setU K o (Un.plU (unN K o) c.A c.B c.C)) c.w (Un.plL (unN K o) c.A c.B c.C) else K
def mintE (K:Kr) (c:Cl) (x:Sl.Cp):Int:=if freeE K c.w 1≠0 then freeE K c.w 1 else Ca.mintE (toCa x) c.A (u64 c.B)
def mintK (K:Kr) (c:Cl) (x:Sl.Cp):Kr:=if mintE K c x=0 then layK K c.a c.w (ofCa (Ca.mintR (toCa x) c.A (u64 c.B))) else K
def moveK (K:Kr) (c:Cl):Kr:=if freeE K c.w 1=0 then { K with S:=Sl.moveS K.S (sl c.a) (sl c.w),E:=Tr.moveS K.E (tr c.a) (tr c.w) } else K
def underL (K:Kr) (n:Int):List Int:=((Tr.underS K.E (tr n)).map fun s=>s.i).reverse
def revokeK (K:Kr) (n:Int) (x:Sl.Cp):Kr:=if x.k=1 then setU (goneAll K (underL K n)).1 x.o ⟨(unN K x.o).base,(unN K x.o).bits,0⟩ else (goneAll K (underL K n)).1
def needK (q:Int):Int:=if q=0 then 1 else if q=5\/q=6\/q=7 then 3 else if q=8\/q=9 then 4 else if q=10\/q=11 then 5 else if q=12 then 7 else if q=13 then 6 else if q=14 then 8 else if q=15\/q=16 then 9 else 0
def mayB (c:Cl) (x:Sl.Cp):Bool:=
 !(x.k == 0) && (needK c.q == 0 || x.k == needK c.q) && !(c.q == 1 && x.k == 1) && (!(c.q == 8 || c.q == 10) || x.r / 2 % 2 == 1) && (!(c.q == 9 || c.q == 11) || x.r % 2 == 1)
def sentK (K:Kr) (core who:Int) (c:Cl) (m:En.Mt) (wk:Int):Kr×Tl:=
 if m.i=true then (wakeK (getK K m.t m.m) wk,⟨0,0,wk,[]⟩) else (restK K core who c.C,tlE 0)
def sendK (K:Kr) (core who:Int) (c:Cl) (x:Sl.Cp):Kr×Tl:=
 let m:En.Ms:=⟨c.A,u64 c.B,0,0,0,x.b,false⟩
 if En.sendE (epN K x.o) who=0 then sentK (setP K x.o (En.sendS (epN K x.o) who m (decide (c.C≠0)))) core who c (En.sendM (epN K x.o) who m) (En.sendM (epN K x.o) who m).t else (K,tlE (En.sendE (epN K x.o) who))
def recvK (K:Kr) (core who:Int) (c:Cl) (x:Sl.Cp):Kr×Tl:=
 if En.sendE (epN K x.o) who=0 then sentK (setP K x.o (En.recvS (epN K x.o) who (decide (c.C≠0)))) core who c (En.recvM (epN K x.o) who) (En.recvM (epN K x.o) who).f else (K,tlE (En.sendE (epN K x.o) who))
def waitK (K:Kr) (core who:Int) (c:Cl) (x:Sl.Cp):Kr×Tl:=
 if No.waitE (ntN K x.o) who=0 then
  (if No.waitB (ntN K x.o) who=true then (setN K x.o (No.waitS (ntN K x.o) who (decide (c.C≠0))),⟨0,No.waitW (ntN K x.o) who,-1,[]⟩) else (restK (setN K x.o (No.waitS (ntN K x.o) who (decide (c.C≠0)))) core who c.C,tlE 0))
 else (K,tlE (No.waitE (ntN K x.o) who))
def easedK (K:Kr) (id:Int):Kr:=if (Th.getT K.h id).st=3 then freed K id else K
def ackedK (K:Kr) (o:Int):Kr:={ K with l:=Ir.telS Ir.ackX K.l o }
def doesK (K:Kr) (core who:Int) (c:Cl) (x:Sl.Cp):Kr×Tl:=
 if c.q=0 then (retypeK K core c x.o,tlE (retypeE K c x.o))
 else if c.q=1 then (mintK K c x,tlE (mintE K c x))
 else if c.q=2 then (moveK K c,tlE (freeE K c.w 1))
 else if c.q=3 then (if c.a=0 then (K,tlE 181) else (goneK K c.a,⟨0,0,-1,goneL K c.a⟩))
 else if c.q=4 then (revokeK K c.a x,⟨0,(underL K c.a).length,-1,(goneAll K (underL K c.a)).2⟩)
 else if c.q=5 then (wakeK (easedK K x.o) x.o,⟨wakeE (easedK K x.o) x.o,0,wakeN (easedK K x.o) x.o,[]⟩)
 else if c.q=6 then ({ freed K x.o with h:=Th.suspendH K.h x.o },tlE (Th.suspendE K.h x.o))
 else if c.q=7 then ({ K with h:=Th.prioH K.h x.o c.A },tlE (Th.prioE K.h x.o c.A))
 else if c.q=8 then sendK K core who c x
 else if c.q=9 then recvK K core who c x
 else if c.q=10 then (sigK K x.o x.b,⟨0,0,sigN K x.o,[]⟩)
 else if c.q=11 then waitK K core who c x
 else if c.q=12 then
  (if (capN K c.w).k=8 then (setD K (capN K c.w).o (Ta.tabS (spN K (capN K c.w).o) c.A x.o),tlE (Ta.tabE (spN K (capN K c.w).o) c.A x.o)) else (K,tlE 181))
 else if c.q=13 then
  (if (capN K c.w).k=8 then (setD K (capN K c.w).o (Ta.mapS (spN K (capN K c.w).o) c.A ⟨x.o,bits .and .i64 x.r c.B⟩),tlE (Ta.mapE (spN K (capN K c.w).o) c.A ⟨x.o,bits .and .i64 x.r c.B⟩)) else (K,tlE 181))
 else if c.q=14 then
  (if Ta.unmE (spN K x.o) c.A=0 then (setD K x.o (Ta.unmS (spN K x.o) c.A),⟨0,0,-1,[⟨x.o,c.A,(Ta.wlkP (spN K x.o) c.A).fr,(Ta.wlkP (spN K x.o) c.A).rt⟩]⟩) else (K,tlE (Ta.unmE (spN K x.o) c.A)))
 else if c.q=15 then
  (if (capN K c.w).k=5 then ({ K with l:=Ir.bindS K.l x.o (capN K c.w).o (capN K c.w).b },tlE (Ir.bindE K.l x.o (capN K c.w).o)) else (K,tlE 181))
 else
  (if Ir.telB Ir.isM K.l x.o=true then (sigK (ackedK K x.o) (Ir.telA Ir.isM K.l x.o) (Ir.telG Ir.isM K.l x.o),⟨Ir.telE K.l x.o,0,sigN (ackedK K x.o) (Ir.telA Ir.isM K.l x.o),[]⟩) else (ackedK K x.o,tlE (Ir.telE K.l x.o)))
def pickedK (K:Kr) (core:Int):Kr:={ K with h:=Th.pickH K.h core }
def doK (K:Kr) (core:Int) (c:Cl):Kr×Tl:=
 if Th.runsB (pickedK K core).h core=true then
  (if 0<=c.q/\c.q<=17 then
   (if c.q=17 then ({ K with h:=Th.yieldH (pickedK K core).h core },tlE 0)
       else if mayB c (capN K c.a)=true then doesK (pickedK K core) core (Th.runsN (pickedK K core).h core) c (capN K c.a)
       else (pickedK K core,tlE 181))
     else (pickedK K core,tlE 180))
 else (pickedK K core,tlE 182)
def rootK (K:Kr) (k o:Int):Kr:={ K with S:=Sl.putS K.S (sl K.E.length) ⟨k,o,7,0,0,0⟩,E:=Tr.rootS K.E (tr K.E.length) }
def bootT:Kr->Nat->List Int->Kr
 | K,_,[]=>K
 | K,i,p::L=>bootT (rootK { K with h:=Th.pickH (Th.resumeH (Th.makeH K.h p (i:Int)) (i:Int)) (i:Int) } 3 (i:Int)) (i+1) L
def bootI:Kr->Nat->Nat->Kr
 | K,_,0=>K
 | K,i,n+1=>bootI (rootK K 9 (i:Int)) (i+1) n
def boot0 (n:Nat) (b:Int):Kr:=⟨Sl.makeS [] 6,[],Th.newH n,List.replicate 8 Ir.ln0,[⟨0,b,0⟩],[],[],[Ta.sp0],0,0⟩
def bootK (n:Nat) (b:Int) (m:Nat) (Q:List Int):Kr:=bootI (rootK (bootT (rootK (rootK (boot0 n b) 2 0) 1 0) 0 Q) 8 0) 0 m
end
end Go.Proofs.YtilnjnblpeeigaaGreatDoor
namespace Go.Proofs.YtilnjnblpeeigaaGreatDoor
open Go.RowKit Go.Deep Go.Shelf
def elU:El Un.Un:=⟨79,68,3,24,fun u=>[.int .u64 u.base,.int .i64 u.bits,.int .u64 u.used]⟩
def elPe:El Nat:=⟨116,69,1,8,fun q=>[ptr q]⟩
def elPn:El Nat:=⟨113,70,1,8,fun q=>[ptr q]⟩
def elPs:El Nat:=⟨84,71,1,8,fun q=>[ptr q]⟩
theorem infoU:(Tryz.prog.info? 79).map (fun i=>(i.zero,i.size,i.bytes))=some (some (.agg #[.int .u64 0,.int .i64 0,.int .u64 0]),3,24):=by kernel_rfl
theorem infoPe:(Tryz.prog.info? 116).map (fun i=>(i.zero,i.size,i.bytes))=some (some (.pointer none),1,8):=by kernel_rfl
theorem infoPn:(Tryz.prog.info? 113).map (fun i=>(i.zero,i.size,i.bytes))=some (some (.pointer none),1,8):=by kernel_rfl
theorem infoPs:(Tryz.prog.info? 84).map (fun i=>(i.zero,i.size,i.bytes))=some (some (.pointer none),1,8):=by kernel_rfl
theorem okU:El.Ok elU:=⟨Tryz.underlying68,info_of infoU rfl,by decide,by decide,fun _=>rfl,by simp [elU,Value.oneCell']⟩
theorem okPe:El.Ok elPe:=⟨Tryz.underlying69,info_of infoPe rfl,by decide,by decide,fun _=>rfl,by simp [elPe,Value.oneCell']⟩
theorem okPn:El.Ok elPn:=⟨Tryz.underlying70,info_of infoPn rfl,by decide,by decide,fun _=>rfl,by simp [elPn,Value.oneCell']⟩
theorem okPs:El.Ok elPs:=⟨Tryz.underlying71,info_of infoPs rfl,by decide,by decide,fun _=>rfl,by simp [elPs,Value.oneCell']⟩
def cLr (x:Lr):List Value:=[.int .i64 x.s,.int .i64 x.p,.int .i64 x.f,.int .i64 x.r]
def elR:El Lr:=⟨53,33,4,32,cLr⟩
theorem infoR:(Tryz.prog.info? 53).map (fun i=>(i.zero,i.size,i.bytes))=some (some (.agg #[.int .i64 0,.int .i64 0,.int .i64 0,.int .i64 0]),4,32):=by kernel_rfl
theorem okR:El.Ok elR:=⟨Tryz.underlying33,info_of infoR rfl,by decide,by decide,fun _=>rfl,by simp [elR,cLr,Value.oneCell']⟩
def cSl (x:Sl.Sl):List Value:=[.int .i64 x.n,.int .i64 x.i]
def elSl:El Sl.Sl:=⟨88,213,2,16,cSl⟩
theorem infoSl:(Tryz.prog.info? 88).map (fun i=>(i.zero,i.size,i.bytes))=some (some (.agg #[.int .i64 0,.int .i64 0]),2,16):=by kernel_rfl
theorem okSl:El.Ok elSl:=⟨Tryz.underlying213,info_of infoSl rfl,by decide,by decide,fun _=>rfl,by simp [elSl,cSl,Value.oneCell']⟩
end Go.Proofs.YtilnjnblpeeigaaGreatDoor
namespace Go.Proofs.YtilnjnblpeeigaaGreatDoor
open Go.RowKit Go.Deep Go.Shelf
def capV (k o:Int):Value:=.agg #[.int .i64 k,.int .i64 o,.int .i64 7,.int .u64 0,.int .u64 0,.int .i64 0]
def encTl (e w k:Int) (v:Value):Value:=.agg #[.int .i64 e,.int .u64 w,.int .i64 k,v]
theorem told_any (e:Int) (w:World):Calls Tryz.prog 30 #[.int .i64 e] w fun x w'=>x = .returned (encTl e 0 (-1) (.slice none 0 0))/\Below w.heap.size w w':=by
 go_enter Tryz.func30,Tryz.ntmps30
 go_wp2
 refine bodyPost_ret (v:=encTl e 0 (-1) (.slice none 0 0)) ?_ rfl ⟨rfl,?_⟩
 ·simp [results,Tryz.f30,go_sem,encTl]
 ·exact below_new _ _
theorem whole_any (k o:Int) (w:World):Calls Tryz.prog 21 #[.int .i64 k,.int .i64 o] w fun x w'=>x = .returned (capV k o)/\Below w.heap.size w w':=by
 go_enter Tryz.func21,Tryz.ntmps21
 go_wp2
 refine bodyPost_ret (v:=capV k o) ?_ rfl ⟨rfl,?_⟩
 ·simp [results,Tryz.f21,go_sem,capV]
 ·exact below_new _ _
theorem among_any (n a b:Int) (w:World):Calls Tryz.prog 46 #[.int .i64 n,.int .i64 a,.int .i64 b] w fun x w'=>x = .returned (.bool (decide (a<=n) && decide (n<=b)))/\w'=w:=by
 go_enter Tryz.func46,Tryz.ntmps46
 by_cases h:a<=n
 ·have h2:n ≥ a:=h
  go_wp2
  go_ret
  exact ⟨by simp [h],rfl⟩
 ·have h2:¬ n ≥ a:=h
  go_wp2
  go_ret
  exact ⟨by simp;omega,rfl⟩
theorem Sep.putB {w0 w:World} {r p:Nat} {C:Array Value} {ty:TypeId} {R:List Th} (s:Sep w0 r w (blk p (.cells C ty)::R)) (j:Nat) (c:Value):Sep w0 r (w.setCell ⟨p,j,none⟩ c) (blk p (.cells (C.set! j c) ty)::R):=
 s.turn (t':=blk p (.cells (C.set! j c) ty)) (setBlock s.head c) (Turn.setCell _ w ⟨p,j,none⟩ c rfl) (Out.refl _ _)
theorem Sep.blkCell {w0 w:World} {r p:Nat} {C:Array Value} {ty:TypeId} {R:List Th} (s:Sep w0 r w R) (h:blk p (.cells C ty)∈R) (j:Nat):w.cell? ⟨p,j,none⟩=C[j]? /\ w.frozen? ⟨p,j,none⟩=false:=by
 have:=(s.each _ h).1
 have h1:w.heap[p]? = some (.cells C ty):=this
 simp [World.cell?,World.frozen?,h1]
theorem numU_any (ao:Option Addr) (n cap:Nat) (i:Int) (w:World):Calls Tryz.prog 89 #[.slice ao n cap,.int .i64 i] w fun x w'=>x = .returned (.bool (decide (0<=i) && decide (i<(n:Int))))/\w'=w:=by
 go_enter Tryz.func89,Tryz.ntmps89
 by_cases h:0<=i
 ·have h2:i ≥ 0:=h
  go_wp2
  go_ret
  exact ⟨by simp [h],rfl⟩
 ·have h2:¬ i ≥ 0:=h
  go_wp2
  go_ret
  exact ⟨by simp;omega,rfl⟩
theorem new_cell (w:World) (C:Array Value) (ty:TypeId) (j:Nat):(w.alloc (.cells C ty)).cell? ⟨w.heap.size,j,none⟩=C[j]?:=by
 have:=blk_alloc_new w (.cells C ty)
 simp only [World.cell?]
 rw [this]
 rfl
section
variable {w0 w w':World} {r p:Nat} {C:Array Value} {ty:TypeId} {R:List Th}
theorem next_sep {n:Nat} {j:Nat} (s:Sep w0 r w (blk p (.cells C ty)::R)) (hj:C[j]? = some (.int .i64 (n:Int))) (hn:n<=1000000) :
  Calls Tryz.prog 177 #[.pointer (some ⟨p,j,none⟩)] w fun e w'=>e = .returned (.int .i64 (n:Int))/\Sep w0 r w' (blk p (.cells (C.set! j (.int .i64 ((n+1:Nat):Int))) ty)::R):=by
 obtain ⟨c1,f1⟩:=s.blkCell (List.mem_cons_self) j
 rw [hj] at c1
 have S1:=hid (s.putB j (.int .i64 ((n+1:Nat):Int)))
 have hz:IntKind.i64.wrap ((n:Int)+1)=((n+1:Nat):Int):=by rw [IntKind.wrap_i64];omega
 have hz2:IntKind.i64.wrap (((n+1:Nat):Int) - 1)=(n:Int):=by rw [IntKind.wrap_i64];omega
 clear s hj
 generalize n+1=m at *
 go_enter Tryz.func177,Tryz.ntmps177
 go_wp2
 go_ret
 exact ⟨rfl,S1.out⟩
theorem addP_sep {j:Nat} {u:Value} {A:List Nat} (x:Nat) (s:Sep w0 r w (lst elPe u A::blk p (.cells C ty)::R)) (hj:C[j]? = some u) (hl:A.length<=1000000) :
  Calls Tryz.prog 173 #[.pointer (some ⟨p,j,none⟩),ptr x] w fun e w'=>e = .returned (.int .i64 (A.length:Int))/\∃ v,Sep w0 r w' (lst elPe v (A++[x])::blk p (.cells (C.set! j v) ty)::R):=by
 obtain ⟨v4,w4,r4,s4⟩:=s.more okPe 69 x (C:=#[ptr x]) rfl hl
 obtain ⟨a5,c5,rfl⟩:=s.listIs (E:=elPe) (v:=u) (A:=A) (by simp)
 obtain ⟨a6,c6,rfl⟩:=s4.listIs (E:=elPe) (v:=v4) (A:=A++[x]) (by simp)
 obtain ⟨c1,f1⟩:=s.blkCell (p:=p) (C:=C) (ty:=ty) (by simp) j
 obtain ⟨c4,f4⟩:=s4.blkCell (p:=p) (C:=C) (ty:=ty) (by simp) j
 rw [hj] at c1 c4
 have hz:IntKind.i64.wrap (((A++[x]).length:Int) - 1)=(A.length:Int):=by rw [List.length_append,IntKind.wrap_i64];simp only [List.length_cons,List.length_nil];omega
 have c1x:=cell_al c1 (.cells #[ptr x] 116)
 generalize (A++[x]).length=m at *
 have S4:=hid (s4.swap.putB j (.slice a6 m c6)).swap
 simp only [elPe] at r4
 have R4:=hid r4
 clear s s4 r4 hj
 generalize A.length=n at *
 go_enter Tryz.func173,Tryz.ntmps173
 go_wp2_with (at_builtin;refine wpList_append_run rfl _ _ _ _ rfl _ _ _ _ rfl rfl R4.out ?_)
 go_ret
 exact ⟨rfl,_,S4.out⟩
theorem addN_sep {j:Nat} {u:Value} {A:List Nat} (x:Nat) (s:Sep w0 r w (lst elPn u A::blk p (.cells C ty)::R)) (hj:C[j]? = some u) (hl:A.length<=1000000) :
  Calls Tryz.prog 175 #[.pointer (some ⟨p,j,none⟩),ptr x] w fun e w'=>e = .returned (.int .i64 (A.length:Int))/\∃ v,Sep w0 r w' (lst elPn v (A++[x])::blk p (.cells (C.set! j v) ty)::R):=by
 obtain ⟨v4,w4,r4,s4⟩:=s.more okPn 70 x (C:=#[ptr x]) rfl hl
 obtain ⟨a5,c5,rfl⟩:=s.listIs (E:=elPn) (v:=u) (A:=A) (by simp)
 obtain ⟨a6,c6,rfl⟩:=s4.listIs (E:=elPn) (v:=v4) (A:=A++[x]) (by simp)
 obtain ⟨c1,f1⟩:=s.blkCell (p:=p) (C:=C) (ty:=ty) (by simp) j
 obtain ⟨c4,f4⟩:=s4.blkCell (p:=p) (C:=C) (ty:=ty) (by simp) j
 rw [hj] at c1 c4
 have hz:IntKind.i64.wrap (((A++[x]).length:Int) - 1)=(A.length:Int):=by rw [List.length_append,IntKind.wrap_i64];simp only [List.length_cons,List.length_nil];omega
 have c1x:=cell_al c1 (.cells #[ptr x] 113)
 generalize (A++[x]).length=m at *
 have S4:=hid (s4.swap.putB j (.slice a6 m c6)).swap
 simp only [elPn] at r4
 have R4:=hid r4
 clear s s4 r4 hj
 generalize A.length=n at *
 go_enter Tryz.func175,Tryz.ntmps175
 go_wp2_with (at_builtin;refine wpList_append_run rfl _ _ _ _ rfl _ _ _ _ rfl rfl R4.out ?_)
 go_ret
 exact ⟨rfl,_,S4.out⟩
theorem addD_sep {j:Nat} {u:Value} {A:List Nat} (x:Nat) (s:Sep w0 r w (lst elPs u A::blk p (.cells C ty)::R)) (hj:C[j]? = some u) (hl:A.length<=1000000) :
  Calls Tryz.prog 24 #[.pointer (some ⟨p,j,none⟩),ptr x] w fun e w'=>e = .returned (.int .i64 (A.length:Int))/\∃ v,Sep w0 r w' (lst elPs v (A++[x])::blk p (.cells (C.set! j v) ty)::R):=by
 obtain ⟨v4,w4,r4,s4⟩:=s.more okPs 71 x (C:=#[ptr x]) rfl hl
 obtain ⟨a5,c5,rfl⟩:=s.listIs (E:=elPs) (v:=u) (A:=A) (by simp)
 obtain ⟨a6,c6,rfl⟩:=s4.listIs (E:=elPs) (v:=v4) (A:=A++[x]) (by simp)
 obtain ⟨c1,f1⟩:=s.blkCell (p:=p) (C:=C) (ty:=ty) (by simp) j
 obtain ⟨c4,f4⟩:=s4.blkCell (p:=p) (C:=C) (ty:=ty) (by simp) j
 rw [hj] at c1 c4
 have hz:IntKind.i64.wrap (((A++[x]).length:Int) - 1)=(A.length:Int):=by rw [List.length_append,IntKind.wrap_i64];simp only [List.length_cons,List.length_nil];omega
 have c1x:=cell_al c1 (.cells #[ptr x] 84)
 generalize (A++[x]).length=m at *
 have S4:=hid (s4.swap.putB j (.slice a6 m c6)).swap
 simp only [elPs] at r4
 have R4:=hid r4
 clear s s4 r4 hj
 generalize A.length=n at *
 go_enter Tryz.func24,Tryz.ntmps24
 go_wp2_with (at_builtin;refine wpList_append_run rfl _ _ _ _ rfl _ _ _ _ rfl rfl R4.out ?_)
 go_ret
 exact ⟨rfl,_,S4.out⟩
set_option maxHeartbeats 4000000 in
theorem addU_sep {j:Nat} {u:Value} {A:List Un.Un} (x:Un.Un) (s:Sep w0 r w (lst elU u A::blk p (.cells C ty)::R)) (hj:C[j]? = some u) (hl:A.length<=1000000) :
  Calls Tryz.prog 22 #[.pointer (some ⟨p,j,none⟩),.agg #[.int .u64 x.base,.int .i64 x.bits,.int .u64 x.used]] w fun e w'=>e = .returned (.int .i64 (A.length:Int))/\∃ v,Sep w0 r w' (lst elU v (A++[x])::blk p (.cells (C.set! j v) ty)::R):=by
 have s1:=s.below (below_new w (.cells #[.int .u64 x.base,.int .i64 x.bits,.int .u64 x.used] 79))
 have d0:(w.alloc (.cells #[.int .u64 x.base,.int .i64 x.bits,.int .u64 x.used] 79)).cell? ⟨w.heap.size,0,none⟩=some (.int .u64 x.base):=new_cell _ _ _ _
 have d1:(w.alloc (.cells #[.int .u64 x.base,.int .i64 x.bits,.int .u64 x.used] 79)).cell? ⟨w.heap.size,1,none⟩=some (.int .i64 x.bits):=new_cell _ _ _ _
 have d2:(w.alloc (.cells #[.int .u64 x.base,.int .i64 x.bits,.int .u64 x.used] 79)).cell? ⟨w.heap.size,2,none⟩=some (.int .u64 x.used):=new_cell _ _ _ _
 obtain ⟨a5,c5,rfl⟩:=s.listIs (E:=elU) (v:=u) (A:=A) (by simp)
 clear s
 generalize hw:w.alloc (.cells #[.int .u64 x.base,.int .i64 x.bits,.int .u64 x.used] 79)=w1 at *
 obtain ⟨v4,w4,r4,s4⟩:=s1.drew.more okU 68 x (C:=#[.int .u64 x.base,.int .i64 x.bits,.int .u64 x.used]) rfl hl
 obtain ⟨a6,c6,rfl⟩:=s4.listIs (E:=elU) (v:=v4) (A:=A++[x]) (by simp)
 obtain ⟨c1,f1⟩:=s1.blkCell (p:=p) (C:=C) (ty:=ty) (by simp) j
 obtain ⟨c4,f4⟩:=s4.blkCell (p:=p) (C:=C) (ty:=ty) (by simp) j
 rw [hj] at c1 c4
 have hz:IntKind.i64.wrap (((A++[x]).length:Int) - 1)=(A.length:Int):=by rw [List.length_append,IntKind.wrap_i64];simp only [List.length_cons,List.length_nil];omega
 have c1x:=cell_al c1 (.cells #[.int .u64 x.base,.int .i64 x.bits,.int .u64 x.used] 79)
 generalize (A++[x]).length=m at *
 have S4:=hid (s4.swap.putB j (.slice a6 m c6)).swap
 simp only [elU] at r4
 have R4:=hid r4
 clear s4 r4 hj s1
 generalize A.length=n at *
 have HW:=hid hw
 clear hw
 go_enter Tryz.func22,Tryz.ntmps22
 go_wp2_with (rw [HW.out])
 generalize w.heap.size=q at *
 go_region_law (refine step_append_run rfl (.tmp 8) (.tmp 10) 68 68 rfl (.slice a5 n c5) (.slice (some ⟨w1.heap.size,0,none⟩) 1 1) _ _ (by simp [Act.eval]) (by simp [Act.eval]) R4.out ?_)
 all_goals
  go_wp2
  go_ret
  exact ⟨rfl,_,S4.out⟩
end
end Go.Proofs.YtilnjnblpeeigaaGreatDoor
namespace Go.Proofs.YtilnjnblpeeigaaGreatDoor
open Go.RowKit Go.Deep Go.Shelf
def many (P:Prop) (L:List Th):Th where
 F:=fun x=>∃ t∈L,t.F x
 H:=fun w=>P/\(∀ t∈L,t.H w)/\L.Pairwise (fun a b=>∀ x,a.F x->¬ b.F x)
 lt:=fun w h x ⟨t,ht,hx⟩=>t.lt w (h.2.1 t ht) x hx
 keep:=fun w w' h k=>⟨h.1,fun t ht=>t.keep w w' (h.2.1 t ht) fun x hx=>k x ⟨t,ht,hx⟩,h.2.2⟩
section
variable {w0 w w':World} {r:Nat} {t x:Th} {P P':Prop} {A B L R E:List Th}
theorem Sep.opn (s:Sep w0 r w (many P L::R)):P/\Sep w0 r w (L++R):=by
 obtain ⟨a1,a2⟩:=List.pairwise_cons.1 s.apart
 obtain ⟨h1,h2⟩:=s.each _ (List.mem_cons_self)
 refine ⟨h1.1,s.low,s.size,fun u hu=>?_,List.pairwise_append.2 ⟨h1.2.2,a2,fun a ha b hb y hy=>a1 b hb y ⟨a,ha,hy⟩⟩⟩
 rcases List.mem_append.1 hu with hu | hu
 ·exact ⟨h1.2.1 u hu,fun y hy=>h2 y ⟨u,hu,hy⟩⟩
 ·exact s.each u (List.mem_cons_of_mem _ hu)
theorem Sep.shut (p:P) (s:Sep w0 r w (L++R)):Sep w0 r w (many P L::R):=by
 obtain ⟨a1,a2,a3⟩:=List.pairwise_append.1 s.apart
 refine ⟨s.low,s.size,fun u hu=>?_,List.pairwise_cons.2 ⟨fun b hb y ⟨a,ha,hy⟩=>a3 a ha b hb y hy,a2⟩⟩
 rcases List.mem_cons.1 hu with rfl | hu
 ·exact ⟨⟨p,fun a ha=>(s.each a (List.mem_append_left _ ha)).1,a1⟩,fun y ⟨a,ha,hy⟩=>(s.each a (List.mem_append_left _ ha)).2 y hy⟩
 ·exact s.each u (List.mem_append_right _ hu)
theorem Sep.into (s:Sep w0 r w (many P (A++t::B)::R)):Sep w0 r w (t::(A++B++R)):=by
 refine s.opn.2.perm ?_
 rw [List.append_assoc,List.cons_append,List.append_assoc]
 exact List.perm_middle
theorem Sep.back (p:P') (s:Sep w0 r w (x::(E++(A++B++R)))):Sep w0 r w (many P' (A++x::B)::(E++R)):=by
 refine Sep.shut p (s.perm ?_)
 rw [List.append_assoc,List.append_assoc,List.cons_append]
 refine (List.Perm.cons x ?_).trans List.perm_middle.symm
 refine List.Perm.trans (l₂:=A++(E++(B++R))) ?_ (List.Perm.append_left _ ?_)
 ·rw [<- List.append_assoc,<- List.append_assoc A E]
  exact List.Perm.append_right _ List.perm_append_comm
 ·rw [<- List.append_assoc,<- List.append_assoc]
  exact List.Perm.append_right _ List.perm_append_comm
theorem Sep.fact (s:Sep w0 r w (many P L::R)):P:=s.opn.1
theorem Sep.has (s:Sep w0 r w (many P L::R)) (h:t∈L):t.H w:=(s.opn.2.each t (List.mem_append_left _ h)).1
end
end Go.Proofs.YtilnjnblpeeigaaGreatDoor
