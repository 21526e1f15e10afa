/- Below: KpTh KpEn KpNo; no condition. -/
import Derived.Laws.BitsAllLaws
namespace Go.Proofs.YtbfjjpdnoalojaaGreatDoor
namespace Th
def OC (x:Int):Int:=18446744073709551615 - x
def VP (n:Int):Int:=2 ^ (n % 64).toNat
theorem JJ (n:Nat):0<2 ^ n:=Nat.pow_pos (by omega)
theorem Jjl (n:Int):IntKind.u64.wrap (2 ^ (n % 64).toNat)=VP n:=by
 unfold VP
 have h0:0<=n % 64:=Int.emod_nonneg _ (by omega)
 have h1:n % 64<64:=Int.emod_lt_of_pos _ (by omega)
 obtain⟨m,hm⟩:=Int.eq_ofNat_of_zero_le h0
 rw[hm,IntKind.wrap_u64]
 have h2:2 ^ m<2 ^ 64:=Nat.pow_lt_pow_right (by omega) (by omega)
 have e:(2:Int) ^ (m:Int).toNat=((2 ^ m:Nat):Int):=by simp
 rw[e]
 generalize 2 ^ m=p at h2 ⊢
 omega
theorem ZJ (v i:Nat) (hv:v<18446744073709551616) (hi:64<=i):v.testBit i=false:=by
 apply Nat.testBit_lt_two_pow
 have:2 ^ 64<=2 ^ i:=Nat.pow_le_pow_right (by omega) hi
 omega
theorem MX (y i:Nat) (hy:y<18446744073709551616):(18446744073709551615 - y).testBit i=(decide (i<64) && !y.testBit i):=by
 have:=Nat.testBit_two_pow_sub_succ (x:=y) (n:=64) (by omega) i
 rw[<- this]
 congr 1
 omega
theorem Jbs (x:Int) (x0:0<=x) (x1:x<=18446744073709551615):bits .xor .u64 IntKind.u64.max x=OC x:=by
 obtain⟨X,rfl⟩:=Int.eq_ofNat_of_zero_le x0
 show IntKind.u64.wrap ((BitVec.ofInt 64 IntKind.u64.max ^^^ BitVec.ofInt 64 (X:Int)).toNat:Int)=_
 have h1:BitVec.ofInt 64 IntKind.u64.max=BitVec.allOnes 64:=by decide
 rw[h1,BitVec.allOnes_xor,BitVec.toNat_not,ofInt_u64 X (by omega),IntKind.wrap_u64]
 unfold OC
 omega
def OJ (b0 b1 b2 b3:Int) (k:Nat):Int:=if k=0 then b0 else if k=1 then b1 else if k=2 then b2 else b3
def Zw (b0 b1 b2 b3:Int) (n:Nat):Bool:=(OJ b0 b1 b2 b3 (n / 64)).toNat.testBit (n % 64)
def EJ (b0 b1 b2 b3 n:Int):Bool:=decide (0<=n) && (decide (n<256) && Zw b0 b1 b2 b3 n.toNat)
def Md (z:Bool) (b:Int) (j:Nat):Int:=
 if b.toNat.testBit j=z then b else if z=true then b+2 ^ j else b - 2 ^ j
def XJ (z:Bool) (b n k:Int):Int:=if n / 64=k then Md z b (n % 64).toNat else b
def XQ (f:Nat->Bool):Nat->Int
 | 0 => -1
 | k+1=>if f k=true then (k:Int) else XQ f k
def O7 (b0 b1 b2 b3:Int):Int:=XQ (Zw b0 b1 b2 b3) 256
theorem UD (f:Nat->Bool) (t:Nat) (h:f t=true):∀ m,t<m->(∀ k,t<k->k<m->f k=false)->XQ f m=t
 | 0,hm,_=>by omega
 | m+1,hm,ha=>by
  unfold XQ
  by_cases e:t=m
  ·subst e
   rw[if_pos h]
  ·rw[ha m (by omega) (by omega),if_neg (by simp)]
   exact UD f t h m (by omega) fun k h1 h2=>ha k h1 (by omega)
theorem Jej (f:Nat->Bool):∀ m,(∀ k,k<m->f k=false)->XQ f m = -1
 | 0,_=>rfl
 | m+1,ha=>by
  unfold XQ
  rw[ha m (by omega),if_neg (by simp)]
  exact Jej f m fun k h=>ha k (by omega)
theorem O1 (f:Nat->Bool):∀ m,(XQ f m = -1/\∀ k,k<m->f k=false)\/∃ t,XQ f m=(t:Nat)/\t<m/\f t=true/\∀ k,t<k->k<m->f k=false
 | 0=>Or.inl ⟨rfl,fun k h=>by omega⟩
 | m+1=>by
  by_cases h:f m=true
  ·exact Or.inr ⟨m,by unfold XQ;rw[if_pos h],by omega,h,fun k h1 h2=>by omega⟩
  ·have h':f m=false:=by simpa using h
   have e:XQ f (m+1)=XQ f m:=by
    show(if f m=true then (m:Int) else XQ f m)=XQ f m
    rw[if_neg h]
   rcases O1 f m with ⟨h1,h2⟩|⟨t,h1,h2,h3,h4⟩
   ·refine Or.inl ⟨by rw[e,h1],fun k hk=>?_⟩
    by_cases ek:k=m
    ·rw[ek];exact h'
    ·exact h2 k (by omega)
   ·refine Or.inr ⟨t,by rw[e,h1],by omega,h3,fun k hk hk2=>?_⟩
    by_cases ek:k=m
    ·rw[ek];exact h'
    ·exact h4 k hk (by omega)
theorem GY (n:Int):VP n=((2 ^ (n % 64).toNat:Nat):Int):=by
 unfold VP
 simp
theorem Jm6 (j:Nat) (h:j<64):2 ^ j<18446744073709551616:=by
 have:=Nat.pow_lt_pow_right (a:=2) (by omega) h
 simpa using this
theorem Gw (n:Int):(n % 64).toNat<64:=by
 have:=Int.emod_lt_of_pos n (b:=64) (by omega)
 have:=Int.emod_nonneg n (b:=64) (by omega)
 omega
theorem Jd3 (B j:Nat):B ||| 2 ^ j=if B.testBit j=true then B else B+2 ^ j:=by
 apply Nat.eq_of_testBit_eq
 intro i
 rw[Nat.testBit_or,Nat.testBit_two_pow]
 by_cases h:B.testBit j=true
 ·rw[if_pos h]
  by_cases e:j=i
  ·subst e;simp[h]
  ·simp[e]
 ·rw[if_neg h]
  have hb:B.testBit j=false:=by simpa using h
  have e1:B=2 ^ j*(B / 2 ^ j)+B % 2 ^ j:=(Nat.div_add_mod B (2 ^ j)).symm
  have hm:=Nat.mod_lt B (JJ j)
  have e2:B+2 ^ j=2 ^ j*(B / 2 ^ j+1)+B % 2 ^ j:=by rw[Nat.mul_add,Nat.mul_one];omega
  rw[e2,Nat.testBit_two_pow_mul_add _ hm]
  have hpar:B / 2 ^ j % 2=0:=by
   rw[Nat.testBit_eq_decide_div_mod_eq] at hb
   have:=Nat.mod_two_eq_zero_or_one (B / 2 ^ j)
   simp at hb
   omega
  by_cases h1:i<j
  ·have h2:¬ j=i:=by omega
   simp[h1,h2,Nat.testBit_mod_two_pow]
  ·rw[if_neg h1]
   have e3:B / 2 ^ j+1=2 ^ 1*(B / 2 ^ j / 2)+1:=by omega
   have e4:B / 2 ^ j=2 ^ 1*(B / 2 ^ j / 2)+0:=by omega
   have hB:B.testBit i=(B / 2 ^ j).testBit (i - j):=by rw[Nat.testBit_div_two_pow];congr 1;omega
   rw[hB,e3,Nat.testBit_two_pow_mul_add _ (by omega)]
   conv=>lhs;rw[e4]
   rw[Nat.testBit_two_pow_mul_add _ (by omega)]
   by_cases h2:j=i
   ·subst h2;simp
   ·have h3:¬ i - j<1:=by omega
    simp[h2,h3]
theorem Uc (B j:Nat) (h:B.testBit j=true):B=(B - 2 ^ j)+2 ^ j/\(B - 2 ^ j).testBit j=false:=by
 have e1:B=2 ^ j*(B / 2 ^ j)+B % 2 ^ j:=(Nat.div_add_mod B (2 ^ j)).symm
 have hm:=Nat.mod_lt B (JJ j)
 have hpar:B / 2 ^ j % 2=1:=by
  rw[Nat.testBit_eq_decide_div_mod_eq] at h
  simpa using h
 generalize hq:B / 2 ^ j=q at *
 generalize hr:B % 2 ^ j=r at *
 have h1:1<=q:=by omega
 have h2:2 ^ j<=2 ^ j*q:=Nat.le_mul_of_pos_right _ h1
 have e2:B - 2 ^ j=2 ^ j*(q - 1)+r:=by
  rw[Nat.mul_sub,Nat.mul_one]
  generalize 2 ^ j*q=x at *
  generalize 2 ^ j=p at *
  omega
 refine⟨?_,?_⟩
 ·generalize 2 ^ j*q=x at *
  generalize 2 ^ j=p at *
  omega
 ·rw[e2,Nat.testBit_two_pow_mul_add _ hm,if_neg (by omega),Nat.sub_self,Nat.testBit_eq_decide_div_mod_eq]
  simp
  omega
theorem GI (z:Bool) (b:Int) (j i:Nat) (h:0<=b):(Md z b j).toNat.testBit i=if i=j then z else b.toNat.testBit i:=by
 obtain⟨B,rfl⟩:=Int.eq_ofNat_of_zero_le h
 unfold Md
 rw[Int.toNat_natCast]
 cases hb:B.testBit j<;>cases z<;>simp
 ·intro e e2;rw[e2,hb] at e;simp at e
 ·have e:((B:Int)+2 ^ j).toNat=B+2 ^ j:=by
   have:(2:Int) ^ j=((2 ^ j:Nat):Int):=by simp
   rw[this];generalize 2 ^ j=p;omega
  rw[e]
  have:=Jd3 B j
  rw[if_neg (by simp[hb])] at this
  rw[<- this,Nat.testBit_or,Nat.testBit_two_pow]
  by_cases e2:i=j
  ·simp[e2]
  ·have e3:¬ j=i:=fun x=>e2 x.symm
   simp[e2,e3]
 ·obtain⟨e1,e2⟩:=Uc B j hb
  have e:((B:Int) - 2 ^ j).toNat=B - 2 ^ j:=by
   have:(2:Int) ^ j=((2 ^ j:Nat):Int):=by simp
   rw[this];generalize 2 ^ j=p;omega
  rw[e]
  by_cases e3:i=j
  ·subst e3;simp[e2]
  ·have e4:¬ j=i:=fun x=>e3 x.symm
   have:=Jd3 (B - 2 ^ j) j
   rw[if_neg (by simp[e2]),<- e1] at this
   have h5:B.testBit i=(B - 2 ^ j ||| 2 ^ j).testBit i:=by rw[this]
   rw[h5,Nat.testBit_or,Nat.testBit_two_pow]
   simp[e3,e4]
 ·intro e;rw[e];exact hb
theorem Jlv (z:Bool) (b:Int) (j:Nat) (b0:0<=b) (b1:b<=18446744073709551615) (hj:j<64):0<=Md z b j/\Md z b j<=18446744073709551615:=by
 have h0:0<=Md z b j:=by
  obtain⟨B,rfl⟩:=Int.eq_ofNat_of_zero_le b0
  unfold Md
  have hpw:(2:Int) ^ j=((2 ^ j:Nat):Int):=by simp
  rw[hpw]
  cases hb:B.testBit j<;>cases z<;>simp only[Int.toNat_natCast,hb,if_true,if_false,Bool.false_eq_true,Bool.true_eq_false]
  ·omega
  ·generalize 2 ^ j=p
   omega
  ·have:=(Uc B j hb).1
   generalize 2 ^ j=p at *
   omega
  ·omega
 refine⟨h0,?_⟩
 have:=Nat.lt_pow_two_of_testBit (n:=64) (Md z b j).toNat (fun i hi=>by
  rw[GI z b j i b0,if_neg (by omega)]
  exact ZJ _ i (by omega) hi)
 omega
theorem GD (b n:Int) (b0:0<=b) (b1:b<=18446744073709551615):bits .or .u64 b (VP n)=Md true b (n % 64).toNat:=by
 obtain⟨B,rfl⟩:=Int.eq_ofNat_of_zero_le b0
 rw[GY,u64_or_nat _ _ (by omega) (Jm6 _ (Gw n)),Jd3]
 unfold Md
 rw[Int.toNat_natCast]
 cases hb:B.testBit (n % 64).toNat<;>simp
theorem O9 (b n:Int) (b0:0<=b) (b1:b<=18446744073709551615):bits .andNot .u64 b (VP n)=Md false b (n % 64).toNat:=by
 obtain⟨B,rfl⟩:=Int.eq_ofNat_of_zero_le b0
 have hp:=Jm6 _ (Gw n)
 rw[GY,u64_andNot_nat _ _ (by omega) hp]
 have hb:=Jlv false (B:Int) (n % 64).toNat (by omega) b1 (Gw n)
 have e:Md false (B:Int) (n % 64).toNat=(((Md false (B:Int) (n % 64).toNat).toNat:Nat):Int):=by omega
 rw[e]
 congr 1
 apply Nat.eq_of_testBit_eq
 intro i
 rw[GI _ _ _ _ (by omega),Int.toNat_natCast,Nat.testBit_and,MX _ _ hp,Nat.testBit_two_pow]
 by_cases e2:i=(n % 64).toNat
 ·simp[<- e2]
 ·have e3:¬ (n % 64).toNat=i:=fun x=>e2 x.symm
  by_cases e4:i<64
  ·simp[e2,e3,e4]
  ·simp[e2,e3,ZJ B i (by omega) (by omega)]
def VC (x:Int):Prop:=-9223372036854775808<=x/\x<=9223372036854775807
structure In where
 p:Nat
 n:Int
abbrev St:=List In
structure Good (S:St):Prop where
 fit:∀ x∈S,x.p<256/\VC x.n
 one:S.Pairwise (fun x y=>x.n≠y.n)
def JC (S:St) (p:Nat):List Int:=(S.filter fun x=>x.p == p).map In.n
def atO (S:St) (n:Int):Option In:=S.find? fun x=>x.n == n
def I8 (S:St) (n:Int):Option Int:=(atO S n).map fun x=>(x.p:Int)
def whI (S:St) (n:Int):Int:=(I8 S n).getD 0
def O8 (S:St) (n:Int):Bool:=(I8 S n).isSome
def VX (S:St) (p n:Int):Int:=if 0<=p/\p<256 then (if O8 S n=true then 90 else 0) else 1
def ZL (S:St) (p n:Int):St:=if VX S p n=0 then S++[⟨p.toNat,n⟩] else S
def ZS (S:St) (n:Int):Int:=if O8 S n=true then 0 else 91
def takeS (S:St) (n:Int):St:=S.filter fun x=>x.n != n
def FB (S:St) (p:Nat):Bool:=S.any fun x=>x.p == p
def Jm1 (S:St):Int:=XQ (FB S) 256
def VT (S:St):Option In:=S.find? fun x=>(x.p:Int) == Jm1 S
def Vz (S:St):Int:=((VT S).map In.n).getD 0
def Vy (S:St):Bool:=(VT S).isSome
def Jm5 (S:St):St:=match VT S with|none=>S|some x=>takeS S x.n++[x]
theorem Iz:∀ (L:List Int) (i:Nat) (n:Int),L.Pairwise (· ≠ ·)->L[i]? = some n->L.filter (fun x=>x != n)=L.eraseIdx i
 | [],i,n,_,h=>by simp at h
 | x::L,0,n,hp,h=>by
  obtain rfl:x=n:=by simpa using h
  obtain⟨h1,h2⟩:=List.pairwise_cons.1 hp
  simp only[List.eraseIdx_cons_zero]
  rw[List.filter_cons_of_neg (by simp),List.filter_eq_self.2]
  intro a ha
  simpa using(h1 a ha).symm
 | x::L,i+1,n,hp,h=>by
  obtain⟨h1,h2⟩:=List.pairwise_cons.1 hp
  have h':L[i]? = some n:=by simpa using h
  have hx:x≠n:=h1 n (List.mem_of_getElem? h')
  rw[List.filter_cons_of_pos (by simpa using hx),Iz L i n h2 h']
  rfl
theorem Jai (L:List Int) (n:Int) (h:n ∉ L):L.filter (fun x=>x != n)=L:=by
 rw[List.filter_eq_self.2]
 intro a ha
 have:¬ a=n:=fun e=>h (e ▸ ha)
 simpa using this
theorem FJ {S:St} (h:S.Pairwise (fun x y=>x.n≠y.n)) {x y:In} (hx:x∈S) (hy:y∈S) (e:x.n=y.n):x=y:=by
 induction S with
 | nil=>simp at hx
 | cons a S ih =>
  obtain⟨h1,h2⟩:=List.pairwise_cons.1 h
  rcases List.mem_cons.1 hx with hx|hx<;>rcases List.mem_cons.1 hy with hy|hy
  ·rw[hx,hy]
  ·rw[hx] at e
   exact absurd e (h1 y hy)
  ·rw[hy] at e
   exact absurd e.symm (h1 x hx)
  ·exact ih h2 hx hy
section
variable {S:St} {n:Int} {x:In}
theorem Jeu (h:atO S n=some x):x∈S/\x.n=n:=by
 unfold atO at h
 exact⟨List.mem_of_find?_eq_some h,by simpa using List.find?_some h⟩
theorem GU (h:atO S n=none):∀ x∈S,x.n≠n:=by
 intro x hx e
 have:=List.find?_eq_none.1 h x hx
 simp[e] at this
theorem Jr3 (g:Good S) (h:x∈S):atO S x.n=some x:=by
 cases e:atO S x.n with
 | none=>exact absurd rfl (GU e x h)
 | some y =>
  obtain⟨h1,h2⟩:=Jeu e
  rw[FJ g.one h1 h h2]
theorem Jnc (g:Good S) (h:x∈S):I8 S x.n=some (x.p:Int):=by
 unfold I8
 rw[Jr3 g h]
 rfl
theorem I7 {v:Int} (h:I8 S n=some v):∃ x∈S,x.n=n/\v=x.p:=by
 unfold I8 at h
 cases e:atO S n with
 | none=>rw[e] at h;cases h
 | some y =>
  rw[e] at h
  obtain⟨h1,h2⟩:=Jeu e
  exact⟨y,h1,h2,by simpa using h.symm⟩
theorem Jcm (h:I8 S n=none):∀ x∈S,x.n≠n:=by
 unfold I8 at h
 exact GU (by simpa using h)
theorem Jcl (h:O8 S n=true):∃ x∈S,x.n=n:=by
 unfold O8 at h
 obtain⟨v,hv⟩:=Option.isSome_iff_exists.1 h
 obtain⟨x,h1,h2,_⟩:=I7 hv
 exact⟨x,h1,h2⟩
theorem Jck (h:O8 S n=false):∀ x∈S,x.n≠n:=by
 unfold O8 at h
 exact Jcm (by simpa using h)
theorem Jeo (h:∀ x∈S,x.n≠n):I8 S n=none:=by
 cases e:I8 S n with
 | none=>rfl
 | some v =>
  obtain⟨x,h1,h2,_⟩:=I7 e
  exact absurd h2 (h x h1)
theorem Jv0 (g:Good S) (h:x∈S):O8 S x.n=true/\whI S x.n=x.p:=by
 unfold O8 whI
 rw[Jnc g h]
 exact⟨rfl,rfl⟩
theorem Jne (S:St) (n:Int):(O8 S n=false/\I8 S n=none/\whI S n=0)\/∃ x∈S,x.n=n/\O8 S n=true/\I8 S n=some (x.p:Int)/\whI S n=x.p:=by
 unfold O8 whI
 cases e:I8 S n with
 | none=>exact .inl ⟨rfl,rfl,rfl⟩
 | some v =>
  obtain⟨x,h1,h2,rfl⟩:=I7 e
  exact .inr ⟨x,h1,h2,rfl,rfl,rfl⟩
end
theorem Vg:Good []:=⟨by simp,List.Pairwise.nil⟩
theorem VS {S:St} {x:In} (g:Good S) (hp:x.p<256) (hn:VC x.n) (h:∀ y∈S,y.n≠x.n):Good (S++[x]):=by
 refine⟨fun y hy=>?_,List.pairwise_append.2 ⟨g.one,by simp,fun a ha b hb=>?_⟩⟩
 ·rcases List.mem_append.1 hy with hy|hy
  ·exact g.fit y hy
  ·obtain rfl:y=x:=by simpa using hy
   exact⟨hp,hn⟩
 ·obtain rfl:b=x:=by simpa using hb
  exact h a ha
theorem IE {S T:St} (g:Good S) (h:T.Sublist S):Good T:=⟨fun y hy=>g.fit y (h.subset hy),g.one.sublist h⟩
theorem UL {S:St} (g:Good S) (n:Int):Good (takeS S n):=IE g List.filter_sublist
theorem Jd9 (S:St) (p n:Int):(VX S p n=0/\ZL S p n=S++[⟨p.toNat,n⟩]/\0<=p/\p<256/\O8 S n=false)\/(VX S p n=90/\ZL S p n=S/\0<=p/\p<256/\O8 S n=true)\/(VX S p n=1/\ZL S p n=S/\¬ (0<=p/\p<256)):=by
 unfold ZL VX
 by_cases h:0<=p/\p<256
 ·cases e:O8 S n
  ·exact .inl (by simp[h])
  ·exact .inr (.inl (by simp[h]))
 ·exact .inr (.inr (by simp[h]))
theorem V2 {S:St} {n:Int} {x:In}:x∈takeS S n↔x∈S/\x.n≠n:=by
 unfold takeS
 simp
theorem OE {S:St} {n:Int} (h:O8 S n=false):takeS S n=S:=by
 unfold takeS
 rw[List.filter_eq_self]
 intro a ha
 simpa using Jck h a ha
theorem Jkw (S:St) (x:In) (q:Nat):JC (S++[x]) q=if q=x.p then JC S q++[x.n] else JC S q:=by
 unfold JC
 by_cases h:q=x.p
 ·subst h
  simp
 ·have:¬ x.p=q:=fun e=>h e.symm
  simp[h,this]
theorem Ft (S:St) (n:Int) (q:Nat):JC (takeS S n) q=(JC S q).filter fun y=>y != n:=by
 unfold JC takeS
 rw[List.filter_filter,List.filter_map,List.filter_filter]
 congr 1
 apply List.filter_congr
 intro x _
 simp[Bool.and_comm]
theorem Jbc {S:St} {q:Nat} {n:Int}:n∈JC S q↔∃ x∈S,x.p=q/\x.n=n:=by
 unfold JC
 simp[List.mem_map,List.mem_filter,and_assoc]
theorem Jbd {S:St} (g:Good S) (q:Nat):(JC S q).Pairwise (· ≠ ·):=by
 unfold JC
 rw[List.pairwise_map]
 exact g.one.sublist List.filter_sublist
theorem O5 {S:St} (g:Good S) {x:In} (hx:x∈S) {q:Nat} (h:q≠x.p):JC (takeS S x.n) q=JC S q:=by
 rw[Ft]
 refine Jai _ _ fun hm=>?_
 obtain⟨y,h1,h2,h3⟩:=Jbc.1 hm
 exact h (by rw[<- h2,FJ g.one h1 hx h3])
theorem Gr {S:St} (g:Good S) {x:In} {i:Nat} (h:(JC S x.p)[i]? = some x.n):JC (takeS S x.n) x.p=(JC S x.p).eraseIdx i:=by
 rw[Ft]
 exact Iz _ _ _ (Jbd g _) h
theorem Jbb (S:St) (q:Nat):(JC S q).length<=S.length:=by
 unfold JC
 rw[List.length_map]
 exact List.length_filter_le _ _
theorem Jlg (S:St) (q:Nat):FB S q=decide (0<(JC S q).length):=by
 unfold FB JC
 rw[List.length_map]
 induction S with
 | nil=>rfl
 | cons a S ih =>
  by_cases h:a.p=q
  ·simp[h]
  ·simp[h,ih]
theorem GB (S:St) (q:Nat):FB S q=true↔∃ x∈S,x.p=q:=by
 unfold FB
 simp
theorem Eb {S:St} (g:Good S):(S=[]/\Jm1 S = -1/\VT S=none/\Vz S=0/\Vy S=false/\Jm5 S=S) \/
  ∃ x L,x∈S/\Jm1 S=(x.p:Nat)/\VT S=some x/\Vz S=x.n/\Vy S=true/\Jm5 S=takeS S x.n++[x]/\JC S x.p=x.n::L/\∀ y∈S,y.p<=x.p:=by
 rcases O1 (FB S) 256 with ⟨h1,h2⟩|⟨t,h1,h2,h3,h4⟩
 ·have:S=[]:=by
   cases S with
   | nil=>rfl
   | cons a S =>
    have:=h2 a.p (g.fit a (by simp)).1
    rw[(GB _ _).2 ⟨a,by simp,rfl⟩] at this
    cases this
  subst this
  exact .inl ⟨rfl,h1,rfl,rfl,rfl,rfl⟩
 ·have hle:∀ y∈S,y.p<=t:=fun y hy=>by
   apply Nat.le_of_not_lt
   intro hlt
   have:=h4 y.p hlt (g.fit y hy).1
   rw[(GB _ _).2 ⟨y,hy,rfl⟩] at this
   cases this
  obtain⟨z,hz,hzt⟩:=(GB _ _).1 h3
  have ht:Jm1 S=(t:Nat):=h1
  have hf:∃ x,VT S=some x:=by
   cases e:VT S with
   | some x=>exact⟨x,rfl⟩
   | none =>
    have:=List.find?_eq_none.1 e z hz
    rw[ht,hzt] at this
    simp at this
  obtain⟨x,hx⟩:=hf
  have hxs:=List.mem_of_find?_eq_some hx
  have hxp:x.p=t:=by
   have:=List.find?_some hx
   rw[ht] at this
   have h9:(x.p:Int)=(t:Int):=by simpa using this
   omega
  have hl:∃ L,JC S x.p=x.n::L:=by
   unfold JC
   have e2:VT S=(S.filter fun y=>y.p == x.p).head?:=by
    unfold VT
    rw[ht,hxp]
    rw[List.head?_filter]
    congr 1
    funext y
    rw[Bool.eq_iff_iff]
    simp
    omega
   rw[hx] at e2
   cases e3:S.filter fun y=>y.p == x.p with
   | nil=>rw[e3] at e2;cases e2
   | cons a L =>
    rw[e3] at e2
    cases e2
    exact⟨L.map In.n,by simp⟩
  obtain⟨L,hl⟩:=hl
  refine .inr ⟨x,L,hxs,by rw[ht,hxp],hx,by simp[Vz,hx],by simp[Vy,hx],by simp[Jm5,hx],hl,fun y hy=>by rw[hxp];exact hle y hy⟩
theorem Jq1 {S:St} {x:In} (h:∀ y∈S,y.n≠x.n) (n:Int):I8 (S++[x]) n=if n=x.n then some (x.p:Int) else I8 S n:=by
 unfold I8 atO
 rw[List.find?_append]
 by_cases e:n=x.n
 ·subst e
  have:S.find? (fun y=>y.n == x.n)=none:=List.find?_eq_none.2 fun y hy=>by simpa using h y hy
  rw[this,if_pos rfl]
  simp
 ·have e2:¬ x.n=n:=fun q=>e q.symm
  rw[if_neg e]
  simp[e2]
theorem Jnd {S:St} (g:Good S) (m n:Int):I8 (takeS S m) n=if n=m then none else I8 S n:=by
 by_cases e:n=m
 ·rw[if_pos e]
  exact Jeo fun x hx=>by rw[e];exact(V2.1 hx).2
 ·rw[if_neg e]
  cases e2:I8 S n with
  | none=>exact Jeo fun x hx=>Jcm e2 x (V2.1 hx).1
  | some v =>
   obtain⟨x,h1,rfl,rfl⟩:=I7 e2
   exact Jnc (UL g m) (V2.2 ⟨h1,e⟩)
theorem Jid (S:St) (n:Int):(takeS S n).length<=S.length:=List.length_filter_le _ _
structure Td where
 st:Int
 p:Nat
 c:Nat
 l:Int
 g:List Int
def td0:Td:=⟨0,0,0,0,List.replicate 8 0⟩
structure Hs where
 L:List Td
 Q:List St
structure Okay (x:Td) (n:Nat):Prop where
 p:x.p<256
 c:x.c<n
 s:0<=x.st/\x.st<=3
 l:1<=x.l/\x.l<=5
 g:x.g.length=8
 w:∀ v∈x.g,0<=v/\v<=18446744073709551615
def thr (h:Hs) (i:Nat):Td:=h.L.getD i td0
def ZO (h:Hs) (c:Nat):St:=h.Q.getD c []
structure Inv (h:Hs):Prop where
 lo:1<=h.Q.length
 hi:h.Q.length<=8
 few:h.L.length<=64
 each:∀ x∈h.L,Okay x h.Q.length
 good:∀ S∈h.Q,Good S
 mem:∀ c,c<h.Q.length->∀ y:In,y∈ZO h c↔∃ (i:Nat) (x:Td),h.L[i]? = some x/\y=⟨x.p,(i:Int)⟩/\x.st=1/\x.c=c
 one:∀ (i j:Nat) (x y:Td),h.L[i]? = some x->h.L[j]? = some y->x.st=2->y.st=2->x.c=y.c->i=j
theorem GN {h:Hs} {i:Nat} {x:Td} (e:h.L[i]? = some x):thr h i=x:=by
 unfold thr
 rw[List.getD_eq_getElem?_getD,e]
 rfl
theorem M1 {h:Hs} {i:Nat} (hi:i<h.L.length):h.L[i]? = some (thr h i):=by
 unfold thr
 rw[List.getD_eq_getElem?_getD,List.getElem?_eq_getElem hi]
 rfl
theorem Jpd {h:Hs} {c:Nat} (hc:c<h.Q.length):ZO h c∈h.Q:=by
 unfold ZO
 rw[List.getD_eq_getElem?_getD,List.getElem?_eq_getElem hc]
 exact List.getElem_mem hc
theorem Inv.okay {h:Hs} (v:Inv h) {i:Nat} {x:Td} (e:h.L[i]? = some x):Okay x h.Q.length:=v.each x (List.mem_of_getElem? e)
theorem Inv.queue {h:Hs} (v:Inv h) {c:Nat} (hc:c<h.Q.length):Good (ZO h c):=v.good _ (Jpd hc)
theorem Inv.nums {h:Hs} (v:Inv h) {c:Nat} (hc:c<h.Q.length) {i:Nat} {x:Td} (e:h.L[i]? = some x) {y:In} (hy:y∈ZO h c) (hn:y.n=(i:Int)):y=⟨x.p,(i:Int)⟩/\x.st=1/\x.c=c:=by
 obtain⟨j,z,e1,rfl,e2,e3⟩:=(v.mem c hc y).1 hy
 have:j=i:=by
  simp only at hn
  omega
 subst this
 rw[e] at e1
 cases e1
 exact⟨rfl,e2,e3⟩
def Ge (Q:List St) (c:Nat) (i:Nat) (x:Td):List St:=
 let Q1:=Q.set c (takeS (Q.getD c []) i)
 if x.st=1 then Q1.set x.c (Q1.getD x.c []++[⟨x.p,(i:Int)⟩]) else Q1
def Xc (h:Hs) (i:Nat) (x:Td):Hs:=⟨h.L.set i x,Ge h.Q (thr h i).c i x⟩
theorem Jj4 (Q:List St) (c i:Nat) (x:Td):(Ge Q c i x).length=Q.length:=by
 unfold Ge
 split<;>simp
theorem Xt {Q:List St} {a c:Nat} {S:St} (hc:c<Q.length):(Q.set a S).getD c []=if c=a then S else Q.getD c []:=by
 rw[List.getD_eq_getElem?_getD,List.getD_eq_getElem?_getD,List.getElem?_set]
 by_cases e:a=c
 ·subst e
  simp[hc]
 ·have e2:¬ c=a:=fun q=>e q.symm
  simp[e,e2]
theorem Jfo {h:Hs} (v:Inv h) {i:Nat} (hi:i<h.L.length) (x:Td) {c:Nat} (hc:c<h.Q.length) :
  ZO (Xc h i x) c=takeS (ZO h c) i++(if x.st=1/\c=x.c then [⟨x.p,(i:Int)⟩] else []):=by
 have ei:=M1 hi
 have h1:(h.Q.set (thr h i).c (takeS (h.Q.getD (thr h i).c []) i)).getD c []=takeS (ZO h c) i:=by
  rw[Xt hc]
  by_cases e:c=(thr h i).c
  ·rw[if_pos e,e]
   rfl
  ·rw[if_neg e]
   show ZO h c=_
   refine(OE ?_).symm
   cases hb:O8 (ZO h c) i with
   | false=>rfl
   | true =>
    obtain⟨y,hy,hn⟩:=Jcl hb
    exact absurd (v.nums hc ei hy hn).2.2.symm e
 unfold Xc
 show(Ge h.Q (thr h i).c i x).getD c []=_
 unfold Ge
 by_cases hs:x.st=1
 ·simp only[hs,if_true,true_and]
  rw[Xt (by simpa using hc)]
  by_cases e:c=x.c
  ·subst e
   rw[if_pos rfl,if_pos rfl,h1]
  ·rw[if_neg e,if_neg e,h1,List.append_nil]
 ·simp only[hs,if_false,false_and]
  rw[h1,List.append_nil]
theorem MP {h:Hs} {i:Nat} (hi:i<h.L.length) (x:Td) (j:Nat):(Xc h i x).L[j]? = if j=i then some x else h.L[j]?:=by
 show(h.L.set i x)[j]? = _
 rw[List.getElem?_set]
 by_cases e:i=j
 ·subst e
  simp[hi]
 ·have e2:¬ j=i:=fun q=>e q.symm
  simp[e,e2]
theorem Jf1 {h:Hs} {i:Nat} (hi:i<h.L.length) (x:Td) (j:Nat):thr (Xc h i x) j=if j=i then x else thr h j:=by
 unfold thr
 rw[List.getD_eq_getElem?_getD,List.getD_eq_getElem?_getD,MP hi]
 by_cases e:j=i
 ·simp[e]
 ·simp[e]
theorem Ad {h:Hs} (v:Inv h) {i:Nat} (hi:i<h.L.length) {x:Td} (ok:Okay x h.Q.length) (h2:x.st=2->∀ (j:Nat) (y:Td),j≠i->h.L[j]? = some y->y.st=2->y.c≠x.c):Inv (Xc h i x):=by
 have hl:(Xc h i x).Q.length=h.Q.length:=Jj4 _ _ _ _
 have hL:(Xc h i x).L.length=h.L.length:=List.length_set
 refine⟨by rw[hl];exact v.lo,by rw[hl];exact v.hi,by rw[hL];exact v.few,fun y hy=>?_,fun S hS=>?_,fun c hc y=>?_,fun a b y z ey ez sy sz ec=>?_⟩
 ·rw[hl]
  rcases List.mem_or_eq_of_mem_set hy with hy|rfl
  ·exact v.each y hy
  ·exact ok
 ·obtain⟨c,hc,rfl⟩:=List.mem_iff_getElem.1 hS
  have e:(Xc h i x).Q[c]=ZO (Xc h i x) c:=by
   unfold ZO
   rw[List.getD_eq_getElem?_getD,List.getElem?_eq_getElem hc]
   rfl
  rw[hl] at hc
  rw[e,Jfo v hi x hc]
  split
  ·refine VS (UL (v.queue hc) i) ok.p ?_ fun y hy=>(V2.1 hy).2
   have:=v.few
   unfold VC
   simp only
   omega
  ·rw[List.append_nil]
   exact UL (v.queue hc) i
 ·rw[hl] at hc
  rw[Jfo v hi x hc,List.mem_append,V2,v.mem c hc y]
  constructor
  ·rintro(⟨⟨j,z,e1,rfl,e2,e3⟩,hn⟩|hy)
   ·have hj:j≠i:=fun e=>hn (by rw[e])
    exact⟨j,z,by rw[MP hi,if_neg hj];exact e1,rfl,e2,e3⟩
   ·split at hy
    ·rename_i hx
     obtain rfl:=List.mem_singleton.1 hy
     exact⟨i,x,by rw[MP hi,if_pos rfl],rfl,hx.1,hx.2.symm⟩
    ·simp at hy
  ·rintro⟨j,z,e1,rfl,e2,e3⟩
   rw[MP hi] at e1
   by_cases hj:j=i
   ·rw[if_pos hj] at e1
    cases e1
    right
    rw[if_pos ⟨e2,e3.symm⟩,hj]
    simp
   ·rw[if_neg hj] at e1
    left
    refine⟨⟨j,z,e1,rfl,e2,e3⟩,?_⟩
    simp only
    omega
 ·rw[MP hi] at ey ez
  by_cases ha:a=i<;>by_cases hb:b=i
  ·rw[ha,hb]
  ·rw[if_pos ha] at ey
   rw[if_neg hb] at ez
   cases ey
   exact absurd ec.symm (h2 sy b z hb ez sz)
  ·rw[if_neg ha] at ey
   rw[if_pos hb] at ez
   cases ez
   exact absurd ec (h2 sz a y ha ey sy)
  ·rw[if_neg ha] at ey
   rw[if_neg hb] at ez
   exact v.one a b y z ey ez sy sz ec
def M0 (h:Hs) (i:Nat) (x:Td):Hs:=⟨h.L.set i x,h.Q⟩
theorem Jfb {h:Hs} (v:Inv h) {i:Nat} (hi:i<h.L.length) {x:Td} (ok:Okay x h.Q.length) (e1:x.st=(thr h i).st) (e2:x.p=(thr h i).p) (e3:x.c=(thr h i).c):Inv (M0 h i x):=by
 have ei:=M1 hi
 have hat:∀ j:Nat,(M0 h i x).L[j]? = if j=i then some x else h.L[j]?:=fun j=>MP (h:=h) hi x j
 have hL:(M0 h i x).L.length=h.L.length:=List.length_set
 refine⟨v.lo,v.hi,by rw[hL];exact v.few,fun y hy=>?_,v.good,fun c hc y=>?_,fun a b y z ey ez sy sz ec=>?_⟩
 ·rcases List.mem_or_eq_of_mem_set hy with hy|rfl
  ·exact v.each y hy
  ·exact ok
 ·show y∈ZO h c↔_
  rw[v.mem c hc y]
  constructor
  ·rintro⟨j,z,f1,rfl,f2,f3⟩
   by_cases hj:j=i
   ·subst hj
    rw[ei] at f1
    cases f1
    exact⟨j,x,by rw[hat,if_pos rfl],by rw[e2],by rw[e1];exact f2,by rw[e3];exact f3⟩
   ·exact⟨j,z,by rw[hat,if_neg hj];exact f1,rfl,f2,f3⟩
  ·rintro⟨j,z,f1,rfl,f2,f3⟩
   rw[hat] at f1
   by_cases hj:j=i
   ·rw[if_pos hj] at f1
    cases f1
    subst hj
    exact⟨j,thr h j,ei,by rw[e2],by rw[<- e1];exact f2,by rw[<- e3];exact f3⟩
   ·rw[if_neg hj] at f1
    exact⟨j,z,f1,rfl,f2,f3⟩
 ·rw[hat] at ey ez
  have key:∀ (a:Nat) (y:Td),(if a=i then some x else h.L[a]?)=some y->y.st=2->∃ y',h.L[a]? = some y'/\y'.st=2/\y'.c=y.c:=by
   intro a y ey sy
   by_cases ha:a=i
   ·rw[if_pos ha] at ey
    cases ey
    subst ha
    exact⟨thr h a,ei,by rw[<- e1];exact sy,e3.symm⟩
   ·rw[if_neg ha] at ey
    exact⟨y,ey,sy,rfl⟩
  obtain⟨y',f1,f2,f3⟩:=key a y ey sy
  obtain⟨z',g1,g2,g3⟩:=key b z ez sz
  exact v.one a b y' z' f1 g1 f2 g2 (by rw[f3,g3];exact ec)
abbrev Ae (h:Hs) (i:Int):Prop:=0<=i/\i<(h.L.length:Int)
abbrev OQ (h:Hs) (c:Int):Prop:=0<=c/\c<(h.Q.length:Int)
def Vu (n:Nat):Hs:=⟨[],List.replicate n []⟩
def JV (h:Hs) (p c:Int):Int:=if (0<=p/\p<256)/\OQ h c then (if 64<=h.L.length then 2 else 0) else 1
def JW (h:Hs) (p c:Int):Int:=if JV h p c=0 then (h.L.length:Int) else 0
def JS (h:Hs) (p c:Int):Hs:=if JV h p c=0 then ⟨h.L++[⟨0,p.toNat,c.toNat,5,List.replicate 8 0⟩],h.Q⟩ else h
def UQ (h:Hs) (i:Int):Int:=if Ae h i then 0 else 100
def Gf (h:Hs) (i:Int):Td:=if Ae h i then thr h i.toNat else td0
def EQ (h:Hs) (i k:Int):Int:=if Ae h i then (if 0<=k/\k<8 then 0 else 1) else 100
def My (h:Hs) (i k v:Int):Hs:=if EQ h i k=0 then M0 h i.toNat { thr h i.toNat with g:=(thr h i.toNat).g.set k.toNat v } else h
def Xh (h:Hs) (i:Int):Int:=if Ae h i then (if (thr h i.toNat).st=1\/(thr h i.toNat).st=2 then 101 else 0) else 100
def JR (h:Hs) (i:Int):Hs:=if Xh h i=0 then Xc h i.toNat { thr h i.toNat with st:=1 } else h
def JY (h:Hs) (i:Int):Int:=if Ae h i then (if (thr h i.toNat).st=0 then 101 else 0) else 100
def JM (h:Hs) (i:Int):Hs:=if JY h i=0 then Xc h i.toNat { thr h i.toNat with st:=0 } else h
def Vp (h:Hs) (i:Int):Int:=if Ae h i then (if (thr h i.toNat).st=2 then 0 else 101) else 100
def Xp (h:Hs) (i:Int):Hs:=if Vp h i=0 then Xc h i.toNat { thr h i.toNat with st:=3 } else h
def VV (h:Hs) (i p:Int):Int:=if Ae h i then (if 0<=p/\p<256 then 0 else 1) else 100
def VW (h:Hs) (i p:Int):Hs:=if VV h i p=0 then Xc h i.toNat { thr h i.toNat with p:=p.toNat } else h
def Zu (h:Hs) (c:Int):Option Nat:=h.L.findIdx? fun x=>x.st == 2 && (x.c:Int) == c
def XE (h:Hs) (c:Int):Int:=((Zu h c).map fun i=>(i:Int)).getD 0
def Xm (h:Hs) (c:Int):Bool:=(Zu h c).isSome
def Ux (h:Hs) (i:Nat):Hs:=Xc h i { thr h i with st:=2 }
def OG (h:Hs) (i:Nat):Hs:=Xc h i { thr h i with st:=1 }
def JB (h:Hs) (c:Int):Hs:=
 if OQ h c then
  match VT (ZO h c.toNat) with
  | none=>h
  | some y=>match Zu h c with
   | none=>Ux h y.n.toNat
   | some j=>if (thr h j).p<y.p then Ux (OG h j) y.n.toNat else h
 else h
def XR (h:Hs) (c:Int):Hs:=match Zu h c with|none=>h|some i=>JB (Xc h i { thr h i with st:=1,l:=5 }) c
theorem XF {h:Hs} {c:Int} {i:Nat} (e:Zu h c=some i):∃ x,h.L[i]? = some x/\thr h i=x/\i<h.L.length/\x.st=2/\(x.c:Int)=c:=by
 obtain⟨hi,hp,_⟩:=List.findIdx?_eq_some_iff_getElem.1 e
 have h1:=List.getElem?_eq_getElem hi
 refine⟨h.L[i],h1,GN h1,hi,?_⟩
 simpa using hp
theorem FI {h:Hs} {c:Int} (e:Zu h c=none):∀ (i:Nat) (x:Td),h.L[i]? = some x->x.st=2->(x.c:Int)≠c:=by
 intro i x hx hs hc
 have:=List.findIdx?_eq_none_iff.1 e x (List.mem_of_getElem? hx)
 simp[hs,hc] at this
theorem Jfu {h:Hs} (v:Inv h) {c:Int} {i:Nat} {x:Td} (e:h.L[i]? = some x) (hs:x.st=2) (hc:(x.c:Int)=c):Zu h c=some i:=by
 cases e2:Zu h c with
 | none=>exact absurd hc (FI e2 i x e hs)
 | some j =>
  obtain⟨y,h1,_,_,h2,h3⟩:=XF e2
  rw[v.one j i y x h1 e h2 hs (by omega)]
theorem MT {h:Hs} {i:Int} (e:Ae h i):i.toNat<h.L.length/\((i.toNat:Nat):Int)=i:=by
 unfold Ae at e
 omega
theorem Gp {h:Hs} {c:Int} (e:OQ h c):c.toNat<h.Q.length/\((c.toNat:Nat):Int)=c:=by
 unfold OQ at e
 omega
theorem Je9 {n:Nat} (h1:1<=n) (h2:n<=8):Inv (Vu n):=by
 have hq:(Vu n).Q.length=n:=List.length_replicate
 refine⟨by rw[hq];exact h1,by rw[hq];exact h2,by simp[Vu],fun x hx=>by simp[Vu] at hx,fun S hS=>?_,fun c hc y=>?_,fun i j x y e=>by simp[Vu] at e⟩
 ·obtain rfl:=List.eq_of_mem_replicate hS
  exact Vg
 ·rw[hq] at hc
  have:ZO (Vu n) c=[]:=by
   unfold ZO Vu
   rw[List.getD_eq_getElem?_getD,List.getElem?_replicate,if_pos hc]
   rfl
  rw[this]
  constructor
  ·intro h
   simp at h
  ·rintro⟨i,x,e,_⟩
   simp[Vu] at e
theorem JL {h:Hs} (v:Inv h) {i:Nat} (hi:i<h.L.length):Okay (thr h i) h.Q.length:=v.okay (M1 hi)
theorem OR (h:Hs) (p c:Int):(JV h p c=0/\0<=p/\p<256/\OQ h c/\h.L.length<64)\/(JV h p c=2/\0<=p/\p<256/\OQ h c/\64<=h.L.length)\/(JV h p c=1/\¬ ((0<=p/\p<256)/\OQ h c)):=by
 unfold JV
 by_cases h1:(0<=p/\p<256)/\OQ h c
 ·by_cases h2:64<=h.L.length
  ·exact .inr (.inl ⟨by rw[if_pos h1,if_pos h2],h1.1.1,h1.1.2,h1.2,h2⟩)
  ·exact .inl ⟨by rw[if_pos h1,if_neg h2],h1.1.1,h1.1.2,h1.2,by omega⟩
 ·exact .inr (.inr (by simp[h1]))
theorem AT {h:Hs} (v:Inv h) (p c:Int):Inv (JS h p c):=by
 unfold JS
 rcases OR h p c with ⟨e,h0,h1,h2,h3⟩|⟨e,_⟩|⟨e,_⟩<;>rw[e]
 ·rw[if_pos rfl]
  obtain⟨c1,c2⟩:=Gp h2
  have at1:∀ (i:Nat) (x:Td),(h.L++[(⟨0,p.toNat,c.toNat,5,List.replicate 8 0⟩:Td)])[i]? = some x->(h.L[i]? = some x)\/x.st=0:=fun i x e=>by
   rw[List.getElem?_append] at e
   split at e
   ·exact .inl e
   ·have:=List.mem_of_getElem? e
    rw[List.mem_singleton] at this
    rw[this]
    exact .inr rfl
  have at2:∀ (i:Nat) (x:Td),h.L[i]? = some x->(h.L++[(⟨0,p.toNat,c.toNat,5,List.replicate 8 0⟩:Td)])[i]? = some x:=fun i x e=>by
   rw[List.getElem?_append_left (List.getElem?_eq_some_iff.1 e).1]
   exact e
  refine⟨v.lo,v.hi,by rw[List.length_append,List.length_singleton];omega,fun x hx=>?_,v.good,fun d hd y=>?_,fun i j x y ei ej si sj ec=>?_⟩
  ·rcases List.mem_append.1 hx with hx|hx
   ·exact v.each x hx
   ·rw[List.mem_singleton.1 hx]
    exact⟨by simp only;omega,c1,by simp,by simp,by simp,fun w hw=>by rw[List.eq_of_mem_replicate hw];omega⟩
  ·show y∈ZO h d↔_
   rw[v.mem d hd y]
   constructor
   ·rintro⟨i,x,e1,r⟩
    exact⟨i,x,at2 i x e1,r⟩
   ·rintro⟨i,x,e1,e2,e3,e4⟩
    rcases at1 i x e1 with e5|e5
    ·exact⟨i,x,e5,e2,e3,e4⟩
    ·omega
  ·rcases at1 i x ei with f1|f1<;>rcases at1 j y ej with f2|f2
   ·exact v.one i j x y f1 f2 si sj ec
   ·omega
   ·omega
   ·omega
 ·rw[if_neg (by omega)]
  exact v
 ·rw[if_neg (by omega)]
  exact v
theorem IJ {h:Hs} (v:Inv h) (i k x:Int) (hx:0<=x/\x<=18446744073709551615):Inv (My h i k x):=by
 unfold My
 split
 ·rename_i e
  have ht:Ae h i:=by
   by_cases ht:Ae h i
   ·exact ht
   ·simp[EQ,ht] at e
  have ok:=JL v (MT ht).1
  refine Jfb v (MT ht).1 ⟨ok.p,ok.c,ok.s,ok.l,by rw[List.length_set];exact ok.g,fun w hw=>?_⟩ rfl rfl rfl
  rcases List.mem_or_eq_of_mem_set hw with hw|rfl
  ·exact ok.w w hw
  ·exact hx
 ·exact v
theorem VM {h:Hs} (v:Inv h) {i:Nat} (hi:i<h.L.length) {s:Int} (h0:0<=s) (h3:s<=3) (h2:s≠2):Inv (Xc h i { thr h i with st:=s }):=by
 have ok:=JL v hi
 exact Ad v hi ⟨ok.p,ok.c,⟨h0,h3⟩,ok.l,ok.g,ok.w⟩ fun e=>absurd e h2
theorem MS {h:Hs} (v:Inv h) (i:Int):Inv (JR h i):=by
 unfold JR
 split
 ·rename_i e
  by_cases ht:Ae h i
  ·exact VM v (MT ht).1 (by omega) (by omega) (by omega)
  ·simp[Xh,ht] at e
 ·exact v
theorem Uq {h:Hs} (v:Inv h) (i:Int):Inv (JM h i):=by
 unfold JM
 split
 ·rename_i e
  by_cases ht:Ae h i
  ·exact VM v (MT ht).1 (by omega) (by omega) (by omega)
  ·simp[JY,ht] at e
 ·exact v
theorem Fp {h:Hs} (v:Inv h) (i:Int):Inv (Xp h i):=by
 unfold Xp
 split
 ·rename_i e
  by_cases ht:Ae h i
  ·exact VM v (MT ht).1 (by omega) (by omega) (by omega)
  ·simp[Vp,ht] at e
 ·exact v
theorem Ja7 {h:Hs} (v:Inv h) (i p:Int):Inv (VW h i p):=by
 unfold VW
 split
 ·rename_i e
  by_cases ht:Ae h i
  ·have hp:0<=p/\p<256:=by
    by_cases hp:0<=p/\p<256
    ·exact hp
    ·rw[VV,if_pos ht,if_neg hp] at e;omega
   have hi:=(MT ht).1
   have ok:=JL v hi
   refine Ad v hi ⟨by simp only;omega,ok.c,ok.s,ok.l,ok.g,ok.w⟩ fun hs j y hj hy sy ec=>?_
   exact hj (v.one j i.toNat y (thr h i.toNat) hy (M1 hi) sy hs ec)
  ·simp[VV,ht] at e
 ·exact v
theorem OT {h:Hs} (v:Inv h) {c:Nat} (hc:c<h.Q.length) {y:In} (e:VT (ZO h c)=some y) :
  ∃ i x,h.L[i]? = some x/\thr h i=x/\i<h.L.length/\y=⟨x.p,(i:Int)⟩/\y.n.toNat=i/\x.st=1/\x.c=c/\∀ (j:Nat) (z:Td),h.L[j]? = some z->z.st=1->z.c=c->z.p<=x.p:=by
 rcases Eb (v.queue hc) with ⟨_,_,e1,_⟩|⟨y',L,hy,_,e1,_,_,_,_,hmax⟩
 ·rw[e] at e1
  cases e1
 ·rw[e] at e1
  cases e1
  obtain⟨i,x,e2,rfl,e3,e4⟩:=(v.mem c hc y).1 hy
  refine⟨i,x,e2,GN e2,(List.getElem?_eq_some_iff.1 e2).1,rfl,by simp,e3,e4,fun j z ez sz cz=>?_⟩
  have:=hmax ⟨z.p,(j:Int)⟩ ((v.mem c hc _).2 ⟨j,z,ez,rfl,sz,cz⟩)
  simpa using this
theorem Jfa {h:Hs} (v:Inv h) {i:Nat} (hi:i<h.L.length) (hn:∀ (j:Nat) (y:Td),h.L[j]? = some y->y.st=2->y.c≠(thr h i).c):Inv (Ux h i):=by
 have ok:=JL v hi
 exact Ad v hi ⟨ok.p,ok.c,by simp,ok.l,ok.g,ok.w⟩ fun _ j y _ hy sy=>hn j y hy sy
theorem Mo {h:Hs} (v:Inv h) (c:Int):Inv (JB h c):=by
 unfold JB
 split
 ·rename_i hc
  obtain⟨c1,c2⟩:=Gp hc
  split
  ·exact v
  ·rename_i y hy
   obtain⟨i,x,e1,e2,hi,e3,e4,e5,e6,_⟩:=OT v c1 hy
   rw[e4]
   split
   ·rename_i hr
    refine Jfa v hi fun j z hz sz e=>FI hr j z hz sz ?_
    rw[e,e2,e6]
    exact c2
   ·rename_i j hr
    split
    ·obtain⟨z,f1,f2,hj,f3,f4⟩:=XF hr
     have hij:i≠j:=fun e=>by
      subst e
      rw[e1] at f1
      cases f1
      omega
     have v1:Inv (OG h j):=VM v hj (by omega) (by omega) (by omega)
     have hi1:i<(OG h j).L.length:=by
      show i<(h.L.set j _).length
      rw[List.length_set]
      exact hi
     refine Jfa v1 hi1 fun k w hw sw e=>?_
     have ht:thr (OG h j) i=x:=by
      unfold OG
      rw[Jf1 hj,if_neg hij]
      exact e2
     rw[ht,e6] at e
     unfold OG at hw
     rw[MP hj] at hw
     by_cases hk:k=j
     ·rw[if_pos hk] at hw
      cases hw
      simp at sw
     ·rw[if_neg hk] at hw
      exact hk (v.one k j w z hw f1 sw f3 (by omega))
    ·exact v
 ·exact v
theorem Fq {h:Hs} (v:Inv h) (c:Int):Inv (XR h c):=by
 unfold XR
 split
 ·exact v
 ·rename_i i hr
  obtain⟨x,_,_,hi,_⟩:=XF hr
  have ok:=JL v hi
  exact Mo (Ad v hi (x:={ thr h i with st:=1,l:=5 }) ⟨ok.p,ok.c,by simp,by simp,ok.g,ok.w⟩ fun e=>by cases e) c
end Th
namespace En
structure Ms where
 l:Int
 a:Int
 b:Int
 c:Int
 d:Int
 g:Int
 q:Bool
def EM:Ms:=⟨0,0,0,0,0,0,false⟩
structure Wt where
 n:Int
 s:Bool
 m:Ms
structure Mt where
 i:Bool
 f:Int
 t:Int
 m:Ms
def Vn:Mt:=⟨false,0,0,EM⟩
abbrev St:=List Wt
def EL (n:Int) (x:Wt):Bool:=decide (x.n=n)
def Ik (S:St) (n:Int):Bool:=S.any (EL n)
def Jl (S:St) (s:Bool):Bool:=match S with
 | []=>false
 | x::_=>x.s == s
def Ud (p:Wt->Bool) (S:St):St:=S.filter fun x => !p x
def OD (p:Wt->Bool) (S:St):List Int:=(S.filter p).map (·.n)
def J8 (S:St) (n:Int):Int:=if Ik S n=true then 110 else 0
def Zj (S:St) (n:Int) (m:Ms):Mt:=if Ik S n=true then Vn else match S with
 | []=>Vn
 | x::_=>if x.s=true then Vn else ⟨true,n,x.n,m⟩
def XG (S:St) (n:Int) (m:Ms) (z:Bool):St:=if Ik S n=true then S else if Jl S false=true then S.tail else if z=true then S++[⟨n,true,m⟩] else S
def Zi (S:St) (n:Int):Mt:=if Ik S n=true then Vn else match S with
 | []=>Vn
 | x::_=>if x.s=true then ⟨true,x.n,n,x.m⟩ else Vn
def XD (S:St) (n:Int) (z:Bool):St:=if Ik S n=true then S else if Jl S true=true then S.tail else if z=true then S++[⟨n,false,EM⟩] else S
structure Good (S:St):Prop where
 one:S.Pairwise fun x y=>x.n≠y.n
 all:∀ x∈S,∀ y∈S,x.s=y.s
 zer:∀ x∈S,x.s=false->x.m=EM
theorem Vg:Good []:=⟨List.Pairwise.nil,fun x hx=>by simp at hx,fun x hx=>by simp at hx⟩
theorem IE {S T:St} (g:Good S) (h:T.Sublist S):Good T:=⟨g.one.sublist h,fun x hx y hy=>g.all x (h.subset hx) y (h.subset hy),fun x hx=>g.zer x (h.subset hx)⟩
theorem Jav {S:St} (g:Good S) (p:Wt->Bool):Good (Ud p S):=IE g List.filter_sublist
theorem Oq {S:St} (g:Good S):Good S.tail:=IE g (List.tail_sublist S)
theorem Jig {S:St} {n:Int} (h:Ik S n=false):∀ x∈S,x.n≠n:=by
 intro x hx e
 have:Ik S n=true:=List.any_eq_true.2 ⟨x,hx,by simp[EL,e]⟩
 rw[this] at h
 cases h
theorem Jn5 {S:St} (g:Good S) {b:Bool} (h:Jl S b=false):∀ x∈S,x.s = !b:=by
 match S,g,h with
 | [],_,_=>intro x hx;simp at hx
 | y::S,g,h =>
  intro x hx
  have e:x.s=y.s:=g.all x hx y (by simp)
  have h':(y.s == b)=false:=h
  rw[e]
  cases hy:y.s<;>cases b<;>simp_all
theorem VS {S:St} (g:Good S) (x:Wt) (hn:Ik S x.n=false) (hs:Jl S (!x.s)=false) (hz:x.s=false->x.m=EM):Good (S++[x]):=by
 have h1:=Jig hn
 have h2:=Jn5 g hs
 refine⟨List.pairwise_append.2 ⟨g.one,by simp,fun a ha b hb=>?_⟩,fun a ha b hb=>?_,fun a ha=>?_⟩
 ·obtain rfl:b=x:=by simpa using hb
  exact h1 a ha
 ·have k:∀ y∈S++[x],y.s=x.s:=fun y hy=>by
   rcases List.mem_append.1 hy with hy|hy
   ·have:=h2 y hy
    rw[Bool.not_not] at this
    exact this
   ·obtain rfl:y=x:=by simpa using hy
    rfl
  rw[k a ha,k b hb]
 ·rcases List.mem_append.1 ha with ha|ha
  ·exact g.zer a ha
  ·obtain rfl:a=x:=by simpa using ha
   exact hz
theorem Jgr {S:St} (g:Good S) (n:Int) (m:Ms) (z:Bool):Good (XG S n m z):=by
 unfold XG
 cases h1:Ik S n
 ·cases h2:Jl S false
  ·cases z
   ·simpa using g
   ·simpa using VS g ⟨n,true,m⟩ h1 h2 (by simp)
  ·simpa using Oq g
 ·simpa using g
theorem Jgq {S:St} (g:Good S) (n:Int) (z:Bool):Good (XD S n z):=by
 unfold XD
 cases h1:Ik S n
 ·cases h2:Jl S true
  ·cases z
   ·simpa using g
   ·simpa using VS g ⟨n,false,EM⟩ h1 h2 (by simp)
  ·simpa using Oq g
 ·simpa using g
theorem Jhr {x:Wt} {S:St} (g:Good (x::S)):Ud (EL x.n) (x::S)=S:=by
 have h:=(List.pairwise_cons.1 g.one).1
 unfold Ud
 rw[List.filter_cons,if_neg (by simp[EL]),List.filter_eq_self]
 intro y hy
 have:=h y hy
 simp[EL]
 exact fun e=>this e.symm
theorem Jo7 (p:Wt->Bool) (S:St):(Ud p S).length<=S.length:=List.length_filter_le _ _
theorem Jbu (p:Wt->Bool) (S:St):(OD p S).length<=S.length:=by
 unfold OD
 rw[List.length_map]
 exact List.length_filter_le _ _
theorem Ob (S:St) (n:Int):decide (0<(OD (EL n) S).length)=Ik S n:=by
 unfold OD Ik
 rw[List.length_map]
 cases h:S.any (EL n)
 ·have:S.filter (EL n)=[]:=by
   rw[List.filter_eq_nil_iff]
   intro x hx e
   have:S.any (EL n)=true:=List.any_eq_true.2 ⟨x,hx,e⟩
   rw[this] at h
   cases h
  simp[this]
 ·obtain⟨x,hx,e⟩:=List.any_eq_true.1 h
  have:x∈S.filter (EL n):=List.mem_filter.2 ⟨hx,e⟩
  have:=List.length_pos_of_mem this
  simpa using this
end En
namespace No
def U64 (x:Int):Prop:=0<=x/\x<=18446744073709551615
def orI (a b:Int):Int:=bits .or .u64 a b
theorem Jtv {a b:Int} (ha:U64 a) (hb:U64 b):orI a b=((a.toNat ||| b.toNat:Nat):Int):=u64_or a b ha.1 (by have:=ha.2;omega) hb.1 (by have:=hb.2;omega)
theorem Jz7 {a b:Int} (ha:U64 a) (hb:U64 b):U64 (orI a b):=by
 rw[Jtv ha hb]
 have h1:a.toNat<2 ^ 64:=by have:=ha.1;have:=ha.2;omega
 have h2:b.toNat<2 ^ 64:=by have:=hb.1;have:=hb.2;omega
 have:=Nat.or_lt_two_pow h1 h2
 exact⟨by omega,by omega⟩
theorem Jcj:U64 0:=⟨by omega,by omega⟩
structure Ns where
 b:Bool
 w:Int
 l:List Int
def ns0:Ns:=⟨false,0,[]⟩
def Ik (S:Ns) (n:Int):Bool:=S.l.contains n
def Jhq (L:List Int) (n:Int):List Int:=L.filter (· != n)
def Jh5 (S:Ns):Int:=match S.l with
 | []=>0
 | x::_=>x
def Jt5 (S:Ns) (g:Int):Int:=match S.l with
 | []=>0
 | _::_=>g
def Jt4 (S:Ns):Bool:=match S.l with
 | []=>false
 | _::_=>true
def Jmh (S:Ns) (g:Int):Ns:=match S.l with
 | []=>⟨true,orI S.w g,[]⟩
 | _::T=>⟨S.b,S.w,T⟩
def Jq8 (S:Ns) (n:Int):Int:=if Ik S n=true then 120 else 0
def J0o (S:Ns) (n:Int):Int:=if Ik S n=true then 0 else if S.b=true then S.w else 0
def J0n (S:Ns) (n:Int):Bool:=if Ik S n=true then false else S.b
def J6b (S:Ns) (n:Int) (z:Bool):Ns:=if Ik S n=true then S else if S.b=true then ⟨false,0,S.l⟩ else if z=true then ⟨S.b,S.w,S.l++[n]⟩ else S
def G4 (S:Ns) (n:Int):Ns:=⟨S.b,S.w,Jhq S.l n⟩
structure Good (S:Ns):Prop where
 one:S.l.Nodup
 sig:S.b=true->S.l=[]
 zer:S.b=false->S.w=0
 bd:U64 S.w
theorem Jdd:Good ns0:=⟨List.nodup_nil,fun _=>rfl,fun _=>rfl,Jcj⟩
theorem Jj7 {S:Ns} (h:Good S) {g:Int} (hg:U64 g):Good (Jmh S g):=by
 obtain⟨b,w,l⟩:=S
 cases l with
 | nil=>exact⟨List.nodup_nil,fun _=>rfl,fun e=>(by cases e),Jz7 h.bd hg⟩
 | cons x T=>exact⟨(List.nodup_cons.1 h.one).2,fun e=>(by have:=h.sig e;cases this),h.zer,h.bd⟩
theorem Jp1 {S:Ns} {n:Int}:Ik S n=true↔n∈S.l:=by simp[Ik]
theorem Jgs {S:Ns} (h:Good S) (n:Int) (z:Bool):Good (J6b S n z):=by
 unfold J6b
 split
 ·exact h
 ·rename_i h1
  split
  ·exact⟨h.one,fun e=>(by cases e),fun _=>rfl,Jcj⟩
  ·rename_i h2
   split
   ·refine⟨?_,fun e=>absurd e h2,h.zer,h.bd⟩
    rw[Jp1] at h1
    refine List.nodup_append.2 ⟨h.one,by simp,fun a ha b hb=>?_⟩
    simp at hb
    subst hb
    exact fun e=>h1 (e ▸ ha)
   ·exact h
theorem Jas {S:Ns} (h:Good S) (n:Int):Good (G4 S n):=
 ⟨h.one.sublist List.filter_sublist,fun e=>by
  have:S.l=[]:=h.sig e
  simp[G4,Jhq,this],h.zer,h.bd⟩
theorem Jlm (L:List Int) (n:Int):decide ((Jhq L n).length<L.length)=L.contains n:=by
 unfold Jhq
 by_cases h:n∈L
 ·have h1:L.contains n=true:=by simpa using h
  rw[h1,decide_eq_true_eq]
  refine Nat.lt_of_le_of_ne (List.length_filter_le _ _) fun e=>?_
  have:=List.length_filter_eq_length_iff.1 e n h
  simp at this
 ·have h1:L.contains n=false:=by simpa using h
  rw[h1,decide_eq_false_iff_not,List.filter_eq_self.2]
  ·omega
  ·intro y hy
   have:y≠n:=fun e=>h (e ▸ hy)
   simpa using this
end No
end Go.Proofs.YtbfjjpdnoalojaaGreatDoor
