/-
  What stands below: KpTh KpEn KpNo; no condition but what each says.
-/
import Derived.Laws.BitsAllLaws
namespace Go.Proofs.YtilnjnblpeeigaaGreatDoor.Th
def notI (x:Int):Int:=18446744073709551615 - x
def bitI (n:Int):Int:=2 ^ (n % 64).toNat
theorem pow_pos (n:Nat):0<2 ^ n:=Nat.pow_pos (by omega)
theorem bit_wrap (n:Int):IntKind.u64.wrap (2 ^ (n % 64).toNat)=bitI n:=by
 unfold bitI
 have h0:0<=n % 64:=Int.emod_nonneg _ (by omega)
 have h1:n % 64<64:=Int.emod_lt_of_pos _ (by omega)
 obtain ⟨m,hm⟩:=Int.eq_ofNat_of_zero_le h0
 rw [hm,IntKind.wrap_u64]
 have h2:2 ^ m<2 ^ 64:=Nat.pow_lt_pow_right (by omega) (by omega)
 have e:(2:Int) ^ (m:Int).toNat=((2 ^ m:Nat):Int):=by simp
 rw [e]
 generalize 2 ^ m=p at h2 ⊢
 omega
theorem testBit_big (v i:Nat) (hv:v<18446744073709551616) (hi:64<=i):v.testBit i=false:=by
 apply Nat.testBit_lt_two_pow
 have:2 ^ 64<=2 ^ i:=Nat.pow_le_pow_right (by omega) hi
 omega
theorem not_bit (y i:Nat) (hy:y<18446744073709551616):(18446744073709551615 - y).testBit i=(decide (i<64) && !y.testBit i):=by
 have:=Nat.testBit_two_pow_sub_succ (x:=y) (n:=64) (by omega) i
 rw [<- this]
 congr 1
 omega
theorem not_bits (x:Int) (x0:0<=x) (x1:x<=18446744073709551615):bits .xor .u64 IntKind.u64.max x=notI x:=by
 obtain ⟨X,rfl⟩:=Int.eq_ofNat_of_zero_le x0
 show IntKind.u64.wrap ((BitVec.ofInt 64 IntKind.u64.max ^^^ BitVec.ofInt 64 (X:Int)).toNat:Int)=_
 have h1:BitVec.ofInt 64 IntKind.u64.max=BitVec.allOnes 64:=by decide
 rw [h1,BitVec.allOnes_xor,BitVec.toNat_not,ofInt_u64 X (by omega),IntKind.wrap_u64]
 unfold notI
 omega
end Go.Proofs.YtilnjnblpeeigaaGreatDoor.Th
namespace Go.Proofs.YtilnjnblpeeigaaGreatDoor.Th
def wordAt (b0 b1 b2 b3:Int) (k:Nat):Int:=if k=0 then b0 else if k=1 then b1 else if k=2 then b2 else b3
def hasN (b0 b1 b2 b3:Int) (n:Nat):Bool:=(wordAt b0 b1 b2 b3 (n / 64)).toNat.testBit (n % 64)
def hasI (b0 b1 b2 b3 n:Int):Bool:=decide (0<=n) && (decide (n<256) && hasN b0 b1 b2 b3 n.toNat)
def putI (z:Bool) (b:Int) (j:Nat):Int:=
 if b.toNat.testBit j=z then b else if z=true then b+2 ^ j else b - 2 ^ j
def setI (z:Bool) (b n k:Int):Int:=if n / 64=k then putI z b (n % 64).toNat else b
def topTo (f:Nat->Bool):Nat->Int
 | 0 => -1
 | k+1=>if f k=true then (k:Int) else topTo f k
def topI (b0 b1 b2 b3:Int):Int:=topTo (hasN b0 b1 b2 b3) 256
theorem topTo_of (f:Nat->Bool) (t:Nat) (h:f t=true):∀ m,t<m->(∀ k,t<k->k<m->f k=false)->topTo f m=t
 | 0,hm,_=>by omega
 | m+1,hm,ha=>by
  unfold topTo
  by_cases e:t=m
  ·subst e
   rw [if_pos h]
  ·rw [ha m (by omega) (by omega),if_neg (by simp)]
   exact topTo_of f t h m (by omega) fun k h1 h2=>ha k h1 (by omega)
theorem topTo_none (f:Nat->Bool):∀ m,(∀ k,k<m->f k=false)->topTo f m = -1
 | 0,_=>rfl
 | m+1,ha=>by
  unfold topTo
  rw [ha m (by omega),if_neg (by simp)]
  exact topTo_none f m fun k h=>ha k (by omega)
theorem topTo_cases (f:Nat->Bool):∀ m,(topTo f m = -1/\∀ k,k<m->f k=false)\/∃ t,topTo f m=(t:Nat)/\t<m/\f t=true/\∀ k,t<k->k<m->f k=false
 | 0=>Or.inl ⟨rfl,fun k h=>by omega⟩
 | m+1=>by
  by_cases h:f m=true
  ·exact Or.inr ⟨m,by unfold topTo;rw [if_pos h],by omega,h,fun k h1 h2=>by omega⟩
  ·have h':f m=false:=by simpa using h
   have e:topTo f (m+1)=topTo f m:=by
    show (if f m=true then (m:Int) else topTo f m)=topTo f m
    rw [if_neg h]
   rcases topTo_cases f m with ⟨h1,h2⟩ | ⟨t,h1,h2,h3,h4⟩
   ·refine Or.inl ⟨by rw [e,h1],fun k hk=>?_⟩
    by_cases ek:k=m
    ·rw [ek];exact h'
    ·exact h2 k (by omega)
   ·refine Or.inr ⟨t,by rw [e,h1],by omega,h3,fun k hk hk2=>?_⟩
    by_cases ek:k=m
    ·rw [ek];exact h'
    ·exact h4 k hk (by omega)
theorem bitI_nat (n:Int):bitI n=((2 ^ (n % 64).toNat:Nat):Int):=by
 unfold bitI
 simp
theorem two_lt (j:Nat) (h:j<64):2 ^ j<18446744073709551616:=by
 have:=Nat.pow_lt_pow_right (a:=2) (by omega) h
 simpa using this
theorem mod_lt (n:Int):(n % 64).toNat<64:=by
 have:=Int.emod_lt_of_pos n (b:=64) (by omega)
 have:=Int.emod_nonneg n (b:=64) (by omega)
 omega
theorem or_bit (B j:Nat):B ||| 2 ^ j=if B.testBit j=true then B else B+2 ^ j:=by
 apply Nat.eq_of_testBit_eq
 intro i
 rw [Nat.testBit_or,Nat.testBit_two_pow]
 by_cases h:B.testBit j=true
 ·rw [if_pos h]
  by_cases e:j=i
  ·subst e;simp [h]
  ·simp [e]
 ·rw [if_neg h]
  have hb:B.testBit j=false:=by simpa using h
  have e1:B=2 ^ j*(B / 2 ^ j)+B % 2 ^ j:=(Nat.div_add_mod B (2 ^ j)).symm
  have hm:=Nat.mod_lt B (pow_pos j)
  have e2:B+2 ^ j=2 ^ j*(B / 2 ^ j+1)+B % 2 ^ j:=by rw [Nat.mul_add,Nat.mul_one];omega
  rw [e2,Nat.testBit_two_pow_mul_add _ hm]
  have hpar:B / 2 ^ j % 2=0:=by
   rw [Nat.testBit_eq_decide_div_mod_eq] at hb
   have:=Nat.mod_two_eq_zero_or_one (B / 2 ^ j)
   simp at hb
   omega
  by_cases h1:i<j
  ·have h2:¬ j=i:=by omega
   simp [h1,h2,Nat.testBit_mod_two_pow]
  ·rw [if_neg h1]
   have e3:B / 2 ^ j+1=2 ^ 1*(B / 2 ^ j / 2)+1:=by omega
   have e4:B / 2 ^ j=2 ^ 1*(B / 2 ^ j / 2)+0:=by omega
   have hB:B.testBit i=(B / 2 ^ j).testBit (i - j):=by rw [Nat.testBit_div_two_pow];congr 1;omega
   rw [hB,e3,Nat.testBit_two_pow_mul_add _ (by omega)]
   conv=>lhs;rw [e4]
   rw [Nat.testBit_two_pow_mul_add _ (by omega)]
   by_cases h2:j=i
   ·subst h2;simp
   ·have h3:¬ i - j<1:=by omega
    simp [h2,h3]
theorem testBit_or_self (B j:Nat) (h:B.testBit j=true):B=(B - 2 ^ j)+2 ^ j/\(B - 2 ^ j).testBit j=false:=by
 have e1:B=2 ^ j*(B / 2 ^ j)+B % 2 ^ j:=(Nat.div_add_mod B (2 ^ j)).symm
 have hm:=Nat.mod_lt B (pow_pos j)
 have hpar:B / 2 ^ j % 2=1:=by
  rw [Nat.testBit_eq_decide_div_mod_eq] at h
  simpa using h
 generalize hq:B / 2 ^ j=q at *
 generalize hr:B % 2 ^ j=r at *
 have h1:1<=q:=by omega
 have h2:2 ^ j<=2 ^ j*q:=Nat.le_mul_of_pos_right _ h1
 have e2:B - 2 ^ j=2 ^ j*(q - 1)+r:=by
  rw [Nat.mul_sub,Nat.mul_one]
  generalize 2 ^ j*q=x at *
  generalize 2 ^ j=p at *
  omega
 refine ⟨?_,?_⟩
 ·generalize 2 ^ j*q=x at *
  generalize 2 ^ j=p at *
  omega
 ·rw [e2,Nat.testBit_two_pow_mul_add _ hm,if_neg (by omega),Nat.sub_self,Nat.testBit_eq_decide_div_mod_eq]
  simp
  omega
theorem put_bit (z:Bool) (b:Int) (j i:Nat) (h:0<=b):(putI z b j).toNat.testBit i=if i=j then z else b.toNat.testBit i:=by
 obtain ⟨B,rfl⟩:=Int.eq_ofNat_of_zero_le h
 unfold putI
 rw [Int.toNat_natCast]
 cases hb:B.testBit j <;> cases z <;> simp
 ·intro e e2;rw [e2,hb] at e;simp at e
 ·have e:((B:Int)+2 ^ j).toNat=B+2 ^ j:=by
   have:(2:Int) ^ j=((2 ^ j:Nat):Int):=by simp
   rw [this];generalize 2 ^ j=p;omega
  rw [e]
  have:=or_bit B j
  rw [if_neg (by simp [hb])] at this
  rw [<- this,Nat.testBit_or,Nat.testBit_two_pow]
  by_cases e2:i=j
  ·simp [e2]
  ·have e3:¬ j=i:=fun x=>e2 x.symm
   simp [e2,e3]
 ·obtain ⟨e1,e2⟩:=testBit_or_self B j hb
  have e:((B:Int) - 2 ^ j).toNat=B - 2 ^ j:=by
   have:(2:Int) ^ j=((2 ^ j:Nat):Int):=by simp
   rw [this];generalize 2 ^ j=p;omega
  rw [e]
  by_cases e3:i=j
  ·subst e3;simp [e2]
  ·have e4:¬ j=i:=fun x=>e3 x.symm
   have:=or_bit (B - 2 ^ j) j
   rw [if_neg (by simp [e2]),<- e1] at this
   have h5:B.testBit i=(B - 2 ^ j ||| 2 ^ j).testBit i:=by rw [this]
   rw [h5,Nat.testBit_or,Nat.testBit_two_pow]
   simp [e3,e4]
 ·intro e;rw [e];exact hb
theorem put_bd (z:Bool) (b:Int) (j:Nat) (b0:0<=b) (b1:b<=18446744073709551615) (hj:j<64):0<=putI z b j/\putI z b j<=18446744073709551615:=by
 have h0:0<=putI z b j:=by
  obtain ⟨B,rfl⟩:=Int.eq_ofNat_of_zero_le b0
  unfold putI
  have hpw:(2:Int) ^ j=((2 ^ j:Nat):Int):=by simp
  rw [hpw]
  cases hb:B.testBit j <;> cases z <;> simp only [Int.toNat_natCast,hb,if_true,if_false,Bool.false_eq_true,Bool.true_eq_false]
  ·omega
  ·generalize 2 ^ j=p
   omega
  ·have:=(testBit_or_self B j hb).1
   generalize 2 ^ j=p at *
   omega
  ·omega
 refine ⟨h0,?_⟩
 have:=Nat.lt_pow_two_of_testBit (n:=64) (putI z b j).toNat (fun i hi=>by
  rw [put_bit z b j i b0,if_neg (by omega)]
  exact testBit_big _ i (by omega) hi)
 omega
theorem or_put (b n:Int) (b0:0<=b) (b1:b<=18446744073709551615):bits .or .u64 b (bitI n)=putI true b (n % 64).toNat:=by
 obtain ⟨B,rfl⟩:=Int.eq_ofNat_of_zero_le b0
 rw [bitI_nat,u64_or_nat _ _ (by omega) (two_lt _ (mod_lt n)),or_bit]
 unfold putI
 rw [Int.toNat_natCast]
 cases hb:B.testBit (n % 64).toNat <;> simp
theorem clr_put (b n:Int) (b0:0<=b) (b1:b<=18446744073709551615):bits .andNot .u64 b (bitI n)=putI false b (n % 64).toNat:=by
 obtain ⟨B,rfl⟩:=Int.eq_ofNat_of_zero_le b0
 have hp:=two_lt _ (mod_lt n)
 rw [bitI_nat,u64_andNot_nat _ _ (by omega) hp]
 have hb:=put_bd false (B:Int) (n % 64).toNat (by omega) b1 (mod_lt n)
 have e:putI false (B:Int) (n % 64).toNat=(((putI false (B:Int) (n % 64).toNat).toNat:Nat):Int):=by omega
 rw [e]
 congr 1
 apply Nat.eq_of_testBit_eq
 intro i
 rw [put_bit _ _ _ _ (by omega),Int.toNat_natCast,Nat.testBit_and,not_bit _ _ hp,Nat.testBit_two_pow]
 by_cases e2:i=(n % 64).toNat
 ·simp [<- e2]
 ·have e3:¬ (n % 64).toNat=i:=fun x=>e2 x.symm
  by_cases e4:i<64
  ·simp [e2,e3,e4]
  ·simp [e2,e3,testBit_big B i (by omega) (by omega)]
end Go.Proofs.YtilnjnblpeeigaaGreatDoor.Th
namespace Go.Proofs.YtilnjnblpeeigaaGreatDoor.Th
def I64 (x:Int):Prop:=-9223372036854775808<=x/\x<=9223372036854775807
structure In where
 p:Nat
 n:Int
abbrev St:=List In
structure Good (S:St):Prop where
 fit:∀ x∈S,x.p<256/\I64 x.n
 one:S.Pairwise (fun x y=>x.n≠y.n)
def lineN (S:St) (p:Nat):List Int:=(S.filter fun x=>x.p == p).map In.n
def atO (S:St) (n:Int):Option In:=S.find? fun x=>x.n == n
def whF (S:St) (n:Int):Option Int:=(atO S n).map fun x=>(x.p:Int)
def whI (S:St) (n:Int):Int:=(whF S n).getD 0
def whB (S:St) (n:Int):Bool:=(whF S n).isSome
def putE (S:St) (p n:Int):Int:=if 0<=p/\p<256 then (if whB S n=true then 90 else 0) else 1
def putS (S:St) (p n:Int):St:=if putE S p n=0 then S++[⟨p.toNat,n⟩] else S
def takeE (S:St) (n:Int):Int:=if whB S n=true then 0 else 91
def takeS (S:St) (n:Int):St:=S.filter fun x=>x.n != n
def occ (S:St) (p:Nat):Bool:=S.any fun x=>x.p == p
def topS (S:St):Int:=topTo (occ S) 256
def nextO (S:St):Option In:=S.find? fun x=>(x.p:Int) == topS S
def nextN (S:St):Int:=((nextO S).map In.n).getD 0
def nextB (S:St):Bool:=(nextO S).isSome
def turnS (S:St):St:=match nextO S with | none=>S | some x=>takeS S x.n++[x]
theorem filter_erase:∀ (L:List Int) (i:Nat) (n:Int),L.Pairwise (· ≠ ·)->L[i]? = some n->L.filter (fun x=>x != n)=L.eraseIdx i
 | [],i,n,_,h=>by simp at h
 | x::L,0,n,hp,h=>by
  obtain rfl:x=n:=by simpa using h
  obtain ⟨h1,h2⟩:=List.pairwise_cons.1 hp
  simp only [List.eraseIdx_cons_zero]
  rw [List.filter_cons_of_neg (by simp),List.filter_eq_self.2]
  intro a ha
  simpa using (h1 a ha).symm
 | x::L,i+1,n,hp,h=>by
  obtain ⟨h1,h2⟩:=List.pairwise_cons.1 hp
  have h':L[i]? = some n:=by simpa using h
  have hx:x≠n:=h1 n (List.mem_of_getElem? h')
  rw [List.filter_cons_of_pos (by simpa using hx),filter_erase L i n h2 h']
  rfl
theorem filter_none (L:List Int) (n:Int) (h:n ∉ L):L.filter (fun x=>x != n)=L:=by
 rw [List.filter_eq_self.2]
 intro a ha
 have:¬ a=n:=fun e=>h (e ▸ ha)
 simpa using this
theorem same_of_n {S:St} (h:S.Pairwise (fun x y=>x.n≠y.n)) {x y:In} (hx:x∈S) (hy:y∈S) (e:x.n=y.n):x=y:=by
 induction S with
 | nil=>simp at hx
 | cons a S ih =>
  obtain ⟨h1,h2⟩:=List.pairwise_cons.1 h
  rcases List.mem_cons.1 hx with hx | hx <;> rcases List.mem_cons.1 hy with hy | hy
  ·rw [hx,hy]
  ·rw [hx] at e
   exact absurd e (h1 y hy)
  ·rw [hy] at e
   exact absurd e.symm (h1 x hx)
  ·exact ih h2 hx hy
section
variable {S:St} {n:Int} {x:In}
theorem atO_mem (h:atO S n=some x):x∈S/\x.n=n:=by
 unfold atO at h
 exact ⟨List.mem_of_find?_eq_some h,by simpa using List.find?_some h⟩
theorem atO_none (h:atO S n=none):∀ x∈S,x.n≠n:=by
 intro x hx e
 have:=List.find?_eq_none.1 h x hx
 simp [e] at this
theorem atO_of (g:Good S) (h:x∈S):atO S x.n=some x:=by
 cases e:atO S x.n with
 | none=>exact absurd rfl (atO_none e x h)
 | some y =>
  obtain ⟨h1,h2⟩:=atO_mem e
  rw [same_of_n g.one h1 h h2]
theorem whF_of (g:Good S) (h:x∈S):whF S x.n=some (x.p:Int):=by
 unfold whF
 rw [atO_of g h]
 rfl
theorem whF_some {v:Int} (h:whF S n=some v):∃ x∈S,x.n=n/\v=x.p:=by
 unfold whF at h
 cases e:atO S n with
 | none=>rw [e] at h;cases h
 | some y =>
  rw [e] at h
  obtain ⟨h1,h2⟩:=atO_mem e
  exact ⟨y,h1,h2,by simpa using h.symm⟩
theorem whF_none (h:whF S n=none):∀ x∈S,x.n≠n:=by
 unfold whF at h
 exact atO_none (by simpa using h)
theorem whB_some (h:whB S n=true):∃ x∈S,x.n=n:=by
 unfold whB at h
 obtain ⟨v,hv⟩:=Option.isSome_iff_exists.1 h
 obtain ⟨x,h1,h2,_⟩:=whF_some hv
 exact ⟨x,h1,h2⟩
theorem whB_none (h:whB S n=false):∀ x∈S,x.n≠n:=by
 unfold whB at h
 exact whF_none (by simpa using h)
theorem whF_no (h:∀ x∈S,x.n≠n):whF S n=none:=by
 cases e:whF S n with
 | none=>rfl
 | some v =>
  obtain ⟨x,h1,h2,_⟩:=whF_some e
  exact absurd h2 (h x h1)
theorem whB_of (g:Good S) (h:x∈S):whB S x.n=true/\whI S x.n=x.p:=by
 unfold whB whI
 rw [whF_of g h]
 exact ⟨rfl,rfl⟩
theorem wh_cases (S:St) (n:Int):(whB S n=false/\whF S n=none/\whI S n=0)\/∃ x∈S,x.n=n/\whB S n=true/\whF S n=some (x.p:Int)/\whI S n=x.p:=by
 unfold whB whI
 cases e:whF S n with
 | none=>exact .inl ⟨rfl,rfl,rfl⟩
 | some v =>
  obtain ⟨x,h1,h2,rfl⟩:=whF_some e
  exact .inr ⟨x,h1,h2,rfl,rfl,rfl⟩
end
theorem good_nil:Good []:=⟨by simp,List.Pairwise.nil⟩
theorem good_add {S:St} {x:In} (g:Good S) (hp:x.p<256) (hn:I64 x.n) (h:∀ y∈S,y.n≠x.n):Good (S++[x]):=by
 refine ⟨fun y hy=>?_,List.pairwise_append.2 ⟨g.one,by simp,fun a ha b hb=>?_⟩⟩
 ·rcases List.mem_append.1 hy with hy | hy
  ·exact g.fit y hy
  ·obtain rfl:y=x:=by simpa using hy
   exact ⟨hp,hn⟩
 ·obtain rfl:b=x:=by simpa using hb
  exact h a ha
theorem good_sub {S T:St} (g:Good S) (h:T.Sublist S):Good T:=⟨fun y hy=>g.fit y (h.subset hy),g.one.sublist h⟩
theorem good_take {S:St} (g:Good S) (n:Int):Good (takeS S n):=good_sub g List.filter_sublist
theorem putE_cases (S:St) (p n:Int):(putE S p n=0/\putS S p n=S++[⟨p.toNat,n⟩]/\0<=p/\p<256/\whB S n=false)\/(putE S p n=90/\putS S p n=S/\0<=p/\p<256/\whB S n=true)\/(putE S p n=1/\putS S p n=S/\¬ (0<=p/\p<256)):=by
 unfold putS putE
 by_cases h:0<=p/\p<256
 ·cases e:whB S n
  ·exact .inl (by simp [h])
  ·exact .inr (.inl (by simp [h]))
 ·exact .inr (.inr (by simp [h]))
theorem take_mem {S:St} {n:Int} {x:In}:x∈takeS S n↔x∈S/\x.n≠n:=by
 unfold takeS
 simp
theorem take_none {S:St} {n:Int} (h:whB S n=false):takeS S n=S:=by
 unfold takeS
 rw [List.filter_eq_self]
 intro a ha
 simpa using whB_none h a ha
theorem line_add (S:St) (x:In) (q:Nat):lineN (S++[x]) q=if q=x.p then lineN S q++[x.n] else lineN S q:=by
 unfold lineN
 by_cases h:q=x.p
 ·subst h
  simp
 ·have:¬ x.p=q:=fun e=>h e.symm
  simp [h,this]
theorem line_take (S:St) (n:Int) (q:Nat):lineN (takeS S n) q=(lineN S q).filter fun y=>y != n:=by
 unfold lineN takeS
 rw [List.filter_filter,List.filter_map,List.filter_filter]
 congr 1
 apply List.filter_congr
 intro x _
 simp [Bool.and_comm]
theorem line_mem {S:St} {q:Nat} {n:Int}:n∈lineN S q↔∃ x∈S,x.p=q/\x.n=n:=by
 unfold lineN
 simp [List.mem_map,List.mem_filter,and_assoc]
theorem line_one {S:St} (g:Good S) (q:Nat):(lineN S q).Pairwise (· ≠ ·):=by
 unfold lineN
 rw [List.pairwise_map]
 exact g.one.sublist List.filter_sublist
theorem line_take_other {S:St} (g:Good S) {x:In} (hx:x∈S) {q:Nat} (h:q≠x.p):lineN (takeS S x.n) q=lineN S q:=by
 rw [line_take]
 refine filter_none _ _ fun hm=>?_
 obtain ⟨y,h1,h2,h3⟩:=line_mem.1 hm
 exact h (by rw [<- h2,same_of_n g.one h1 hx h3])
theorem line_take_at {S:St} (g:Good S) {x:In} {i:Nat} (h:(lineN S x.p)[i]? = some x.n):lineN (takeS S x.n) x.p=(lineN S x.p).eraseIdx i:=by
 rw [line_take]
 exact filter_erase _ _ _ (line_one g _) h
theorem line_len (S:St) (q:Nat):(lineN S q).length<=S.length:=by
 unfold lineN
 rw [List.length_map]
 exact List.length_filter_le _ _
theorem occ_line (S:St) (q:Nat):occ S q=decide (0<(lineN S q).length):=by
 unfold occ lineN
 rw [List.length_map]
 induction S with
 | nil=>rfl
 | cons a S ih =>
  by_cases h:a.p=q
  ·simp [h]
  ·simp [h,ih]
theorem occ_iff (S:St) (q:Nat):occ S q=true↔∃ x∈S,x.p=q:=by
 unfold occ
 simp
theorem next_cases {S:St} (g:Good S):(S=[]/\topS S = -1/\nextO S=none/\nextN S=0/\nextB S=false/\turnS S=S) \/
  ∃ x L,x∈S/\topS S=(x.p:Nat)/\nextO S=some x/\nextN S=x.n/\nextB S=true/\turnS S=takeS S x.n++[x]/\lineN S x.p=x.n::L/\∀ y∈S,y.p<=x.p:=by
 rcases topTo_cases (occ S) 256 with ⟨h1,h2⟩ | ⟨t,h1,h2,h3,h4⟩
 ·have:S=[]:=by
   cases S with
   | nil=>rfl
   | cons a S =>
    have:=h2 a.p (g.fit a (by simp)).1
    rw [(occ_iff _ _).2 ⟨a,by simp,rfl⟩] at this
    cases this
  subst this
  exact .inl ⟨rfl,h1,rfl,rfl,rfl,rfl⟩
 ·have hle:∀ y∈S,y.p<=t:=fun y hy=>by
   apply Nat.le_of_not_lt
   intro hlt
   have:=h4 y.p hlt (g.fit y hy).1
   rw [(occ_iff _ _).2 ⟨y,hy,rfl⟩] at this
   cases this
  obtain ⟨z,hz,hzt⟩:=(occ_iff _ _).1 h3
  have ht:topS S=(t:Nat):=h1
  have hf:∃ x,nextO S=some x:=by
   cases e:nextO S with
   | some x=>exact ⟨x,rfl⟩
   | none =>
    have:=List.find?_eq_none.1 e z hz
    rw [ht,hzt] at this
    simp at this
  obtain ⟨x,hx⟩:=hf
  have hxs:=List.mem_of_find?_eq_some hx
  have hxp:x.p=t:=by
   have:=List.find?_some hx
   rw [ht] at this
   have h9:(x.p:Int)=(t:Int):=by simpa using this
   omega
  have hl:∃ L,lineN S x.p=x.n::L:=by
   unfold lineN
   have e2:nextO S=(S.filter fun y=>y.p == x.p).head?:=by
    unfold nextO
    rw [ht,hxp]
    rw [List.head?_filter]
    congr 1
    funext y
    rw [Bool.eq_iff_iff]
    simp
    omega
   rw [hx] at e2
   cases e3:S.filter fun y=>y.p == x.p with
   | nil=>rw [e3] at e2;cases e2
   | cons a L =>
    rw [e3] at e2
    cases e2
    exact ⟨L.map In.n,by simp⟩
  obtain ⟨L,hl⟩:=hl
  refine .inr ⟨x,L,hxs,by rw [ht,hxp],hx,by simp [nextN,hx],by simp [nextB,hx],by simp [turnS,hx],hl,fun y hy=>by rw [hxp];exact hle y hy⟩
theorem whF_add {S:St} {x:In} (h:∀ y∈S,y.n≠x.n) (n:Int):whF (S++[x]) n=if n=x.n then some (x.p:Int) else whF S n:=by
 unfold whF atO
 rw [List.find?_append]
 by_cases e:n=x.n
 ·subst e
  have:S.find? (fun y=>y.n == x.n)=none:=List.find?_eq_none.2 fun y hy=>by simpa using h y hy
  rw [this,if_pos rfl]
  simp
 ·have e2:¬ x.n=n:=fun q=>e q.symm
  rw [if_neg e]
  simp [e2]
theorem whF_take {S:St} (g:Good S) (m n:Int):whF (takeS S m) n=if n=m then none else whF S n:=by
 by_cases e:n=m
 ·rw [if_pos e]
  exact whF_no fun x hx=>by rw [e];exact (take_mem.1 hx).2
 ·rw [if_neg e]
  cases e2:whF S n with
  | none=>exact whF_no fun x hx=>whF_none e2 x (take_mem.1 hx).1
  | some v =>
   obtain ⟨x,h1,rfl,rfl⟩:=whF_some e2
   exact whF_of (good_take g m) (take_mem.2 ⟨h1,e⟩)
theorem takeS_len (S:St) (n:Int):(takeS S n).length<=S.length:=List.length_filter_le _ _
end Go.Proofs.YtilnjnblpeeigaaGreatDoor.Th
namespace Go.Proofs.YtilnjnblpeeigaaGreatDoor.Th
structure Td where
 st:Int
 p:Nat
 c:Nat
 l:Int
 g:List Int
def td0:Td:=⟨0,0,0,0,List.replicate 8 0⟩
structure Hs where
 L:List Td
 Q:List St
structure Okay (x:Td) (n:Nat):Prop where
 p:x.p<256
 c:x.c<n
 s:0<=x.st/\x.st<=3
 l:1<=x.l/\x.l<=5
 g:x.g.length=8
 w:∀ v∈x.g,0<=v/\v<=18446744073709551615
def thr (h:Hs) (i:Nat):Td:=h.L.getD i td0
def que (h:Hs) (c:Nat):St:=h.Q.getD c []
structure Inv (h:Hs):Prop where
 lo:1<=h.Q.length
 hi:h.Q.length<=8
 few:h.L.length<=64
 each:∀ x∈h.L,Okay x h.Q.length
 good:∀ S∈h.Q,Good S
 mem:∀ c,c<h.Q.length->∀ y:In,y∈que h c↔∃ (i:Nat) (x:Td),h.L[i]? = some x/\y=⟨x.p,(i:Int)⟩/\x.st=1/\x.c=c
 one:∀ (i j:Nat) (x y:Td),h.L[i]? = some x->h.L[j]? = some y->x.st=2->y.st=2->x.c=y.c->i=j
theorem thr_of {h:Hs} {i:Nat} {x:Td} (e:h.L[i]? = some x):thr h i=x:=by
 unfold thr
 rw [List.getD_eq_getElem?_getD,e]
 rfl
theorem thr_at {h:Hs} {i:Nat} (hi:i<h.L.length):h.L[i]? = some (thr h i):=by
 unfold thr
 rw [List.getD_eq_getElem?_getD,List.getElem?_eq_getElem hi]
 rfl
theorem que_mem {h:Hs} {c:Nat} (hc:c<h.Q.length):que h c∈h.Q:=by
 unfold que
 rw [List.getD_eq_getElem?_getD,List.getElem?_eq_getElem hc]
 exact List.getElem_mem hc
theorem Inv.okay {h:Hs} (v:Inv h) {i:Nat} {x:Td} (e:h.L[i]? = some x):Okay x h.Q.length:=v.each x (List.mem_of_getElem? e)
theorem Inv.queue {h:Hs} (v:Inv h) {c:Nat} (hc:c<h.Q.length):Good (que h c):=v.good _ (que_mem hc)
theorem Inv.nums {h:Hs} (v:Inv h) {c:Nat} (hc:c<h.Q.length) {i:Nat} {x:Td} (e:h.L[i]? = some x) {y:In} (hy:y∈que h c) (hn:y.n=(i:Int)):y=⟨x.p,(i:Int)⟩/\x.st=1/\x.c=c:=by
 obtain ⟨j,z,e1,rfl,e2,e3⟩:=(v.mem c hc y).1 hy
 have:j=i:=by
  simp only at hn
  omega
 subst this
 rw [e] at e1
 cases e1
 exact ⟨rfl,e2,e3⟩
def genQ (Q:List St) (c:Nat) (i:Nat) (x:Td):List St:=
 let Q1:=Q.set c (takeS (Q.getD c []) i)
 if x.st=1 then Q1.set x.c (Q1.getD x.c []++[⟨x.p,(i:Int)⟩]) else Q1
def genH (h:Hs) (i:Nat) (x:Td):Hs:=⟨h.L.set i x,genQ h.Q (thr h i).c i x⟩
theorem genQ_len (Q:List St) (c i:Nat) (x:Td):(genQ Q c i x).length=Q.length:=by
 unfold genQ
 split <;> simp
theorem getD_set {Q:List St} {a c:Nat} {S:St} (hc:c<Q.length):(Q.set a S).getD c []=if c=a then S else Q.getD c []:=by
 rw [List.getD_eq_getElem?_getD,List.getD_eq_getElem?_getD,List.getElem?_set]
 by_cases e:a=c
 ·subst e
  simp [hc]
 ·have e2:¬ c=a:=fun q=>e q.symm
  simp [e,e2]
theorem que_gen {h:Hs} (v:Inv h) {i:Nat} (hi:i<h.L.length) (x:Td) {c:Nat} (hc:c<h.Q.length) :
  que (genH h i x) c=takeS (que h c) i++(if x.st=1/\c=x.c then [⟨x.p,(i:Int)⟩] else []):=by
 have ei:=thr_at hi
 have h1:(h.Q.set (thr h i).c (takeS (h.Q.getD (thr h i).c []) i)).getD c []=takeS (que h c) i:=by
  rw [getD_set hc]
  by_cases e:c=(thr h i).c
  ·rw [if_pos e,e]
   rfl
  ·rw [if_neg e]
   show que h c=_
   refine (take_none ?_).symm
   cases hb:whB (que h c) i with
   | false=>rfl
   | true =>
    obtain ⟨y,hy,hn⟩:=whB_some hb
    exact absurd (v.nums hc ei hy hn).2.2.symm e
 unfold genH
 show (genQ h.Q (thr h i).c i x).getD c []=_
 unfold genQ
 by_cases hs:x.st=1
 ·simp only [hs,if_true,true_and]
  rw [getD_set (by simpa using hc)]
  by_cases e:c=x.c
  ·subst e
   rw [if_pos rfl,if_pos rfl,h1]
  ·rw [if_neg e,if_neg e,h1,List.append_nil]
 ·simp only [hs,if_false,false_and]
  rw [h1,List.append_nil]
theorem gen_at {h:Hs} {i:Nat} (hi:i<h.L.length) (x:Td) (j:Nat):(genH h i x).L[j]? = if j=i then some x else h.L[j]?:=by
 show (h.L.set i x)[j]? = _
 rw [List.getElem?_set]
 by_cases e:i=j
 ·subst e
  simp [hi]
 ·have e2:¬ j=i:=fun q=>e q.symm
  simp [e,e2]
theorem thr_gen {h:Hs} {i:Nat} (hi:i<h.L.length) (x:Td) (j:Nat):thr (genH h i x) j=if j=i then x else thr h j:=by
 unfold thr
 rw [List.getD_eq_getElem?_getD,List.getD_eq_getElem?_getD,gen_at hi]
 by_cases e:j=i
 ·simp [e]
 ·simp [e]
theorem inv_gen {h:Hs} (v:Inv h) {i:Nat} (hi:i<h.L.length) {x:Td} (ok:Okay x h.Q.length) (h2:x.st=2->∀ (j:Nat) (y:Td),j≠i->h.L[j]? = some y->y.st=2->y.c≠x.c):Inv (genH h i x):=by
 have hl:(genH h i x).Q.length=h.Q.length:=genQ_len _ _ _ _
 have hL:(genH h i x).L.length=h.L.length:=List.length_set
 refine ⟨by rw [hl];exact v.lo,by rw [hl];exact v.hi,by rw [hL];exact v.few,fun y hy=>?_,fun S hS=>?_,fun c hc y=>?_,fun a b y z ey ez sy sz ec=>?_⟩
 ·rw [hl]
  rcases List.mem_or_eq_of_mem_set hy with hy | rfl
  ·exact v.each y hy
  ·exact ok
 ·obtain ⟨c,hc,rfl⟩:=List.mem_iff_getElem.1 hS
  have e:(genH h i x).Q[c]=que (genH h i x) c:=by
   unfold que
   rw [List.getD_eq_getElem?_getD,List.getElem?_eq_getElem hc]
   rfl
  rw [hl] at hc
  rw [e,que_gen v hi x hc]
  split
  ·refine good_add (good_take (v.queue hc) i) ok.p ?_ fun y hy=>(take_mem.1 hy).2
   have:=v.few
   unfold I64
   simp only
   omega
  ·rw [List.append_nil]
   exact good_take (v.queue hc) i
 ·rw [hl] at hc
  rw [que_gen v hi x hc,List.mem_append,take_mem,v.mem c hc y]
  constructor
  ·rintro (⟨⟨j,z,e1,rfl,e2,e3⟩,hn⟩ | hy)
   ·have hj:j≠i:=fun e=>hn (by rw [e])
    exact ⟨j,z,by rw [gen_at hi,if_neg hj];exact e1,rfl,e2,e3⟩
   ·split at hy
    ·rename_i hx
     obtain rfl:=List.mem_singleton.1 hy
     exact ⟨i,x,by rw [gen_at hi,if_pos rfl],rfl,hx.1,hx.2.symm⟩
    ·simp at hy
  ·rintro ⟨j,z,e1,rfl,e2,e3⟩
   rw [gen_at hi] at e1
   by_cases hj:j=i
   ·rw [if_pos hj] at e1
    cases e1
    right
    rw [if_pos ⟨e2,e3.symm⟩,hj]
    simp
   ·rw [if_neg hj] at e1
    left
    refine ⟨⟨j,z,e1,rfl,e2,e3⟩,?_⟩
    simp only
    omega
 ·rw [gen_at hi] at ey ez
  by_cases ha:a=i <;> by_cases hb:b=i
  ·rw [ha,hb]
  ·rw [if_pos ha] at ey
   rw [if_neg hb] at ez
   cases ey
   exact absurd ec.symm (h2 sy b z hb ez sz)
  ·rw [if_neg ha] at ey
   rw [if_pos hb] at ez
   cases ez
   exact absurd ec (h2 sz a y ha ey sy)
  ·rw [if_neg ha] at ey
   rw [if_neg hb] at ez
   exact v.one a b y z ey ez sy sz ec
def setH (h:Hs) (i:Nat) (x:Td):Hs:=⟨h.L.set i x,h.Q⟩
theorem inv_set {h:Hs} (v:Inv h) {i:Nat} (hi:i<h.L.length) {x:Td} (ok:Okay x h.Q.length) (e1:x.st=(thr h i).st) (e2:x.p=(thr h i).p) (e3:x.c=(thr h i).c):Inv (setH h i x):=by
 have ei:=thr_at hi
 have hat:∀ j:Nat,(setH h i x).L[j]? = if j=i then some x else h.L[j]?:=fun j=>gen_at (h:=h) hi x j
 have hL:(setH h i x).L.length=h.L.length:=List.length_set
 refine ⟨v.lo,v.hi,by rw [hL];exact v.few,fun y hy=>?_,v.good,fun c hc y=>?_,fun a b y z ey ez sy sz ec=>?_⟩
 ·rcases List.mem_or_eq_of_mem_set hy with hy | rfl
  ·exact v.each y hy
  ·exact ok
 ·show y∈que h c↔_
  rw [v.mem c hc y]
  constructor
  ·rintro ⟨j,z,f1,rfl,f2,f3⟩
   by_cases hj:j=i
   ·subst hj
    rw [ei] at f1
    cases f1
    exact ⟨j,x,by rw [hat,if_pos rfl],by rw [e2],by rw [e1];exact f2,by rw [e3];exact f3⟩
   ·exact ⟨j,z,by rw [hat,if_neg hj];exact f1,rfl,f2,f3⟩
  ·rintro ⟨j,z,f1,rfl,f2,f3⟩
   rw [hat] at f1
   by_cases hj:j=i
   ·rw [if_pos hj] at f1
    cases f1
    subst hj
    exact ⟨j,thr h j,ei,by rw [e2],by rw [<- e1];exact f2,by rw [<- e3];exact f3⟩
   ·rw [if_neg hj] at f1
    exact ⟨j,z,f1,rfl,f2,f3⟩
 ·rw [hat] at ey ez
  have key:∀ (a:Nat) (y:Td),(if a=i then some x else h.L[a]?)=some y->y.st=2->∃ y',h.L[a]? = some y'/\y'.st=2/\y'.c=y.c:=by
   intro a y ey sy
   by_cases ha:a=i
   ·rw [if_pos ha] at ey
    cases ey
    subst ha
    exact ⟨thr h a,ei,by rw [<- e1];exact sy,e3.symm⟩
   ·rw [if_neg ha] at ey
    exact ⟨y,ey,sy,rfl⟩
  obtain ⟨y',f1,f2,f3⟩:=key a y ey sy
  obtain ⟨z',g1,g2,g3⟩:=key b z ez sz
  exact v.one a b y' z' f1 g1 f2 g2 (by rw [f3,g3];exact ec)
end Go.Proofs.YtilnjnblpeeigaaGreatDoor.Th
namespace Go.Proofs.YtilnjnblpeeigaaGreatDoor.Th
abbrev isT (h:Hs) (i:Int):Prop:=0<=i/\i<(h.L.length:Int)
abbrev isC (h:Hs) (c:Int):Prop:=0<=c/\c<(h.Q.length:Int)
def newH (n:Nat):Hs:=⟨[],List.replicate n []⟩
def makeE (h:Hs) (p c:Int):Int:=if (0<=p/\p<256)/\isC h c then (if 64<=h.L.length then 2 else 0) else 1
def makeN (h:Hs) (p c:Int):Int:=if makeE h p c=0 then (h.L.length:Int) else 0
def makeH (h:Hs) (p c:Int):Hs:=if makeE h p c=0 then ⟨h.L++[⟨0,p.toNat,c.toNat,5,List.replicate 8 0⟩],h.Q⟩ else h
def getE (h:Hs) (i:Int):Int:=if isT h i then 0 else 100
def getT (h:Hs) (i:Int):Td:=if isT h i then thr h i.toNat else td0
def regE (h:Hs) (i k:Int):Int:=if isT h i then (if 0<=k/\k<8 then 0 else 1) else 100
def regH (h:Hs) (i k v:Int):Hs:=if regE h i k=0 then setH h i.toNat { thr h i.toNat with g:=(thr h i.toNat).g.set k.toNat v } else h
def resumeE (h:Hs) (i:Int):Int:=if isT h i then (if (thr h i.toNat).st=1\/(thr h i.toNat).st=2 then 101 else 0) else 100
def resumeH (h:Hs) (i:Int):Hs:=if resumeE h i=0 then genH h i.toNat { thr h i.toNat with st:=1 } else h
def suspendE (h:Hs) (i:Int):Int:=if isT h i then (if (thr h i.toNat).st=0 then 101 else 0) else 100
def suspendH (h:Hs) (i:Int):Hs:=if suspendE h i=0 then genH h i.toNat { thr h i.toNat with st:=0 } else h
def blockE (h:Hs) (i:Int):Int:=if isT h i then (if (thr h i.toNat).st=2 then 0 else 101) else 100
def blockH (h:Hs) (i:Int):Hs:=if blockE h i=0 then genH h i.toNat { thr h i.toNat with st:=3 } else h
def prioE (h:Hs) (i p:Int):Int:=if isT h i then (if 0<=p/\p<256 then 0 else 1) else 100
def prioH (h:Hs) (i p:Int):Hs:=if prioE h i p=0 then genH h i.toNat { thr h i.toNat with p:=p.toNat } else h
def runsO (h:Hs) (c:Int):Option Nat:=h.L.findIdx? fun x=>x.st == 2 && (x.c:Int) == c
def runsN (h:Hs) (c:Int):Int:=((runsO h c).map fun i=>(i:Int)).getD 0
def runsB (h:Hs) (c:Int):Bool:=(runsO h c).isSome
def runH (h:Hs) (i:Nat):Hs:=genH h i { thr h i with st:=2 }
def upH (h:Hs) (i:Nat):Hs:=genH h i { thr h i with st:=1 }
def pickH (h:Hs) (c:Int):Hs:=
 if isC h c then
  match nextO (que h c.toNat) with
  | none=>h
  | some y=>match runsO h c with
   | none=>runH h y.n.toNat
   | some j=>if (thr h j).p<y.p then runH (upH h j) y.n.toNat else h
 else h
def yieldH (h:Hs) (c:Int):Hs:=match runsO h c with | none=>h | some i=>pickH (genH h i { thr h i with st:=1,l:=5 }) c
theorem runs_some {h:Hs} {c:Int} {i:Nat} (e:runsO h c=some i):∃ x,h.L[i]? = some x/\thr h i=x/\i<h.L.length/\x.st=2/\(x.c:Int)=c:=by
 obtain ⟨hi,hp,_⟩:=List.findIdx?_eq_some_iff_getElem.1 e
 have h1:=List.getElem?_eq_getElem hi
 refine ⟨h.L[i],h1,thr_of h1,hi,?_⟩
 simpa using hp
theorem runs_none {h:Hs} {c:Int} (e:runsO h c=none):∀ (i:Nat) (x:Td),h.L[i]? = some x->x.st=2->(x.c:Int)≠c:=by
 intro i x hx hs hc
 have:=List.findIdx?_eq_none_iff.1 e x (List.mem_of_getElem? hx)
 simp [hs,hc] at this
theorem runs_is {h:Hs} (v:Inv h) {c:Int} {i:Nat} {x:Td} (e:h.L[i]? = some x) (hs:x.st=2) (hc:(x.c:Int)=c):runsO h c=some i:=by
 cases e2:runsO h c with
 | none=>exact absurd hc (runs_none e2 i x e hs)
 | some j =>
  obtain ⟨y,h1,_,_,h2,h3⟩:=runs_some e2
  rw [v.one j i y x h1 e h2 hs (by omega)]
theorem isT_nat {h:Hs} {i:Int} (e:isT h i):i.toNat<h.L.length/\((i.toNat:Nat):Int)=i:=by
 unfold isT at e
 omega
theorem isC_nat {h:Hs} {c:Int} (e:isC h c):c.toNat<h.Q.length/\((c.toNat:Nat):Int)=c:=by
 unfold isC at e
 omega
theorem inv_new {n:Nat} (h1:1<=n) (h2:n<=8):Inv (newH n):=by
 have hq:(newH n).Q.length=n:=List.length_replicate
 refine ⟨by rw [hq];exact h1,by rw [hq];exact h2,by simp [newH],fun x hx=>by simp [newH] at hx,fun S hS=>?_,fun c hc y=>?_,fun i j x y e=>by simp [newH] at e⟩
 ·obtain rfl:=List.eq_of_mem_replicate hS
  exact good_nil
 ·rw [hq] at hc
  have:que (newH n) c=[]:=by
   unfold que newH
   rw [List.getD_eq_getElem?_getD,List.getElem?_replicate,if_pos hc]
   rfl
  rw [this]
  constructor
  ·intro h
   simp at h
  ·rintro ⟨i,x,e,_⟩
   simp [newH] at e
theorem okay_at {h:Hs} (v:Inv h) {i:Nat} (hi:i<h.L.length):Okay (thr h i) h.Q.length:=v.okay (thr_at hi)
theorem makeE_cases (h:Hs) (p c:Int):(makeE h p c=0/\0<=p/\p<256/\isC h c/\h.L.length<64)\/(makeE h p c=2/\0<=p/\p<256/\isC h c/\64<=h.L.length)\/(makeE h p c=1/\¬ ((0<=p/\p<256)/\isC h c)):=by
 unfold makeE
 by_cases h1:(0<=p/\p<256)/\isC h c
 ·by_cases h2:64<=h.L.length
  ·exact .inr (.inl ⟨by rw [if_pos h1,if_pos h2],h1.1.1,h1.1.2,h1.2,h2⟩)
  ·exact .inl ⟨by rw [if_pos h1,if_neg h2],h1.1.1,h1.1.2,h1.2,by omega⟩
 ·exact .inr (.inr (by simp [h1]))
theorem inv_make {h:Hs} (v:Inv h) (p c:Int):Inv (makeH h p c):=by
 unfold makeH
 rcases makeE_cases h p c with ⟨e,h0,h1,h2,h3⟩ | ⟨e,_⟩ | ⟨e,_⟩ <;> rw [e]
 ·rw [if_pos rfl]
  obtain ⟨c1,c2⟩:=isC_nat h2
  have at1:∀ (i:Nat) (x:Td),(h.L++[(⟨0,p.toNat,c.toNat,5,List.replicate 8 0⟩:Td)])[i]? = some x->(h.L[i]? = some x)\/x.st=0:=fun i x e=>by
   rw [List.getElem?_append] at e
   split at e
   ·exact .inl e
   ·have:=List.mem_of_getElem? e
    rw [List.mem_singleton] at this
    rw [this]
    exact .inr rfl
  have at2:∀ (i:Nat) (x:Td),h.L[i]? = some x->(h.L++[(⟨0,p.toNat,c.toNat,5,List.replicate 8 0⟩:Td)])[i]? = some x:=fun i x e=>by
   rw [List.getElem?_append_left (List.getElem?_eq_some_iff.1 e).1]
   exact e
  refine ⟨v.lo,v.hi,by rw [List.length_append,List.length_singleton];omega,fun x hx=>?_,v.good,fun d hd y=>?_,fun i j x y ei ej si sj ec=>?_⟩
  ·rcases List.mem_append.1 hx with hx | hx
   ·exact v.each x hx
   ·rw [List.mem_singleton.1 hx]
    exact ⟨by simp only;omega,c1,by simp,by simp,by simp,fun w hw=>by rw [List.eq_of_mem_replicate hw];omega⟩
  ·show y∈que h d↔_
   rw [v.mem d hd y]
   constructor
   ·rintro ⟨i,x,e1,r⟩
    exact ⟨i,x,at2 i x e1,r⟩
   ·rintro ⟨i,x,e1,e2,e3,e4⟩
    rcases at1 i x e1 with e5 | e5
    ·exact ⟨i,x,e5,e2,e3,e4⟩
    ·omega
  ·rcases at1 i x ei with f1 | f1 <;> rcases at1 j y ej with f2 | f2
   ·exact v.one i j x y f1 f2 si sj ec
   ·omega
   ·omega
   ·omega
 ·rw [if_neg (by omega)]
  exact v
 ·rw [if_neg (by omega)]
  exact v
theorem inv_reg {h:Hs} (v:Inv h) (i k x:Int) (hx:0<=x/\x<=18446744073709551615):Inv (regH h i k x):=by
 unfold regH
 split
 ·rename_i e
  have ht:isT h i:=by
   by_cases ht:isT h i
   ·exact ht
   ·simp [regE,ht] at e
  have ok:=okay_at v (isT_nat ht).1
  refine inv_set v (isT_nat ht).1 ⟨ok.p,ok.c,ok.s,ok.l,by rw [List.length_set];exact ok.g,fun w hw=>?_⟩ rfl rfl rfl
  rcases List.mem_or_eq_of_mem_set hw with hw | rfl
  ·exact ok.w w hw
  ·exact hx
 ·exact v
theorem inv_state {h:Hs} (v:Inv h) {i:Nat} (hi:i<h.L.length) {s:Int} (h0:0<=s) (h3:s<=3) (h2:s≠2):Inv (genH h i { thr h i with st:=s }):=by
 have ok:=okay_at v hi
 exact inv_gen v hi ⟨ok.p,ok.c,⟨h0,h3⟩,ok.l,ok.g,ok.w⟩ fun e=>absurd e h2
theorem inv_resume {h:Hs} (v:Inv h) (i:Int):Inv (resumeH h i):=by
 unfold resumeH
 split
 ·rename_i e
  by_cases ht:isT h i
  ·exact inv_state v (isT_nat ht).1 (by omega) (by omega) (by omega)
  ·simp [resumeE,ht] at e
 ·exact v
theorem inv_suspend {h:Hs} (v:Inv h) (i:Int):Inv (suspendH h i):=by
 unfold suspendH
 split
 ·rename_i e
  by_cases ht:isT h i
  ·exact inv_state v (isT_nat ht).1 (by omega) (by omega) (by omega)
  ·simp [suspendE,ht] at e
 ·exact v
theorem inv_block {h:Hs} (v:Inv h) (i:Int):Inv (blockH h i):=by
 unfold blockH
 split
 ·rename_i e
  by_cases ht:isT h i
  ·exact inv_state v (isT_nat ht).1 (by omega) (by omega) (by omega)
  ·simp [blockE,ht] at e
 ·exact v
theorem inv_prio {h:Hs} (v:Inv h) (i p:Int):Inv (prioH h i p):=by
 unfold prioH
 split
 ·rename_i e
  by_cases ht:isT h i
  ·have hp:0<=p/\p<256:=by
    by_cases hp:0<=p/\p<256
    ·exact hp
    ·rw [prioE,if_pos ht,if_neg hp] at e;omega
   have hi:=(isT_nat ht).1
   have ok:=okay_at v hi
   refine inv_gen v hi ⟨by simp only;omega,ok.c,ok.s,ok.l,ok.g,ok.w⟩ fun hs j y hj hy sy ec=>?_
   exact hj (v.one j i.toNat y (thr h i.toNat) hy (thr_at hi) sy hs ec)
  ·simp [prioE,ht] at e
 ·exact v
theorem next_thread {h:Hs} (v:Inv h) {c:Nat} (hc:c<h.Q.length) {y:In} (e:nextO (que h c)=some y) :
  ∃ i x,h.L[i]? = some x/\thr h i=x/\i<h.L.length/\y=⟨x.p,(i:Int)⟩/\y.n.toNat=i/\x.st=1/\x.c=c/\∀ (j:Nat) (z:Td),h.L[j]? = some z->z.st=1->z.c=c->z.p<=x.p:=by
 rcases next_cases (v.queue hc) with ⟨_,_,e1,_⟩ | ⟨y',L,hy,_,e1,_,_,_,_,hmax⟩
 ·rw [e] at e1
  cases e1
 ·rw [e] at e1
  cases e1
  obtain ⟨i,x,e2,rfl,e3,e4⟩:=(v.mem c hc y).1 hy
  refine ⟨i,x,e2,thr_of e2,(List.getElem?_eq_some_iff.1 e2).1,rfl,by simp,e3,e4,fun j z ez sz cz=>?_⟩
  have:=hmax ⟨z.p,(j:Int)⟩ ((v.mem c hc _).2 ⟨j,z,ez,rfl,sz,cz⟩)
  simpa using this
theorem inv_run {h:Hs} (v:Inv h) {i:Nat} (hi:i<h.L.length) (hn:∀ (j:Nat) (y:Td),h.L[j]? = some y->y.st=2->y.c≠(thr h i).c):Inv (runH h i):=by
 have ok:=okay_at v hi
 exact inv_gen v hi ⟨ok.p,ok.c,by simp,ok.l,ok.g,ok.w⟩ fun _ j y _ hy sy=>hn j y hy sy
theorem inv_pick {h:Hs} (v:Inv h) (c:Int):Inv (pickH h c):=by
 unfold pickH
 split
 ·rename_i hc
  obtain ⟨c1,c2⟩:=isC_nat hc
  split
  ·exact v
  ·rename_i y hy
   obtain ⟨i,x,e1,e2,hi,e3,e4,e5,e6,_⟩:=next_thread v c1 hy
   rw [e4]
   split
   ·rename_i hr
    refine inv_run v hi fun j z hz sz e=>runs_none hr j z hz sz ?_
    rw [e,e2,e6]
    exact c2
   ·rename_i j hr
    split
    ·obtain ⟨z,f1,f2,hj,f3,f4⟩:=runs_some hr
     have hij:i≠j:=fun e=>by
      subst e
      rw [e1] at f1
      cases f1
      omega
     have v1:Inv (upH h j):=inv_state v hj (by omega) (by omega) (by omega)
     have hi1:i<(upH h j).L.length:=by
      show i<(h.L.set j _).length
      rw [List.length_set]
      exact hi
     refine inv_run v1 hi1 fun k w hw sw e=>?_
     have ht:thr (upH h j) i=x:=by
      unfold upH
      rw [thr_gen hj,if_neg hij]
      exact e2
     rw [ht,e6] at e
     unfold upH at hw
     rw [gen_at hj] at hw
     by_cases hk:k=j
     ·rw [if_pos hk] at hw
      cases hw
      simp at sw
     ·rw [if_neg hk] at hw
      exact hk (v.one k j w z hw f1 sw f3 (by omega))
    ·exact v
 ·exact v
theorem inv_yield {h:Hs} (v:Inv h) (c:Int):Inv (yieldH h c):=by
 unfold yieldH
 split
 ·exact v
 ·rename_i i hr
  obtain ⟨x,_,_,hi,_⟩:=runs_some hr
  have ok:=okay_at v hi
  exact inv_pick (inv_gen v hi (x:={ thr h i with st:=1,l:=5 }) ⟨ok.p,ok.c,by simp,by simp,ok.g,ok.w⟩ fun e=>by cases e) c
end Go.Proofs.YtilnjnblpeeigaaGreatDoor.Th
namespace Go.Proofs.YtilnjnblpeeigaaGreatDoor.En
structure Ms where
 l:Int
 a:Int
 b:Int
 c:Int
 d:Int
 g:Int
 q:Bool
def ms0:Ms:=⟨0,0,0,0,0,0,false⟩
structure Wt where
 n:Int
 s:Bool
 m:Ms
structure Mt where
 i:Bool
 f:Int
 t:Int
 m:Ms
def mt0:Mt:=⟨false,0,0,ms0⟩
abbrev St:=List Wt
def isW (n:Int) (x:Wt):Bool:=decide (x.n=n)
def thB (S:St) (n:Int):Bool:=S.any (isW n)
def hasB (S:St) (s:Bool):Bool:=match S with
 | []=>false
 | x::_=>x.s == s
def outS (p:Wt->Bool) (S:St):St:=S.filter fun x => !p x
def outN (p:Wt->Bool) (S:St):List Int:=(S.filter p).map (·.n)
def sendE (S:St) (n:Int):Int:=if thB S n=true then 110 else 0
def sendM (S:St) (n:Int) (m:Ms):Mt:=if thB S n=true then mt0 else match S with
 | []=>mt0
 | x::_=>if x.s=true then mt0 else ⟨true,n,x.n,m⟩
def sendS (S:St) (n:Int) (m:Ms) (z:Bool):St:=if thB S n=true then S else if hasB S false=true then S.tail else if z=true then S++[⟨n,true,m⟩] else S
def recvM (S:St) (n:Int):Mt:=if thB S n=true then mt0 else match S with
 | []=>mt0
 | x::_=>if x.s=true then ⟨true,x.n,n,x.m⟩ else mt0
def recvS (S:St) (n:Int) (z:Bool):St:=if thB S n=true then S else if hasB S true=true then S.tail else if z=true then S++[⟨n,false,ms0⟩] else S
structure Good (S:St):Prop where
 one:S.Pairwise fun x y=>x.n≠y.n
 all:∀ x∈S,∀ y∈S,x.s=y.s
 zer:∀ x∈S,x.s=false->x.m=ms0
theorem good_nil:Good []:=⟨List.Pairwise.nil,fun x hx=>by simp at hx,fun x hx=>by simp at hx⟩
theorem good_sub {S T:St} (g:Good S) (h:T.Sublist S):Good T:=⟨g.one.sublist h,fun x hx y hy=>g.all x (h.subset hx) y (h.subset hy),fun x hx=>g.zer x (h.subset hx)⟩
theorem good_out {S:St} (g:Good S) (p:Wt->Bool):Good (outS p S):=good_sub g List.filter_sublist
theorem good_tail {S:St} (g:Good S):Good S.tail:=good_sub g (List.tail_sublist S)
theorem thB_false {S:St} {n:Int} (h:thB S n=false):∀ x∈S,x.n≠n:=by
 intro x hx e
 have:thB S n=true:=List.any_eq_true.2 ⟨x,hx,by simp [isW,e]⟩
 rw [this] at h
 cases h
theorem has_all {S:St} (g:Good S) {b:Bool} (h:hasB S b=false):∀ x∈S,x.s = !b:=by
 match S,g,h with
 | [],_,_=>intro x hx;simp at hx
 | y::S,g,h =>
  intro x hx
  have e:x.s=y.s:=g.all x hx y (by simp)
  have h':(y.s == b)=false:=h
  rw [e]
  cases hy:y.s <;> cases b <;> simp_all
theorem good_add {S:St} (g:Good S) (x:Wt) (hn:thB S x.n=false) (hs:hasB S (!x.s)=false) (hz:x.s=false->x.m=ms0):Good (S++[x]):=by
 have h1:=thB_false hn
 have h2:=has_all g hs
 refine ⟨List.pairwise_append.2 ⟨g.one,by simp,fun a ha b hb=>?_⟩,fun a ha b hb=>?_,fun a ha=>?_⟩
 ·obtain rfl:b=x:=by simpa using hb
  exact h1 a ha
 ·have k:∀ y∈S++[x],y.s=x.s:=fun y hy=>by
   rcases List.mem_append.1 hy with hy | hy
   ·have:=h2 y hy
    rw [Bool.not_not] at this
    exact this
   ·obtain rfl:y=x:=by simpa using hy
    rfl
  rw [k a ha,k b hb]
 ·rcases List.mem_append.1 ha with ha | ha
  ·exact g.zer a ha
  ·obtain rfl:a=x:=by simpa using ha
   exact hz
theorem good_send {S:St} (g:Good S) (n:Int) (m:Ms) (z:Bool):Good (sendS S n m z):=by
 unfold sendS
 cases h1:thB S n
 ·cases h2:hasB S false
  ·cases z
   ·simpa using g
   ·simpa using good_add g ⟨n,true,m⟩ h1 h2 (by simp)
  ·simpa using good_tail g
 ·simpa using g
theorem good_recv {S:St} (g:Good S) (n:Int) (z:Bool):Good (recvS S n z):=by
 unfold recvS
 cases h1:thB S n
 ·cases h2:hasB S true
  ·cases z
   ·simpa using g
   ·simpa using good_add g ⟨n,false,ms0⟩ h1 h2 (by simp)
  ·simpa using good_tail g
 ·simpa using g
theorem out_first {x:Wt} {S:St} (g:Good (x::S)):outS (isW x.n) (x::S)=S:=by
 have h:=(List.pairwise_cons.1 g.one).1
 unfold outS
 rw [List.filter_cons,if_neg (by simp [isW]),List.filter_eq_self]
 intro y hy
 have:=h y hy
 simp [isW]
 exact fun e=>this e.symm
theorem out_len (p:Wt->Bool) (S:St):(outS p S).length<=S.length:=List.length_filter_le _ _
theorem outN_len (p:Wt->Bool) (S:St):(outN p S).length<=S.length:=by
 unfold outN
 rw [List.length_map]
 exact List.length_filter_le _ _
theorem cancel_is (S:St) (n:Int):decide (0<(outN (isW n) S).length)=thB S n:=by
 unfold outN thB
 rw [List.length_map]
 cases h:S.any (isW n)
 ·have:S.filter (isW n)=[]:=by
   rw [List.filter_eq_nil_iff]
   intro x hx e
   have:S.any (isW n)=true:=List.any_eq_true.2 ⟨x,hx,e⟩
   rw [this] at h
   cases h
  simp [this]
 ·obtain ⟨x,hx,e⟩:=List.any_eq_true.1 h
  have:x∈S.filter (isW n):=List.mem_filter.2 ⟨hx,e⟩
  have:=List.length_pos_of_mem this
  simpa using this
end Go.Proofs.YtilnjnblpeeigaaGreatDoor.En
namespace Go.Proofs.YtilnjnblpeeigaaGreatDoor.No
def U64 (x:Int):Prop:=0<=x/\x<=18446744073709551615
def orI (a b:Int):Int:=bits .or .u64 a b
theorem or_nat {a b:Int} (ha:U64 a) (hb:U64 b):orI a b=((a.toNat ||| b.toNat:Nat):Int):=u64_or a b ha.1 (by have:=ha.2;omega) hb.1 (by have:=hb.2;omega)
theorem or_bd {a b:Int} (ha:U64 a) (hb:U64 b):U64 (orI a b):=by
 rw [or_nat ha hb]
 have h1:a.toNat<2 ^ 64:=by have:=ha.1;have:=ha.2;omega
 have h2:b.toNat<2 ^ 64:=by have:=hb.1;have:=hb.2;omega
 have:=Nat.or_lt_two_pow h1 h2
 exact ⟨by omega,by omega⟩
theorem u64_zero:U64 0:=⟨by omega,by omega⟩
structure Ns where
 b:Bool
 w:Int
 l:List Int
def ns0:Ns:=⟨false,0,[]⟩
def thB (S:Ns) (n:Int):Bool:=S.l.contains n
def outL (L:List Int) (n:Int):List Int:=L.filter (· != n)
def sigN (S:Ns):Int:=match S.l with
 | []=>0
 | x::_=>x
def sigW (S:Ns) (g:Int):Int:=match S.l with
 | []=>0
 | _::_=>g
def sigB (S:Ns):Bool:=match S.l with
 | []=>false
 | _::_=>true
def sigS (S:Ns) (g:Int):Ns:=match S.l with
 | []=>⟨true,orI S.w g,[]⟩
 | _::T=>⟨S.b,S.w,T⟩
def waitE (S:Ns) (n:Int):Int:=if thB S n=true then 120 else 0
def waitW (S:Ns) (n:Int):Int:=if thB S n=true then 0 else if S.b=true then S.w else 0
def waitB (S:Ns) (n:Int):Bool:=if thB S n=true then false else S.b
def waitS (S:Ns) (n:Int) (z:Bool):Ns:=if thB S n=true then S else if S.b=true then ⟨false,0,S.l⟩ else if z=true then ⟨S.b,S.w,S.l++[n]⟩ else S
def canS (S:Ns) (n:Int):Ns:=⟨S.b,S.w,outL S.l n⟩
structure Good (S:Ns):Prop where
 one:S.l.Nodup
 sig:S.b=true->S.l=[]
 zer:S.b=false->S.w=0
 bd:U64 S.w
theorem good_0:Good ns0:=⟨List.nodup_nil,fun _=>rfl,fun _=>rfl,u64_zero⟩
theorem good_sig {S:Ns} (h:Good S) {g:Int} (hg:U64 g):Good (sigS S g):=by
 obtain ⟨b,w,l⟩:=S
 cases l with
 | nil=>exact ⟨List.nodup_nil,fun _=>rfl,fun e=>(by cases e),or_bd h.bd hg⟩
 | cons x T=>exact ⟨(List.nodup_cons.1 h.one).2,fun e=>(by have:=h.sig e;cases this),h.zer,h.bd⟩
theorem thB_mem {S:Ns} {n:Int}:thB S n=true↔n∈S.l:=by simp [thB]
theorem good_wait {S:Ns} (h:Good S) (n:Int) (z:Bool):Good (waitS S n z):=by
 unfold waitS
 split
 ·exact h
 ·rename_i h1
  split
  ·exact ⟨h.one,fun e=>(by cases e),fun _=>rfl,u64_zero⟩
  ·rename_i h2
   split
   ·refine ⟨?_,fun e=>absurd e h2,h.zer,h.bd⟩
    rw [thB_mem] at h1
    refine List.nodup_append.2 ⟨h.one,by simp,fun a ha b hb=>?_⟩
    simp at hb
    subst hb
    exact fun e=>h1 (e ▸ ha)
   ·exact h
theorem good_can {S:Ns} (h:Good S) (n:Int):Good (canS S n):=
 ⟨h.one.sublist List.filter_sublist,fun e=>by
  have:S.l=[]:=h.sig e
  simp [canS,outL,this],h.zer,h.bd⟩
theorem out_less (L:List Int) (n:Int):decide ((outL L n).length<L.length)=L.contains n:=by
 unfold outL
 by_cases h:n∈L
 ·have h1:L.contains n=true:=by simpa using h
  rw [h1,decide_eq_true_eq]
  refine Nat.lt_of_le_of_ne (List.length_filter_le _ _) fun e=>?_
  have:=List.length_filter_eq_length_iff.1 e n h
  simp at this
 ·have h1:L.contains n=false:=by simpa using h
  rw [h1,decide_eq_false_iff_not,List.filter_eq_self.2]
  ·omega
  ·intro y hy
   have:y≠n:=fun e=>h (e ▸ hy)
   simpa using this
end Go.Proofs.YtilnjnblpeeigaaGreatDoor.No
