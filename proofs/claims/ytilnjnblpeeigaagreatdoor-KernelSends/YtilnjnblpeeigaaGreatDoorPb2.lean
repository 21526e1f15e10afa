/-
  What stands below: KpCa KpTr KpUn; no condition but what each says.
-/
import Derived.Laws.BitsAllLaws
import Derived.Laws.BitsLemmas
namespace Go.Proofs.YtilnjnblpeeigaaGreatDoor.Ca
def onesI (n:Int):Int:=2 ^ n.toNat - 1
theorem pow_le (n:Nat) (h:n<=64):2 ^ n<=18446744073709551616:=by
 have:=Nat.pow_le_pow_right (n:=2) (by omega) h
 simpa using this
theorem pow_pos (n:Nat):0<2 ^ n:=Nat.pow_pos (by omega)
theorem ones_cast (n:Nat):onesI (n:Int)=((2 ^ n - 1:Nat):Int):=by
 have:=pow_pos n
 unfold onesI
 simp only [Int.toNat_natCast]
 rw [Int.natCast_sub (by omega)]
 simp
theorem onesI_bd (n:Int) (h0:0<=n) (h1:n<=64):0<=onesI n/\onesI n<=18446744073709551615:=by
 obtain ⟨m,rfl⟩:=Int.eq_ofNat_of_zero_le h0
 rw [ones_cast]
 have:=pow_le m (by omega)
 omega
theorem ones_wrap (n:Int) (h0:0<=n) (h1:n<=64):IntKind.u64.wrap (IntKind.u64.wrap (2 ^ n.toNat) - 1)=onesI n:=by
 obtain ⟨m,rfl⟩:=Int.eq_ofNat_of_zero_le h0
 rw [ones_cast,IntKind.wrap_u64,IntKind.wrap_u64]
 have h:=pow_le m (by omega)
 have h2:=pow_pos m
 have e:(2:Int) ^ (m:Int).toNat=((2 ^ m:Nat):Int):=by simp
 rw [e]
 omega
theorem testBit_big (v i:Nat) (hv:v<18446744073709551616) (hi:64<=i):v.testBit i=false:=by
 apply Nat.testBit_lt_two_pow
 have:2 ^ 64<=2 ^ i:=Nat.pow_le_pow_right (by omega) hi
 omega
theorem not_bit (y i:Nat) (hy:y<18446744073709551616):(18446744073709551615 - y).testBit i=(decide (i<64) && !y.testBit i):=by
 have:=Nat.testBit_two_pow_sub_succ (x:=y) (n:=64) (by omega) i
 rw [<- this]
 congr 1
 omega
theorem and_not_low (v n:Nat) (hv:v<18446744073709551616) (h:n<=64):v &&& (18446744073709551615 - (2 ^ n - 1))=v / 2 ^ n*2 ^ n:=by
 apply Nat.eq_of_testBit_eq
 intro i
 have hp:=pow_pos n
 have hq:=pow_le n h
 rw [Nat.testBit_and,not_bit _ _ (by omega),Nat.testBit_two_pow_sub_one,Nat.testBit_mul_two_pow,Nat.testBit_div_two_pow]
 by_cases h1:i<n
 ·have h2:¬ n<=i:=by omega
  simp [h1,h2]
 ·have h2:n<=i:=by omega
  have h3:i - n+n=i:=by omega
  by_cases h4:i<64
  ·simp [h1,h2,h3,h4]
  ·simp [h2,h3,testBit_big v i hv (by omega)]
end Go.Proofs.YtilnjnblpeeigaaGreatDoor.Ca
namespace Go.Proofs.YtilnjnblpeeigaaGreatDoor.Ca
structure Cp where
 k:Int
 o:Int
 r:Int
 b:Int
 g:Int
 z:Int
def no:Cp:=⟨0,0,0,0,0,0⟩
structure Cp.Fits (c:Cp):Prop where
 k : -9223372036854775808<=c.k/\c.k<=9223372036854775807
 o : -9223372036854775808<=c.o/\c.o<=9223372036854775807
 r : -9223372036854775808<=c.r/\c.r<=9223372036854775807
 b:0<=c.b/\c.b<=18446744073709551615
 g:0<=c.g/\c.g<=18446744073709551615
 z : -9223372036854775808<=c.z/\c.z<=9223372036854775807
def Lim (k:Int):Prop:=k=4\/k=5\/k=6
def Bad (k:Int):Prop:=k=4\/k=5
def Fit (g z:Int):Prop:=0<=z/\z<=64/\g<=onesI z
def Fine (c:Cp):Prop:=c=no\/((0<c.k/\c.k<10)/\(0<=c.o/\c.o<=2147483647)/\(0<=c.r/\c.r<=7)/\(c.r=7\/Lim c.k)/\(c.b=0\/Bad c.k)/\((c.g=0/\c.z=0)\/c.k=2)/\Fit c.g c.z)
def MintR (c:Cp) (v:Int):Prop:=c.k=0\/(v≠0/\¬ (Bad c.k/\c.b=0))
def wordC (c:Cp):Int:=c.k+16*c.r+128*c.z+65536*c.o
def restC (c:Cp):Int:=if c.k=2 then c.g else c.b
def readC (x y:Int):Cp:=⟨x % 16,x / 65536 % 2147483648,x / 16 % 8,if x % 16=2 then 0 else y,if x % 16=2 then y else 0,x / 128 % 128⟩
def Whose (x y:Int):Prop:=Fine (readC x y)/\wordC (readC x y)=x/\restC (readC x y)=y
abbrev decCp:DecidableEq Cp:=fun a b =>
 if h:a.k=b.k/\a.o=b.o/\a.r=b.r/\a.b=b.b/\a.g=b.g/\a.z=b.z then .isTrue (by obtain ⟨h1,h2,h3,h4,h5,h6⟩:=h;cases a;cases b;simp only at h1 h2 h3 h4 h5 h6;subst h1 h2 h3 h4 h5 h6;rfl) else .isFalse fun e=>h (by rw [e];exact ⟨rfl,rfl,rfl,rfl,rfl,rfl⟩)
abbrev decLim (k:Int):Decidable (Lim k):=by unfold Lim;exact inferInstance
abbrev decBad (k:Int):Decidable (Bad k):=by unfold Bad;exact inferInstance
abbrev decFit (g z:Int):Decidable (Fit g z):=by unfold Fit;exact inferInstance
abbrev decFine (c:Cp):Decidable (Fine c):=by
 unfold Fine
 have h1:=decCp c no
 have h2:=decLim c.k
 have h3:=decBad c.k
 have h4:=decFit c.g c.z
 exact inferInstance
abbrev decMint (c:Cp) (v:Int):Decidable (MintR c v):=by
 unfold MintR
 have h3:=decBad c.k
 exact inferInstance
set_option linter.unusedSectionVars false
variable [dCp:DecidableEq Cp] [dLim:∀ k,Decidable (Lim k)] [dBad:∀ k,Decidable (Bad k)] [dFit:∀ g z,Decidable (Fit g z)] [dFine:∀ c,Decidable (Fine c)] [dMint:∀ c v,Decidable (MintR c v)] [dWho:∀ x y,Decidable (Whose x y)]
def checkE (c:Cp):Int:=if Fine c then 0 else 40
theorem Fine.of_ne {c:Cp} (h:Fine c) (hk:c.k≠0):(0<c.k/\c.k<10)/\(0<=c.o/\c.o<=2147483647)/\(0<=c.r/\c.r<=7)/\(c.r=7\/Lim c.k)/\(c.b=0\/Bad c.k)/\((c.g=0/\c.z=0)\/c.k=2)/\Fit c.g c.z:=by
 rcases h with h | h
 ·subst h;exact absurd rfl hk
 ·exact h
theorem Fine.of_zero {c:Cp} (h:Fine c) (hk:c.k=0):c=no:=by
 rcases h with h | h
 ·exact h
 ·omega
def sameB (a b:Cp):Bool:=decide (a.k≠0/\a.k=b.k/\a.o=b.o)
def mintC (c:Cp) (n v:Int):Cp:={ c with r:=if Lim c.k then bits .and .i64 c.r n else c.r,b:=if v=0 then c.b else v }
def mintE (c:Cp) (n v:Int):Int:=if Fine c then if 0<=n/\n<=7 then if MintR c v then 41 else 0 else 1 else 40
def mintR (c:Cp) (n v:Int):Cp:=if mintE c n v=0 then mintC c n v else no
theorem fit_bits (g z:Int) (g0:0<=g) (g1:g<=18446744073709551615) (z0:0<=z) (z1:z<=64) :
  bits .andNot .u64 g (onesI z)=0↔g<=onesI z:=by
 obtain ⟨G,rfl⟩:=Int.eq_ofNat_of_zero_le g0
 obtain ⟨Z,rfl⟩:=Int.eq_ofNat_of_zero_le z0
 rw [ones_cast]
 have hp:=pow_pos Z
 have hq:=pow_le Z (by omega)
 rw [u64_andNot_nat _ _ (by omega) (by omega),and_not_low _ _ (by omega) (by omega)]
 have h1:G / 2 ^ Z*2 ^ Z=0↔G<2 ^ Z:=by
  rw [Nat.mul_eq_zero,Nat.div_eq_zero_iff]
  omega
 omega
theorem bits8:∀ x:Fin 8,∀ y:Fin 8,∀ z:Fin 8,
  (0<=bits .and .i64 (x.val:Int) y.val/\bits .and .i64 (x.val:Int) y.val<=7)/\bits .andNot .i64 (bits .and .i64 (x.val:Int) y.val) x.val=0 /\
  bits .and .i64 (bits .and .i64 (x.val:Int) y.val) z.val=bits .and .i64 (x.val:Int) (bits .and .i64 (y.val:Int) z.val) /\
  (bits .andNot .i64 (y.val:Int) x.val=0->bits .andNot .i64 (x.val:Int) y.val=0->x=y) /\
  (bits .andNot .i64 (y.val:Int) x.val=0->bits .andNot .i64 (z.val:Int) y.val=0->bits .andNot .i64 (z.val:Int) x.val=0) /\
  bits .andNot .i64 (x.val:Int) x.val=0:=by decide +kernel
theorem to_fin (x:Int) (h:0<=x/\x<=7):∃ a:Fin 8,x=(a.val:Int):=⟨⟨x.toNat,by omega⟩,by simp;omega⟩
theorem and_le {x y:Int} (hx:0<=x/\x<=7) (hy:0<=y/\y<=7):0<=bits .and .i64 x y/\bits .and .i64 x y<=7:=by
 obtain ⟨a,rfl⟩:=to_fin x hx
 obtain ⟨b,rfl⟩:=to_fin y hy
 exact (bits8 a b 0).1
end Go.Proofs.YtilnjnblpeeigaaGreatDoor.Ca
namespace Go.Proofs.YtilnjnblpeeigaaGreatDoor.Ca
set_option linter.unusedSectionVars false
variable [dCp:DecidableEq Cp] [dLim:∀ k,Decidable (Lim k)] [dBad:∀ k,Decidable (Bad k)] [dFit:∀ g z,Decidable (Fit g z)] [dFine:∀ c,Decidable (Fine c)] [dMint:∀ c v,Decidable (MintR c v)] [dWho:∀ x y,Decidable (Whose x y)]
theorem mint_fine {c:Cp} {n v:Int} (h:Fine c) (hk:c.k≠0) (hn:0<=n/\n<=7) (hv:v=0\/Bad c.k:=by exact .inl rfl):Fine (mintC c n v):=by
 obtain ⟨h1,h2,h3,h4,h5,h6,h7⟩:=h.of_ne hk
 refine .inr ⟨h1,h2,?_,?_,?_,h6,h7⟩
 ·show 0<=(if Lim c.k then bits .and .i64 c.r n else c.r)/\(if Lim c.k then bits .and .i64 c.r n else c.r)<=7
  split
  ·exact and_le h3 hn
  ·exact h3
 ·show (if Lim c.k then bits .and .i64 c.r n else c.r)=7\/Lim c.k
  by_cases hL:Lim c.k
  ·exact .inr hL
  ·rw [if_neg hL]
   exact .inl (h4.resolve_right hL)
 ·show (if v=0 then c.b else v)=0\/Bad c.k
  rcases hv with rfl | hv
  ·rw [if_pos rfl];exact h5
  ·exact .inr hv
theorem mint_fits {c:Cp} {n v:Int} (h:c.Fits) (hr:0<=c.r/\c.r<=7) (hn:0<=n/\n<=7) (hv:0<=v/\v<=18446744073709551615):(mintC c n v).Fits:=by
 refine ⟨h.k,h.o,?_,?_,h.g,h.z⟩
 ·show -9223372036854775808<=(if Lim c.k then bits .and .i64 c.r n else c.r)/\(if Lim c.k then bits .and .i64 c.r n else c.r)<=9223372036854775807
  split
  ·have:=and_le hr hn;omega
  ·exact h.r
 ·show 0<=(if v=0 then c.b else v)/\(if v=0 then c.b else v)<=18446744073709551615
  split
  ·exact h.b
  ·exact hv
end Go.Proofs.YtilnjnblpeeigaaGreatDoor.Ca
namespace Go.Proofs.YtilnjnblpeeigaaGreatDoor.Tr
structure Sl where
 n:Int
 i:Int
set_option linter.unusedSectionVars false
variable [DecidableEq Sl]
structure En where
 s:Sl
 d:Int
abbrev St:=List En
def no:Sl:=⟨0,0⟩
def atE (S:St) (i:Nat):En:=S.getD i ⟨no,0⟩
def dep (S:St) (i:Nat):Int:=(atE S i).d
def slt (S:St) (i:Nat):Sl:=(atE S i).s
def isP (s:Sl) (e:En):Bool:=decide (e.s=s)
def pl (S:St) (s:Sl):Nat:=S.findIdx (isP s)
def hasB (S:St) (s:Sl):Bool:=decide (pl S s<S.length)
def isE (d:Int) (e:En):Bool:=decide (e.d<=d)
def endN (S:St) (i:Nat):Nat:=i+1+(S.drop (i+1)).findIdx (isE (dep S i))
def underN (S:St) (i:Nat):St:=(S.drop (i+1)).take ((S.drop (i+1)).findIdx (isE (dep S i)))
def allS (S:St):List Sl:=S.map En.s
def underS (S:St) (s:Sl):List Sl:=if hasB S s then allS (underN S (pl S s)) else []
def rootE (S:St) (s:Sl):Int:=if hasB S s then 70 else 0
def rootS (S:St) (s:Sl):St:=if hasB S s then S else S++[⟨s,0⟩]
def putN (S:St) (i:Nat) (e:En):St:=S.take i++e::S.drop i
def addE (S:St) (p s:Sl):Int:=if hasB S p then if hasB S s then 70 else 0 else 71
def addS (S:St) (p s:Sl):St:=if hasB S p/\¬ hasB S s then putN S (pl S p+1) ⟨s,dep S (pl S p)+1⟩ else S
def less (e:En):En:=⟨e.s,e.d - 1⟩
def lessN (S:St) (i k:Nat):St:=S.take (i+1)++((S.drop (i+1)).take k).map less++S.drop (i+1+k)
def takeN (S:St) (i:Nat):St:=(lessN S i (underN S i).length).eraseIdx i
def takeE (S:St) (s:Sl):Int:=if hasB S s then 0 else 71
def takeS (S:St) (s:Sl):St:=if hasB S s then takeN S (pl S s) else S
def moveE (S:St) (a b:Sl):Int:=if hasB S a then if hasB S b then 70 else 0 else 71
def moveS (S:St) (a b:Sl):St:=if hasB S a/\¬ hasB S b then S.set (pl S a) ⟨b,dep S (pl S a)⟩ else S
theorem atE_some {S:St} {i:Nat} (h:i<S.length):S[i]? = some (atE S i):=by
 unfold atE
 rw [List.getD_eq_getElem?_getD,List.getElem?_eq_getElem h]
 rfl
theorem atE_of {S:St} {i:Nat} {e:En} (h:S[i]? = some e):atE S i=e:=by
 unfold atE
 rw [List.getD_eq_getElem?_getD,h]
 rfl
theorem st_ext {S T:St} (hl:S.length=T.length) (h:∀ i,i<S.length->atE S i=atE T i):S=T:=by
 apply List.ext_getElem? fun i=>?_
 by_cases hi:i<S.length
 ·rw [atE_some hi,atE_some (by omega),h i hi]
 ·rw [List.getElem?_eq_none (by omega),List.getElem?_eq_none (by omega)]
theorem hasB_iff (S:St) (s:Sl):hasB S s=true↔∃ i,i<S.length/\slt S i=s:=by
 unfold hasB pl
 rw [decide_eq_true_eq,List.findIdx_lt_length]
 constructor
 ·rintro ⟨e,he,hp⟩
  obtain ⟨i,hi,h⟩:=List.mem_iff_getElem.1 he
  refine ⟨i,hi,?_⟩
  have:atE S i=e:=atE_of (by rw [List.getElem?_eq_getElem hi,h])
  unfold slt
  rw [this]
  simpa [isP] using hp
 ·rintro ⟨i,hi,h⟩
  exact ⟨atE S i,List.mem_of_getElem? (atE_some hi),decide_eq_true h⟩
theorem mem_all (S:St) (s:Sl):s∈allS S↔hasB S s=true:=by
 rw [hasB_iff]
 unfold allS
 rw [List.mem_map]
 constructor
 ·rintro ⟨e,he,rfl⟩
  obtain ⟨i,hi,h⟩:=List.mem_iff_getElem.1 he
  exact ⟨i,hi,by unfold slt;rw [atE_of (by rw [List.getElem?_eq_getElem hi,h])]⟩
 ·rintro ⟨i,hi,h⟩
  exact ⟨atE S i,List.mem_of_getElem? (atE_some hi),h⟩
theorem pl_slt {S:St} {s:Sl} (h:hasB S s=true):pl S s<S.length/\slt S (pl S s)=s:=by
 have hl:pl S s<S.length:=by simpa [hasB] using h
 refine ⟨hl,?_⟩
 have:=List.findIdx_getElem (xs:=S) (p:=isP s) (w:=hl)
 have e:atE S (pl S s)=S[pl S s]:=atE_of (List.getElem?_eq_getElem hl)
 unfold slt
 rw [e]
 exact of_decide_eq_true this
structure Good (S:St):Prop where
 one:∀ i j,i<S.length->j<S.length->slt S i=slt S j->i=j
 pos:∀ i,i<S.length->0<=dep S i
 first:0<S.length->dep S 0=0
 next:∀ i,i+1<S.length->dep S (i+1)<=dep S i+1
theorem Good.le {S:St} (h:Good S):∀ i,i<S.length->dep S i<=i
 | 0,hi=>by rw [h.first hi];exact Int.le_refl _
 | i+1,hi=>by
  have:=h.le i (by omega)
  have:=h.next i hi
  omega
theorem good_nil:Good []:=⟨fun i j hi=>by simp at hi,fun i hi=>by simp at hi,fun hi=>by simp at hi,fun i hi=>by simp at hi⟩
theorem endN_le {S:St} {i:Nat} (hi:i<S.length):endN S i<=S.length/\i<endN S i:=by
 unfold endN
 have:(S.drop (i+1)).findIdx (isE (dep S i))<=(S.drop (i+1)).length:=List.findIdx_le_length
 simp only [List.length_drop] at this
 omega
theorem atE_drop (S:St) (a j:Nat):atE (S.drop a) j=atE S (a+j):=by
 unfold atE
 rw [List.getD_eq_getElem?_getD,List.getD_eq_getElem?_getD,List.getElem?_drop]
theorem endN_in {S:St} {i m:Nat} (_hi:i<S.length) (h1:i<m) (h2:m<endN S i):dep S i<dep S m:=by
 unfold endN at h2
 have h3:m - (i+1)<(S.drop (i+1)).findIdx (isE (dep S i)):=by omega
 have:=List.not_of_lt_findIdx h3
 have hl:m - (i+1)<(S.drop (i+1)).length:=Nat.lt_of_lt_of_le h3 List.findIdx_le_length
 have e:atE (S.drop (i+1)) (m - (i+1))=(S.drop (i+1))[m - (i+1)]:=atE_of (List.getElem?_eq_getElem hl)
 rw [<- e,atE_drop,show i+1+(m - (i+1))=m by omega] at this
 have h4:¬ (dep S m<=dep S i):=of_decide_eq_false this
 omega
theorem endN_at {S:St} {i:Nat} (_hi:i<S.length) (h:endN S i<S.length):dep S (endN S i)<=dep S i:=by
 have hl:(S.drop (i+1)).findIdx (isE (dep S i))<(S.drop (i+1)).length:=by
  unfold endN at h
  rw [List.length_drop]
  omega
 have:=List.findIdx_getElem (xs:=S.drop (i+1)) (p:=isE (dep S i)) (w:=hl)
 have e:atE (S.drop (i+1)) ((S.drop (i+1)).findIdx (isE (dep S i)))=(S.drop (i+1))[(S.drop (i+1)).findIdx (isE (dep S i))]:=atE_of (List.getElem?_eq_getElem hl)
 rw [<- e,atE_drop] at this
 exact of_decide_eq_true this
theorem underN_len {S:St} {i:Nat} (_hi:i<S.length):(underN S i).length=endN S i - (i+1):=by
 unfold underN endN
 have:(S.drop (i+1)).findIdx (isE (dep S i))<=(S.drop (i+1)).length:=List.findIdx_le_length
 rw [List.length_take]
 omega
theorem underN_eq (S:St) (i:Nat):underN S i=(S.drop (i+1)).take (endN S i - (i+1)):=by
 unfold underN endN
 rw [show i+1+(S.drop (i+1)).findIdx (isE (dep S i)) - (i+1)=(S.drop (i+1)).findIdx (isE (dep S i)) by omega]
theorem atE_take {S:St} {n j:Nat} (h:j<n):atE (S.take n) j=atE S j:=by
 unfold atE
 rw [List.getD_eq_getElem?_getD,List.getD_eq_getElem?_getD,List.getElem?_take,if_pos h]
end Go.Proofs.YtilnjnblpeeigaaGreatDoor.Tr
namespace Go.Proofs.YtilnjnblpeeigaaGreatDoor.Tr
set_option linter.unusedSectionVars false
variable [DecidableEq Sl]
theorem atE_append (S T:St) (j:Nat):atE (S++T) j=if j<S.length then atE S j else atE T (j - S.length):=by
 unfold atE
 simp only [List.getD_eq_getElem?_getD,List.getElem?_append]
 split <;> rfl
theorem atE_cons (e:En) (S:St) (j:Nat):atE (e::S) j=if j=0 then e else atE S (j - 1):=by
 unfold atE
 cases j with
 | zero=>simp
 | succ j=>simp
theorem atE_map (S:St) (j:Nat) (h:j<S.length):atE (S.map less) j=less (atE S j):=by
 apply atE_of
 rw [List.getElem?_map,atE_some h]
 rfl
theorem atE_erase (S:St) (i j:Nat):atE (S.eraseIdx i) j=if j<i then atE S j else atE S (j+1):=by
 unfold atE
 rw [List.getD_eq_getElem?_getD,List.getElem?_eraseIdx]
 split <;> simp [List.getD_eq_getElem?_getD]
theorem atE_set (S:St) (i j:Nat) (e:En):atE (S.set i e) j=if i=j/\i<S.length then e else atE S j:=by
 unfold atE
 rw [List.getD_eq_getElem?_getD,List.getElem?_set]
 by_cases h:i=j
 ·subst h
  by_cases hl:i<S.length
  ·simp [hl]
  ·simp [hl]
 ·simp [h,List.getD_eq_getElem?_getD]
theorem putN_len (S:St) (i:Nat) (e:En):(putN S i e).length=S.length+1:=by
 unfold putN
 simp
 omega
theorem atE_putN {S:St} {i:Nat} (hi:i<=S.length) (e:En) (j:Nat):atE (putN S i e) j=if j<i then atE S j else if j=i then e else atE S (j - 1):=by
 unfold putN
 have hl:(S.take i).length=i:=by simp;omega
 rw [atE_append,hl,atE_cons]
 split
 ·rename_i h
  exact atE_take h
 ·split
  ·rw [if_pos (by omega)]
  ·rw [if_neg (by omega),atE_drop]
   congr 1
   omega
theorem hasB_false {S:St} {s:Sl} (h:hasB S s=false) {j:Nat} (hj:j<S.length):slt S j≠s:=fun e=>by
 have:=(hasB_iff S s).2 ⟨j,hj,e⟩
 rw [h] at this
 cases this
theorem Good.put {S:St} (g:Good S) {s:Sl} (h:hasB S s=false) {i:Nat} (hi:i<S.length):Good (putN S (i+1) ⟨s,dep S i+1⟩):=by
 have at':=atE_putN (S:=S) (i:=i+1) (by omega) ⟨s,dep S i+1⟩
 have hl:=putN_len S (i+1) ⟨s,dep S i+1⟩
 generalize putN S (i+1) ⟨s,dep S i+1⟩=T at *
 have hd:∀ j,dep T j=if j<i+1 then dep S j else if j=i+1 then dep S i+1 else dep S (j - 1):=fun j=>by
  unfold dep
  rw [at']
  split
  ·rfl
  ·split <;> rfl
 have hs:∀ j,slt T j=if j<i+1 then slt S j else if j=i+1 then s else slt S (j - 1):=fun j=>by
  unfold slt
  rw [at']
  split
  ·rfl
  ·split <;> rfl
 refine ⟨fun a b ha hb e=>?_,fun a ha=>?_,fun ha=>?_,fun a ha=>?_⟩
 ·rw [hs,hs] at e
  by_cases a1:a<i+1
  ·rw [if_pos a1] at e
   by_cases b1:b<i+1
   ·rw [if_pos b1] at e
    exact g.one a b (by omega) (by omega) e
   ·rw [if_neg b1] at e
    by_cases b2:b=i+1
    ·rw [if_pos b2] at e
     exact absurd e (hasB_false h (by omega))
    ·rw [if_neg b2] at e
     have:=g.one a (b - 1) (by omega) (by omega) e
     omega
  ·rw [if_neg a1] at e
   by_cases a2:a=i+1
   ·rw [if_pos a2] at e
    by_cases b1:b<i+1
    ·rw [if_pos b1] at e
     exact absurd e.symm (hasB_false h (by omega))
    ·rw [if_neg b1] at e
     by_cases b2:b=i+1
     ·omega
     ·rw [if_neg b2] at e
      exact absurd e.symm (hasB_false h (by omega))
   ·rw [if_neg a2] at e
    by_cases b1:b<i+1
    ·rw [if_pos b1] at e
     have:=g.one (a - 1) b (by omega) (by omega) e
     omega
    ·rw [if_neg b1] at e
     by_cases b2:b=i+1
     ·rw [if_pos b2] at e
      exact absurd e (hasB_false h (by omega))
     ·rw [if_neg b2] at e
      have:=g.one (a - 1) (b - 1) (by omega) (by omega) e
      omega
 ·rw [hd]
  split
  ·exact g.pos a (by omega)
  ·split
   ·have:=g.pos i hi;omega
   ·exact g.pos (a - 1) (by omega)
 ·rw [hd,if_pos (by omega)]
  exact g.first (by omega)
 ·rw [hd,hd]
  by_cases a1:a+1<i+1
  ·rw [if_pos a1,if_pos (by omega)]
   exact g.next a (by omega)
  ·rw [if_neg a1]
   by_cases a2:a+1=i+1
   ·have:a=i:=by omega
    rw [if_pos a2,if_pos (by omega),this]
    exact Int.le_refl _
   ·rw [if_neg a2,if_neg (by omega)]
    by_cases a3:a=i+1
    ·have e1:a+1 - 1=i+1:=by omega
     rw [if_pos a3,e1]
     have:=g.next i (by omega)
     omega
    ·rw [if_neg a3]
     have:=g.next (a - 1) (by omega)
     rw [show a - 1+1=a by omega] at this
     exact this
theorem Good.root {S:St} (g:Good S) {s:Sl} (h:hasB S s=false):Good (S++[⟨s,0⟩]):=by
 have hl:(S++[(⟨s,0⟩:En)]).length=S.length+1:=by simp
 have at':=atE_append S [⟨s,0⟩]
 generalize S++[(⟨s,0⟩:En)]=T at *
 have hd:∀ j,j<T.length->dep T j=if j<S.length then dep S j else 0:=fun j hj=>by
  unfold dep
  rw [at',atE_cons]
  split
  ·rfl
  ·rw [if_pos (by omega)]
 have hs:∀ j,j<T.length->slt T j=if j<S.length then slt S j else s:=fun j hj=>by
  unfold slt
  rw [at',atE_cons]
  split
  ·rfl
  ·rw [if_pos (by omega)]
 refine ⟨fun a b ha hb e=>?_,fun a ha=>?_,fun ha=>?_,fun a ha=>?_⟩
 ·rw [hs a ha,hs b hb] at e
  by_cases a1:a<S.length
  ·rw [if_pos a1] at e
   by_cases b1:b<S.length
   ·rw [if_pos b1] at e
    exact g.one a b a1 b1 e
   ·rw [if_neg b1] at e
    exact absurd e (hasB_false h a1)
  ·rw [if_neg a1] at e
   by_cases b1:b<S.length
   ·rw [if_pos b1] at e
    exact absurd e.symm (hasB_false h b1)
   ·omega
 ·rw [hd a ha]
  split
  ·rename_i h1
   exact g.pos a h1
  ·exact Int.le_refl _
 ·rw [hd 0 ha]
  split
  ·rename_i h1
   exact g.first h1
  ·rfl
 ·rw [hd _ ha,hd _ (by omega)]
  rw [if_pos (show a<S.length by omega)]
  split
  ·rename_i h1
   exact g.next a h1
  ·have:=g.pos a (by omega)
   omega
theorem lessN_len {S:St} {i k:Nat} (h:i+1+k<=S.length):(lessN S i k).length=S.length:=by
 unfold lessN
 simp
 omega
theorem atE_lessN {S:St} {i k:Nat} (h:i+1+k<=S.length) {j:Nat} (hj:j<S.length):atE (lessN S i k) j=if i<j/\j<i+1+k then less (atE S j) else atE S j:=by
 unfold lessN
 have h1:(S.take (i+1)).length=i+1:=by simp;omega
 have h2:(((S.drop (i+1)).take k).map less).length=k:=by simp;omega
 rw [atE_append,atE_append,List.length_append,h1,h2]
 by_cases c1:j<i+1
 ·rw [if_pos (by omega),if_pos c1,if_neg (by omega),atE_take c1]
 ·by_cases c2:j<i+1+k
  ·have h3:((S.drop (i+1)).take k).length=k:=by simp;omega
   rw [if_pos c2,if_neg c1,if_pos (by omega),atE_map _ _ (by omega),atE_take (by omega),atE_drop]
   congr 2
   omega
  ·rw [if_neg c2,if_neg (by omega),atE_drop]
   congr 1
   omega
theorem takeN_len {S:St} {i:Nat} (hi:i<S.length):(takeN S i).length=S.length - 1:=by
 have:=endN_le hi
 unfold takeN
 rw [List.length_eraseIdx,lessN_len (by rw [underN_len hi];omega),if_pos hi]
theorem atE_takeN {S:St} {i:Nat} (hi:i<S.length) {j:Nat} (hj:j<S.length - 1):atE (takeN S i) j=if j<i then atE S j else if j+1<endN S i then less (atE S (j+1)) else atE S (j+1):=by
 have:=endN_le hi
 have hu:=underN_len hi
 unfold takeN
 rw [atE_erase]
 split
 ·rw [atE_lessN (by omega) (by omega),if_neg (by omega)]
 ·rw [atE_lessN (by omega) (by omega),hu]
  split
  ·rw [if_pos (by omega)]
  ·rw [if_neg (by omega)]
section
variable {S:St} {i:Nat}
theorem dep_takeN (hi:i<S.length) {j:Nat} (hj:j<S.length - 1):dep (takeN S i) j=if j<i then dep S j else if j+1<endN S i then dep S (j+1) - 1 else dep S (j+1):=by
 unfold dep
 rw [atE_takeN hi hj]
 split
 ·rfl
 ·split <;> rfl
theorem slt_takeN (hi:i<S.length) {j:Nat} (hj:j<S.length - 1):slt (takeN S i) j=if j<i then slt S j else slt S (j+1):=by
 unfold slt
 rw [atE_takeN hi hj]
 split
 ·rfl
 ·split <;> rfl
theorem Good.took (g:Good S) (hi:i<S.length):Good (takeN S i):=by
 have hl:=takeN_len hi
 have he:=endN_le hi
 have hd:=fun j hj=>dep_takeN (S:=S) (i:=i) hi (j:=j) hj
 have hs:=fun j hj=>slt_takeN (S:=S) (i:=i) hi (j:=j) hj
 have hin:=fun m=>endN_in (S:=S) (i:=i) (m:=m) hi
 have hat:=endN_at (S:=S) (i:=i) hi
 generalize endN S i=E at *
 refine ⟨fun a b ha hb e=>?_,fun a ha=>?_,fun ha=>?_,fun a ha=>?_⟩
 ·rw [hs a (by omega),hs b (by omega)] at e
  split at e <;> split at e
  ·exact g.one a b (by omega) (by omega) e
  ·have:=g.one a (b+1) (by omega) (by omega) e;omega
  ·have:=g.one (a+1) b (by omega) (by omega) e;omega
  ·have:=g.one (a+1) (b+1) (by omega) (by omega) e;omega
 ·rw [hd a (by omega)]
  split
  ·exact g.pos a (by omega)
  ·split
   ·have:=hin (a+1) (by omega) (by omega)
    have:=g.pos i hi
    omega
   ·exact g.pos (a+1) (by omega)
 ·rw [hd 0 (by omega)]
  have f0:=g.first (by omega)
  split
  ·exact f0
  ·have:i=0:=by omega
   subst this
   have:=g.next 0 (by omega)
   have:=g.pos 1 (by omega)
   split
   ·have:=hin 1 (by omega) (by omega)
    simp only [Nat.zero_add] at *
    omega
   ·by_cases e1:E=1
    ·have:=hat (by omega)
     rw [e1] at this
     simp only [Nat.zero_add] at *
     omega
    ·omega
 ·rw [hd (a+1) (by omega),hd a (by omega)]
  by_cases c1:a+1<i
  ·rw [if_pos c1,if_pos (by omega)]
   exact g.next a (by omega)
  ·rw [if_neg c1]
   by_cases c2:a<i
   ·have:i=a+1:=by omega
    subst this
    rw [if_pos c2]
    have n1:=g.next a (by omega)
    have n2:=g.next (a+1) (by omega)
    split
    ·omega
    ·by_cases e1:E=a+1+1
     ·have:=hat (by omega)
      rw [e1] at this
      omega
     ·omega
   ·rw [if_neg c2]
    have n2:=g.next (a+1) (by omega)
    split
    ·rw [if_pos (by omega)]
     omega
    ·split
     ·have:a+1+1=E:=by omega
      have h1:=hat (by omega)
      have h2:=hin (a+1) (by omega) (by omega)
      rw [<- this] at h1
      omega
     ·exact n2
end
theorem Good.moved {S:St} (g:Good S) {b:Sl} (h:hasB S b=false) {i:Nat} (hi:i<S.length):Good (S.set i ⟨b,dep S i⟩):=by
 have hl:(S.set i ⟨b,dep S i⟩).length=S.length:=by simp
 have hd:∀ j,dep (S.set i ⟨b,dep S i⟩) j=dep S j:=fun j=>by
  unfold dep
  rw [atE_set]
  split
  ·rename_i hh
   rw [hh.1]
  ·rfl
 have hs:∀ j,slt (S.set i ⟨b,dep S i⟩) j=if i=j then b else slt S j:=fun j=>by
  unfold slt
  rw [atE_set]
  by_cases e:i=j
  ·rw [if_pos ⟨e,hi⟩,if_pos e]
  ·rw [if_neg (fun hh=>e hh.1),if_neg e]
 refine ⟨fun x y hx hy e=>?_,fun a ha=>?_,fun ha=>?_,fun a ha=>?_⟩
 ·rw [hs,hs] at e
  rw [hl] at hx hy
  split at e <;> split at e
  ·omega
  ·exact absurd e.symm (hasB_false h hy)
  ·exact absurd e (hasB_false h hx)
  ·exact g.one x y hx hy e
 ·rw [hd];exact g.pos a (by omega)
 ·rw [hd];exact g.first (by omega)
 ·rw [hd,hd];exact g.next a (by omega)
theorem Good.rootS {S:St} (g:Good S) (s:Sl):Good (rootS S s):=by
 unfold Proofs.YtilnjnblpeeigaaGreatDoor.Tr.rootS
 cases h:hasB S s with
 | true=>simpa using g
 | false=>simpa using g.root h
theorem Good.addS {S:St} (g:Good S) (p s:Sl):Good (addS S p s):=by
 unfold Proofs.YtilnjnblpeeigaaGreatDoor.Tr.addS
 split
 ·rename_i h
  exact g.put (by simpa using h.2) (pl_slt h.1).1
 ·exact g
theorem Good.takeS {S:St} (g:Good S) (s:Sl):Good (takeS S s):=by
 unfold Proofs.YtilnjnblpeeigaaGreatDoor.Tr.takeS
 split
 ·rename_i h
  exact g.took (pl_slt h).1
 ·exact g
theorem Good.moveS {S:St} (g:Good S) (a b:Sl):Good (moveS S a b):=by
 unfold Proofs.YtilnjnblpeeigaaGreatDoor.Tr.moveS
 split
 ·rename_i h
  exact g.moved (by simpa using h.2) (pl_slt h.1).1
 ·exact g
end Go.Proofs.YtilnjnblpeeigaaGreatDoor.Tr
namespace Go.Proofs.YtilnjnblpeeigaaGreatDoor.Un
def onesI (n:Int):Int:=2 ^ n.toNat - 1
def notI (x:Int):Int:=18446744073709551615 - x
def upN (v n:Nat):Nat:=(v+(2 ^ n - 1)) / 2 ^ n*2 ^ n
def upI (v n:Int):Int:=((upN v.toNat n.toNat:Nat):Int)
theorem pow_le (n:Nat) (h:n<=64):2 ^ n<=18446744073709551616:=by
 have:=Nat.pow_le_pow_right (n:=2) (by omega) h
 simpa using this
theorem pow_pos (n:Nat):0<2 ^ n:=Nat.pow_pos (by omega)
theorem ones_cast (n:Nat):onesI (n:Int)=((2 ^ n - 1:Nat):Int):=by
 have:=pow_pos n
 unfold onesI
 simp only [Int.toNat_natCast]
 rw [Int.natCast_sub (by omega)]
 simp
theorem onesI_bd (n:Int) (h0:0<=n) (h1:n<=64):0<=onesI n/\onesI n<=18446744073709551615:=by
 obtain ⟨m,rfl⟩:=Int.eq_ofNat_of_zero_le h0
 rw [ones_cast]
 have:=pow_le m (by omega)
 omega
theorem ones_wrap (n:Int) (h0:0<=n) (h1:n<=64):IntKind.u64.wrap (IntKind.u64.wrap (2 ^ n.toNat) - 1)=onesI n:=by
 obtain ⟨m,rfl⟩:=Int.eq_ofNat_of_zero_le h0
 rw [ones_cast,IntKind.wrap_u64,IntKind.wrap_u64]
 have h:=pow_le m (by omega)
 have h2:=pow_pos m
 have e:(2:Int) ^ (m:Int).toNat=((2 ^ m:Nat):Int):=by simp
 rw [e]
 omega
theorem testBit_big (v i:Nat) (hv:v<18446744073709551616) (hi:64<=i):v.testBit i=false:=by
 apply Nat.testBit_lt_two_pow
 have:2 ^ 64<=2 ^ i:=Nat.pow_le_pow_right (by omega) hi
 omega
theorem not_bit (y i:Nat) (hy:y<18446744073709551616):(18446744073709551615 - y).testBit i=(decide (i<64) && !y.testBit i):=by
 have:=Nat.testBit_two_pow_sub_succ (x:=y) (n:=64) (by omega) i
 rw [<- this]
 congr 1
 omega
theorem not_bits (x:Int) (x0:0<=x) (x1:x<=18446744073709551615):bits .xor .u64 IntKind.u64.max x=notI x:=by
 obtain ⟨X,rfl⟩:=Int.eq_ofNat_of_zero_le x0
 show IntKind.u64.wrap ((BitVec.ofInt 64 IntKind.u64.max ^^^ BitVec.ofInt 64 (X:Int)).toNat:Int)=_
 have h1:BitVec.ofInt 64 IntKind.u64.max=BitVec.allOnes 64:=by decide
 rw [h1,BitVec.allOnes_xor,BitVec.toNat_not,ofInt_u64 X (by omega),IntKind.wrap_u64]
 unfold notI
 omega
theorem and_not_low (v n:Nat) (hv:v<18446744073709551616) (h:n<=64):v &&& (18446744073709551615 - (2 ^ n - 1))=v / 2 ^ n*2 ^ n:=by
 apply Nat.eq_of_testBit_eq
 intro i
 have hp:=pow_pos n
 have hq:=pow_le n h
 rw [Nat.testBit_and,not_bit _ _ (by omega),Nat.testBit_two_pow_sub_one,Nat.testBit_mul_two_pow,Nat.testBit_div_two_pow]
 by_cases h1:i<n
 ·have h2:¬ n<=i:=by omega
  simp [h1,h2]
 ·have h2:n<=i:=by omega
  have h3:i - n+n=i:=by omega
  by_cases h4:i<64
  ·simp [h1,h2,h3,h4]
  ·simp [h2,h3,testBit_big v i hv (by omega)]
theorem up_bits (v n:Int) (v0:0<=v) (n0:0<=n) (n1:n<=63) (hv:v<=notI (onesI n)):bits .andNot .u64 (v+onesI n) (onesI n)=upI v n:=by
 obtain ⟨V,rfl⟩:=Int.eq_ofNat_of_zero_le v0
 obtain ⟨M,rfl⟩:=Int.eq_ofNat_of_zero_le n0
 unfold notI at hv
 rw [ones_cast] at hv ⊢
 have hp:=pow_pos M
 have hq:=pow_le M (by omega)
 have e:((V:Int)+((2 ^ M - 1:Nat):Int))=((V+(2 ^ M - 1):Nat):Int):=by omega
 rw [e,u64_andNot_nat _ _ (by omega) (by omega),and_not_low _ _ (by omega) (by omega)]
 simp [upI,upN]
end Go.Proofs.YtilnjnblpeeigaaGreatDoor.Un
namespace Go.Proofs.YtilnjnblpeeigaaGreatDoor.Un
def twoI (n:Int):Int:=2 ^ n.toNat
theorem two_cast (n:Nat):twoI (n:Int)=((2 ^ n:Nat):Int):=by simp [twoI]
theorem twoI_bd (n:Int) (h0:0<=n) (h1:n<=63):1<=twoI n/\twoI n<=9223372036854775808:=by
 obtain ⟨m,rfl⟩:=Int.eq_ofNat_of_zero_le h0
 rw [two_cast]
 have hp:=pow_pos m
 have hq:2 ^ m<=2 ^ 63:=Nat.pow_le_pow_right (by omega) (by omega)
 generalize 2 ^ m=p at *
 omega
theorem twoI_20 (n:Int) (h0:0<=n) (h1:n<=20):1<=twoI n/\twoI n<=1048576:=by
 obtain ⟨m,rfl⟩:=Int.eq_ofNat_of_zero_le h0
 rw [two_cast]
 have hp:=pow_pos m
 have hq:2 ^ m<=2 ^ 20:=Nat.pow_le_pow_right (by omega) (by omega)
 generalize 2 ^ m=p at *
 omega
theorem twoI_2 (n:Int) (h0:2<=n) (h1:n<=20):4<=twoI n:=by
 obtain ⟨m,rfl⟩:=Int.eq_ofNat_of_zero_le (show 0<=n by omega)
 rw [two_cast]
 have hq:2 ^ 2<=2 ^ m:=Nat.pow_le_pow_right (by omega) (by omega)
 generalize 2 ^ m=p at *
 omega
theorem twoI_wrap (n:Int) (h0:0<=n) (h1:n<=63):IntKind.u64.wrap (2 ^ n.toNat)=twoI n:=by
 have h:=twoI_bd n h0 h1
 rw [IntKind.wrap_u64]
 show twoI n % _=_
 omega
theorem onesI_two (n:Int):onesI n=twoI n - 1:=rfl
structure Un where
 base:Int
 bits:Int
 used:Int
def Un.zero:Un:=⟨0,0,0⟩
structure Un.Fits (u:Un):Prop where
 base:0<=u.base/\u.base<=18446744073709551615
 bits : -9223372036854775808<=u.bits/\u.bits<=9223372036854775807
 used:0<=u.used/\u.used<=18446744073709551615
theorem zero_fits:Un.zero.Fits:=⟨by decide,by decide,by decide⟩
abbrev okU (u:Un):Prop:=(0<=u.bits/\u.bits<=20)/\u.base % twoI u.bits=0/\u.base<=1099511627776/\u.used<=twoI u.bits
def chkE (u:Un):Int:=if okU u then 0 else 1
def szE (k b:Int):Int:=if k=1 then (if 4<=b/\b<=20 then 0 else 1) else if k=2 then (if 1<=b/\b<=8 then 0 else 1) else if 3<=k/\k<=8 then 0 else 80
def szN (k b:Int):Int:=if szE k b≠0 then 0 else if k=1 then b else if k=2 then b+2 else if k=3 then 5 else if k=4\/k=5 then 2 else 6
theorem szN_bd {k b:Int} (h:szE k b=0):2<=szN k b/\szN k b<=20:=by
 unfold szN
 rw [if_neg (by simpa using h)]
 unfold szE at h
 repeat' split at h
 all_goals (repeat' split) <;> omega
theorem szN_no {k b:Int} (h:szE k b≠0):szN k b=0:=by unfold szN;rw [if_pos h]
def firstI (u:Un) (s:Int):Int:=upI (u.base+u.used) s
theorem upI_mod (v n:Int) (v0:0<=v) (n0:0<=n):upI v n % twoI n=0:=by
 obtain ⟨V,rfl⟩:=Int.eq_ofNat_of_zero_le v0
 obtain ⟨M,rfl⟩:=Int.eq_ofNat_of_zero_le n0
 rw [two_cast]
 simp only [upI,upN,Int.toNat_natCast]
 have:=Nat.mul_mod_left ((V+(2 ^ M - 1)) / 2 ^ M) (2 ^ M)
 omega
theorem upI_ge (v n:Int) (v0:0<=v) (n0:0<=n):v<=upI v n/\upI v n - v<twoI n:=by
 obtain ⟨V,rfl⟩:=Int.eq_ofNat_of_zero_le v0
 obtain ⟨M,rfl⟩:=Int.eq_ofNat_of_zero_le n0
 rw [two_cast]
 simp only [upI,upN,Int.toNat_natCast]
 have hp:=pow_pos M
 generalize 2 ^ M=p at *
 have hdm:=Nat.div_add_mod (V+(p - 1)) p
 have hml:=Nat.mod_lt (V+(p - 1)) hp
 rw [Nat.mul_comm] at hdm
 generalize (V+(p - 1)) / p*p=q at *
 omega
abbrev roomB (u:Un) (s n:Int):Prop:=firstI u s+n*twoI s<=u.base+twoI u.bits
def plE (u:Un) (k b n:Int):Int:=
 if ¬ okU u then 1 else if szE k b≠0 then szE k b else if ¬ (1<=n/\n<=64) then 1 else if roomB u (szN k b) n then 0 else 81
def runL (a s:Int) (n:Nat):List Int:=(List.range n).map fun (i:Nat)=>a+(i:Int)*s
def plL (u:Un) (k b n:Int):List Int:=if plE u k b n=0 then runL (firstI u (szN k b)) (twoI (szN k b)) n.toNat else []
def plU (u:Un) (k b n:Int):Un:=if plE u k b n=0 then ⟨u.base,u.bits,firstI u (szN k b)+n*twoI (szN k b) - u.base⟩ else Un.zero
theorem runL_len (a s:Int) (n:Nat):(runL a s n).length=n:=by simp [runL]
theorem runL_succ (a s:Int) (n:Nat):runL a s (n+1)=runL a s n++[a+(n:Int)*s]:=by simp [runL,List.range_succ]
structure Found (u:Un) (k b n:Int):Prop where
 ok:okU u
 sz:szE k b=0
 n0:1<=n/\n<=64
 room:roomB u (szN k b) n
theorem found_iff (u:Un) (k b n:Int):plE u k b n=0↔Found u k b n:=by
 unfold plE
 constructor
 ·intro h
  by_cases h1:okU u
  ·rw [if_neg (not_not_intro h1)] at h
   by_cases h2:szE k b=0
   ·rw [if_neg (by simpa using h2)] at h
    by_cases h3:1<=n/\n<=64
    ·rw [if_neg (by simpa using h3)] at h
     by_cases h4:roomB u (szN k b) n
     ·exact ⟨h1,h2,h3,h4⟩
     ·rw [if_neg h4] at h
      omega
    ·rw [if_pos h3] at h
     omega
   ·rw [if_pos h2] at h
    exact absurd h h2
  ·rw [if_pos h1] at h
   omega
 ·intro h
  rw [if_neg (not_not_intro h.ok),if_neg (by simpa using h.sz),if_neg (by simpa using h.n0),if_pos h.room]
structure Nums (u:Un) (s F S P:Int):Prop where
 bits:0<=u.bits/\u.bits<=20
 sz:2<=s/\s<=20
 P1:1<=P/\P<=1048576
 S1:4<=S/\S<=1048576
 base:u.base<=1099511627776
 used:u.used<=P
 mult:u.base % P=0
 F0:u.base+u.used<=F
 F1:F - (u.base+u.used)<S
 Fm:F % S=0
theorem nums {u:Un} (hf:u.Fits) (h:okU u) {k b:Int} (hs:szE k b=0):Nums u (szN k b) (firstI u (szN k b)) (twoI (szN k b)) (twoI u.bits):=by
 obtain ⟨hb,hm,hB,hu⟩:=h
 have hz:=szN_bd hs
 generalize szN k b=s at *
 have p:=twoI_20 u.bits hb.1 hb.2
 have q:=twoI_20 s (by omega) hz.2
 have q2:=twoI_2 s hz.1 hz.2
 have g:=upI_ge (u.base+u.used) s (by have:=hf.base;have:=hf.used;omega) (by omega)
 have m:=upI_mod (u.base+u.used) s (by have:=hf.base;have:=hf.used;omega) (by omega)
 exact ⟨hb,hz,p,⟨q2,q.2⟩,hB,hu,hm,g.1,g.2,m⟩
theorem place_ok {u:Un} (hf:u.Fits) {k b n:Int} (h:Found u k b n):okU (plU u k b n)/\(plU u k b n).Fits/\u.used<(plU u k b n).used:=by
 have e:plU u k b n=⟨u.base,u.bits,firstI u (szN k b)+n*twoI (szN k b) - u.base⟩:=by unfold plU;rw [if_pos ((found_iff _ _ _ _).2 h)]
 rw [e]
 have N:=nums hf h.ok h.sz
 have hr:=h.room
 unfold roomB at hr
 have h1:=N.F0
 have h2:=N.S1
 have hb:=hf.base
 have hu:=hf.used
 have hn:twoI (szN k b)<=n*twoI (szN k b):=by
  have:=Int.mul_le_mul_of_nonneg_right h.n0.1 (show 0<=twoI (szN k b) by omega)
  omega
 generalize n*twoI (szN k b)=nS at *
 have hp:=N.P1
 refine ⟨⟨N.bits,N.mult,N.base,?_⟩,⟨hb,hf.bits,?_⟩,?_⟩
 ·show _ - _<=twoI u.bits
  omega
 ·show 0<=_ - _/\_ - _<=_
  have:=N.base
  omega
 ·show _<_ - _
  omega
end Go.Proofs.YtilnjnblpeeigaaGreatDoor.Un
