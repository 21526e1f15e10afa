/- Below: KpCa KpTr KpUn; no condition. -/
import Derived.Laws.BitsAllLaws
import Derived.Laws.BitsLemmas
set_option linter.unusedSectionVars false
namespace Go.Proofs.YtbfjjpdnoalojaaGreatDoor
namespace Ca
def Jr (n:Int):Int:=2 ^ n.toNat - 1
theorem ZW (n:Nat) (h:n<=64):2 ^ n<=18446744073709551616:=by
 have:=Nat.pow_le_pow_right (n:=2) (by omega) h
 simpa using this
theorem JJ (n:Nat):0<2 ^ n:=Nat.pow_pos (by omega)
theorem JU (n:Nat):Jr (n:Int)=((2 ^ n - 1:Nat):Int):=by
 have:=JJ n
 unfold Jr
 simp only[Int.toNat_natCast]
 rw[Int.natCast_sub (by omega)]
 simp
theorem Eg (n:Int) (h0:0<=n) (h1:n<=64):0<=Jr n/\Jr n<=18446744073709551615:=by
 obtain⟨m,rfl⟩:=Int.eq_ofNat_of_zero_le h0
 rw[JU]
 have:=ZW m (by omega)
 omega
theorem XZ (n:Int) (h0:0<=n) (h1:n<=64):IntKind.u64.wrap (IntKind.u64.wrap (2 ^ n.toNat) - 1)=Jr n:=by
 obtain⟨m,rfl⟩:=Int.eq_ofNat_of_zero_le h0
 rw[JU,IntKind.wrap_u64,IntKind.wrap_u64]
 have h:=ZW m (by omega)
 have h2:=JJ m
 have e:(2:Int) ^ (m:Int).toNat=((2 ^ m:Nat):Int):=by simp
 rw[e]
 omega
theorem ZJ (v i:Nat) (hv:v<18446744073709551616) (hi:64<=i):v.testBit i=false:=by
 apply Nat.testBit_lt_two_pow
 have:2 ^ 64<=2 ^ i:=Nat.pow_le_pow_right (by omega) hi
 omega
theorem MX (y i:Nat) (hy:y<18446744073709551616):(18446744073709551615 - y).testBit i=(decide (i<64) && !y.testBit i):=by
 have:=Nat.testBit_two_pow_sub_succ (x:=y) (n:=64) (by omega) i
 rw[<- this]
 congr 1
 omega
theorem Vc (v n:Nat) (hv:v<18446744073709551616) (h:n<=64):v &&& (18446744073709551615 - (2 ^ n - 1))=v / 2 ^ n*2 ^ n:=by
 apply Nat.eq_of_testBit_eq
 intro i
 have hp:=JJ n
 have hq:=ZW n h
 rw[Nat.testBit_and,MX _ _ (by omega),Nat.testBit_two_pow_sub_one,Nat.testBit_mul_two_pow,Nat.testBit_div_two_pow]
 by_cases h1:i<n
 ·have h2:¬ n<=i:=by omega
  simp[h1,h2]
 ·have h2:n<=i:=by omega
  have h3:i - n+n=i:=by omega
  by_cases h4:i<64
  ·simp[h1,h2,h3,h4]
  ·simp[h2,h3,ZJ v i hv (by omega)]
structure Cp where
 k:Int
 o:Int
 r:Int
 b:Int
 g:Int
 z:Int
def no:Cp:=⟨0,0,0,0,0,0⟩
structure Cp.Fits (c:Cp):Prop where
 k : -9223372036854775808<=c.k/\c.k<=9223372036854775807
 o : -9223372036854775808<=c.o/\c.o<=9223372036854775807
 r : -9223372036854775808<=c.r/\c.r<=9223372036854775807
 b:0<=c.b/\c.b<=18446744073709551615
 g:0<=c.g/\c.g<=18446744073709551615
 z : -9223372036854775808<=c.z/\c.z<=9223372036854775807
def ZV (k:Int):Prop:=k=4\/k=5\/k=6
def Xn (k:Int):Prop:=k=4\/k=5
def Fit (g z:Int):Prop:=0<=z/\z<=64/\g<=Jr z
def Fine (c:Cp):Prop:=c=no\/((0<c.k/\c.k<10)/\(0<=c.o/\c.o<=2147483647)/\(0<=c.r/\c.r<=7)/\(c.r=7\/ZV c.k)/\(c.b=0\/Xn c.k)/\((c.g=0/\c.z=0)\/c.k=2)/\Fit c.g c.z)
def JK (c:Cp) (v:Int):Prop:=c.k=0\/(v≠0/\¬ (Xn c.k/\c.b=0))
def Jnf (c:Cp):Int:=c.k+16*c.r+128*c.z+65536*c.o
def Jlx (c:Cp):Int:=if c.k=2 then c.g else c.b
def Ei (x y:Int):Cp:=⟨x % 16,x / 65536 % 2147483648,x / 16 % 8,if x % 16=2 then 0 else y,if x % 16=2 then y else 0,x / 128 % 128⟩
def Zx (x y:Int):Prop:=Fine (Ei x y)/\Jnf (Ei x y)=x/\Jlx (Ei x y)=y
abbrev Jju:DecidableEq Cp:=fun a b =>
 if h:a.k=b.k/\a.o=b.o/\a.r=b.r/\a.b=b.b/\a.g=b.g/\a.z=b.z then .isTrue (by obtain⟨h1,h2,h3,h4,h5,h6⟩:=h;cases a;cases b;simp only at h1 h2 h3 h4 h5 h6;subst h1 h2 h3 h4 h5 h6;rfl) else .isFalse fun e=>h (by rw[e];exact⟨rfl,rfl,rfl,rfl,rfl,rfl⟩)
abbrev Ax (k:Int):Decidable (ZV k):=by unfold ZV;exact inferInstance
abbrev F6 (k:Int):Decidable (Xn k):=by unfold Xn;exact inferInstance
abbrev Jcx (g z:Int):Decidable (Fit g z):=by unfold Fit;exact inferInstance
abbrev ML (c:Cp):Decidable (Fine c):=by
 unfold Fine
 have h1:=Jju c no
 have h2:=Ax c.k
 have h3:=F6 c.k
 have h4:=Jcx c.g c.z
 exact inferInstance
abbrev Jey (c:Cp) (v:Int):Decidable (JK c v):=by
 unfold JK
 have h3:=F6 c.k
 exact inferInstance
variable [dCp:DecidableEq Cp] [dLim:∀ k,Decidable (ZV k)] [dBad:∀ k,Decidable (Xn k)] [dFit:∀ g z,Decidable (Fit g z)] [dFine:∀ c,Decidable (Fine c)] [dMint:∀ c v,Decidable (JK c v)] [dWho:∀ x y,Decidable (Zx x y)]
def Zk (c:Cp):Int:=if Fine c then 0 else 40
theorem Fine.of_ne {c:Cp} (h:Fine c) (hk:c.k≠0):(0<c.k/\c.k<10)/\(0<=c.o/\c.o<=2147483647)/\(0<=c.r/\c.r<=7)/\(c.r=7\/ZV c.k)/\(c.b=0\/Xn c.k)/\((c.g=0/\c.z=0)\/c.k=2)/\Fit c.g c.z:=by
 rcases h with h|h
 ·subst h;exact absurd rfl hk
 ·exact h
theorem Fine.of_zero {c:Cp} (h:Fine c) (hk:c.k=0):c=no:=by
 rcases h with h|h
 ·exact h
 ·omega
def Jfv (a b:Cp):Bool:=decide (a.k≠0/\a.k=b.k/\a.o=b.o)
def Ut (c:Cp) (n v:Int):Cp:={ c with r:=if ZV c.k then bits .and .i64 c.r n else c.r,b:=if v=0 then c.b else v }
def Zb (c:Cp) (n v:Int):Int:=if Fine c then if 0<=n/\n<=7 then if JK c v then 41 else 0 else 1 else 40
def Vx (c:Cp) (n v:Int):Cp:=if Zb c n v=0 then Ut c n v else no
theorem AG (g z:Int) (g0:0<=g) (g1:g<=18446744073709551615) (z0:0<=z) (z1:z<=64) :
  bits .andNot .u64 g (Jr z)=0↔g<=Jr z:=by
 obtain⟨G,rfl⟩:=Int.eq_ofNat_of_zero_le g0
 obtain⟨Z,rfl⟩:=Int.eq_ofNat_of_zero_le z0
 rw[JU]
 have hp:=JJ Z
 have hq:=ZW Z (by omega)
 rw[u64_andNot_nat _ _ (by omega) (by omega),Vc _ _ (by omega) (by omega)]
 have h1:G / 2 ^ Z*2 ^ Z=0↔G<2 ^ Z:=by
  rw[Nat.mul_eq_zero,Nat.div_eq_zero_iff]
  omega
 omega
theorem Jw4:∀ x:Fin 8,∀ y:Fin 8,∀ z:Fin 8,
  (0<=bits .and .i64 (x.val:Int) y.val/\bits .and .i64 (x.val:Int) y.val<=7)/\bits .andNot .i64 (bits .and .i64 (x.val:Int) y.val) x.val=0 /\
  bits .and .i64 (bits .and .i64 (x.val:Int) y.val) z.val=bits .and .i64 (x.val:Int) (bits .and .i64 (y.val:Int) z.val) /\
  (bits .andNot .i64 (y.val:Int) x.val=0->bits .andNot .i64 (x.val:Int) y.val=0->x=y) /\
  (bits .andNot .i64 (y.val:Int) x.val=0->bits .andNot .i64 (z.val:Int) y.val=0->bits .andNot .i64 (z.val:Int) x.val=0) /\
  bits .andNot .i64 (x.val:Int) x.val=0:=by decide +kernel
theorem Jmz (x:Int) (h:0<=x/\x<=7):∃ a:Fin 8,x=(a.val:Int):=⟨⟨x.toNat,by omega⟩,by simp;omega⟩
theorem Ji9 {x y:Int} (hx:0<=x/\x<=7) (hy:0<=y/\y<=7):0<=bits .and .i64 x y/\bits .and .i64 x y<=7:=by
 obtain⟨a,rfl⟩:=Jmz x hx
 obtain⟨b,rfl⟩:=Jmz y hy
 exact(Jw4 a b 0).1
theorem Jg8 {c:Cp} {n v:Int} (h:Fine c) (hk:c.k≠0) (hn:0<=n/\n<=7) (hv:v=0\/Xn c.k:=by exact .inl rfl):Fine (Ut c n v):=by
 obtain⟨h1,h2,h3,h4,h5,h6,h7⟩:=h.of_ne hk
 refine .inr ⟨h1,h2,?_,?_,?_,h6,h7⟩
 ·show 0<=(if ZV c.k then bits .and .i64 c.r n else c.r)/\(if ZV c.k then bits .and .i64 c.r n else c.r)<=7
  split
  ·exact Ji9 h3 hn
  ·exact h3
 ·show(if ZV c.k then bits .and .i64 c.r n else c.r)=7\/ZV c.k
  by_cases hL:ZV c.k
  ·exact .inr hL
  ·rw[if_neg hL]
   exact .inl (h4.resolve_right hL)
 ·show(if v=0 then c.b else v)=0\/Xn c.k
  rcases hv with rfl|hv
  ·rw[if_pos rfl];exact h5
  ·exact .inr hv
theorem Jg9 {c:Cp} {n v:Int} (h:c.Fits) (hr:0<=c.r/\c.r<=7) (hn:0<=n/\n<=7) (hv:0<=v/\v<=18446744073709551615):(Ut c n v).Fits:=by
 refine⟨h.k,h.o,?_,?_,h.g,h.z⟩
 ·show -9223372036854775808<=(if ZV c.k then bits .and .i64 c.r n else c.r)/\(if ZV c.k then bits .and .i64 c.r n else c.r)<=9223372036854775807
  split
  ·have:=Ji9 hr hn;omega
  ·exact h.r
 ·show 0<=(if v=0 then c.b else v)/\(if v=0 then c.b else v)<=18446744073709551615
  split
  ·exact h.b
  ·exact hv
end Ca
namespace Tr
structure Sl where
 n:Int
 i:Int
variable [DecidableEq Sl]
structure En where
 s:Sl
 d:Int
abbrev St:=List En
def no:Sl:=⟨0,0⟩
def Xo (S:St) (i:Nat):En:=S.getD i ⟨no,0⟩
def Zl (S:St) (i:Nat):Int:=(Xo S i).d
def VB (S:St) (i:Nat):Sl:=(Xo S i).s
def isP (s:Sl) (e:En):Bool:=decide (e.s=s)
def pl (S:St) (s:Sl):Nat:=S.findIdx (isP s)
def Jl (S:St) (s:Sl):Bool:=decide (pl S s<S.length)
def GP (d:Int) (e:En):Bool:=decide (e.d<=d)
def U7 (S:St) (i:Nat):Nat:=i+1+(S.drop (i+1)).findIdx (GP (Zl S i))
def Jz (S:St) (i:Nat):St:=(S.drop (i+1)).take ((S.drop (i+1)).findIdx (GP (Zl S i)))
def JA (S:St):List Sl:=S.map En.s
def Zo (S:St) (s:Sl):List Sl:=if Jl S s then JA (Jz S (pl S s)) else []
def Jb0 (S:St) (s:Sl):Int:=if Jl S s then 70 else 0
def rootS (S:St) (s:Sl):St:=if Jl S s then S else S++[⟨s,0⟩]
def Me (S:St) (i:Nat) (e:En):St:=S.take i++e::S.drop i
def Ji1 (S:St) (p s:Sl):Int:=if Jl S p then if Jl S s then 70 else 0 else 71
def addS (S:St) (p s:Sl):St:=if Jl S p/\¬ Jl S s then Me S (pl S p+1) ⟨s,Zl S (pl S p)+1⟩ else S
def Jdl (e:En):En:=⟨e.s,e.d - 1⟩
def Z8 (S:St) (i k:Nat):St:=S.take (i+1)++((S.drop (i+1)).take k).map Jdl++S.drop (i+1+k)
def UB (S:St) (i:Nat):St:=(Z8 S i (Jz S i).length).eraseIdx i
def ZS (S:St) (s:Sl):Int:=if Jl S s then 0 else 71
def takeS (S:St) (s:Sl):St:=if Jl S s then UB S (pl S s) else S
def AZ (S:St) (a b:Sl):Int:=if Jl S a then if Jl S b then 70 else 0 else 71
def moveS (S:St) (a b:Sl):St:=if Jl S a/\¬ Jl S b then S.set (pl S a) ⟨b,Zl S (pl S a)⟩ else S
theorem Vd {S:St} {i:Nat} (h:i<S.length):S[i]? = some (Xo S i):=by
 unfold Xo
 rw[List.getD_eq_getElem?_getD,List.getElem?_eq_getElem h]
 rfl
theorem MG {S:St} {i:Nat} {e:En} (h:S[i]? = some e):Xo S i=e:=by
 unfold Xo
 rw[List.getD_eq_getElem?_getD,h]
 rfl
theorem Jt6 {S T:St} (hl:S.length=T.length) (h:∀ i,i<S.length->Xo S i=Xo T i):S=T:=by
 apply List.ext_getElem? fun i=>?_
 by_cases hi:i<S.length
 ·rw[Vd hi,Vd (by omega),h i hi]
 ·rw[List.getElem?_eq_none (by omega),List.getElem?_eq_none (by omega)]
theorem Jax (S:St) (s:Sl):Jl S s=true↔∃ i,i<S.length/\VB S i=s:=by
 unfold Jl pl
 rw[decide_eq_true_eq,List.findIdx_lt_length]
 constructor
 ·rintro⟨e,he,hp⟩
  obtain⟨i,hi,h⟩:=List.mem_iff_getElem.1 he
  refine⟨i,hi,?_⟩
  have:Xo S i=e:=MG (by rw[List.getElem?_eq_getElem hi,h])
  unfold VB
  rw[this]
  simpa [isP] using hp
 ·rintro⟨i,hi,h⟩
  exact⟨Xo S i,List.mem_of_getElem? (Vd hi),decide_eq_true h⟩
theorem VF (S:St) (s:Sl):s∈JA S↔Jl S s=true:=by
 rw[Jax]
 unfold JA
 rw[List.mem_map]
 constructor
 ·rintro⟨e,he,rfl⟩
  obtain⟨i,hi,h⟩:=List.mem_iff_getElem.1 he
  exact⟨i,hi,by unfold VB;rw[MG (by rw[List.getElem?_eq_getElem hi,h])]⟩
 ·rintro⟨i,hi,h⟩
  exact⟨Xo S i,List.mem_of_getElem? (Vd hi),h⟩
theorem MZ {S:St} {s:Sl} (h:Jl S s=true):pl S s<S.length/\VB S (pl S s)=s:=by
 have hl:pl S s<S.length:=by simpa [Jl] using h
 refine⟨hl,?_⟩
 have:=List.findIdx_getElem (xs:=S) (p:=isP s) (w:=hl)
 have e:Xo S (pl S s)=S[pl S s]:=MG (List.getElem?_eq_getElem hl)
 unfold VB
 rw[e]
 exact of_decide_eq_true this
structure Good (S:St):Prop where
 one:∀ i j,i<S.length->j<S.length->VB S i=VB S j->i=j
 pos:∀ i,i<S.length->0<=Zl S i
 first:0<S.length->Zl S 0=0
 next:∀ i,i+1<S.length->Zl S (i+1)<=Zl S i+1
theorem Good.le {S:St} (h:Good S):∀ i,i<S.length->Zl S i<=i
 | 0,hi=>by rw[h.first hi];exact Int.le_refl _
 | i+1,hi=>by
  have:=h.le i (by omega)
  have:=h.next i hi
  omega
theorem Vg:Good []:=⟨fun i j hi=>by simp at hi,fun i hi=>by simp at hi,fun hi=>by simp at hi,fun i hi=>by simp at hi⟩
theorem UK {S:St} {i:Nat} (hi:i<S.length):U7 S i<=S.length/\i<U7 S i:=by
 unfold U7
 have:(S.drop (i+1)).findIdx (GP (Zl S i))<=(S.drop (i+1)).length:=List.findIdx_le_length
 simp only[List.length_drop] at this
 omega
theorem XK (S:St) (a j:Nat):Xo (S.drop a) j=Xo S (a+j):=by
 unfold Xo
 rw[List.getD_eq_getElem?_getD,List.getD_eq_getElem?_getD,List.getElem?_drop]
theorem Jnx {S:St} {i m:Nat} (_hi:i<S.length) (h1:i<m) (h2:m<U7 S i):Zl S i<Zl S m:=by
 unfold U7 at h2
 have h3:m - (i+1)<(S.drop (i+1)).findIdx (GP (Zl S i)):=by omega
 have:=List.not_of_lt_findIdx h3
 have hl:m - (i+1)<(S.drop (i+1)).length:=Nat.lt_of_lt_of_le h3 List.findIdx_le_length
 have e:Xo (S.drop (i+1)) (m - (i+1))=(S.drop (i+1))[m - (i+1)]:=MG (List.getElem?_eq_getElem hl)
 rw[<- e,XK,show i+1+(m - (i+1))=m by omega] at this
 have h4:¬ (Zl S m<=Zl S i):=of_decide_eq_false this
 omega
theorem Jnw {S:St} {i:Nat} (_hi:i<S.length) (h:U7 S i<S.length):Zl S (U7 S i)<=Zl S i:=by
 have hl:(S.drop (i+1)).findIdx (GP (Zl S i))<(S.drop (i+1)).length:=by
  unfold U7 at h
  rw[List.length_drop]
  omega
 have:=List.findIdx_getElem (xs:=S.drop (i+1)) (p:=GP (Zl S i)) (w:=hl)
 have e:Xo (S.drop (i+1)) ((S.drop (i+1)).findIdx (GP (Zl S i)))=(S.drop (i+1))[(S.drop (i+1)).findIdx (GP (Zl S i))]:=MG (List.getElem?_eq_getElem hl)
 rw[<- e,XK] at this
 exact of_decide_eq_true this
theorem V4 {S:St} {i:Nat} (_hi:i<S.length):(Jz S i).length=U7 S i - (i+1):=by
 unfold Jz U7
 have:(S.drop (i+1)).findIdx (GP (Zl S i))<=(S.drop (i+1)).length:=List.findIdx_le_length
 rw[List.length_take]
 omega
theorem Jim (S:St) (i:Nat):Jz S i=(S.drop (i+1)).take (U7 S i - (i+1)):=by
 unfold Jz U7
 rw[show i+1+(S.drop (i+1)).findIdx (GP (Zl S i)) - (i+1)=(S.drop (i+1)).findIdx (GP (Zl S i)) by omega]
theorem Io {S:St} {n j:Nat} (h:j<n):Xo (S.take n) j=Xo S j:=by
 unfold Xo
 rw[List.getD_eq_getElem?_getD,List.getD_eq_getElem?_getD,List.getElem?_take,if_pos h]
theorem MF (S T:St) (j:Nat):Xo (S++T) j=if j<S.length then Xo S j else Xo T (j - S.length):=by
 unfold Xo
 simp only[List.getD_eq_getElem?_getD,List.getElem?_append]
 split<;>rfl
theorem Al (e:En) (S:St) (j:Nat):Xo (e::S) j=if j=0 then e else Xo S (j - 1):=by
 unfold Xo
 cases j with
 | zero=>simp
 | succ j=>simp
theorem Jnn (S:St) (j:Nat) (h:j<S.length):Xo (S.map Jdl) j=Jdl (Xo S j):=by
 apply MG
 rw[List.getElem?_map,Vd h]
 rfl
theorem Jf4 (S:St) (i j:Nat):Xo (S.eraseIdx i) j=if j<i then Xo S j else Xo S (j+1):=by
 unfold Xo
 rw[List.getD_eq_getElem?_getD,List.getElem?_eraseIdx]
 split<;>simp[List.getD_eq_getElem?_getD]
theorem FX (S:St) (i j:Nat) (e:En):Xo (S.set i e) j=if i=j/\i<S.length then e else Xo S j:=by
 unfold Xo
 rw[List.getD_eq_getElem?_getD,List.getElem?_set]
 by_cases h:i=j
 ·subst h
  by_cases hl:i<S.length
  ·simp[hl]
  ·simp[hl]
 ·simp[h,List.getD_eq_getElem?_getD]
theorem Vj (S:St) (i:Nat) (e:En):(Me S i e).length=S.length+1:=by
 unfold Me
 simp
 omega
theorem Jje {S:St} {i:Nat} (hi:i<=S.length) (e:En) (j:Nat):Xo (Me S i e) j=if j<i then Xo S j else if j=i then e else Xo S (j - 1):=by
 unfold Me
 have hl:(S.take i).length=i:=by simp;omega
 rw[MF,hl,Al]
 split
 ·rename_i h
  exact Io h
 ·split
  ·rw[if_pos (by omega)]
  ·rw[if_neg (by omega),XK]
   congr 1
   omega
theorem Xd {S:St} {s:Sl} (h:Jl S s=false) {j:Nat} (hj:j<S.length):VB S j≠s:=fun e=>by
 have:=(Jax S s).2 ⟨j,hj,e⟩
 rw[h] at this
 cases this
theorem Good.put {S:St} (g:Good S) {s:Sl} (h:Jl S s=false) {i:Nat} (hi:i<S.length):Good (Me S (i+1) ⟨s,Zl S i+1⟩):=by
 have at':=Jje (S:=S) (i:=i+1) (by omega) ⟨s,Zl S i+1⟩
 have hl:=Vj S (i+1) ⟨s,Zl S i+1⟩
 generalize Me S (i+1) ⟨s,Zl S i+1⟩=T at *
 have hd:∀ j,Zl T j=if j<i+1 then Zl S j else if j=i+1 then Zl S i+1 else Zl S (j - 1):=fun j=>by
  unfold Zl
  rw[at']
  split
  ·rfl
  ·split<;>rfl
 have hs:∀ j,VB T j=if j<i+1 then VB S j else if j=i+1 then s else VB S (j - 1):=fun j=>by
  unfold VB
  rw[at']
  split
  ·rfl
  ·split<;>rfl
 refine⟨fun a b ha hb e=>?_,fun a ha=>?_,fun ha=>?_,fun a ha=>?_⟩
 ·rw[hs,hs] at e
  by_cases a1:a<i+1
  ·rw[if_pos a1] at e
   by_cases b1:b<i+1
   ·rw[if_pos b1] at e
    exact g.one a b (by omega) (by omega) e
   ·rw[if_neg b1] at e
    by_cases b2:b=i+1
    ·rw[if_pos b2] at e
     exact absurd e (Xd h (by omega))
    ·rw[if_neg b2] at e
     have:=g.one a (b - 1) (by omega) (by omega) e
     omega
  ·rw[if_neg a1] at e
   by_cases a2:a=i+1
   ·rw[if_pos a2] at e
    by_cases b1:b<i+1
    ·rw[if_pos b1] at e
     exact absurd e.symm (Xd h (by omega))
    ·rw[if_neg b1] at e
     by_cases b2:b=i+1
     ·omega
     ·rw[if_neg b2] at e
      exact absurd e.symm (Xd h (by omega))
   ·rw[if_neg a2] at e
    by_cases b1:b<i+1
    ·rw[if_pos b1] at e
     have:=g.one (a - 1) b (by omega) (by omega) e
     omega
    ·rw[if_neg b1] at e
     by_cases b2:b=i+1
     ·rw[if_pos b2] at e
      exact absurd e (Xd h (by omega))
     ·rw[if_neg b2] at e
      have:=g.one (a - 1) (b - 1) (by omega) (by omega) e
      omega
 ·rw[hd]
  split
  ·exact g.pos a (by omega)
  ·split
   ·have:=g.pos i hi;omega
   ·exact g.pos (a - 1) (by omega)
 ·rw[hd,if_pos (by omega)]
  exact g.first (by omega)
 ·rw[hd,hd]
  by_cases a1:a+1<i+1
  ·rw[if_pos a1,if_pos (by omega)]
   exact g.next a (by omega)
  ·rw[if_neg a1]
   by_cases a2:a+1=i+1
   ·have:a=i:=by omega
    rw[if_pos a2,if_pos (by omega),this]
    exact Int.le_refl _
   ·rw[if_neg a2,if_neg (by omega)]
    by_cases a3:a=i+1
    ·have e1:a+1 - 1=i+1:=by omega
     rw[if_pos a3,e1]
     have:=g.next i (by omega)
     omega
    ·rw[if_neg a3]
     have:=g.next (a - 1) (by omega)
     rw[show a - 1+1=a by omega] at this
     exact this
theorem Good.root {S:St} (g:Good S) {s:Sl} (h:Jl S s=false):Good (S++[⟨s,0⟩]):=by
 have hl:(S++[(⟨s,0⟩:En)]).length=S.length+1:=by simp
 have at':=MF S [⟨s,0⟩]
 generalize S++[(⟨s,0⟩:En)]=T at *
 have hd:∀ j,j<T.length->Zl T j=if j<S.length then Zl S j else 0:=fun j hj=>by
  unfold Zl
  rw[at',Al]
  split
  ·rfl
  ·rw[if_pos (by omega)]
 have hs:∀ j,j<T.length->VB T j=if j<S.length then VB S j else s:=fun j hj=>by
  unfold VB
  rw[at',Al]
  split
  ·rfl
  ·rw[if_pos (by omega)]
 refine⟨fun a b ha hb e=>?_,fun a ha=>?_,fun ha=>?_,fun a ha=>?_⟩
 ·rw[hs a ha,hs b hb] at e
  by_cases a1:a<S.length
  ·rw[if_pos a1] at e
   by_cases b1:b<S.length
   ·rw[if_pos b1] at e
    exact g.one a b a1 b1 e
   ·rw[if_neg b1] at e
    exact absurd e (Xd h a1)
  ·rw[if_neg a1] at e
   by_cases b1:b<S.length
   ·rw[if_pos b1] at e
    exact absurd e.symm (Xd h b1)
   ·omega
 ·rw[hd a ha]
  split
  ·rename_i h1
   exact g.pos a h1
  ·exact Int.le_refl _
 ·rw[hd 0 ha]
  split
  ·rename_i h1
   exact g.first h1
  ·rfl
 ·rw[hd _ ha,hd _ (by omega)]
  rw[if_pos (show a<S.length by omega)]
  split
  ·rename_i h1
   exact g.next a h1
  ·have:=g.pos a (by omega)
   omega
theorem VN {S:St} {i k:Nat} (h:i+1+k<=S.length):(Z8 S i k).length=S.length:=by
 unfold Z8
 simp
 omega
theorem VK {S:St} {i k:Nat} (h:i+1+k<=S.length) {j:Nat} (hj:j<S.length):Xo (Z8 S i k) j=if i<j/\j<i+1+k then Jdl (Xo S j) else Xo S j:=by
 unfold Z8
 have h1:(S.take (i+1)).length=i+1:=by simp;omega
 have h2:(((S.drop (i+1)).take k).map Jdl).length=k:=by simp;omega
 rw[MF,MF,List.length_append,h1,h2]
 by_cases c1:j<i+1
 ·rw[if_pos (by omega),if_pos c1,if_neg (by omega),Io c1]
 ·by_cases c2:j<i+1+k
  ·have h3:((S.drop (i+1)).take k).length=k:=by simp;omega
   rw[if_pos c2,if_neg c1,if_pos (by omega),Jnn _ _ (by omega),Io (by omega),XK]
   congr 2
   omega
  ·rw[if_neg c2,if_neg (by omega),XK]
   congr 1
   omega
theorem Jic {S:St} {i:Nat} (hi:i<S.length):(UB S i).length=S.length - 1:=by
 have:=UK hi
 unfold UB
 rw[List.length_eraseIdx,VN (by rw[V4 hi];omega),if_pos hi]
theorem EV {S:St} {i:Nat} (hi:i<S.length) {j:Nat} (hj:j<S.length - 1):Xo (UB S i) j=if j<i then Xo S j else if j+1<U7 S i then Jdl (Xo S (j+1)) else Xo S (j+1):=by
 have:=UK hi
 have hu:=V4 hi
 unfold UB
 rw[Jf4]
 split
 ·rw[VK (by omega) (by omega),if_neg (by omega)]
 ·rw[VK (by omega) (by omega),hu]
  split
  ·rw[if_pos (by omega)]
  ·rw[if_neg (by omega)]
section
variable {S:St} {i:Nat}
theorem Jga (hi:i<S.length) {j:Nat} (hj:j<S.length - 1):Zl (UB S i) j=if j<i then Zl S j else if j+1<U7 S i then Zl S (j+1) - 1 else Zl S (j+1):=by
 unfold Zl
 rw[EV hi hj]
 split
 ·rfl
 ·split<;>rfl
theorem Jh9 (hi:i<S.length) {j:Nat} (hj:j<S.length - 1):VB (UB S i) j=if j<i then VB S j else VB S (j+1):=by
 unfold VB
 rw[EV hi hj]
 split
 ·rfl
 ·split<;>rfl
theorem Good.took (g:Good S) (hi:i<S.length):Good (UB S i):=by
 have hl:=Jic hi
 have he:=UK hi
 have hd:=fun j hj=>Jga (S:=S) (i:=i) hi (j:=j) hj
 have hs:=fun j hj=>Jh9 (S:=S) (i:=i) hi (j:=j) hj
 have hin:=fun m=>Jnx (S:=S) (i:=i) (m:=m) hi
 have hat:=Jnw (S:=S) (i:=i) hi
 generalize U7 S i=E at *
 refine⟨fun a b ha hb e=>?_,fun a ha=>?_,fun ha=>?_,fun a ha=>?_⟩
 ·rw[hs a (by omega),hs b (by omega)] at e
  split at e<;>split at e
  ·exact g.one a b (by omega) (by omega) e
  ·have:=g.one a (b+1) (by omega) (by omega) e;omega
  ·have:=g.one (a+1) b (by omega) (by omega) e;omega
  ·have:=g.one (a+1) (b+1) (by omega) (by omega) e;omega
 ·rw[hd a (by omega)]
  split
  ·exact g.pos a (by omega)
  ·split
   ·have:=hin (a+1) (by omega) (by omega)
    have:=g.pos i hi
    omega
   ·exact g.pos (a+1) (by omega)
 ·rw[hd 0 (by omega)]
  have f0:=g.first (by omega)
  split
  ·exact f0
  ·have:i=0:=by omega
   subst this
   have:=g.next 0 (by omega)
   have:=g.pos 1 (by omega)
   split
   ·have:=hin 1 (by omega) (by omega)
    simp only[Nat.zero_add] at *
    omega
   ·by_cases e1:E=1
    ·have:=hat (by omega)
     rw[e1] at this
     simp only[Nat.zero_add] at *
     omega
    ·omega
 ·rw[hd (a+1) (by omega),hd a (by omega)]
  by_cases c1:a+1<i
  ·rw[if_pos c1,if_pos (by omega)]
   exact g.next a (by omega)
  ·rw[if_neg c1]
   by_cases c2:a<i
   ·have:i=a+1:=by omega
    subst this
    rw[if_pos c2]
    have n1:=g.next a (by omega)
    have n2:=g.next (a+1) (by omega)
    split
    ·omega
    ·by_cases e1:E=a+1+1
     ·have:=hat (by omega)
      rw[e1] at this
      omega
     ·omega
   ·rw[if_neg c2]
    have n2:=g.next (a+1) (by omega)
    split
    ·rw[if_pos (by omega)]
     omega
    ·split
     ·have:a+1+1=E:=by omega
      have h1:=hat (by omega)
      have h2:=hin (a+1) (by omega) (by omega)
      rw[<- this] at h1
      omega
     ·exact n2
end
theorem Good.moved {S:St} (g:Good S) {b:Sl} (h:Jl S b=false) {i:Nat} (hi:i<S.length):Good (S.set i ⟨b,Zl S i⟩):=by
 have hl:(S.set i ⟨b,Zl S i⟩).length=S.length:=by simp
 have hd:∀ j,Zl (S.set i ⟨b,Zl S i⟩) j=Zl S j:=fun j=>by
  unfold Zl
  rw[FX]
  split
  ·rename_i hh
   rw[hh.1]
  ·rfl
 have hs:∀ j,VB (S.set i ⟨b,Zl S i⟩) j=if i=j then b else VB S j:=fun j=>by
  unfold VB
  rw[FX]
  by_cases e:i=j
  ·rw[if_pos ⟨e,hi⟩,if_pos e]
  ·rw[if_neg (fun hh=>e hh.1),if_neg e]
 refine⟨fun x y hx hy e=>?_,fun a ha=>?_,fun ha=>?_,fun a ha=>?_⟩
 ·rw[hs,hs] at e
  rw[hl] at hx hy
  split at e<;>split at e
  ·omega
  ·exact absurd e.symm (Xd h hy)
  ·exact absurd e (Xd h hx)
  ·exact g.one x y hx hy e
 ·rw[hd];exact g.pos a (by omega)
 ·rw[hd];exact g.first (by omega)
 ·rw[hd,hd];exact g.next a (by omega)
theorem Good.rootS {S:St} (g:Good S) (s:Sl):Good (rootS S s):=by
 unfold Proofs.YtbfjjpdnoalojaaGreatDoor.Tr.rootS
 cases h:Jl S s with
 | true=>simpa using g
 | false=>simpa using g.root h
theorem Good.addS {S:St} (g:Good S) (p s:Sl):Good (addS S p s):=by
 unfold Proofs.YtbfjjpdnoalojaaGreatDoor.Tr.addS
 split
 ·rename_i h
  exact g.put (by simpa using h.2) (MZ h.1).1
 ·exact g
theorem Good.takeS {S:St} (g:Good S) (s:Sl):Good (takeS S s):=by
 unfold Proofs.YtbfjjpdnoalojaaGreatDoor.Tr.takeS
 split
 ·rename_i h
  exact g.took (MZ h).1
 ·exact g
theorem Good.moveS {S:St} (g:Good S) (a b:Sl):Good (moveS S a b):=by
 unfold Proofs.YtbfjjpdnoalojaaGreatDoor.Tr.moveS
 split
 ·rename_i h
  exact g.moved (by simpa using h.2) (MZ h.1).1
 ·exact g
end Tr
namespace Un
def Jr (n:Int):Int:=2 ^ n.toNat - 1
def OC (x:Int):Int:=18446744073709551615 - x
def upN (v n:Nat):Nat:=(v+(2 ^ n - 1)) / 2 ^ n*2 ^ n
def upI (v n:Int):Int:=((upN v.toNat n.toNat:Nat):Int)
theorem ZW (n:Nat) (h:n<=64):2 ^ n<=18446744073709551616:=by
 have:=Nat.pow_le_pow_right (n:=2) (by omega) h
 simpa using this
theorem JJ (n:Nat):0<2 ^ n:=Nat.pow_pos (by omega)
theorem JU (n:Nat):Jr (n:Int)=((2 ^ n - 1:Nat):Int):=by
 have:=JJ n
 unfold Jr
 simp only[Int.toNat_natCast]
 rw[Int.natCast_sub (by omega)]
 simp
theorem Eg (n:Int) (h0:0<=n) (h1:n<=64):0<=Jr n/\Jr n<=18446744073709551615:=by
 obtain⟨m,rfl⟩:=Int.eq_ofNat_of_zero_le h0
 rw[JU]
 have:=ZW m (by omega)
 omega
theorem XZ (n:Int) (h0:0<=n) (h1:n<=64):IntKind.u64.wrap (IntKind.u64.wrap (2 ^ n.toNat) - 1)=Jr n:=by
 obtain⟨m,rfl⟩:=Int.eq_ofNat_of_zero_le h0
 rw[JU,IntKind.wrap_u64,IntKind.wrap_u64]
 have h:=ZW m (by omega)
 have h2:=JJ m
 have e:(2:Int) ^ (m:Int).toNat=((2 ^ m:Nat):Int):=by simp
 rw[e]
 omega
theorem ZJ (v i:Nat) (hv:v<18446744073709551616) (hi:64<=i):v.testBit i=false:=by
 apply Nat.testBit_lt_two_pow
 have:2 ^ 64<=2 ^ i:=Nat.pow_le_pow_right (by omega) hi
 omega
theorem MX (y i:Nat) (hy:y<18446744073709551616):(18446744073709551615 - y).testBit i=(decide (i<64) && !y.testBit i):=by
 have:=Nat.testBit_two_pow_sub_succ (x:=y) (n:=64) (by omega) i
 rw[<- this]
 congr 1
 omega
theorem Jbs (x:Int) (x0:0<=x) (x1:x<=18446744073709551615):bits .xor .u64 IntKind.u64.max x=OC x:=by
 obtain⟨X,rfl⟩:=Int.eq_ofNat_of_zero_le x0
 show IntKind.u64.wrap ((BitVec.ofInt 64 IntKind.u64.max ^^^ BitVec.ofInt 64 (X:Int)).toNat:Int)=_
 have h1:BitVec.ofInt 64 IntKind.u64.max=BitVec.allOnes 64:=by decide
 rw[h1,BitVec.allOnes_xor,BitVec.toNat_not,ofInt_u64 X (by omega),IntKind.wrap_u64]
 unfold OC
 omega
theorem Vc (v n:Nat) (hv:v<18446744073709551616) (h:n<=64):v &&& (18446744073709551615 - (2 ^ n - 1))=v / 2 ^ n*2 ^ n:=by
 apply Nat.eq_of_testBit_eq
 intro i
 have hp:=JJ n
 have hq:=ZW n h
 rw[Nat.testBit_and,MX _ _ (by omega),Nat.testBit_two_pow_sub_one,Nat.testBit_mul_two_pow,Nat.testBit_div_two_pow]
 by_cases h1:i<n
 ·have h2:¬ n<=i:=by omega
  simp[h1,h2]
 ·have h2:n<=i:=by omega
  have h3:i - n+n=i:=by omega
  by_cases h4:i<64
  ·simp[h1,h2,h3,h4]
  ·simp[h2,h3,ZJ v i hv (by omega)]
theorem Jq0 (v n:Int) (v0:0<=v) (n0:0<=n) (n1:n<=63) (hv:v<=OC (Jr n)):bits .andNot .u64 (v+Jr n) (Jr n)=upI v n:=by
 obtain⟨V,rfl⟩:=Int.eq_ofNat_of_zero_le v0
 obtain⟨M,rfl⟩:=Int.eq_ofNat_of_zero_le n0
 unfold OC at hv
 rw[JU] at hv ⊢
 have hp:=JJ M
 have hq:=ZW M (by omega)
 have e:((V:Int)+((2 ^ M - 1:Nat):Int))=((V+(2 ^ M - 1):Nat):Int):=by omega
 rw[e,u64_andNot_nat _ _ (by omega) (by omega),Vc _ _ (by omega) (by omega)]
 simp[upI,upN]
def JT (n:Int):Int:=2 ^ n.toNat
theorem UE (n:Nat):JT (n:Int)=((2 ^ n:Nat):Int):=by simp[JT]
theorem Jp4 (n:Int) (h0:0<=n) (h1:n<=63):1<=JT n/\JT n<=9223372036854775808:=by
 obtain⟨m,rfl⟩:=Int.eq_ofNat_of_zero_le h0
 rw[UE]
 have hp:=JJ m
 have hq:2 ^ m<=2 ^ 63:=Nat.pow_le_pow_right (by omega) (by omega)
 generalize 2 ^ m=p at *
 omega
theorem IZ (n:Int) (h0:0<=n) (h1:n<=20):1<=JT n/\JT n<=1048576:=by
 obtain⟨m,rfl⟩:=Int.eq_ofNat_of_zero_le h0
 rw[UE]
 have hp:=JJ m
 have hq:2 ^ m<=2 ^ 20:=Nat.pow_le_pow_right (by omega) (by omega)
 generalize 2 ^ m=p at *
 omega
theorem Ju6 (n:Int) (h0:2<=n) (h1:n<=20):4<=JT n:=by
 obtain⟨m,rfl⟩:=Int.eq_ofNat_of_zero_le (show 0<=n by omega)
 rw[UE]
 have hq:2 ^ 2<=2 ^ m:=Nat.pow_le_pow_right (by omega) (by omega)
 generalize 2 ^ m=p at *
 omega
theorem Jil (n:Int) (h0:0<=n) (h1:n<=63):IntKind.u64.wrap (2 ^ n.toNat)=JT n:=by
 have h:=Jp4 n h0 h1
 rw[IntKind.wrap_u64]
 show JT n % _=_
 omega
theorem FC (n:Int):Jr n=JT n - 1:=rfl
structure Un where
 base:Int
 bits:Int
 used:Int
def Un.zero:Un:=⟨0,0,0⟩
structure Un.Fits (u:Un):Prop where
 base:0<=u.base/\u.base<=18446744073709551615
 bits : -9223372036854775808<=u.bits/\u.bits<=9223372036854775807
 used:0<=u.used/\u.used<=18446744073709551615
theorem Jiv:Un.zero.Fits:=⟨by decide,by decide,by decide⟩
abbrev OU (u:Un):Prop:=(0<=u.bits/\u.bits<=20)/\u.base % JT u.bits=0/\u.base<=1099511627776/\u.used<=JT u.bits
def EG (u:Un):Int:=if OU u then 0 else 1
def Vo (k b:Int):Int:=if k=1 then (if 4<=b/\b<=20 then 0 else 1) else if k=2 then (if 1<=b/\b<=8 then 0 else 1) else if 3<=k/\k<=8 then 0 else 80
def ZB (k b:Int):Int:=if Vo k b≠0 then 0 else if k=1 then b else if k=2 then b+2 else if k=3 then 5 else if k=4\/k=5 then 2 else 6
theorem Jt7 {k b:Int} (h:Vo k b=0):2<=ZB k b/\ZB k b<=20:=by
 unfold ZB
 rw[if_neg (by simpa using h)]
 unfold Vo at h
 repeat' split at h
 all_goals (repeat' split)<;>omega
theorem Jmq {k b:Int} (h:Vo k b≠0):ZB k b=0:=by unfold ZB;rw[if_pos h]
def Xb (u:Un) (s:Int):Int:=upI (u.base+u.used) s
theorem Jp9 (v n:Int) (v0:0<=v) (n0:0<=n):upI v n % JT n=0:=by
 obtain⟨V,rfl⟩:=Int.eq_ofNat_of_zero_le v0
 obtain⟨M,rfl⟩:=Int.eq_ofNat_of_zero_le n0
 rw[UE]
 simp only[upI,upN,Int.toNat_natCast]
 have:=Nat.mul_mod_left ((V+(2 ^ M - 1)) / 2 ^ M) (2 ^ M)
 omega
theorem Ju8 (v n:Int) (v0:0<=v) (n0:0<=n):v<=upI v n/\upI v n - v<JT n:=by
 obtain⟨V,rfl⟩:=Int.eq_ofNat_of_zero_le v0
 obtain⟨M,rfl⟩:=Int.eq_ofNat_of_zero_le n0
 rw[UE]
 simp only[upI,upN,Int.toNat_natCast]
 have hp:=JJ M
 generalize 2 ^ M=p at *
 have hdm:=Nat.div_add_mod (V+(p - 1)) p
 have hml:=Nat.mod_lt (V+(p - 1)) hp
 rw[Nat.mul_comm] at hdm
 generalize(V+(p - 1)) / p*p=q at *
 omega
abbrev M9 (u:Un) (s n:Int):Prop:=Xb u s+n*JT s<=u.base+JT u.bits
def plE (u:Un) (k b n:Int):Int:=
 if ¬ OU u then 1 else if Vo k b≠0 then Vo k b else if ¬ (1<=n/\n<=64) then 1 else if M9 u (ZB k b) n then 0 else 81
def Ig (a s:Int) (n:Nat):List Int:=(List.range n).map fun (i:Nat)=>a+(i:Int)*s
def GF (u:Un) (k b n:Int):List Int:=if plE u k b n=0 then Ig (Xb u (ZB k b)) (JT (ZB k b)) n.toNat else []
def plU (u:Un) (k b n:Int):Un:=if plE u k b n=0 then ⟨u.base,u.bits,Xb u (ZB k b)+n*JT (ZB k b) - u.base⟩ else Un.zero
theorem Ek (a s:Int) (n:Nat):(Ig a s n).length=n:=by simp[Ig]
theorem Jh1 (a s:Int) (n:Nat):Ig a s (n+1)=Ig a s n++[a+(n:Int)*s]:=by simp[Ig,List.range_succ]
structure Found (u:Un) (k b n:Int):Prop where
 ok:OU u
 sz:Vo k b=0
 n0:1<=n/\n<=64
 room:M9 u (ZB k b) n
theorem XV (u:Un) (k b n:Int):plE u k b n=0↔Found u k b n:=by
 unfold plE
 constructor
 ·intro h
  by_cases h1:OU u
  ·rw[if_neg (not_not_intro h1)] at h
   by_cases h2:Vo k b=0
   ·rw[if_neg (by simpa using h2)] at h
    by_cases h3:1<=n/\n<=64
    ·rw[if_neg (by simpa using h3)] at h
     by_cases h4:M9 u (ZB k b) n
     ·exact⟨h1,h2,h3,h4⟩
     ·rw[if_neg h4] at h
      omega
    ·rw[if_pos h3] at h
     omega
   ·rw[if_pos h2] at h
    exact absurd h h2
  ·rw[if_pos h1] at h
   omega
 ·intro h
  rw[if_neg (not_not_intro h.ok),if_neg (by simpa using h.sz),if_neg (by simpa using h.n0),if_pos h.room]
structure Nums (u:Un) (s F S P:Int):Prop where
 bits:0<=u.bits/\u.bits<=20
 sz:2<=s/\s<=20
 P1:1<=P/\P<=1048576
 S1:4<=S/\S<=1048576
 base:u.base<=1099511627776
 used:u.used<=P
 mult:u.base % P=0
 F0:u.base+u.used<=F
 F1:F - (u.base+u.used)<S
 Fm:F % S=0
theorem nums {u:Un} (hf:u.Fits) (h:OU u) {k b:Int} (hs:Vo k b=0):Nums u (ZB k b) (Xb u (ZB k b)) (JT (ZB k b)) (JT u.bits):=by
 obtain⟨hb,hm,hB,hu⟩:=h
 have hz:=Jt7 hs
 generalize ZB k b=s at *
 have p:=IZ u.bits hb.1 hb.2
 have q:=IZ s (by omega) hz.2
 have q2:=Ju6 s hz.1 hz.2
 have g:=Ju8 (u.base+u.used) s (by have:=hf.base;have:=hf.used;omega) (by omega)
 have m:=Jp9 (u.base+u.used) s (by have:=hf.base;have:=hf.used;omega) (by omega)
 exact⟨hb,hz,p,⟨q2,q.2⟩,hB,hu,hm,g.1,g.2,m⟩
theorem Jbw {u:Un} (hf:u.Fits) {k b n:Int} (h:Found u k b n):OU (plU u k b n)/\(plU u k b n).Fits/\u.used<(plU u k b n).used:=by
 have e:plU u k b n=⟨u.base,u.bits,Xb u (ZB k b)+n*JT (ZB k b) - u.base⟩:=by unfold plU;rw[if_pos ((XV _ _ _ _).2 h)]
 rw[e]
 have N:=nums hf h.ok h.sz
 have hr:=h.room
 unfold M9 at hr
 have h1:=N.F0
 have h2:=N.S1
 have hb:=hf.base
 have hu:=hf.used
 have hn:JT (ZB k b)<=n*JT (ZB k b):=by
  have:=Int.mul_le_mul_of_nonneg_right h.n0.1 (show 0<=JT (ZB k b) by omega)
  omega
 generalize n*JT (ZB k b)=nS at *
 have hp:=N.P1
 refine⟨⟨N.bits,N.mult,N.base,?_⟩,⟨hb,hf.bits,?_⟩,?_⟩
 ·show _ - _<=JT u.bits
  omega
 ·show 0<=_ - _/\_ - _<=_
  have:=N.base
  omega
 ·show _<_ - _
  omega
end Un
end Go.Proofs.YtbfjjpdnoalojaaGreatDoor
