/- Below: KpCa KpNo KpIr KrMath KF1; no condition. -/
import Derived.Test.YtilnjnblpeeigaaGreatDoorPb4
namespace Go.Proofs.YtilnjnblpeeigaaGreatDoor
namespace Ca
abbrev Jc (x y:Int):Decidable (Whose x y):=by
 unfold Whose
 have h1:=decFine (readC x y)
 exact inferInstance
end Ca
namespace No
theorem J5 {a b:Int} (ha:U64 a) (hb:U64 b):orI a b=orI b a:=by rw[or_nat ha hb,or_nat hb ha,Nat.or_comm]
theorem J6 {a:Int} (ha:U64 a):orI a 0=a:=by
 rw[or_nat ha u64_zero]
 simp
 have:=ha.1
 omega
theorem Zb {a:Int} (ha:U64 a):orI 0 a=a:=by rw[J5 u64_zero ha,J6 ha]
theorem out_first {x:Int} {T:List Int} (h:(x::T).Nodup):outL (x::T) x=T:=by
 unfold outL
 have hx:=(List.nodup_cons.1 h).1
 rw[List.filter_cons,if_neg (by simp),List.filter_eq_self]
 intro y hy
 have:y≠x:=fun e=>hx (e ▸ hy)
 simpa using this
theorem Jk (x:Int) (m:Nat) (hm:m<=62):bits .and .i64 x ((2 ^ m - 1:Nat):Int)=x % ((2 ^ m:Nat):Int):=by
 have hp:=Nat.two_pow_pos m
 have hq:2 ^ m<=2 ^ 62:=Nat.pow_le_pow_right (by omega) hm
 show IntKind.i64.wrap ((BitVec.ofInt 64 x &&& BitVec.ofInt 64 ((2 ^ m - 1:Nat):Int)).toNat:Int)=_
 rw[BitVec.toNat_and,ofInt_u64 (2 ^ m - 1) (by omega),Nat.and_two_pow_sub_one_eq_mod,BitVec.toNat_ofInt]
 have e:(((x % ((2 ^ 64:Nat):Int)).toNat % 2 ^ m:Nat):Int)=x % ((2 ^ m:Nat):Int):=by
  rw[Int.natCast_emod,Int.toNat_of_nonneg (Int.emod_nonneg _ (by decide))]
  apply Int.emod_emod_of_dvd
  exact Int.natCast_dvd_natCast.2 (Nat.pow_dvd_pow 2 (by omega))
 rw[e]
 have h1:0<=x % ((2 ^ m:Nat):Int):=Int.emod_nonneg _ (by omega)
 have h2:x % ((2 ^ m:Nat):Int)<((2 ^ m:Nat):Int):=Int.emod_lt_of_pos _ (by omega)
 generalize x % ((2 ^ m:Nat):Int)=y at *
 generalize 2 ^ m=p at *
 have hy:y % (2:Int) ^ 64=y:=Int.emod_eq_of_lt h1 (by omega)
 simp only[IntKind.wrap,IntKind.bits,IntKind.signed,hy]
 rw[if_neg]
 simp
 omega
theorem Ji (x:Int) (m:Nat) (hm:m<=62):∃ p:Nat,p<2 ^ m/\bits .and .i64 x ((2 ^ m - 1:Nat):Int)=(p:Int):=by
 have hp:(0:Int)<((2 ^ m:Nat):Int):=by
  have:=Nat.two_pow_pos m
  omega
 have h0:0<=x % ((2 ^ m:Nat):Int):=Int.emod_nonneg _ (by omega)
 have h1:x % ((2 ^ m:Nat):Int)<((2 ^ m:Nat):Int):=Int.emod_lt_of_pos _ hp
 exact⟨(x % ((2 ^ m:Nat):Int)).toNat,by omega,by rw[Jk x m hm];omega⟩
theorem JA (x:Int):∃ p:Nat,p<65536/\bits .and .i64 x 65535=(p:Int):=Ji x 16 (by decide)
end No
namespace Ir
def Jd (x:Ln):Ln:=match x.s with
 | none=>x
 | some none=>⟨(some (some false)),x.a,x.g⟩
 | some (some false)=>⟨(some (some true)),x.a,x.g⟩
 | some (some true)=>x
theorem JJ {S:List Ln} {n:Int} (h:atI S n=none):n<0\/(0<=n/\(S.length:Int)<=n):=by
 unfold atI at h
 split at h
 ·rename_i h0
  have:=List.getElem?_eq_none_iff.1 h
  exact .inr ⟨h0,by omega⟩
 ·rename_i h0
  exact .inl (by omega)
theorem Jo (S:List Ln) (k:Nat):atI S (k:Int)=S[k]?:=by simp[atI]
end Ir
section
section
variable [dT:DecidableEq Tr.Sl] [dF:∀ c:Sl.Cp,Decidable (Sl.Fine c)] [dL:∀ k:Int,Decidable (Ca.Lim k)] [dC:∀ c:Ca.Cp,Decidable (Ca.Fine c)] [dM:∀ (c:Ca.Cp) (v:Int),Decidable (Ca.MintR c v)]
def Jb (K:Kr) (o:Int):Kr:={ K with l:=Ir.telS Ir.Jd K.l o }
def Zl (K:Kr) (n:Int):Int:=Ir.telE K.l n
def Jf (K:Kr) (n:Int):Kr:=if Ir.telB Ir.isO K.l n=true then sigK (Jb K n) (Ir.telA Ir.isO K.l n) (Ir.telG Ir.isO K.l n) else Jb K n
def Zm (K:Kr) (n:Int):Int:=if Ir.telB Ir.isO K.l n=true then sigN (Jb K n) (Ir.telA Ir.isO K.l n) else -1
end
end
section
open Go.RowKit Go.Deep Go.Shelf
theorem JS (ao:Option Addr) (n cap:Nat) (i:Int) (w:World):Calls Tryz.prog 42 #[.slice ao n cap,.int .i64 i] w fun x w'=>x=.returned (.bool (decide (0<=i) && decide (i<(n:Int))))/\w'=w:=by
 go_enter Tryz.func42,Tryz.ntmps42
 by_cases h:0<=i
 ·have h2:i ≥ 0:=h
  go_wp2
  go_ret
  exact⟨by simp[h],rfl⟩
 ·have h2:¬ i ≥ 0:=h
  go_wp2
  go_ret
  exact⟨by simp;omega,rfl⟩
end
end Go.Proofs.YtilnjnblpeeigaaGreatDoor
