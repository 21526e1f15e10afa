/- Below: GRow KpTr KpTh KpNo KpIr KrMath; no condition. -/
import Derived.Test.YtbfjjpdnoalojaaGreatDoorPa4
set_option linter.unusedSectionVars false
namespace Go.Proofs.YtbfjjpdnoalojaaGreatDoor
section
open Go.RowKit Go.Deep Go.Shelf
section
variable {w0:World} {r:Nat} {w w':World} {t t' u:Th} {R R':List Th}
theorem Sep.drewN (h:Sep w0 r w R) (n:Nat):Sep w0 r (w.drewN n) R:=h.below (JH (Below.refl _ _) n)
end
end
namespace Tr
variable [DecidableEq Sl]
theorem J43 (S:St) (s:Sl):pl S s<=S.length:=List.findIdx_le_length
theorem J5z {S:St} {s:Sl} {k:Nat} (hk:k<=S.length) (ha:∀ j,j<k->VB S j≠s) (h:k=S.length\/VB S k=s):pl S s=k:=by
 rcases Nat.lt_trichotomy (pl S s) k with hl|he|hg
 ·have hs:=MZ (S:=S) (s:=s) (by simp[Jl];omega)
  exact absurd hs.2 (ha _ hl)
 ·exact he
 ·rcases h with rfl|h
  ·have:=J43 S s
   omega
  ·have hkl:k<S.length:=by have:=J43 S s;omega
   have:=List.not_of_lt_findIdx (xs:=S) (p:=isP s) (i:=k) hg
   have e:Xo S k=S[k]:=MG (Jqc hkl)
   unfold VB at h
   rw[e] at h
   simp[isP,h] at this
theorem Good.pl {S:St} (h:Good S) {i:Nat} (hi:i<S.length):pl S (VB S i)=i:=
 J5z (by omega) (fun j hj e=>by have:=h.one j i (by omega) hi e;omega) (.inr rfl)
theorem Good.has {S:St} (_h:Good S) {i:Nat} (hi:i<S.length):Jl S (VB S i)=true:=(Jax S _).2 ⟨i,hi,rfl⟩
theorem J2w {S:St} {i k:Nat} (hi:i<S.length) (h1:i<k) (hk:k<=S.length) (ha:∀ m,i<m->m<k->Zl S i<Zl S m) (h:k=S.length\/Zl S k<=Zl S i):U7 S i=k:=by
 have:=UK hi
 rcases Nat.lt_trichotomy (U7 S i) k with hl|he|hg
 ·have h1:=Jnw hi (by omega)
  have h2:=ha _ this.2 hl
  omega
 ·exact he
 ·rcases h with rfl|h
  ·omega
  ·have:=Jnx hi h1 hg
   omega
end Tr
namespace Th
def J1f (h:Hs) (c:Int):Hs:=match Zu h c with|none=>h|some i=>if (thr h i).l=1 then XR h c else M0 h i { thr h i with l:=(thr h i).l - 1 }
theorem J17 {h:Hs} (v:Inv h) (c:Int):Inv (J1f h c):=by
 unfold J1f
 split
 ·exact v
 ·rename_i i hr
  obtain⟨x,_,_,hi,_⟩:=XF hr
  have ok:=JL v hi
  split
  ·exact Fq v c
  ·have:=ok.l
   exact Jfb v hi ⟨ok.p,ok.c,ok.s,by simp only;omega,ok.g,ok.w⟩ rfl rfl rfl
end Th
namespace No
theorem Jhr {x:Int} {T:List Int} (h:(x::T).Nodup):Jhq (x::T) x=T:=by
 unfold Jhq
 have hx:=(List.nodup_cons.1 h).1
 rw[List.filter_cons,if_neg (by simp),List.filter_eq_self]
 intro y hy
 have:y≠x:=fun e=>hx (e ▸ hy)
 simpa using this
end No
namespace Ir
def J1d (x:Ln):Ln:=match x.s with
 | none=>x
 | some none=>⟨(some (some false)),x.a,x.g⟩
 | some (some false)=>⟨(some (some true)),x.a,x.g⟩
 | some (some true)=>x
theorem J3s {S:List Ln} {n:Int} (h:atI S n=none):n<0\/(0<=n/\(S.length:Int)<=n):=by
 unfold atI at h
 split at h
 ·rename_i h0
  have:=List.getElem?_eq_none_iff.1 h
  exact .inr ⟨h0,by omega⟩
 ·rename_i h0
  exact .inl (by omega)
theorem J11 (S:List Ln) (k:Nat):atI S (k:Int)=S[k]?:=by simp[atI]
end Ir
section
section
variable [dT:DecidableEq Tr.Sl] [dF:∀ c:Sl.Cp,Decidable (Sl.Fine c)] [dL:∀ k:Int,Decidable (Ca.ZV k)] [dC:∀ c:Ca.Cp,Decidable (Ca.Fine c)] [dM:∀ (c:Ca.Cp) (v:Int),Decidable (Ca.JK c v)]
def J1c (K:Kr) (o:Int):Kr:={ K with l:=Ir.Jif Ir.J1d K.l o }
def J5h (K:Kr) (n:Int):Int:=Ir.J0i K.l n
def J18 (K:Kr) (n:Int):Kr:=if Ir.J05 Ir.isO K.l n=true then Jh4 (J1c K n) (Ir.J0h Ir.isO K.l n) (Ir.Jt8 Ir.isO K.l n) else J1c K n
def J5i (K:Kr) (n:Int):Int:=if Ir.J05 Ir.isO K.l n=true then Jh5 (J1c K n) (Ir.J0h Ir.isO K.l n) else -1
def J22 (K:Kr) (core:Int):Kr:={ K with h:=Th.J1f K.h core }
end
end
end Go.Proofs.YtbfjjpdnoalojaaGreatDoor
