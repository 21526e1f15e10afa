/- Below: GRow KpTh KpNo KpIr KrMath; no condition. -/
import Derived.Test.YtbfjjpdnoalojaaGreatDoorPa4
namespace Go.Proofs.YtbfjjpdnoalojaaGreatDoor
section
open Go.RowKit Go.Deep Go.Shelf
section
variable {w0:World} {r:Nat} {w w':World} {t t' u:Th} {R R':List Th}
theorem Sep.drewN (h:Sep w0 r w R) (n:Nat):Sep w0 r (w.drewN n) R:=h.below (JH (Below.refl _ _) n)
end
end
namespace Th
def J1e (h:Hs) (c:Int):Hs:=match Zu h c with|none=>h|some i=>if (thr h i).l=1 then XR h c else M0 h i { thr h i with l:=(thr h i).l - 1 }
theorem J1r {h:Hs} (v:Inv h) (c:Int):Inv (J1e h c):=by
 unfold J1e
 split
 ·exact v
 ·rename_i i hr
  obtain⟨x,_,_,hi,_⟩:=XF hr
  have ok:=JL v hi
  split
  ·exact Fq v c
  ·have:=ok.l
   exact Jfb v hi ⟨ok.p,ok.c,ok.s,by simp only;omega,ok.g,ok.w⟩ rfl rfl rfl
end Th
namespace No
theorem Jhr {x:Int} {T:List Int} (h:(x::T).Nodup):Jhq (x::T) x=T:=by
 unfold Jhq
 have hx:=(List.nodup_cons.1 h).1
 rw[List.filter_cons,if_neg (by simp),List.filter_eq_self]
 intro y hy
 have:y≠x:=fun e=>hx (e ▸ hy)
 simpa using this
end No
namespace Ir
def J1c (x:Ln):Ln:=match x.s with
 | none=>x
 | some none=>⟨(some (some false)),x.a,x.g⟩
 | some (some false)=>⟨(some (some true)),x.a,x.g⟩
 | some (some true)=>x
theorem J2x {S:List Ln} {n:Int} (h:atI S n=none):n<0\/(0<=n/\(S.length:Int)<=n):=by
 unfold atI at h
 split at h
 ·rename_i h0
  have:=List.getElem?_eq_none_iff.1 h
  exact .inr ⟨h0,by omega⟩
 ·rename_i h0
  exact .inl (by omega)
theorem J1n (S:List Ln) (k:Nat):atI S (k:Int)=S[k]?:=by simp[atI]
end Ir
section
section
variable [dT:DecidableEq Tr.Sl] [dF:∀ c:Sl.Cp,Decidable (Sl.Fine c)] [dL:∀ k:Int,Decidable (Ca.ZV k)] [dC:∀ c:Ca.Cp,Decidable (Ca.Fine c)] [dM:∀ (c:Ca.Cp) (v:Int),Decidable (Ca.JK c v)]
def J1b (K:Kr) (o:Int):Kr:={ K with l:=Ir.Jif Ir.J1c K.l o }
def J4j (K:Kr) (n:Int):Int:=Ir.J0i K.l n
def J1s (K:Kr) (n:Int):Kr:=if Ir.J05 Ir.isO K.l n=true then Jh4 (J1b K n) (Ir.J0h Ir.isO K.l n) (Ir.Jt8 Ir.isO K.l n) else J1b K n
def J4k (K:Kr) (n:Int):Int:=if Ir.J05 Ir.isO K.l n=true then Jh5 (J1b K n) (Ir.J0h Ir.isO K.l n) else -1
def J2c (K:Kr) (core:Int):Kr:={ K with h:=Th.J1e K.h core }
end
end
end Go.Proofs.YtbfjjpdnoalojaaGreatDoor
