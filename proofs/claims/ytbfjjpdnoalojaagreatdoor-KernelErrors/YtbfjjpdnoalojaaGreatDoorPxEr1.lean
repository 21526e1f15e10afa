/- Below: GRow KpTh KpNo KpIr KrMath KF1; no condition. -/
import Derived.Test.YtbfjjpdnoalojaaGreatDoorPa4
namespace Go.Proofs.YtbfjjpdnoalojaaGreatDoor
section
open Go.RowKit Go.Deep Go.Shelf
section
variable {w0:World} {r:Nat} {w w':World} {t t' u:Th} {R R':List Th}
theorem Sep.drewN (h:Sep w0 r w R) (n:Nat):Sep w0 r (w.drewN n) R:=h.below (JH (Below.refl _ _) n)
end
section
variable {α:Type} {E:El α} {w0 w w':World} {r:Nat} {R:List Th}
theorem Sep.made (h:Sep w0 r w R):Sep w0 r (w.alloc (.cells #[] E.e)) (Jv E (.slice (some ⟨w.heap.size,0,none⟩) 0 0) []::R):=
 h.new (t:=Jv E (.slice (some ⟨w.heap.size,0,none⟩) 0 0) []) (GE (World.ownsRow_made w #[] 0 (Jqd _) (by unfold maxLen;omega) (by simp))) (Jb _ _) fun x hx=>by
  have:some w.heap.size=some x:=hx
  cases this
  exact Jqd _
end
end
namespace Th
def J1g (h:Hs) (c:Int):Hs:=match Zu h c with|none=>h|some i=>if (thr h i).l=1 then XR h c else M0 h i { thr h i with l:=(thr h i).l - 1 }
theorem J11 {h:Hs} (v:Inv h) (c:Int):Inv (J1g h c):=by
 unfold J1g
 split
 ·exact v
 ·rename_i i hr
  obtain⟨x,_,_,hi,_⟩:=XF hr
  have ok:=JL v hi
  split
  ·exact Fq v c
  ·have:=ok.l
   exact Jfb v hi ⟨ok.p,ok.c,ok.s,by simp only;omega,ok.g,ok.w⟩ rfl rfl rfl
end Th
namespace No
theorem Jhr {x:Int} {T:List Int} (h:(x::T).Nodup):Jhq (x::T) x=T:=by
 unfold Jhq
 have hx:=(List.nodup_cons.1 h).1
 rw[List.filter_cons,if_neg (by simp),List.filter_eq_self]
 intro y hy
 have:y≠x:=fun e=>hx (e ▸ hy)
 simpa using this
end No
namespace Ir
def J1d (x:Ln):Ln:=match x.s with
 | none=>x
 | some none=>⟨(some (some false)),x.a,x.g⟩
 | some (some false)=>⟨(some (some true)),x.a,x.g⟩
 | some (some true)=>x
theorem J3j {S:List Ln} {n:Int} (h:atI S n=none):n<0\/(0<=n/\(S.length:Int)<=n):=by
 unfold atI at h
 split at h
 ·rename_i h0
  have:=List.getElem?_eq_none_iff.1 h
  exact .inr ⟨h0,by omega⟩
 ·rename_i h0
  exact .inl (by omega)
theorem J1w (S:List Ln) (k:Nat):atI S (k:Int)=S[k]?:=by simp[atI]
end Ir
section
section
variable [dT:DecidableEq Tr.Sl] [dF:∀ c:Sl.Cp,Decidable (Sl.Fine c)] [dL:∀ k:Int,Decidable (Ca.ZV k)] [dC:∀ c:Ca.Cp,Decidable (Ca.Fine c)] [dM:∀ (c:Ca.Cp) (v:Int),Decidable (Ca.JK c v)]
def J1c (K:Kr) (o:Int):Kr:={ K with l:=Ir.Jif Ir.J1d K.l o }
def J5d (K:Kr) (n:Int):Int:=Ir.J0i K.l n
def J12 (K:Kr) (n:Int):Kr:=if Ir.J05 Ir.isO K.l n=true then Jh4 (J1c K n) (Ir.J0h Ir.isO K.l n) (Ir.Jt8 Ir.isO K.l n) else J1c K n
def J5e (K:Kr) (n:Int):Int:=if Ir.J05 Ir.isO K.l n=true then Jh5 (J1c K n) (Ir.J0h Ir.isO K.l n) else -1
def J2u (K:Kr) (core:Int):Kr:={ K with h:=Th.J1g K.h core }
end
end
section
open Go.RowKit Go.Deep Go.Shelf
theorem J34 (ao:Option Addr) (n cap:Nat) (i:Int) (w:World):Calls Tryz.prog 117 #[.slice ao n cap,.int .i64 i] w fun x w'=>x=.returned (.bool (decide (0<=i) && decide (i<(n:Int))))/\w'=w:=by
 go_enter Tryz.func117,Tryz.ntmps117
 by_cases h:0<=i
 ·have h2:i ≥ 0:=h
  go_wp2
  go_ret
  exact⟨by simp[h],rfl⟩
 ·have h2:¬ i ≥ 0:=h
  go_wp2
  go_ret
  exact⟨by simp;omega,rfl⟩
theorem J14 (ao:Option Addr) (n cap:Nat) (i:Int) (w:World):Calls Tryz.prog 91 #[.slice ao n cap,.int .i64 i] w fun x w'=>x=.returned (.bool (decide (0<=i) && decide (i<(n:Int))))/\w'=w:=by
 go_enter Tryz.func91,Tryz.ntmps91
 by_cases h:0<=i
 ·have h2:i ≥ 0:=h
  go_wp2
  go_ret
  exact⟨by simp[h],rfl⟩
 ·have h2:¬ i ≥ 0:=h
  go_wp2
  go_ret
  exact⟨by simp;omega,rfl⟩
end
end Go.Proofs.YtbfjjpdnoalojaaGreatDoor
