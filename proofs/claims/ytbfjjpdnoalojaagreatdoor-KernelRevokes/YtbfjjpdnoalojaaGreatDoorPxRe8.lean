/- Below: KT KL KG KrTree KrInv KrCall KM KJ1 KF6 KI6 KJ2 KrErr KrRevoke KrFull KrBr KH2 KH1 KH3; no condition. -/
import Derived.Test.YtbfjjpdnoalojaaGreatDoorPa26
import Derived.Test.YtbfjjpdnoalojaaGreatDoorPa30
import Derived.Test.YtbfjjpdnoalojaaGreatDoorPxRe2
import Derived.Test.YtbfjjpdnoalojaaGreatDoorPxRe3
import Derived.Test.YtbfjjpdnoalojaaGreatDoorPxRe4
import Derived.Test.YtbfjjpdnoalojaaGreatDoorPxRe5
import Derived.Test.YtbfjjpdnoalojaaGreatDoorPxRe6
import Derived.Test.YtbfjjpdnoalojaaGreatDoorPxRe7
set_option maxHeartbeats 16000000
set_option maxRecDepth 100000
set_option linter.unusedSectionVars false
namespace Go.Proofs.YtbfjjpdnoalojaaGreatDoor
section
open Go.RowKit Go.Deep Go.Shelf
open Classical
section
variable {w0 w w':World} {r p:Nat} {Y:Ly} {K:Kr} {R:List Th}
theorem Sep.k3 (s:Sep w0 r w (kT p Y K::R)):w.cell? ⟨p,3,none⟩=some (Je Y.l):=by simp[World.cell?,s.obj,Xr]
theorem Sep.kL (s:Sep w0 r w (kT p Y K::R)):∃ Q,Sep w0 r w (Ir.lnT Y.l Y.lv K.l::Q)/\∀ w' v' S' E,Sep w0 r w' (Ir.lnT Y.l v' S'::(E++Q))->Sep w0 r w' (kT p { Y with lv:=v' } { K with l:=S' }::(E++R)):=
 ⟨_,Sep.into (A:=[blk p (Xr Y K.fr K.tb),nT Y.n Y.F K.S,eT Y.t Y.tv K.E,Th.tT Y.h Y.hF K.h]) s,fun _ v' S' _ h=>Sep.back (A:=[blk p (Xr Y K.fr K.tb),nT Y.n Y.F K.S,eT Y.t Y.tv K.E,Th.tT Y.h Y.hF K.h]) (P':=FT { Y with lv:=v' } { K with l:=S' }) s.fact h⟩
theorem J50 (s:Sep w0 r w (kT p Y K::R)) (x y:Sl.Sl) (hx:x.Fits) (hy:y.Fits) :
  Calls Tryz.prog 226 #[Je Y.n,Sl.Jh x,Sl.Jh y] w fun e w'=>e=.returned (.int .i64 (Sl.AZ K.S x y))/\Sep w0 r w' (kT p Y { K with S:=Sl.moveS K.S x y }::R):=by
 obtain⟨Q,s1,bk⟩:=s.kN
 obtain⟨L,hin,out⟩:=s1.inSl
 haveI:Inhabited Sl.Sl:=⟨⟨0,0⟩⟩
 haveI:Inhabited Sl.Cp:=⟨Sl.no⟩
 refine Jqa (Sl.J36 x y _ _ hin hx hy rfl rfl) ?_
 rintro e w' ⟨rfl,h⟩
 exact⟨rfl,bk w' _ _ [] (out _ _ _ h)⟩
theorem J5u (s:Sep w0 r w (kT p Y K::R)) (a b:Tr.Sl) (hl:K.E.length<=1000) :
  Calls Tryz.prog 227 #[Je Y.t,Tr.Jh a,Tr.Jh b] w fun e w'=>e=.returned (.int .i64 (Tr.AZ K.E a b))/\∃ xx,Sep w0 r w' (kT p { Y with tv:=xx } { K with E:=Tr.moveS K.E a b }::R):=by
 obtain⟨Q,s1,bk⟩:=s.kE
 refine Jqa (Tr.J37 a b s1 hl) ?_
 rintro e w' ⟨rfl,v',h⟩
 exact⟨rfl,_,bk w' _ _ [] h⟩
theorem J4u (s:Sep w0 r w (kT p Y K::R)) (ht:∀ u,Below r w0 u->Th.Tab u) (a:Int):Calls Tryz.prog 74 #[Je Y.h,.int .i64 a] w fun e w'=>e=.returned (.bool (Th.Xm K.h a))/\∃ xx,Sep w0 r w' (kT p { Y with hF:=xx } { K with h:=Th.J1f K.h a }::R):=by
 obtain⟨Q,s1,bk⟩:=s.kH
 refine Jqa (Th.J4f s1 ht a) ?_
 rintro e w' ⟨rfl,F',h⟩
 exact⟨rfl,_,bk w' _ _ [] h⟩
theorem J5j (s:Sep w0 r w (kT p Y K::R)) (n a g:Int):Calls Tryz.prog 242 #[Je Y.l,.int .i64 n,.int .i64 a,.int .u64 g] w fun e w'=>e=.returned (.int .i64 (Ir.Jw3 K.l n a))/\Sep w0 r w' (kT p Y { K with l:=Ir.Jev K.l n a g }::R):=by
 obtain⟨Q,s1,bk⟩:=s.kL
 refine Jqa (Ir.J4o s1 n a g rfl rfl) ?_
 rintro e w' ⟨rfl,h⟩
 exact⟨rfl,bk w' _ _ [] h⟩
theorem J19 (s:Sep w0 r w (kT p Y K::R)) (n:Int):Calls Tryz.prog 71 #[Je Y.l,.int .i64 n] w fun e w'=>e=.returned (.tuple #[.int .i64 (Ir.J0h Ir.isO K.l n),.int .u64 (Ir.Jt8 Ir.isO K.l n),.bool (Ir.J05 Ir.isO K.l n),.int .i64 (Ir.J0i K.l n)])/\Sep w0 r w' (kT p Y { K with l:=Ir.Jif Ir.J1d K.l n }::R):=by
 obtain⟨Q,s1,bk⟩:=s.kL
 refine Jqa (Ir.J38 s1 n rfl rfl rfl rfl rfl) ?_
 rintro e w' ⟨rfl,h⟩
 exact⟨rfl,bk w' _ _ [] h⟩
theorem J34 (s:Sep w0 r w (kT p Y K::R)) (n:Int):Calls Tryz.prog 243 #[Je Y.l,.int .i64 n] w fun e w'=>e=.returned (.tuple #[.int .i64 (Ir.J0h Ir.isM K.l n),.int .u64 (Ir.Jt8 Ir.isM K.l n),.bool (Ir.J05 Ir.isM K.l n),.int .i64 (Ir.J0i K.l n)])/\Sep w0 r w' (kT p Y { K with l:=Ir.Jif Ir.Jiz K.l n }::R):=by
 obtain⟨Q,s1,bk⟩:=s.kL
 refine Jqa (Ir.J46 s1 n rfl rfl rfl rfl rfl) ?_
 rintro e w' ⟨rfl,h⟩
 exact⟨rfl,bk w' _ _ [] h⟩
theorem Sep.zTh {q:Nat} (s:Sep w0 r w R) (h:blk q (.cells #[.int .i64 0,.int .i64 0,.int .i64 0,.int .i64 0,.int .u64 0,.int .u64 0,.int .u64 0,.int .u64 0,.int .u64 0,.int .u64 0,.int .u64 0,.int .u64 0] 132)∈R):(∀ j,w.frozen? ⟨q,j,none⟩=false)/\w.cell? ⟨q,0,none⟩=some (.int .i64 0)/\w.cell? ⟨q,1,none⟩=some (.int .i64 0)/\w.cell? ⟨q,2,none⟩=some (.int .i64 0)/\w.cell? ⟨q,3,none⟩=some (.int .i64 0)/\w.cell? ⟨q,4,none⟩=some (.int .u64 0)/\w.cell? ⟨q,5,none⟩=some (.int .u64 0)/\w.cell? ⟨q,6,none⟩=some (.int .u64 0)/\w.cell? ⟨q,7,none⟩=some (.int .u64 0)/\w.cell? ⟨q,8,none⟩=some (.int .u64 0)/\w.cell? ⟨q,9,none⟩=some (.int .u64 0)/\w.cell? ⟨q,10,none⟩=some (.int .u64 0)/\w.cell? ⟨q,11,none⟩=some (.int .u64 0):=
 ⟨fun j=>(s.blkCell h j).2,(s.blkCell h 0).1,(s.blkCell h 1).1,(s.blkCell h 2).1,(s.blkCell h 3).1,(s.blkCell h 4).1,(s.blkCell h 5).1,(s.blkCell h 6).1,(s.blkCell h 7).1,(s.blkCell h 8).1,(s.blkCell h 9).1,(s.blkCell h 10).1,(s.blkCell h 11).1⟩
theorem Sep.putTh {q:Nat} (s:Sep w0 r w (blk q (.cells #[.int .i64 0,.int .i64 0,.int .i64 0,.int .i64 0,.int .u64 0,.int .u64 0,.int .u64 0,.int .u64 0,.int .u64 0,.int .u64 0,.int .u64 0,.int .u64 0] 132)::R)) (x:Th.Td):Sep w0 r ((((((((((((w.setCell ⟨q,0,none⟩ (.int .i64 x.st)).setCell ⟨q,1,none⟩ (.int .i64 x.p)).setCell ⟨q,2,none⟩ (.int .i64 x.c)).setCell ⟨q,3,none⟩ (.int .i64 x.l)).setCell ⟨q,4,none⟩ (.int .u64 (Th.rg x 0))).setCell ⟨q,5,none⟩ (.int .u64 (Th.rg x 1))).setCell ⟨q,6,none⟩ (.int .u64 (Th.rg x 2))).setCell ⟨q,7,none⟩ (.int .u64 (Th.rg x 3))).setCell ⟨q,8,none⟩ (.int .u64 (Th.rg x 4))).setCell ⟨q,9,none⟩ (.int .u64 (Th.rg x 5))).setCell ⟨q,10,none⟩ (.int .u64 (Th.rg x 6))).setCell ⟨q,11,none⟩ (.int .u64 (Th.rg x 7))) (blk q (.cells #[.int .i64 x.st,.int .i64 x.p,.int .i64 x.c,.int .i64 x.l,.int .u64 (Th.rg x 0),.int .u64 (Th.rg x 1),.int .u64 (Th.rg x 2),.int .u64 (Th.rg x 3),.int .u64 (Th.rg x 4),.int .u64 (Th.rg x 5),.int .u64 (Th.rg x 6),.int .u64 (Th.rg x 7)] 132)::R):=by
 have:=(((((((((((s.putB 0 (.int .i64 x.st)).putB 1 (.int .i64 x.p)).putB 2 (.int .i64 x.c)).putB 3 (.int .i64 x.l)).putB 4 (.int .u64 (Th.rg x 0))).putB 5 (.int .u64 (Th.rg x 1))).putB 6 (.int .u64 (Th.rg x 2))).putB 7 (.int .u64 (Th.rg x 3))).putB 8 (.int .u64 (Th.rg x 4))).putB 9 (.int .u64 (Th.rg x 5))).putB 10 (.int .u64 (Th.rg x 6))).putB 11 (.int .u64 (Th.rg x 7))
 simpa using this
theorem Sep.zPg {q:Nat} (s:Sep w0 r w R) (h:blk q (.cells #[.int .i64 0,.int .i64 0] 182)∈R):(∀ j,w.frozen? ⟨q,j,none⟩=false)/\w.cell? ⟨q,0,none⟩=some (.int .i64 0)/\w.cell? ⟨q,1,none⟩=some (.int .i64 0):=
 ⟨fun j=>(s.blkCell h j).2,(s.blkCell h 0).1,(s.blkCell h 1).1⟩
theorem Sep.putPg {q:Nat} (s:Sep w0 r w (blk q (.cells #[.int .i64 0,.int .i64 0] 182)::R)) (x:Ta.Pg):Sep w0 r ((w.setCell ⟨q,0,none⟩ (.int .i64 x.fr)).setCell ⟨q,1,none⟩ (.int .i64 x.rt)) (blk q (.cells #[.int .i64 x.fr,.int .i64 x.rt] 182)::R):=by
 have:=(s.putB 0 (.int .i64 x.fr)).putB 1 (.int .i64 x.rt)
 simpa using this
end
end
section
section
variable [dCp:DecidableEq Sl.Cp] [dLim:∀ k,Decidable (Sl.ZV k)] [dBad:∀ k,Decidable (Sl.Xn k)] [dFit:∀ g z,Decidable (Sl.Fit g z)] [dF:∀ c:Sl.Cp,Decidable (Sl.Fine c)] [dMi:∀ c v,Decidable (Sl.JK c v)] [dWho:∀ x y,Decidable (Sl.Zx x y)] [dSl:DecidableEq Sl.Sl] [dLt:∀ a b,Decidable (Sl.MC a b)]
variable [dT:DecidableEq Tr.Sl]
theorem J5o {s:Sl.Sl} (h:s.n=0):s=sl s.i:=by
 obtain⟨a,b⟩:=s
 simp only at h
 subst h
 rfl
end
theorem J4e (h:Th.Hs) (c:Int):SameL h (Th.J1f h c):=by
 unfold Th.J1f
 split
 ·exact SameL.refl h
 ·split
  ·exact Jis _ _
  ·exact Jl9 _ _ _
section
variable [dCp:DecidableEq Sl.Cp] [dLim:∀ k,Decidable (Sl.ZV k)] [dBad:∀ k,Decidable (Sl.Xn k)] [dFit:∀ g z,Decidable (Sl.Fit g z)] [dF:∀ c:Sl.Cp,Decidable (Sl.Fine c)] [dMi:∀ c v,Decidable (Sl.JK c v)] [dWho:∀ x y,Decidable (Sl.Zx x y)] [dSl:DecidableEq Sl.Sl] [dLt:∀ a b,Decidable (Sl.MC a b)]
variable [dT:DecidableEq Tr.Sl] [dL:∀ k:Int,Decidable (Ca.ZV k)] [dC:∀ c:Ca.Cp,Decidable (Ca.Fine c)] [dM:∀ (c:Ca.Cp) (v:Int),Decidable (Ca.JK c v)] [dCc:DecidableEq Ca.Cp] [dCb:∀ k,Decidable (Ca.Xn k)] [dCf:∀ g z,Decidable (Ca.Fit g z)] [dCw:∀ x y,Decidable (Ca.Zx x y)]
variable {n m:Nat} {K:Kr}
theorem J39 (x:Ir.Ln):(Ir.J1d x).a=x.a/\(Ir.J1d x).g=x.g/\((Ir.J1d x).s≠none->x.s≠none):=by
 obtain⟨s,a,g⟩:=x
 rcases s with _|_|_|_<;>exact⟨rfl,rfl,fun h=>(by first|exact h|(intro e;cases e))⟩
theorem J1o (x:Ir.Ln) (h:Ir.isO x=true):x.s≠none:=by
 intro e
 unfold Ir.isO at h
 rw[e] at h
 cases h
theorem Iv.irq (v:Iv n m K) (o:Int):Iv n m (J18 K o):=by
 have v1:Iv n m (J1c K o):=v.lines (l:=Ir.Jif Ir.J1d K.l o) ((Ir.Jp0 _ _ _).trans v.ll) (Jt9 v J39 o)
 unfold J18
 split
 ·exact v1.sig _ (Jpz v J1o o)
 ·exact v1
theorem Iv.tick (v:Iv n m K) (core:Int):Iv n m (J22 K core):=v.thr (Th.J17 v.th core) (J4e _ _)
end
end
section
open Go.RowKit Go.Deep Go.Shelf
open Classical
section
variable {w0 w w':World} {r p:Nat} {Y:Ly} {K:Kr} {R:List Th}
theorem Sep.ntIn (s:Sep w0 r w (kT p Y K::R)) {i q:Nat} {v:Value} {S:No.Ns} (hi:K.N[i]? = some S) (hy:Y.N[i]? = some (q,v)) :
  ∃ Q,Sep w0 r w (No.Ed q v S::Q)/\∀ w' v' T E,Sep w0 r w' (No.Ed q v' T::(E++Q))->Sep w0 r w' (kT p { Y with N:=Y.N.set i (q,v') } { K with N:=K.N.set i T }::(E++R)):=by
 obtain⟨q',v',Q,h1,h2,h3⟩:=s.ntOf hi
 rw[hy] at h1
 cases h1
 exact⟨Q,h2,h3⟩
theorem Sep.ntWay {Y':Ly} (s:Sep w0 r w (kT p Y' K::R)) {g z cap i q:Nat} {v:Value} (hv:Y'.nv=.slice (some ⟨g,0,none⟩) z cap) (hi:Y'.N[i]? = some (q,v)):w.cell? ⟨g,i,none⟩=some (Je q):=by
 obtain⟨ao,cap',e,-,h⟩:=s.ntPtr
 rw[hv] at e
 simp only[Value.slice.injEq] at e
 obtain⟨rfl,-,-⟩:=e
 obtain⟨g',e2,h5⟩:=h i q v hi
 cases e2
 exact h5
theorem J2m {L:List (Nat×Value)} {i q:Nat} {v:Value} (h:L[i]? = some (q,v)) (v':Value):(L.set i (q,v'))[i]? = some (q,v'):=by
 rw[List.getElem?_set_self (List.getElem?_eq_some_iff.1 h).1]
theorem Sep.spWay {Y':Ly} (s:Sep w0 r w (kT p Y' K::R)) {g z cap i q:Nat} {v:(Nat->Option Nat)} (hv:Y'.dv=.slice (some ⟨g,0,none⟩) z cap) (hi:Y'.D[i]? = some (q,v)):w.cell? ⟨g,i,none⟩=some (Je q):=by
 obtain⟨ao,cap',e,-,h⟩:=s.spPtr
 rw[hv] at e
 simp only[Value.slice.injEq] at e
 obtain⟨rfl,-,-⟩:=e
 obtain⟨g',e2,h5⟩:=h i q v hi
 cases e2
 exact h5
theorem J2i (s:Sep w0 r w (kT p Y K::R)) {i q:Nat} {v:Value} {S:No.Ns} (hi:K.N[i]? = some S) (hy:Y.N[i]? = some (q,v)) (n:Int) (z:Bool) (hl:S.l.length<=1000) :
  Calls Tryz.prog 237 #[Je q,.int .i64 n,.bool z] w fun e w'=>e=.returned (.tuple #[.int .u64 (No.J0o S n),.bool (No.J0n S n),.int .i64 (No.Jq8 S n)])/\∃ v',Sep w0 r w' (kT p { Y with N:=Y.N.set i (q,v') } { K with N:=K.N.set i (No.J6b S n z) }::R):=by
 obtain⟨Q,s1,bk⟩:=s.ntIn hi hy
 refine Jqa (No.J41 s1 n z hl rfl rfl rfl rfl) ?_
 rintro e w' ⟨rfl,v',h⟩
 exact⟨rfl,_,bk w' _ _ [] h⟩
theorem J5v (s:Sep w0 r w (kT p Y K::R)) {i q:Nat} {v:(Nat->Option Nat)} {S:Ta.Sp} (hi:K.D[i]? = some S) (hy:Y.D[i]? = some (q,v)) (a n:Int) :
  Calls Tryz.prog 239 #[Je q,.int .i64 a,.int .i64 n] w fun e w'=>e=.returned (.int .i64 (Ta.IS S a n))/\∃ v',Sep w0 r w' (kT p { Y with D:=Y.D.set i (q,v') } { K with D:=K.D.set i (Ta.IT S a n) }::R):=by
 obtain⟨Q,s1,bk⟩:=s.spIn hi hy
 refine Jqa (Ta.J5p s1 a n rfl rfl) ?_
 rintro e w' ⟨rfl,v',h⟩
 exact⟨rfl,_,bk w' _ _ [] h⟩
theorem J5t (s:Sep w0 r w (kT p Y K::R)) {i q:Nat} {v:(Nat->Option Nat)} {S:Ta.Sp} (hi:K.D[i]? = some S) (hy:Y.D[i]? = some (q,v)) (n a c:Int) :
  Calls Tryz.prog 240 #[Je q,.int .i64 n,.agg #[.int .i64 a,.int .i64 c]] w fun e w'=>e=.returned (.int .i64 (Ta.Jow S n ⟨a,c⟩))/\∃ v',Sep w0 r w' (kT p { Y with D:=Y.D.set i (q,v') } { K with D:=K.D.set i (Ta.Jtq S n ⟨a,c⟩) }::R):=by
 obtain⟨Q,s1,bk⟩:=s.spIn hi hy
 refine Jqa (Ta.J5y s1 n a c rfl rfl) ?_
 rintro e w' ⟨rfl,h⟩
 exact⟨rfl,_,bk w' _ _ [] h⟩
theorem J3r (s:Sep w0 r w (kT p Y K::R)) (ht:∀ u,Below r w0 u->Th.Tab u) (i:Int) :
  Calls Tryz.prog 18 #[Je p,.int .i64 i] w fun e w'=>e=.returned (.bool (Th.Xm K.h i))/\KS w0 r w' p (J22 K i) R:=by
 have c:=s.k2
 have HC:=Ja (J4u s ht i)
 clear s
 go_enter Tryz.func18,Tryz.ntmps18
 go_wp2_with (go_at_call 74;refine Jqa HC.out ?_;rintro e w3 ⟨rfl,x3,s3⟩)
 go_ret
 exact⟨rfl,_,s3⟩
theorem J5l {n:Int} {i:Nat} (hn:n=(i:Int)) {S:No.Ns} (hi:K.N[i]? = some S):ntN K n=S/\∀ T,setN K n T={ K with N:=K.N.set i T }:=by
 subst hn
 unfold ntN setN
 rw[Int.toNat_natCast,List.getD_eq_getElem?_getD,hi]
 exact⟨rfl,fun T=>rfl⟩
theorem J1h (s:Sep w0 r w (kT p Y K::R)) (hf:Few K) {n g:Int} (h0:0<=n) (h1:n<(K.N.length:Int)) (hg:0<=g/\g<=18446744073709551615) (hsg:0<=No.Jt5 (ntN K n) g/\No.Jt5 (ntN K n) g<=18446744073709551615) :
  Calls Tryz.prog 170 #[Je p,.int .i64 n,.int .u64 g] w fun e w'=>e=.returned (.int .i64 (Jh5 K n))/\KS w0 r w' p (Jh4 K n g) R:=by
 obtain⟨i,rfl⟩:=Jqg h0
 have hil:i<K.N.length:=by omega
 obtain⟨S,hS⟩:∃ S,K.N[i]? = some S:=⟨_,Jqc hil⟩
 obtain⟨eS,eT⟩:=J5l (K:=K) rfl hS
 rw[eS] at hsg
 have c6:=s.k6
 obtain⟨ao,cap,hnv,hzm,-⟩:=s.ntPtr
 rw[hnv] at c6
 obtain⟨gg,q,v,Q,rfl,cq,s3,bk⟩:=s.ntAt hnv hS
 have hil2:(i:Int)<(K.N.length:Int):=h1
 have hl:=hf.2 S (Jqi hS)
 generalize hT:No.Jmh S g=T
 generalize ha:No.Jh5 S=a
 generalize hx:No.Jt5 S g=x at hsg
 have BK:=Ja bk
 have HG:=Ja hsg
 have HX:Hid (∀ y∈[x],0<=y/\y<=18446744073709551615):=fun y hy=>by
  obtain rfl:y=x:=by simpa using hy
  exact hsg
 have H6:=Ja c6
 have HQ:Hid (Jh5 K (i:Int)=(if No.Jt4 S=true then a else -1)/\Jh4 K (i:Int) g=if No.Jt4 S=true then { K with N:=K.N.set i T,h:=Th.JR (Th.My K.h a 0 x) a } else { K with N:=K.N.set i T }):=by
  refine⟨?_,?_⟩
  ·unfold Jh5
   rw[eS,ha]
  ·unfold Jh4
   rw[eS,eT,hT,ha,hx]
 clear s bk hnv hf hS eS eT h1 h0 hil c6
 generalize K.N.length=z at *
 by_cases hb:No.Jt4 S=true
 ·have HC:=Ja (No.J1z s3 g hg hl ha hx hb hT)
  have HQ2:=Ja (HQ.out)
  rw[if_pos hb,if_pos hb] at HQ2
  clear HQ s3 hT ha hx hb hg hl
  have c6:=H6.out
  go_enter Tryz.func170,Tryz.ntmps170
  go_wp2_with (first
   | (go_at_call 262;refine Jqa HC.out ?_;rintro e w3 ⟨rfl,v',h3⟩;have S3:=Ja ((BK.out w3 v' _ [] h3).box (.cells #[.int .u64 x] 39));have S4:=Ja (Sep.lit (E:=elW) okW (BK.out w3 v' _ [] h3) [x] (by simp) #[.int .u64 x] rfl).swap;clear h3 c6 cq)
   | (go_at_call 263;refine Jqa (Jir S4.out HX.out (by simp) a) ?_;rintro e w5 ⟨rfl,Y5,s5⟩;have S5:=Ja s5;clear s5)
   | (go_at_call 264;refine Jqa (Jm9 S5.out a) ?_;rintro e w6 ⟨rfl,s6⟩;have S6:=Ja s6;clear s6)
   | fail)
  go_ret
  rw[HQ2.out.1,HQ2.out.2]
  exact⟨rfl,S6.out⟩
 ·have hb2:No.Jt4 S=false:=by simpa using hb
  have HC:=Ja (No.J1z s3 g hg hl ha hx hb2 hT)
  have HQ2:=Ja (HQ.out)
  rw[if_neg hb,if_neg hb] at HQ2
  clear HQ s3 hT ha hx hb hb2 hg hl
  have c6:=H6.out
  go_enter Tryz.func170,Tryz.ntmps170
  go_wp2_with (first
   | (go_at_call 262;refine Jqa HC.out ?_;rintro e w3 ⟨rfl,v',h3⟩;have S3:=Ja (BK.out w3 v' _ [] h3);clear h3 c6 cq)
   | fail)
  go_ret
  rw[HQ2.out.1,HQ2.out.2]
  exact⟨rfl,_,S3.out⟩
theorem J2b (s:Sep w0 r w (kT p Y K::R)) (hf:Few K) {n g:Int} (e:Int) (h0:0<=n) (h1:n<(K.N.length:Int)) (hg:0<=g/\g<=18446744073709551615) (hsg:0<=No.Jt5 (ntN K n) g/\No.Jt5 (ntN K n) g<=18446744073709551615) :
  Calls Tryz.prog 70 #[Je p,.int .i64 n,.int .u64 g,.bool true,.int .i64 e] w fun x w'=>x=.returned (.tuple #[.int .i64 (Jh5 K n),.int .i64 e])/\KS w0 r w' p (Jh4 K n g) R:=by
 have HC:=Ja (J1h s hf h0 h1 hg hsg)
 clear s hf h0 h1 hg hsg
 generalize Jh5 K n=a at *
 generalize Jh4 K n g=T at *
 go_enter Tryz.func70,Tryz.ntmps70
 go_wp2_with (go_at_call 170;refine Jqa HC.out ?_;rintro e w3 ⟨rfl,s3⟩;have S3:=Ja s3;clear s3)
 go_ret2
 exact⟨rfl,S3.out⟩
theorem J2z (n g e:Int) (v:Value) (w:World) :
  Calls Tryz.prog 70 #[v,.int .i64 n,.int .u64 g,.bool false,.int .i64 e] w fun x w'=>x=.returned (.tuple #[.int .i64 (-1),.int .i64 e])/\w'=w:=by
 go_enter Tryz.func70,Tryz.ntmps70
 go_wp2
 go_ret2
 exact⟨rfl,rfl⟩
theorem J4a (s:Sep w0 r w (kT p Y K::R)) (d:De) (hk:d.c.a=0) :
  Calls Tryz.prog 128 #[Je p,JD d] w fun e w'=>e=.returned (Jf 181 0 (-1) (.slice none 0 0))/\KS w0 r w' p K R:=by
 have S1:=Ja (s.deed d)
 obtain⟨w1,hw⟩:∃ w1,(w.alloc (Jp d)).alloc (Ji 0 0 0 (.slice none 0 0))=w1:=⟨_,rfl⟩
 rw[hw] at S1
 have HW:=Ja hw
 unfold Jp Ji at HW
 clear s hw
 have hq:(d.c.a == 0)=true:=by simpa using hk
 have hq2:decide (d.c.a=0)=true:=by simpa using hk
 clear hk
 unfold JD
 have dc1:w1.cell? ⟨w.heap.size,1,none⟩=some (.int .i64 d.c.a):=(S1.out.blkCell (p:=w.heap.size) (Jmc (Jmc (Jms))) 1).1
 go_enter Tryz.func128,Tryz.ntmps128
 go_wp2_with (first|rw[HW.out]|(go_at_call 60;refine Jqa (JI _ _) ?_;rintro e w9 ⟨rfl,b9⟩;have s9:=(S1.out.below b9);obtain⟨t0,t1,t2,t3,f0,f1,f2,f3⟩:=s9.swap.cells4 (Jms);have s10:=s9.swap.put4 181 0 (-1) (.slice none 0 0);have S10:=Ja s10;clear s9 s10;simp only[Jf])|fail)
 obtain⟨g0,g1,g2,g3,-⟩:=S10.out.cells4 (Jms)
 have G10:=Ja (And.intro (And.intro g0 g1) (And.intro g2 g3))
 clear g0 g1 g2 g3
 go_wp2
 refine bodyPost_ret (v:=Jf 181 0 (-1) (.slice none 0 0)) ?_ rfl ⟨rfl,_,S10.out.drop.drop2⟩
 simp[results,Tryz.f128,go_sem,Jf,G10.out.1.1,G10.out.1.2,G10.out.2.1,G10.out.2.2]
theorem J3e (s:Sep w0 r w (kT p Y K::R)) (d:De) (hk:¬ d.c.a=0) (h0:0<=d.f) (h1:d.f<=63) (hl:K.E.length<=1000) (hf:Few K) (hd:K.D.length<=1000000) :
  Calls Tryz.prog 128 #[Je p,JD d] w fun e w'=>∃ v,e=.returned (Jf 0 0 (-1) v)/\KS w0 r w' p (ZE K d.f) (Jv Vq v (Vf K d.f)::R):=by
 have S1:=Ja (s.deed d)
 obtain⟨w1,hw⟩:∃ w1,(w.alloc (Jp d)).alloc (Ji 0 0 0 (.slice none 0 0))=w1:=⟨_,rfl⟩
 rw[hw] at S1
 have HW:=Ja hw
 unfold Jp Ji at HW
 clear s hw
 have hq:(d.c.a == 0)=false:=by simpa using hk
 have hq2:decide (d.c.a=0)=false:=by simpa using hk
 have HZ:=Ja (And.intro (And.intro h0 h1) (And.intro hl (And.intro hf hd)))
 clear hk h0 h1 hl hf hd
 generalize hgl:Vf K d.f=G
 have HGL:=Ja hgl
 clear hgl
 have HDR:Hid (∀ W Y' R',Sep w0 r W (kT p Y' K::R')->Calls Tryz.prog 228 #[Je p,.agg #[.int .i64 0,.int .i64 d.f]] W fun e w'=>∃ ao cap,e=.returned (.slice ao G.length cap)/\KS w0 r w' p (ZE K d.f) (Jv Vq (.slice ao G.length cap) G::R')):=fun W Y' R' s'=>by
  have h:=Iu s' HZ.out.1.1 HZ.out.1.2 HZ.out.2.1 HZ.out.2.2.1 HZ.out.2.2.2
  rw[HGL.out] at h
  exact h
 unfold JD
 have dc1:w1.cell? ⟨w.heap.size,1,none⟩=some (.int .i64 d.c.a):=(S1.out.blkCell (p:=w.heap.size) (Jmc (Jmc (Jms))) 1).1
 go_enter Tryz.func128,Tryz.ntmps128
 go_wp2_with (first|rw[HW.out]|(go_at_call 60;refine Jqa (JI _ _) ?_;rintro e w9 ⟨rfl,b9⟩;have S2:=Ja ((S1.out.below b9).box (Ji 0 0 (-1) (.slice none 0 0))).swap;clear b9;have dd8:(w9.alloc (.cells #[.int .i64 0,.int .u64 0,.int .i64 (-1),.slice none 0 0] 42)).cell? ⟨w.heap.size,8,none⟩=some (.int .i64 0):=(S2.out.blkCell (p:=w.heap.size) (Jmc (Jmc (Jmc (Jms)))) 8).1;have dd9:(w9.alloc (.cells #[.int .i64 0,.int .u64 0,.int .i64 (-1),.slice none 0 0] 42)).cell? ⟨w.heap.size,9,none⟩=some (.int .i64 d.f):=(S2.out.blkCell (p:=w.heap.size) (Jmc (Jmc (Jmc (Jms)))) 9).1;simp only[Jf])|(go_at_call 228;refine Jqa (HDR.out _ _ _ S2.out) ?_;rintro e w5 ⟨ao,cap,rfl,Y5,s5⟩;have S5:=Ja (s5.swap.to4);clear s5 dd8 dd9;have sv:=S5.out.swap;obtain⟨t0,t1,t2,t3,f0,f1,f2,f3⟩:=sv.cells4 (Jms);obtain⟨ne1,ne2⟩:=sv.ne;have sv0:=sv.putTF (.slice ao G.length cap);obtain⟨t10,t11,t12,t13,-⟩:=sv0.cells4 (Jms);have sx:=sv0.third.swap;obtain⟨u0,u1,u2,u3,g0,g1,g2,g3⟩:=sx.cells4 (Jms);have s10:=sx.put4 0 0 (-1) (.slice ao G.length cap);have S10:=Ja s10;clear sv sv0 sx s10)|fail)
 generalize hv:Value.slice ao G.length cap=v at *
 obtain⟨h0,h1,h2,h3,-⟩:=S10.out.cells4 (Jms)
 have G10:=Ja (And.intro (And.intro h0 h1) (And.intro h2 h3))
 clear h0 h1 h2 h3
 go_wp2
 refine bodyPost_ret (v:=Jf 0 0 (-1) v) ?_ rfl ⟨v,rfl,_,S10.out.drop.drop2.del3⟩
 simp[results,Tryz.f128,go_sem,Jf,G10.out.1.1,G10.out.1.2,G10.out.2.1,G10.out.2.2]
theorem J45 (s:Sep w0 r w (kT p Y K::R)) {n:Int} (hb:Ir.J05 Ir.isO K.l n=false) :
  Calls Tryz.prog 16 #[Je p,.int .i64 n] w fun e w'=>e=.returned (.tuple #[.int .i64 (-1),.int .i64 (Ir.J0i K.l n)])/\KS w0 r w' p (J1c K n) R:=by
 obtain⟨E,hE⟩:∃ E,Ir.J0i K.l n=E:=⟨_,rfl⟩
 obtain⟨a,ha⟩:∃ a,Ir.J0h Ir.isO K.l n=a:=⟨_,rfl⟩
 obtain⟨g,hg⟩:∃ g,Ir.Jt8 Ir.isO K.l n=g:=⟨_,rfl⟩
 have hk:=J19 s n
 rw[hE,ha,hg,hb] at hk
 have HK:=Ja hk
 have c3:=s.k3
 clear hk hb s
 rw[hE]
 clear hE ha hg
 go_enter Tryz.func16,Tryz.ntmps16
 go_wp2_with (first|(go_at_call 71;refine Jqa HK.out ?_;rintro e w3 ⟨rfl,s3⟩;have S3:Hid (Sep w0 r w3 (kT p Y (J1c K n)::R)):=s3;clear s3)|(go_at_call 70;refine Jqa (J2z a g E (Je p) _) ?_;rintro e w4 ⟨rfl,rfl⟩)|fail)
 go_ret2
 exact⟨rfl,_,S3.out⟩
theorem J4l (s:Sep w0 r w (kT p Y K::R)) {n:Int} (hb:Ir.J05 Ir.isO K.l n=true) (hf:Few K) (h0:0<=Ir.J0h Ir.isO K.l n) (h1:Ir.J0h Ir.isO K.l n<(K.N.length:Int)) (h2:0<=Ir.Jt8 Ir.isO K.l n/\Ir.Jt8 Ir.isO K.l n<=18446744073709551615) (h3:0<=No.Jt5 (ntN K (Ir.J0h Ir.isO K.l n)) (Ir.Jt8 Ir.isO K.l n)/\No.Jt5 (ntN K (Ir.J0h Ir.isO K.l n)) (Ir.Jt8 Ir.isO K.l n)<=18446744073709551615) :
  Calls Tryz.prog 16 #[Je p,.int .i64 n] w fun e w'=>e=.returned (.tuple #[.int .i64 (Jh5 (J1c K n) (Ir.J0h Ir.isO K.l n)),.int .i64 (Ir.J0i K.l n)])/\KS w0 r w' p (Jh4 (J1c K n) (Ir.J0h Ir.isO K.l n) (Ir.Jt8 Ir.isO K.l n)) R:=by
 obtain⟨E,hE⟩:∃ E,Ir.J0i K.l n=E:=⟨_,rfl⟩
 obtain⟨a,ha⟩:∃ a,Ir.J0h Ir.isO K.l n=a:=⟨_,rfl⟩
 obtain⟨g,hg⟩:∃ g,Ir.Jt8 Ir.isO K.l n=g:=⟨_,rfl⟩
 have hk:=J19 s n
 rw[hE,ha,hg,hb] at hk
 have HK:=Ja hk
 have c3:=s.k3
 clear hk hb s
 rw[ha] at h0 h1 h3 ⊢
 rw[hg] at h2 h3 ⊢
 rw[hE]
 have HC:=Ja (And.intro (show Few (J1c K n) from hf) (And.intro h0 (And.intro (show a<((J1c K n).N.length:Int) from h1) (And.intro h2 (show 0<=No.Jt5 (ntN (J1c K n) a) g/\No.Jt5 (ntN (J1c K n) a) g<=18446744073709551615 from h3)))))
 clear hf h0 h1 h2 h3 hE ha hg
 go_enter Tryz.func16,Tryz.ntmps16
 go_wp2_with (first|(go_at_call 71;refine Jqa HK.out ?_;rintro e w3 ⟨rfl,s3⟩;have S3:Hid (Sep w0 r w3 (kT p Y (J1c K n)::R)):=s3;clear s3)|(go_at_call 70;refine Jqa (J2b S3.out HC.out.1 E HC.out.2.1 HC.out.2.2.1 HC.out.2.2.2.1 HC.out.2.2.2.2) ?_;rintro e w4 ⟨rfl,Y4,s4⟩;have S4:=Ja s4;clear s4)|fail)
 go_ret2
 exact⟨rfl,_,S4.out⟩
end
end
section
section
variable [dCp:DecidableEq Sl.Cp] [dLim:∀ k,Decidable (Sl.ZV k)] [dBad:∀ k,Decidable (Sl.Xn k)] [dFit:∀ g z,Decidable (Sl.Fit g z)] [dF:∀ c:Sl.Cp,Decidable (Sl.Fine c)] [dMi:∀ c v,Decidable (Sl.JK c v)] [dWho:∀ x y,Decidable (Sl.Zx x y)] [dSl:DecidableEq Sl.Sl] [dLt:∀ a b,Decidable (Sl.MC a b)]
variable [dT:DecidableEq Tr.Sl] [dL:∀ k:Int,Decidable (Ca.ZV k)] [dC:∀ c:Ca.Cp,Decidable (Ca.Fine c)] [dM:∀ (c:Ca.Cp) (v:Int),Decidable (Ca.JK c v)] [dCc:DecidableEq Ca.Cp] [dCb:∀ k,Decidable (Ca.Xn k)] [dCf:∀ g z,Decidable (Ca.Fit g z)] [dCw:∀ x y,Decidable (Ca.Zx x y)]
variable {n m:Nat} {K:Kr}
structure Calm (K K':Kr):Prop where
 S:K'.S=K.S
 E:K'.E=K.E
 U:K'.U=K.U
 D:K'.D=K.D
theorem Calm.refl (K:Kr):Calm K K:=⟨rfl,rfl,rfl,rfl⟩
theorem Calm.then {A B C:Kr} (h:Calm A B) (k:Calm B C):Calm A C:=⟨k.S.trans h.S,k.E.trans h.E,k.U.trans h.U,k.D.trans h.D⟩
theorem J1g (K:Kr) (h:Th.Hs):Calm K { K with h:=h }:=⟨rfl,rfl,rfl,rfl⟩
theorem J27 (K:Kr) (a b c:Int):Calm K (Mz K a b c):=by
 unfold Mz
 split
 ·exact Calm.refl K
 ·exact J1g K _
theorem J1t (K:Kr) (core who:Int) (c:Cl) (x:En.Mt) (wk:Int):Calm K (OW K core who c x wk).1:=by
 unfold OW
 split
 ·exact(J1g K _).then (J1g _ _)
 ·exact J27 _ _ _ _
theorem J4c {α:Type} (L:List α) (i:Nat) (d:α):L.set i (L.getD i d)=L:=by
 by_cases h:i<L.length
 ·rw[List.getD_eq_getElem?_getD,List.getElem?_eq_getElem h]
  exact List.set_getElem_self h
 ·exact List.set_eq_of_length_le (by omega)
theorem J1u {K:Kr} {o:Int} {D:Ta.Sp} (h:D=spN K o):Calm K (setD K o D):=by
 refine⟨rfl,rfl,rfl,?_⟩
 subst h
 exact J4c _ _ _
def J3p (t:Tl):Prop:=t.w=0/\t.k = -1/\t.f=[]
theorem J09 (e:Int):J3p (Ii e):=⟨rfl,rfl,rfl⟩
theorem J24 {K:Kr} {id:Int} (h:Jq9 K id≠0):J3p ⟨Jq9 K id,0,J0p K id,[]⟩:=by
 refine⟨rfl,?_,rfl⟩
 show J0p K id = -1
 unfold J0p
 rw[if_neg h]
theorem J2d {K:Kr} {core who:Int} {c:Cl} {x:En.Mt} {wk:Int} (h:(OW K core who c x wk).2.e≠0):J3p (OW K core who c x wk).2:=by
 unfold OW at h
 split at h
 ·exact absurd rfl h
 ·exact absurd rfl h
theorem J3z {core who:Int} {c:Cl} {x:Sl.Cp} (h:(Ay K core who c x).2.e≠0):Calm K (Ay K core who c x).1/\J3p (Ay K core who c x).2:=by
 unfold Ay at h ⊢
 by_cases h0:c.q=0
 ·rw[if_pos h0] at h ⊢
  refine⟨?_,J09 _⟩
  unfold Ze
  split
  ·rename_i h'
   exact absurd h' h
  ·exact Calm.refl K
 rw[if_neg h0] at h ⊢
 by_cases h1:c.q=1
 ·rw[if_pos h1] at h ⊢
  refine⟨?_,J09 _⟩
  unfold Fy
  split
  ·rename_i h'
   exact absurd h' h
  ·exact Calm.refl K
 rw[if_neg h1] at h ⊢
 by_cases h2:c.q=2
 ·rw[if_pos h2] at h ⊢
  refine⟨?_,J09 _⟩
  unfold Jfj
  split
  ·rename_i h'
   exact absurd h' h
  ·exact Calm.refl K
 rw[if_neg h2] at h ⊢
 by_cases h3:c.q=3
 ·rw[if_pos h3] at h ⊢
  split at h
  ·rename_i ha
   rw[if_pos ha]
   exact⟨Calm.refl K,J09 _⟩
  ·exact absurd rfl h
 rw[if_neg h3] at h ⊢
 by_cases h4:c.q=4
 ·rw[if_pos h4] at h
  exact absurd rfl h
 rw[if_neg h4] at h ⊢
 by_cases h5:c.q=5
 ·rw[if_pos h5] at h ⊢
  refine⟨?_,J24 h⟩
  refine Calm.then ?_ (J1g _ _)
  unfold AC
  split
  ·exact⟨rfl,rfl,rfl,rfl⟩
  ·exact Calm.refl K
 rw[if_neg h5] at h ⊢
 by_cases h6:c.q=6
 ·rw[if_pos h6]
  exact⟨⟨rfl,rfl,rfl,rfl⟩,J09 _⟩
 rw[if_neg h6] at h ⊢
 by_cases h7:c.q=7
 ·rw[if_pos h7]
  exact⟨⟨rfl,rfl,rfl,rfl⟩,J09 _⟩
 rw[if_neg h7] at h ⊢
 by_cases h8:c.q=8
 ·rw[if_pos h8] at h ⊢
  unfold FK at h ⊢
  simp only at h ⊢
  split at h
  ·rename_i he
   rw[if_pos he]
   exact⟨Calm.then (B:=setP K x.o _) ⟨rfl,rfl,rfl,rfl⟩ (J1t _ _ _ _ _ _),J2d h⟩
  ·rename_i he
   rw[if_neg he]
   exact⟨Calm.refl K,J09 _⟩
 rw[if_neg h8] at h ⊢
 by_cases h9:c.q=9
 ·rw[if_pos h9] at h ⊢
  unfold FH at h ⊢
  split at h
  ·rename_i he
   rw[if_pos he]
   exact⟨Calm.then (B:=setP K x.o _) ⟨rfl,rfl,rfl,rfl⟩ (J1t _ _ _ _ _ _),J2d h⟩
  ·rename_i he
   rw[if_neg he]
   exact⟨Calm.refl K,J09 _⟩
 rw[if_neg h9] at h ⊢
 by_cases h10:c.q=10
 ·rw[if_pos h10] at h
  exact absurd rfl h
 rw[if_neg h10] at h ⊢
 by_cases h11:c.q=11
 ·rw[if_pos h11] at h ⊢
  unfold Jf3 at h ⊢
  split at h
  ·split at h
   ·exact absurd rfl h
   ·exact absurd rfl h
  ·rename_i he
   rw[if_neg he]
   exact⟨Calm.refl K,J09 _⟩
 rw[if_neg h11] at h ⊢
 by_cases h12:c.q=12
 ·rw[if_pos h12] at h ⊢
  split at h
  ·rename_i hk
   rw[if_pos hk]
   refine⟨J1u ?_,J09 _⟩
   unfold Ta.IT
   exact if_neg h
  ·rename_i hk
   rw[if_neg hk]
   exact⟨Calm.refl K,J09 _⟩
 rw[if_neg h12] at h ⊢
 by_cases h13:c.q=13
 ·rw[if_pos h13] at h ⊢
  split at h
  ·rename_i hk
   rw[if_pos hk]
   refine⟨J1u ?_,J09 _⟩
   unfold Ta.Jtq
   exact if_neg h
  ·rename_i hk
   rw[if_neg hk]
   exact⟨Calm.refl K,J09 _⟩
 rw[if_neg h13] at h ⊢
 by_cases h14:c.q=14
 ·rw[if_pos h14] at h ⊢
  split at h
  ·exact absurd rfl h
  ·rename_i he
   rw[if_neg he]
   exact⟨Calm.refl K,J09 _⟩
 rw[if_neg h14] at h ⊢
 by_cases h15:c.q=15
 ·rw[if_pos h15] at h ⊢
  split at h
  ·rename_i hk
   rw[if_pos hk]
   exact⟨⟨rfl,rfl,rfl,rfl⟩,J09 _⟩
  ·rename_i hk
   rw[if_neg hk]
   exact⟨Calm.refl K,J09 _⟩
 rw[if_neg h15] at h ⊢
 split at h
 ·rename_i hk
  exfalso
  apply h
  show Ir.J0i K.l x.o=0
  cases e:Ir.atI K.l x.o with
  | none =>
   unfold Ir.J05 at hk
   rw[e] at hk
   cases hk
  | some y =>
   unfold Ir.J0i
   rw[e]
 ·rename_i hk
  rw[if_neg hk]
  exact⟨⟨rfl,rfl,rfl,rfl⟩,J09 _⟩
theorem J5e {core:Int} {c:Cl} (h:(doK K core c).2.e≠0):Calm K (doK K core c).1/\J3p (doK K core c).2:=by
 unfold doK at h ⊢
 split at h
 ·rename_i h1
  rw[if_pos h1]
  split at h
  ·rename_i h2
   rw[if_pos h2]
   split at h
   ·exact absurd rfl h
   ·rename_i h3
    rw[if_neg h3]
    split at h
    ·rename_i h4
     rw[if_pos h4]
     obtain⟨a,b⟩:=J3z h
     exact⟨(J1g K _).then a,b⟩
    ·rename_i h4
     rw[if_neg h4]
     exact⟨J1g K _,J09 _⟩
  ·rename_i h2
   rw[if_neg h2]
   exact⟨J1g K _,J09 _⟩
 ·rename_i h1
  rw[if_neg h1]
  exact⟨J1g K _,J09 _⟩
theorem J3b {S:Sl.St} {E:Tr.St} (t:Ts S E):((Sl.JX S).map fun x=>tr x.1.i).Perm (Tr.JA E):=by
 have hz:∀ x∈Sl.JX S,x.1.n=0/\∃ c,Sl.JZ S (sl x.1.i)=some c/\c.k≠0/\c=x.2:=fun x hx=>by
  obtain⟨s,c⟩:=x
  rw[Sl.Jbm] at hx
  unfold Sl.Zg at hx
  cases ha:Sl.JZ S s with
  | none =>
   rw[ha] at hx
   cases hx
  | some d =>
   rw[ha] at hx
   simp only at hx
   split at hx
   ·cases hx
   ·rename_i hk
    cases hx
    have hn:s.n=0:=by
     by_cases h:s.n=0
     ·exact h
     ·have:=t.oth s c ha h
      subst this
      exact absurd Jle hk
    exact⟨hn,c,by rw[<- J5o hn];exact ha,hk,rfl⟩
 refine(List.perm_ext_iff_of_nodup ?_ ?_).2 fun a=>?_
 ·rw[List.nodup_iff_pairwise_ne,List.pairwise_map]
  refine(Sl.Jaz S).imp_of_mem fun {x y} hx hy hlt e=>?_
  have e2:x.1.i=y.1.i:=congrArg Tr.Sl.i e
  have hx0:=(hz x hx).1
  have hy0:=(hz y hy).1
  unfold Sl.MC at hlt
  omega
 ·rw[List.nodup_iff_pairwise_ne,List.pairwise_iff_getElem]
  intro i j hi hj hlt e
  have:=Jes t.tg (Jqc hi) ((Jqc hj).trans (congrArg some e.symm))
  omega
 ·rw[t.tm,List.mem_map]
  constructor
  ·rintro⟨x,hx,rfl⟩
   obtain⟨_,c,hc,hk,_⟩:=hz x hx
   exact⟨rfl,c,hc,hk⟩
  ·rintro⟨h1,c,hc,hk⟩
   refine⟨(sl a.i,c),?_,(Ew h1).symm⟩
   rw[Sl.Jbm]
   unfold Sl.Zg
   rw[hc]
   exact if_neg hk
end
section
variable [dT:DecidableEq Tr.Sl]
theorem J2s {E:Tr.St} (g:Tr.Good E) {i k:Nat} (hi:i<E.length) (hk:Tr.U7 E i=i+1+(k+1)) :
  i+1+k<E.length/\Tr.takeS E (Tr.VB E (i+1+k))=Tr.UB E (i+1+k)/\(∀ m,m<i+1+k->Tr.VB (Tr.UB E (i+1+k)) m=Tr.VB E m)/\Tr.U7 (Tr.UB E (i+1+k)) i=i+1+k:=by
 obtain⟨l1,l2⟩:=Tr.UK hi
 have hj:i+1+k<E.length:=by omega
 have din:∀ m,i<m->m<i+1+(k+1)->Tr.Zl E i<Tr.Zl E m:=fun m h1 h2=>Tr.Jnx hi h1 (by rw[hk];exact h2)
 have hend:Tr.U7 E (i+1+k)=i+1+k+1:=by
  refine Tr.J2w hj (by omega) (by omega) (fun m h1 h2=>by omega) ?_
  by_cases h:i+1+k+1=E.length
  ·exact .inl h
  ·right
   have h1:=Tr.Jnw hi (by omega)
   rw[hk] at h1
   have h2:=din (i+1+k) (by omega) (by omega)
   have e:i+1+(k+1)=i+1+k+1:=by omega
   rw[e] at h1
   omega
 refine⟨hj,?_,fun m hm=>?_,?_⟩
 ·unfold Tr.takeS
  rw[if_pos (g.has hj),g.pl hj]
 ·rw[Tr.Jh9 hj (by omega),if_pos hm]
 ·have hd:∀ m,m<i+1+k->Tr.Zl (Tr.UB E (i+1+k)) m=Tr.Zl E m:=fun m hm=>by
   rw[Tr.Jga hj (by omega),if_pos hm]
  refine Tr.J2w (by rw[Tr.Jic hj];omega) (by omega) (by rw[Tr.Jic hj];omega) (fun m h1 h2=>?_) ?_
  ·rw[hd m h2,hd i (by omega)]
   exact din m h1 (by omega)
  ·rw[Tr.Jic hj]
   by_cases h:i+1+k=E.length - 1
   ·exact .inl h
   ·right
    rw[hd i (by omega),Tr.Jga hj (by omega),if_neg (by omega),if_neg (by rw[hend];omega)]
    have h1:=Tr.Jnw hi (by omega)
    rw[hk] at h1
    exact h1
def J1s:Tr.St->List Tr.Sl->Tr.St
 | E,[]=>E
 | E,s::L=>J1s (Tr.takeS E s) L
theorem J1x:∀ (L:List Tr.Sl) {E:Tr.St},Tr.Good E->Tr.Good (J1s E L)
 | [],_,g=>g
 | s::L,_,g=>J1x L (g.takeS s)
theorem J1p:∀ (k:Nat) {E:Tr.St} {i:Nat},Tr.Good E->i<E.length->Tr.U7 E i=i+1+k ->
  let E':=J1s E ((List.range k).map fun m=>Tr.VB E (i+1+m)).reverse
  i<E'.length/\Tr.VB E' i=Tr.VB E i/\Tr.U7 E' i=i+1/\E'.length+k=E.length
 | 0,E,i,g,hi,hk=>⟨hi,rfl,hk,rfl⟩
 | k+1,E,i,g,hi,hk=>by
  obtain⟨hj,e1,e2,e3⟩:=J2s g hi hk
  have el:(Tr.UB E (i+1+k)).length=E.length - 1:=Tr.Jic hj
  obtain⟨a,b,c,d⟩:=J1p k (g.took hj) (by rw[el];omega:i<(Tr.UB E (i+1+k)).length) e3
  have hl:((List.range (k+1)).map fun m=>Tr.VB E (i+1+m)).reverse=Tr.VB E (i+1+k)::((List.range k).map fun m=>Tr.VB (Tr.UB E (i+1+k)) (i+1+m)).reverse:=by
   rw[List.range_succ,List.map_append,List.reverse_append]
   have:((List.range k).map fun m=>Tr.VB (Tr.UB E (i+1+k)) (i+1+m))=(List.range k).map fun m=>Tr.VB E (i+1+m):=by
    refine List.map_congr_left fun m hm=>?_
    have:=List.mem_range.1 hm
    exact e2 _ (by omega)
   rw[this]
   rfl
  have hE:J1s E ((List.range (k+1)).map fun m=>Tr.VB E (i+1+m)).reverse=J1s (Tr.UB E (i+1+k)) ((List.range k).map fun m=>Tr.VB (Tr.UB E (i+1+k)) (i+1+m)).reverse:=by
   rw[hl]
   show J1s (Tr.takeS E _) _=_
   rw[e1]
  simp only
  rw[hE]
  exact⟨a,b.trans (e2 i (by omega)),c,by omega⟩
theorem J1q {E:Tr.St} {i:Nat} (hi:i<E.length):Tr.JA (Tr.Jz E i)=(List.range (Tr.U7 E i - (i+1))).map fun m=>Tr.VB E (i+1+m):=by
 obtain⟨l1,l2⟩:=Tr.UK hi
 refine List.ext_getElem? fun m=>?_
 unfold Tr.JA
 rw[Tr.Jim,List.getElem?_map,List.getElem?_map,List.getElem?_take]
 by_cases h:m<Tr.U7 E i - (i+1)
 ·rw[if_pos h,List.getElem?_drop,List.getElem?_range h,Tr.Vd (by omega)]
  rfl
 ·rw[if_neg h,List.getElem?_eq_none (by rw[List.length_range];omega)]
  rfl
theorem J3l {E:Tr.St} {i:Nat} {t:Tr.Sl} (g:Tr.Good E) (hi:i<E.length) (hs:Tr.VB E i=t) (he:Tr.U7 E i=i+1):Tr.Zo E t=[]:=by
 subst hs
 unfold Tr.Zo
 rw[if_pos (g.has hi),g.pl hi,J1q hi,he,Nat.sub_self]
 rfl
theorem J2r {E:Tr.St} (g:Tr.Good E) (t:Tr.Sl):Tr.Zo (J1s E (Tr.Zo E t).reverse) t=[]/\(J1s E (Tr.Zo E t).reverse).length+(Tr.Zo E t).length=E.length:=by
 by_cases h:Tr.Jl E t=true
 ·obtain⟨h1,h2⟩:=Tr.MZ h
  obtain⟨l1,l2⟩:=Tr.UK h1
  have hu:Tr.Zo E t=(List.range (Tr.U7 E (Tr.pl E t) - (Tr.pl E t+1))).map fun m=>Tr.VB E (Tr.pl E t+1+m):=by
   unfold Tr.Zo
   rw[if_pos h]
   exact J1q h1
  obtain⟨a,b,c,d⟩:=J1p (Tr.U7 E (Tr.pl E t) - (Tr.pl E t+1)) g h1 (by omega)
  have g':=J1x (Tr.Zo E t).reverse g
  rw[<- hu] at a b c d
  refine⟨?_,?_⟩
  ·exact J3l g' a (b.trans h2) c
  ·rw[hu,List.length_map,List.length_range,<- hu]
   exact d
 ·have hu:Tr.Zo E t=[]:=by
   unfold Tr.Zo
   exact if_neg h
  rw[hu]
  exact⟨hu,rfl⟩
end
section
variable [dCp:DecidableEq Sl.Cp] [dLim:∀ k,Decidable (Sl.ZV k)] [dBad:∀ k,Decidable (Sl.Xn k)] [dFit:∀ g z,Decidable (Sl.Fit g z)] [dF:∀ c:Sl.Cp,Decidable (Sl.Fine c)] [dMi:∀ c v,Decidable (Sl.JK c v)] [dWho:∀ x y,Decidable (Sl.Zx x y)] [dSl:DecidableEq Sl.Sl] [dLt:∀ a b,Decidable (Sl.MC a b)]
variable [dT:DecidableEq Tr.Sl] [dL:∀ k:Int,Decidable (Ca.ZV k)] [dC:∀ c:Ca.Cp,Decidable (Ca.Fine c)] [dM:∀ (c:Ca.Cp) (v:Int),Decidable (Ca.JK c v)] [dCc:DecidableEq Ca.Cp] [dCb:∀ k,Decidable (Ca.Xn k)] [dCf:∀ g z,Decidable (Ca.Fit g z)] [dCw:∀ x y,Decidable (Ca.Zx x y)]
variable {n m:Nat} {K:Kr}
theorem J1v:∀ (L:List Int) (K:Kr),(goneAll K L).1.E=J1s K.E (L.map tr)
 | [],_=>rfl
 | j::L,K=>by
  show(goneAll (ZE K j) L).1.E=J1s (Tr.takeS K.E (tr j)) (L.map tr)
  rw[J1v L,(Jn4 K j).2]
theorem J1m:∀ (L:List Int) {K:Kr},Ts K.S K.E->Ts (goneAll K L).1.S (goneAll K L).1.E
 | [],_,h=>h
 | j::L,K,h=>J1m L (by
  rw[(Jn4 K j).1,(Jn4 K j).2]
  exact h.out j)
theorem J3a {S:Sl.St} (s:Sl.Sl):Sl.JX (Sl.takeS S s)=(Sl.JX S).filter fun x => !decide (x.1=s):=by
 refine Sl.FM _ _ (Sl.Jaz _) ((Sl.Jaz S).filter _) fun x=>?_
 obtain⟨t,c⟩:=x
 rw[List.mem_filter,Sl.Jbm,Sl.Jbm]
 have hb:((!decide (t=s))=true)↔t≠s:=by simp
 rw[hb]
 by_cases hE:Sl.ZS S s=0
 ·have hS:Sl.takeS S s=Sl.Xj S s Sl.no:=by
   unfold Sl.takeS
   rw[if_pos hE]
  obtain⟨d,hd⟩:∃ d,Sl.JZ S s=some d:=by
   unfold Sl.ZS at hE
   split at hE
   ·cases hE
   ·rename_i d hd
    exact⟨d,hd⟩
  rw[hS,Sl.Fk hd]
  by_cases e:t=s
  ·rw[if_pos e,if_pos Jle]
   exact⟨fun h=>(by cases h),fun h=>absurd e h.2⟩
  ·rw[if_neg e]
   exact⟨fun h=>⟨h,e⟩,fun h=>h.1⟩
 ·have hS:Sl.takeS S s=S:=by
   unfold Sl.takeS
   rw[if_neg hE]
  rw[hS]
  refine⟨fun h=>⟨h,fun e=>hE ?_⟩,fun h=>h.1⟩
  subst e
  unfold Sl.Zg at h
  unfold Sl.ZS
  split at h
  ·rename_i d hd
   rw[hd]
   simp only
   split at h
   ·cases h
   ·rename_i hk
    exact if_neg hk
  ·cases h
theorem J1w:∀ (L:List Int) (K:Kr),Sl.JX (goneAll K L).1.S=(Sl.JX K.S).filter fun x=>L.all fun j => !decide (x.1=sl j)
 | [],K=>by
  show Sl.JX K.S=_
  exact(List.filter_eq_self.2 fun x _=>rfl).symm
 | j::L,K=>by
  show Sl.JX (goneAll (ZE K j) L).1.S=_
  rw[J1w L,(Jn4 K j).1,J3a,List.filter_filter]
  congr 1
  funext x
  rw[List.all_cons,Bool.and_comm]
theorem J4g (t:Ts K.S K.E) (j:Int):(Zc K j).map tr=(Tr.Zo K.E (tr j)).reverse:=by
 unfold Zc
 rw[List.map_reverse,List.map_map]
 congr 1
 have:∀ s∈Tr.Zo K.E (tr j),tr s.i=s:=fun s hs=>by
  refine(Ew ((t.tm s).1 ?_).1).symm
  unfold Tr.Zo at hs
  split at hs
  ·unfold Tr.JA Tr.Jz at hs
   unfold Tr.JA
   obtain⟨e,he,rfl⟩:=List.mem_map.1 hs
   exact List.mem_map.2 ⟨e,List.mem_of_mem_drop (List.mem_of_mem_take he),rfl⟩
  ·cases hs
 exact(show(Tr.Zo K.E (tr j)).map (tr ∘ fun s=>s.i)=(Tr.Zo K.E (tr j)).map id from List.map_congr_left this).trans (List.map_id _)
theorem J1n {S:Sl.St} {E:Tr.St} (t:Ts S E):(Sl.JX S).length=E.length:=by
 have:=(J3b t).length_eq
 unfold Tr.JA at this
 rwa [Jqs,Jqs] at this
theorem J4z (t:Ts K.S K.E) (j:Int) (x:Sl.Cp) :
  Sl.JX (V9 K j x).S=(Sl.JX K.S).filter (fun y=>(Zc K j).all fun i => !decide (y.1=sl i))/\(Sl.JX (V9 K j x).S).length+(Zc K j).length=(Sl.JX K.S).length/\Ts (V9 K j x).S (V9 K j x).E/\Zc (V9 K j x) j=[]:=by
 obtain⟨e1,e2⟩:=Jhy K j x
 have ts:=J1m (Zc K j) t
 have eE:=J1v (Zc K j) K
 rw[J4g t j] at eE
 obtain⟨u1,u2⟩:=J2r t.tg (tr j)
 have hl:(Zc K j).length=(Tr.Zo K.E (tr j)).length:=by
  unfold Zc
  rw[List.length_reverse,List.length_map]
 refine⟨by rw[e1];exact J1w _ _,?_,by rw[e1,e2];exact ts,?_⟩
 ·rw[e1,J1n ts,J1n t,eE,hl]
  exact u2
 ·unfold Zc at *
  rw[e2,eE,u1]
  rfl
end
theorem J2x {α:Type} (p:α->Bool):∀ {A:List α} {i:Nat} {a:α},A[i]? = some a->p a=true->(A.filter p)[((A.take i).filter p).length]? = some a
 | [],_,_,h,_=>by simp at h
 | b::A,0,a,h,hp=>by
  obtain rfl:b=a:=by simpa using h
  simp[hp]
 | b::A,i+1,a,h,hp=>by
  have h':A[i]? = some a:=by simpa using h
  have ih:=J2x p h' hp
  rw[List.take_succ_cons,List.filter_cons,List.filter_cons]
  split
  ·rw[List.length_cons,List.getElem?_cons_succ]
   exact ih
  ·exact ih
theorem J4s {α:Type} {p:α->Bool} {A:List α} {a:α} (h:p a=false) (j:Nat):(A.filter p)[j]? ≠ some a:=fun e=>by
 have:=(List.mem_filter.1 (Jqi e)).2
 rw[h] at this
 cases this
theorem J29 {α:Type} (p:α->Bool) {A:List α} {i:Nat} {a:α} (h:A[i]? = some a):((A.take (i+1)).filter p).length=((A.take i).filter p).length+(if p a=true then 1 else 0):=by
 rw[List.take_add_one,h,List.filter_append,List.length_append]
 congr 1
 show([a].filter p).length=_
 rw[List.filter_cons]
 split
 ·rfl
 ·rfl
section
variable [dCp:DecidableEq Sl.Cp] [dLim:∀ k,Decidable (Sl.ZV k)] [dBad:∀ k,Decidable (Sl.Xn k)] [dFit:∀ g z,Decidable (Sl.Fit g z)] [dF:∀ c:Sl.Cp,Decidable (Sl.Fine c)] [dMi:∀ c v,Decidable (Sl.JK c v)] [dWho:∀ x y,Decidable (Sl.Zx x y)] [dSl:DecidableEq Sl.Sl] [dLt:∀ a b,Decidable (Sl.MC a b)]
variable [dT:DecidableEq Tr.Sl] [dL:∀ k:Int,Decidable (Ca.ZV k)] [dC:∀ c:Ca.Cp,Decidable (Ca.Fine c)] [dM:∀ (c:Ca.Cp) (v:Int),Decidable (Ca.JK c v)] [dCc:DecidableEq Ca.Cp] [dCb:∀ k,Decidable (Ca.Xn k)] [dCf:∀ g z,Decidable (Ca.Fit g z)] [dCw:∀ x y,Decidable (Ca.Zx x y)]
variable {K:Kr}
theorem J30 (h:Full K.S) (o:Int):Full (J18 K o).S:=by
 unfold J18
 split
 ·exact Jap (K:=J1c K o) h _ _
 ·exact h
end
end
section
open Classical
variable {n m:Nat} {K:Kr}
theorem J5m {i:Nat} {S:No.Ns} (h:K.N[i]? = some S):ntN K (i:Int)=S:=by unfold ntN;rw[Int.toNat_natCast,List.getD_eq_getElem?_getD,h];rfl
theorem J2o {i:Nat} {S:Ta.Sp} (h:K.D[i]? = some S):spN K (i:Int)=S:=by unfold spN;rw[Int.toNat_natCast,List.getD_eq_getElem?_getD,h];rfl
theorem J42 {S:No.Ns} {who:Int} (h:No.Jq8 S who≠0) (z:Bool):No.J6b S who z=S:=by
 unfold No.Jq8 at h
 unfold No.J6b
 split at h
 ·rename_i e
  rw[if_pos e]
 ·exact absurd rfl h
theorem J5q {S:Ta.Sp} {a:Int} (h:¬ Ta.ET S a=0):Ta.Ue S a=S:=by
 unfold Ta.Ue
 rw[if_neg h]
end
section
open Go.RowKit Go.Deep Go.Shelf
open Classical
section
variable {w0 w w':World} {r p:Nat} {Y:Ly} {K:Kr} {R:List Th}
theorem J2e (s:Sep w0 r w (kT p Y K::R)) (d:De) (hf:Few K) (h0:0<=d.x.o) (h1:d.x.o<(K.N.length:Int)) (hg:0<=d.x.b/\d.x.b<=18446744073709551615) (hsg:0<=No.Jt5 (ntN K d.x.o) d.x.b/\No.Jt5 (ntN K d.x.o) d.x.b<=18446744073709551615) :
  Calls Tryz.prog 135 #[Je p,JD d] w fun e w'=>e=.returned (Jf 0 0 (Jh5 K d.x.o) (.slice none 0 0))/\KS w0 r w' p (Jh4 K d.x.o d.x.b) R:=by
 have S1:=Ja (s.deed d)
 obtain⟨w1,hw⟩:∃ w1,(w.alloc (Jp d)).alloc (Ji 0 0 0 (.slice none 0 0))=w1:=⟨_,rfl⟩
 rw[hw] at S1
 have HW:=Ja hw
 unfold Jp Ji at HW
 clear s hw
 have HA:=Ja (And.intro (And.intro hf h0) (And.intro h1 (And.intro hg hsg)))
 clear hf h0 h1 hg hsg
 generalize hs:Jh5 K d.x.o=a
 have HS:=Ja hs
 clear hs
 unfold JD
 go_enter Tryz.func135,Tryz.ntmps135
 go_wp2_with (first|rw[HW.out]|(go_at_call 60;refine Jqa (JI _ _) ?_;rintro e w9 ⟨rfl,b9⟩;have S2:=Ja ((S1.out.below b9).box (Ji 0 0 (-1) (.slice none 0 0))).swap;clear b9;have dd11:(w9.alloc (.cells #[.int .i64 0,.int .u64 0,.int .i64 (-1),.slice none 0 0] 42)).cell? ⟨w.heap.size,11,none⟩=some (.int .i64 d.x.o):=(S2.out.blkCell (p:=w.heap.size) (Jmc (Jmc (Jmc (Jms)))) 11).1;have dd13:(w9.alloc (.cells #[.int .i64 0,.int .u64 0,.int .i64 (-1),.slice none 0 0] 42)).cell? ⟨w.heap.size,13,none⟩=some (.int .u64 d.x.b):=(S2.out.blkCell (p:=w.heap.size) (Jmc (Jmc (Jmc (Jms)))) 13).1;simp only[Jf])|(go_at_call 170;refine Jqa (J1h S2.out HA.out.1.1 HA.out.1.2 HA.out.2.1 HA.out.2.2.1 HA.out.2.2.2) ?_;rintro e w3 ⟨rfl,Y3,s3⟩;rw[HS.out];have S3:=Ja s3;clear s3 dd11 dd13;have sv:=S3.out.swap;obtain⟨t0,t1,t2,t3,f0,f1,f2,f3⟩:=sv.cells4 (Jms);obtain⟨ne1,ne2⟩:=sv.ne;have sv0:=sv.putTK a;obtain⟨t10,t11,t12,t13,-⟩:=sv0.cells4 (Jms);have sx:=sv0.third.swap;obtain⟨u0,u1,u2,u3,g0,g1,g2,g3⟩:=sx.cells4 (Jms);have s10:=sx.put4 0 0 a (.slice none 0 0);have S10:=Ja s10;clear sv sv0 sx s10)|fail)
 obtain⟨h0,h1,h2,h3,-⟩:=S10.out.cells4 (Jms)
 have G10:=Ja (And.intro (And.intro h0 h1) (And.intro h2 h3))
 clear h0 h1 h2 h3
 go_wp2
 refine bodyPost_ret (v:=Jf 0 0 a (.slice none 0 0)) ?_ rfl ⟨rfl,_,S10.out.drop.drop2.drop2⟩
 simp[results,Tryz.f135,go_sem,Jf,G10.out.1.1,G10.out.1.2,G10.out.2.1,G10.out.2.2]
theorem J26 (s:Sep w0 r w (kT p Y K::R)) (d:De) :
  Calls Tryz.prog 140 #[Je p,JD d] w fun e w'=>e=.returned (Jf (Ir.Jw3 K.l d.x.o d.y.o) 0 (-1) (.slice none 0 0))/\KS w0 r w' p { K with l:=Ir.Jev K.l d.x.o d.y.o d.y.b } R:=by
 have S1:=Ja (s.deed d)
 obtain⟨w1,hw⟩:∃ w1,(w.alloc (Jp d)).alloc (Ji 0 0 0 (.slice none 0 0))=w1:=⟨_,rfl⟩
 rw[hw] at S1
 have HW:=Ja hw
 unfold Jp Ji at HW
 clear s hw
 generalize hE:Ir.Jw3 K.l d.x.o d.y.o=E
 have HE:=Ja hE
 clear hE
 unfold JD
 go_enter Tryz.func140,Tryz.ntmps140
 go_wp2_with (first|rw[HW.out]|fail)
 generalize w.heap.size+1=q2 at *
 generalize w.heap.size=q at *
 have HS:Hid (∀ (W:World) (Y':Ly) (K':Kr) (o:Obj),Y'.l=Y.l->Sep w0 r W (kT p Y' K'::blk q2 o::blk q (Jp d)::R)->W.cell? ⟨p,3,none⟩=some (Je Y.l)/\W.cell? ⟨q,11,none⟩=some (.int .i64 d.x.o)/\W.cell? ⟨q,17,none⟩=some (.int .i64 d.y.o)/\W.cell? ⟨q,19,none⟩=some (.int .u64 d.y.b)):=fun W Y' K' o hy s=>by
  have k:=s.k3
  rw[hy] at k
  exact⟨k,(s.blkCell (p:=q) (Jmc (Jmc (Jms))) 11).1,(s.blkCell (p:=q) (Jmc (Jmc (Jms))) 17).1,(s.blkCell (p:=q) (Jmc (Jmc (Jms))) 19).1⟩
 have hS:=HS.out _ _ _ _ (by rfl) S1.out.drew
 have HC1:=Ja (J5j S1.out.drew d.x.o d.y.o d.y.b)
 go_region_held3 (fun W=>W.cell? ⟨p,3,none⟩=some (Je Y.l)/\W.cell? ⟨q,11,none⟩=some (.int .i64 d.x.o)/\W.cell? ⟨q,17,none⟩=some (.int .i64 d.y.o)/\W.cell? ⟨q,19,none⟩=some (.int .u64 d.y.b)) (first|with_reducible assumption|with_reducible exact hS) (first|(go_at_call 242;refine Jqa HC1.out ?_;rintro e w3 ⟨rfl,s3⟩;have hS3:=HS.out _ _ _ _ (by rfl) s3;rw[HE.out];have SP1:=Ja s3;clear s3)|(go_at_call 60;refine Jqa (JI _ _) ?_;rintro e w9 ⟨rfl,b9⟩;have s9:=(SP1.out.below b9);have hS9:=HS.out _ _ _ _ (by rfl) s9;obtain⟨t0,t1,t2,t3,f0,f1,f2,f3⟩:=s9.swap.cells4 (Jms);have s10:=s9.swap.put4 E 0 (-1) (.slice none 0 0);have hS10:=HS.out _ _ _ _ (by rfl) s10.swap;have S10:=Ja s10;clear s9 s10;simp only[Jf]))
 clear hS
 obtain⟨g0,g1,g2,g3,-⟩:=S10.out.cells4 (Jms)
 have G10:=Ja (And.intro (And.intro g0 g1) (And.intro g2 g3))
 clear g0 g1 g2 g3
 go_wp2
 refine bodyPost_ret (v:=Jf E 0 (-1) (.slice none 0 0)) ?_ rfl ⟨rfl,_,S10.out.drop.drop2⟩
 simp[results,Tryz.f140,go_sem,Jf,G10.out.1.1,G10.out.1.2,G10.out.2.1,G10.out.2.2]
theorem J2q (s:Sep w0 r w (kT p Y K::R)) (d:De) {i:Nat} {S:Ta.Sp} (hi:K.D[i]? = some S) (hxo:d.y.o=(i:Int)) :
  Calls Tryz.prog 137 #[Je p,JD d] w fun e w'=>e=.returned (Jf (Ta.IS S d.c.A d.x.o) 0 (-1) (.slice none 0 0))/\KS w0 r w' p { K with D:=K.D.set i (Ta.IT S d.c.A d.x.o) } R:=by
 obtain⟨qn,vn,Q,hyi,-,-⟩:=s.spOf hi
 obtain⟨ao,cap,hnv,hzm,hpt⟩:=s.spPtr
 obtain⟨g,rfl,-⟩:=hpt i qn vn hyi
 have hil:(i:Int)<(K.D.length:Int):=by have:=(Jqb.1 hi).1;omega
 have HI:=Ja (And.intro hi hyi)
 have HX:=Ja hxo
 clear Q hpt
 have hz:∃ z,K.D.length=z:=⟨_,rfl⟩
 obtain⟨z,hz⟩:=hz
 rw[hz] at hnv hil hzm
 clear hz hi hyi hxo
 have S1:=Ja (s.deed d)
 obtain⟨w1,hw⟩:∃ w1,(w.alloc (Jp d)).alloc (Ji 0 0 0 (.slice none 0 0))=w1:=⟨_,rfl⟩
 rw[hw] at S1
 have HW:=Ja hw
 unfold Jp Ji at HW
 clear s hw
 generalize hE:Ta.IS S d.c.A d.x.o=E
 have HE:=Ja hE
 clear hE
 unfold JD
 go_enter Tryz.func137,Tryz.ntmps137
 go_wp2_with (first|rw[HW.out]|fail)
 generalize w.heap.size+1=q2 at *
 generalize w.heap.size=q at *
 have HS:Hid (∀ (W:World) (Y':Ly) (K':Kr) (o:Obj) (R':List Th),Y'.dv=Y.dv->(∃ v',Y'.D[i]? = some (qn,v'))->Sep w0 r W (kT p Y' K'::blk q2 o::blk q (Jp d)::R')->W.cell? ⟨p,7,none⟩=some (.slice (some ⟨g,0,none⟩) z cap)/\W.cell? ⟨g,i,none⟩=some (Je qn)/\W.cell? ⟨q,17,none⟩=some (.int .i64 (i:Int))/\W.cell? ⟨q,3,none⟩=some (.int .i64 d.c.A)/\W.cell? ⟨q,11,none⟩=some (.int .i64 d.x.o)):=fun W Y' K' o R' hy ⟨v',hv⟩ s=>by
  have k:=s.k7
  rw[hy,hnv] at k
  have k2:=s.spWay (hy.trans hnv) hv
  have c17:W.cell? ⟨q,17,none⟩=some (.int .i64 d.y.o):=(s.blkCell (p:=q) (Jmc (Jmc (Jms))) 17).1
  rw[HX.out] at c17
  have c3:W.cell? ⟨q,3,none⟩=some (.int .i64 d.c.A):=(s.blkCell (p:=q) (Jmc (Jmc (Jms))) 3).1
  have c11:W.cell? ⟨q,11,none⟩=some (.int .i64 d.x.o):=(s.blkCell (p:=q) (Jmc (Jmc (Jms))) 11).1
  exact⟨k,k2,c17,c3,c11⟩
 have hS:=HS.out _ _ _ _ _ (by rfl) ⟨_,HI.out.2⟩ S1.out.drew
 have HC1:=Ja (J5v S1.out.drew HI.out.1 HI.out.2 d.c.A d.x.o)
 go_region_held3 (fun W=>W.cell? ⟨p,7,none⟩=some (.slice (some ⟨g,0,none⟩) z cap)/\W.cell? ⟨g,i,none⟩=some (Je qn)/\W.cell? ⟨q,17,none⟩=some (.int .i64 (i:Int))/\W.cell? ⟨q,3,none⟩=some (.int .i64 d.c.A)/\W.cell? ⟨q,11,none⟩=some (.int .i64 d.x.o)) (first|with_reducible assumption|with_reducible exact hS) (first|(go_at_call 239;refine Jqa HC1.out ?_;rintro e w3 ⟨rfl,x3,s3⟩;have hS3:=HS.out _ _ _ _ _ (by rfl) ⟨_,Jmd HI.out.2 _⟩ s3;rw[HE.out];have SP1:=Ja s3;clear s3)|(go_at_call 60;refine Jqa (JI _ _) ?_;rintro e w9 ⟨rfl,b9⟩;have s9:=(SP1.out.below b9);have hS9:=HS.out _ _ _ _ _ (by rfl) ⟨_,Jmd HI.out.2 _⟩ s9;obtain⟨t0,t1,t2,t3,f0,f1,f2,f3⟩:=s9.swap.cells4 (Jms);have s10:=s9.swap.put4 E 0 (-1) (.slice none 0 0);have hS10:=HS.out _ _ _ _ _ (by rfl) ⟨_,Jmd HI.out.2 _⟩ s10.swap;have S10:=Ja s10;clear s9 s10;simp only[Jf]))
 clear hS
 obtain⟨g0,g1,g2,g3,-⟩:=S10.out.cells4 (Jms)
 have G10:=Ja (And.intro (And.intro g0 g1) (And.intro g2 g3))
 clear g0 g1 g2 g3
 go_wp2
 refine bodyPost_ret (v:=Jf E 0 (-1) (.slice none 0 0)) ?_ rfl ⟨rfl,_,S10.out.drop.drop2⟩
 simp[results,Tryz.f137,go_sem,Jf,G10.out.1.1,G10.out.1.2,G10.out.2.1,G10.out.2.2]
end
end
end Go.Proofs.YtbfjjpdnoalojaaGreatDoor
