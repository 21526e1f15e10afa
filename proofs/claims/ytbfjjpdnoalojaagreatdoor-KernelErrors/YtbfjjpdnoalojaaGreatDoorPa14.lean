/- Below: KT KL KG KDe; no condition. -/
import Derived.Test.YtbfjjpdnoalojaaGreatDoorPa6
import Derived.Test.YtbfjjpdnoalojaaGreatDoorPa7
import Derived.Test.YtbfjjpdnoalojaaGreatDoorPa9
import Derived.Test.YtbfjjpdnoalojaaGreatDoorPa10
import Derived.Test.YtbfjjpdnoalojaaGreatDoorPa11
import Derived.Test.YtbfjjpdnoalojaaGreatDoorPa12
import Derived.Test.YtbfjjpdnoalojaaGreatDoorPa13
import Derived.WideMake
set_option maxHeartbeats 16000000
set_option maxRecDepth 100000
namespace Go.Proofs.YtbfjjpdnoalojaaGreatDoor
section
open Go.RowKit Go.Deep Go.Shelf
open Classical
structure Ly where
 n:Nat
 F:Nat->Prop
 t:Nat
 tv:Value
 h:Nat
 hF:Nat->Prop
 l:Nat
 lv:Value
 uv:Value
 pv:Value
 P:List (Nat×Value)
 nv:Value
 N:List (Nat×Value)
 dv:Value
 D:List (Nat×(Nat->Option Nat))
def Xr (Y:Ly) (fr tb:Nat):Obj:=.cells #[Je Y.n,Je Y.t,Je Y.h,Je Y.l,Y.uv,Y.pv,Y.nv,Y.dv,.int .i64 (fr:Int),.int .i64 (tb:Int)] 96
def AE (P:List (Nat×Value)) (S:List En.St):List Th:=List.zipWith (fun a S=>En.VE a.1 a.2 S) P S
def EN (P:List (Nat×Value)) (S:List No.Ns):List Th:=List.zipWith (fun a S=>No.Ed a.1 a.2 S) P S
def Jcc (P:List (Nat×(Nat->Option Nat))) (S:List Ta.Sp):List Th:=List.zipWith (fun a S=>Ta.UA a.1 a.2 S) P S
def eT (p:Nat) (v:Value) (S:Tr.St):Th where
 F:=Tr.fpT p v
 H:=fun w=>Tr.TrH p v S w
 lt:=(Tr.trT p v S).lt
 keep:=(Tr.trT p v S).keep
def MY (p:Nat) (Y:Ly) (K:Kr):List Th:=
 [blk p (Xr Y K.fr K.tb),nT Y.n Y.F K.S,eT Y.t Y.tv K.E,Th.tT Y.h Y.hF K.h,Ir.lnT Y.l Y.lv K.l,Jv EI Y.uv K.U,Jv Mc Y.pv (Y.P.map (·.1)),Jv Ml Y.nv (Y.N.map (·.1)),Jv MN Y.dv (Y.D.map (·.1))]++(AE Y.P K.P++(EN Y.N K.N++Jcc Y.D K.D))
def FT (Y:Ly) (K:Kr):Prop:=Y.P.length=K.P.length/\Y.N.length=K.N.length/\Y.D.length=K.D.length
def kT (p:Nat) (Y:Ly) (K:Kr):Th:=O6 (FT Y K) (MY p Y K)
def KS (w0:World) (r:Nat) (w:World) (p:Nat) (K:Kr) (R:List Th):Prop:=∃ Y,Sep w0 r w (kT p Y K::R)
section
variable {w0 w w':World} {r p:Nat} {Y:Ly} {K:Kr} {R:List Th}
theorem Sep.obj (s:Sep w0 r w (kT p Y K::R)):w.heap[p]? = some (Xr Y K.fr K.tb):=s.has (t:=blk p (Xr Y K.fr K.tb)) (by simp[MY])
theorem Sep.k0 (s:Sep w0 r w (kT p Y K::R)):w.cell? ⟨p,0,none⟩=some (Je Y.n):=by simp[World.cell?,s.obj,Xr]
theorem Sep.k1 (s:Sep w0 r w (kT p Y K::R)):w.cell? ⟨p,1,none⟩=some (Je Y.t):=by simp[World.cell?,s.obj,Xr]
theorem Sep.k2 (s:Sep w0 r w (kT p Y K::R)):w.cell? ⟨p,2,none⟩=some (Je Y.h):=by simp[World.cell?,s.obj,Xr]
theorem Sep.k4 (s:Sep w0 r w (kT p Y K::R)):w.cell? ⟨p,4,none⟩=some Y.uv:=by simp[World.cell?,s.obj,Xr]
theorem Sep.k5 (s:Sep w0 r w (kT p Y K::R)):w.cell? ⟨p,5,none⟩=some Y.pv:=by simp[World.cell?,s.obj,Xr]
theorem Sep.k6 (s:Sep w0 r w (kT p Y K::R)):w.cell? ⟨p,6,none⟩=some Y.nv:=by simp[World.cell?,s.obj,Xr]
theorem Sep.k7 (s:Sep w0 r w (kT p Y K::R)):w.cell? ⟨p,7,none⟩=some Y.dv:=by simp[World.cell?,s.obj,Xr]
theorem Sep.kN (s:Sep w0 r w (kT p Y K::R)):∃ Q,Sep w0 r w (nT Y.n Y.F K.S::Q)/\∀ w' F' S' E,Sep w0 r w' (nT Y.n F' S'::(E++Q))->Sep w0 r w' (kT p { Y with F:=F' } { K with S:=S' }::(E++R)):=
 ⟨_,Sep.into (A:=[blk p (Xr Y K.fr K.tb)]) s,fun _ F' S' _ h=>Sep.back (A:=[blk p (Xr Y K.fr K.tb)]) (P':=FT { Y with F:=F' } { K with S:=S' }) s.fact h⟩
theorem Sep.kE (s:Sep w0 r w (kT p Y K::R)):∃ Q,Sep w0 r w (Tr.trT Y.t Y.tv K.E::Q)/\∀ w' v' S' E,Sep w0 r w' (Tr.trT Y.t v' S'::(E++Q))->Sep w0 r w' (kT p { Y with tv:=v' } { K with E:=S' }::(E++R)):=
 ⟨_,Sep.into (A:=[blk p (Xr Y K.fr K.tb),nT Y.n Y.F K.S]) s,fun _ v' S' _ h=>Sep.back (A:=[blk p (Xr Y K.fr K.tb),nT Y.n Y.F K.S]) (P':=FT { Y with tv:=v' } { K with E:=S' }) s.fact h⟩
theorem Sep.kH (s:Sep w0 r w (kT p Y K::R)):∃ Q,Sep w0 r w (Th.tT Y.h Y.hF K.h::Q)/\∀ w' F' S' E,Sep w0 r w' (Th.tT Y.h F' S'::(E++Q))->Sep w0 r w' (kT p { Y with hF:=F' } { K with h:=S' }::(E++R)):=
 ⟨_,Sep.into (A:=[blk p (Xr Y K.fr K.tb),nT Y.n Y.F K.S,eT Y.t Y.tv K.E]) s,fun _ F' S' _ h=>Sep.back (A:=[blk p (Xr Y K.fr K.tb),nT Y.n Y.F K.S,eT Y.t Y.tv K.E]) (P':=FT { Y with hF:=F' } { K with h:=S' }) s.fact h⟩
theorem Sep.kU (s:Sep w0 r w (kT p Y K::R)):∃ Q,Sep w0 r w (Jv EI Y.uv K.U::blk p (Xr Y K.fr K.tb)::Q)/\∀ w' v' S' E,Sep w0 r w' (Jv EI v' S'::blk p (Xr { Y with uv:=v' } K.fr K.tb)::(E++Q))->Sep w0 r w' (kT p { Y with uv:=v' } { K with U:=S' }::(E++R)):=by
 refine⟨[nT Y.n Y.F K.S,eT Y.t Y.tv K.E,Th.tT Y.h Y.hF K.h,Ir.lnT Y.l Y.lv K.l]++([Jv Mc Y.pv (Y.P.map (·.1)),Jv Ml Y.nv (Y.N.map (·.1)),Jv MN Y.dv (Y.D.map (·.1))]++(AE Y.P K.P++(EN Y.N K.N++Jcc Y.D K.D)))++R,?_,fun _ v' S' _ h=>?_⟩
 ·exact Sep.into (A:=[blk p (Xr Y K.fr K.tb),nT Y.n Y.F K.S,eT Y.t Y.tv K.E,Th.tT Y.h Y.hF K.h,Ir.lnT Y.l Y.lv K.l]) s
 ·refine Sep.back (A:=[blk p (Xr { Y with uv:=v' } K.fr K.tb),nT Y.n Y.F K.S,eT Y.t Y.tv K.E,Th.tT Y.h Y.hF K.h,Ir.lnT Y.l Y.lv K.l]) (P':=FT { Y with uv:=v' } { K with U:=S' }) s.fact (h.perm (.cons _ ?_))
  exact List.perm_middle.symm
theorem Jq7 (s:Sep w0 r w (kT p Y K::R)) (x:Sl.Sl) (c:Sl.Cp) (hx:x.Fits) (hc:c.Fits) :
  Calls Tryz.prog 40 #[Je Y.n,Sl.Jh x,Sl.Jg c] w fun e w'=>e=.returned (.int .i64 (Sl.VX K.S x c))/\Sep w0 r w' (kT p Y { K with S:=Sl.ZL K.S x c }::R):=by
 obtain⟨Q,s1,bk⟩:=s.kN
 obtain⟨L,hin,out⟩:=s1.inSl
 haveI:Inhabited Sl.Sl:=⟨⟨0,0⟩⟩
 haveI:Inhabited Sl.Cp:=⟨Sl.no⟩
 refine Jqa (Sl.Jpc x c _ _ hin hx hc rfl rfl) ?_
 rintro e w' ⟨rfl,h⟩
 exact⟨rfl,bk w' _ _ [] (out _ _ _ h)⟩
theorem Jtm (s:Sep w0 r w (kT p Y K::R)) (x:Sl.Sl) (hx:x.Fits) :
  Calls Tryz.prog 308 #[Je Y.n,Sl.Jh x] w fun e w'=>e=.returned (.tuple #[Sl.Jg (Sl.Vm K.S x),.int .i64 (Sl.ZS K.S x)])/\Sep w0 r w' (kT p Y { K with S:=Sl.takeS K.S x }::R):=by
 obtain⟨Q,s1,bk⟩:=s.kN
 obtain⟨L,hin,out⟩:=s1.inSl
 haveI:Inhabited Sl.Sl:=⟨⟨0,0⟩⟩
 haveI:Inhabited Sl.Cp:=⟨Sl.no⟩
 refine Jqa (Sl.Jmt x _ _ _ hin hx rfl rfl rfl) ?_
 rintro e w' ⟨rfl,h⟩
 exact⟨rfl,bk w' _ _ [] (out _ _ _ h)⟩
theorem Jy5 (s:Sep w0 r w (kT p Y K::R)) (x:Sl.Sl) (hx:x.Fits) :
  Calls Tryz.prog 202 #[Je Y.n,Sl.Jh x] w fun e w'=>e=.returned (.tuple #[Sl.Jg (Sl.Vt K.S x),.int .i64 (Sl.UQ K.S x)])/\Below w.heap.size w w':=by
 obtain⟨Q,s1,bk⟩:=s.kN
 exact Sl.Ab _ _ _ x w s1.head hx
theorem Jtl (s:Sep w0 r w (kT p Y K::R)) (n:Int) :
  Calls Tryz.prog 203 #[Je Y.n,.int .i64 n] w fun e w'=>e=.returned (.tuple #[.int .i64 (Sl.UW K.S n),.bool (Sl.XH K.S n)])/\w'=w:=by
 obtain⟨Q,s1,bk⟩:=s.kN
 exact Sl.Vl _ _ _ n w s1.head
theorem Jko (s:Sep w0 r w (kT p Y K::R)) (n:Int) :
  Calls Tryz.prog 33 #[Je Y.n,.int .i64 n] w fun e w'=>e=.returned (.tuple #[.int .i64 (Sl.JW K.S n),.int .i64 (Sl.JV K.S n)])/\∃ xx,Sep w0 r w' (kT p { Y with F:=xx } { K with S:=Sl.Zq K.S n }::R):=by
 obtain⟨Q,s1,bk⟩:=s.kN
 obtain⟨L,hin,out⟩:=s1.inSl
 haveI:Inhabited Sl.Sl:=⟨⟨0,0⟩⟩
 haveI:Inhabited Sl.Cp:=⟨Sl.no⟩
 refine Jqa (Sl.Jk0 n _ _ _ hin rfl rfl rfl) ?_
 rintro e w' ⟨rfl,F',h⟩
 exact⟨rfl,_,bk w' _ _ [] (out _ _ _ h)⟩
theorem Jti (s:Sep w0 r w (kT p Y K::R)) (c:Sl.Cp) (a d:Int) (hf:c.Fits) (ha:0<=a/\a<=18446744073709551615) :
  Calls Tryz.prog 102 #[Je Y.n,Sl.Jg c,.int .u64 a,.int .i64 d] w fun e w'=>e=.returned (.tuple #[Sl.Jh (Sl.Ub K.S c a d).1,.int .i64 (Sl.Ub K.S c a d).2])/\Below w.heap.size w w':=by
 obtain⟨Q,s1,bk⟩:=s.kN
 obtain⟨L,hin,out⟩:=s1.inSl
 haveI:Inhabited Sl.Sl:=⟨⟨0,0⟩⟩
 haveI:Inhabited Sl.Cp:=⟨Sl.no⟩
 exact Sl.Jmm _ _ _ c a d w s1.head hf ha
theorem Jtk (s:Sep w0 r w (kT p Y K::R)) (x:Tr.Sl) (hl:K.E.length<=1000) :
  Calls Tryz.prog 41 #[Je Y.t,Tr.Jh x] w fun e w'=>e=.returned (.int .i64 (Tr.Jb0 K.E x))/\∃ xx,Sep w0 r w' (kT p { Y with tv:=xx } { K with E:=Tr.rootS K.E x }::R):=by
 obtain⟨Q,s1,bk⟩:=s.kE
 refine Jqa (Tr.Jl2 x s1 hl) ?_
 rintro e w' ⟨rfl,v',h⟩
 exact⟨rfl,_,bk w' _ _ [] h⟩
theorem Jy4 (s:Sep w0 r w (kT p Y K::R)) (a x:Tr.Sl) (hl:K.E.length<=1000) :
  Calls Tryz.prog 300 #[Je Y.t,Tr.Jh a,Tr.Jh x] w fun e w'=>e=.returned (.int .i64 (Tr.Ji1 K.E a x))/\∃ xx,Sep w0 r w' (kT p { Y with tv:=xx } { K with E:=Tr.addS K.E a x }::R):=by
 obtain⟨Q,s1,bk⟩:=s.kE
 refine Jqa (Tr.Jnl a x s1 hl) ?_
 rintro e w' ⟨rfl,v',h⟩
 exact⟨rfl,_,bk w' _ _ [] h⟩
theorem Jkr (s:Sep w0 r w (kT p Y K::R)) (x:Tr.Sl) (hl:K.E.length<=1000) :
  Calls Tryz.prog 307 #[Je Y.t,Tr.Jh x] w fun e w'=>e=.returned (.int .i64 (Tr.ZS K.E x))/\∃ xx,Sep w0 r w' (kT p { Y with tv:=xx } { K with E:=Tr.takeS K.E x }::R):=by
 obtain⟨Q,s1,bk⟩:=s.kE
 refine Jqa (Tr.Jmw x s1 hl) ?_
 rintro e w' ⟨rfl,v',h⟩
 exact⟨rfl,_,bk w' _ _ [] h⟩
theorem Joj (s:Sep w0 r w (kT p Y K::R)) (x:Tr.Sl) (hl:K.E.length<=1000) :
  Calls Tryz.prog 229 #[Je Y.t,Tr.Jh x] w fun e w'=>∃ ao cap,e=.returned (.slice ao (Tr.Zo K.E x).length cap)/\Sep w0 r w' (kT p Y K::Tr.Joq (.slice ao (Tr.Zo K.E x).length cap) (Tr.Zo K.E x)::R):=by
 obtain⟨Q,s1,bk⟩:=s.kE
 refine Jqa (Tr.Jio x s1 hl) ?_
 rintro e w' ⟨ao,cap,rfl,h⟩
 exact⟨ao,cap,rfl,bk w' _ _ [_] h⟩
theorem Jfd (s:Sep w0 r w (kT p Y K::R)) (a b:Int):Calls Tryz.prog 100 #[Je Y.h,.int .i64 a,.int .i64 b] w fun e w'=>e=.returned (.tuple #[.int .i64 (Th.JW K.h a b),.int .i64 (Th.JV K.h a b)])/\∃ xx,Sep w0 r w' (kT p { Y with hF:=xx } { K with h:=Th.JS K.h a b }::R):=by
 obtain⟨Q,s1,bk⟩:=s.kH
 refine Jqa (Th.Jk1 s1 a b) ?_
 rintro e w' ⟨rfl,F',h⟩
 exact⟨rfl,_,bk w' _ _ [] h⟩
theorem Jtn (s:Sep w0 r w (kT p Y K::R)) (a:Int):Calls Tryz.prog 116 #[Je Y.h,.int .i64 a] w fun e w'=>e=.returned (.tuple #[Th.MO (Th.Gf K.h a),.int .i64 (Th.UQ K.h a)])/\Below w.heap.size w w':=by
 obtain⟨Q,s1,bk⟩:=s.kH
 obtain⟨v,u,qs,t⟩:=s1.head.1.at
 exact Th.Ab t a
theorem Ja8 (s:Sep w0 r w (kT p Y K::R)) (a:Int):Calls Tryz.prog 101 #[Je Y.h,.int .i64 a] w fun e w'=>e=.returned (.int .i64 (Th.Xh K.h a))/\∃ xx,Sep w0 r w' (kT p { Y with hF:=xx } { K with h:=Th.JR K.h a }::R):=by
 obtain⟨Q,s1,bk⟩:=s.kH
 refine Jqa (Th.Jeb s1 a) ?_
 rintro e w' ⟨rfl,F',h⟩
 exact⟨rfl,_,bk w' _ _ [] h⟩
theorem Fr (s:Sep w0 r w (kT p Y K::R)) (a:Int):Calls Tryz.prog 232 #[Je Y.h,.int .i64 a] w fun e w'=>e=.returned (.int .i64 (Th.JY K.h a))/\∃ xx,Sep w0 r w' (kT p { Y with hF:=xx } { K with h:=Th.JM K.h a }::R):=by
 obtain⟨Q,s1,bk⟩:=s.kH
 refine Jqa (Th.Jcd s1 a) ?_
 rintro e w' ⟨rfl,F',h⟩
 exact⟨rfl,_,bk w' _ _ [] h⟩
theorem Joh (s:Sep w0 r w (kT p Y K::R)) (a:Int):Calls Tryz.prog 319 #[Je Y.h,.int .i64 a] w fun e w'=>e=.returned (.int .i64 (Th.Vp K.h a))/\∃ xx,Sep w0 r w' (kT p { Y with hF:=xx } { K with h:=Th.Xp K.h a }::R):=by
 obtain⟨Q,s1,bk⟩:=s.kH
 refine Jqa (Th.Jf7 s1 a) ?_
 rintro e w' ⟨rfl,F',h⟩
 exact⟨rfl,_,bk w' _ _ [] h⟩
theorem Jtj (s:Sep w0 r w (kT p Y K::R)) (a b:Int):Calls Tryz.prog 233 #[Je Y.h,.int .i64 a,.int .i64 b] w fun e w'=>e=.returned (.int .i64 (Th.VV K.h a b))/\∃ xx,Sep w0 r w' (kT p { Y with hF:=xx } { K with h:=Th.VW K.h a b }::R):=by
 obtain⟨Q,s1,bk⟩:=s.kH
 refine Jqa (Th.Jls s1 a b) ?_
 rintro e w' ⟨rfl,F',h⟩
 exact⟨rfl,_,bk w' _ _ [] h⟩
theorem Ic (s:Sep w0 r w (kT p Y K::R)) (ht:∀ u,Below r w0 u->Th.Tab u) (a:Int):Calls Tryz.prog 59 #[Je Y.h,.int .i64 a] w fun e w'=>e=.returned (.tuple #[.int .i64 (Th.XE (Th.JB K.h a) a),.bool (Th.Xm (Th.JB K.h a) a)])/\∃ xx,Sep w0 r w' (kT p { Y with hF:=xx } { K with h:=Th.JB K.h a }::R):=by
 obtain⟨Q,s1,bk⟩:=s.kH
 refine Jqa (Th.Jln s1 ht a) ?_
 rintro e w' ⟨rfl,F',h⟩
 exact⟨rfl,_,bk w' _ _ [] h⟩
theorem Jok (s:Sep w0 r w (kT p Y K::R)) (ht:∀ u,Below r w0 u->Th.Tab u) (a:Int):Calls Tryz.prog 176 #[Je Y.h,.int .i64 a] w fun e w'=>e=.returned (.bool (Th.Xm K.h a))/\∃ xx,Sep w0 r w' (kT p { Y with hF:=xx } { K with h:=Th.XR K.h a }::R):=by
 obtain⟨Q,s1,bk⟩:=s.kH
 refine Jqa (Th.Jiu s1 ht a) ?_
 rintro e w' ⟨rfl,F',h⟩
 exact⟨rfl,_,bk w' _ _ [] h⟩
end
structure De where
 c:Cl
 core:Int
 who:Int
 f:Int
 x:Sl.Cp
 y:Sl.Cp
def Jp (d:De):Obj:=.cells #[.int .i64 d.c.q,.int .i64 d.c.a,.int .i64 d.c.w,.int .i64 d.c.A,.int .i64 d.c.B,.int .i64 d.c.C,.int .i64 d.core,.int .i64 d.who,.int .i64 0,.int .i64 d.f,.int .i64 d.x.k,.int .i64 d.x.o,.int .i64 d.x.r,.int .u64 d.x.b,.int .u64 d.x.g,.int .i64 d.x.z,.int .i64 d.y.k,.int .i64 d.y.o,.int .i64 d.y.r,.int .u64 d.y.b,.int .u64 d.y.g,.int .i64 d.y.z] 151
def JD (d:De):Value:=.agg #[.int .i64 d.c.q,.int .i64 d.c.a,.int .i64 d.c.w,.int .i64 d.c.A,.int .i64 d.c.B,.int .i64 d.c.C,.int .i64 d.core,.int .i64 d.who,.int .i64 0,.int .i64 d.f,.int .i64 d.x.k,.int .i64 d.x.o,.int .i64 d.x.r,.int .u64 d.x.b,.int .u64 d.x.g,.int .i64 d.x.z,.int .i64 d.y.k,.int .i64 d.y.o,.int .i64 d.y.r,.int .u64 d.y.b,.int .u64 d.y.g,.int .i64 d.y.z]
def Ji (e w k:Int) (v:Value):Obj:=.cells #[.int .i64 e,.int .u64 w,.int .i64 k,v] 42
section
variable {w0 w w':World} {r p:Nat} {Y:Ly} {K:Kr} {R:List Th}
theorem Sep.put4 {q:Nat} {e0 w1 k1:Int} {v0:Value} (s:Sep w0 r w (blk q (Ji e0 w1 k1 v0)::R)) (e x k:Int) (v:Value):Sep w0 r ((((w.setCell ⟨q,0,none⟩ (.int .i64 e)).setCell ⟨q,1,none⟩ (.int .u64 x)).setCell ⟨q,2,none⟩ (.int .i64 k)).setCell ⟨q,3,none⟩ v) (blk q (Ji e x k v)::R):=by
 have:=(((Sep.putB s 0 (.int .i64 e)).putB 1 (.int .u64 x)).putB 2 (.int .i64 k)).putB 3 v
 simpa [Ji] using this
theorem Sep.cells4 {q:Nat} {e x k:Int} {v:Value} (s:Sep w0 r w R) (h:blk q (Ji e x k v)∈R):w.cell? ⟨q,0,none⟩=some (.int .i64 e)/\w.cell? ⟨q,1,none⟩=some (.int .u64 x)/\w.cell? ⟨q,2,none⟩=some (.int .i64 k)/\w.cell? ⟨q,3,none⟩=some v/\w.frozen? ⟨q,0,none⟩=false/\w.frozen? ⟨q,1,none⟩=false/\w.frozen? ⟨q,2,none⟩=false/\w.frozen? ⟨q,3,none⟩=false:=
 ⟨(s.blkCell h 0).1,(s.blkCell h 1).1,(s.blkCell h 2).1,(s.blkCell h 3).1,(s.blkCell h 0).2,(s.blkCell h 1).2,(s.blkCell h 2).2,(s.blkCell h 3).2⟩
theorem Sep.putTW {q:Nat} {e x k:Int} {v:Value} (s:Sep w0 r w (blk q (Ji e x k v)::R)) (y:Int):Sep w0 r (w.setCell ⟨q,1,none⟩ (.int .u64 y)) (blk q (Ji e y k v)::R):=by
 have:=Sep.putB s 1 (.int .u64 y)
 simpa [Ji] using this
theorem Sep.putTK {q:Nat} {e x k:Int} {v:Value} (s:Sep w0 r w (blk q (Ji e x k v)::R)) (y:Int):Sep w0 r (w.setCell ⟨q,2,none⟩ (.int .i64 y)) (blk q (Ji e x y v)::R):=by
 have:=Sep.putB s 2 (.int .i64 y)
 simpa [Ji] using this
theorem Sep.putTF {q:Nat} {e x k:Int} {v:Value} (s:Sep w0 r w (blk q (Ji e x k v)::R)) (y:Value):Sep w0 r (w.setCell ⟨q,3,none⟩ y) (blk q (Ji e x k y)::R):=by
 have:=Sep.putB s 3 y
 simpa [Ji] using this
theorem Sep.ne {a b:Nat} {o o':Obj} {t:Th} (s:Sep w0 r w (blk a o::t::blk b o'::R)):a≠b/\b≠a:=by
 have h:=(Jqq.1 s.apart).1 (blk b o') (by simp) a rfl
 exact⟨h,fun e=>h e.symm⟩
theorem Sep.deed (s:Sep w0 r w (kT p Y K::R)) (d:De):Sep w0 r ((w.alloc (Jp d)).alloc (Ji 0 0 0 (.slice none 0 0))) (kT p Y K::blk (w.heap.size+1) (Ji 0 0 0 (.slice none 0 0))::blk w.heap.size (Jp d)::R):=by
 have:=((s.box (Jp d)).swap.box (Ji 0 0 0 (.slice none 0 0))).swap
 rwa [show(w.alloc (Jp d)).heap.size=w.heap.size+1 by simp] at this
theorem Mp {q:Nat} {d:De} (s:Sep w0 r w R) (h:blk q (Jp d)∈R):(loadVar 151 ⟨q,0,none⟩).run Tryz.prog w=.ok (JD d) w:=by
 have hb:w.heap[q]? = some (Jp d):=(s.each _ h).1
 have h1:=run_loadCells_list (P:=Tryz.prog) w ⟨q,0,none⟩ [.int .i64 d.c.q,.int .i64 d.c.a,.int .i64 d.c.w,.int .i64 d.c.A,.int .i64 d.c.B,.int .i64 d.c.C,.int .i64 d.core,.int .i64 d.who,.int .i64 0,.int .i64 d.f,.int .i64 d.x.k,.int .i64 d.x.o,.int .i64 d.x.r,.int .u64 d.x.b,.int .u64 d.x.g,.int .i64 d.x.z,.int .i64 d.y.k,.int .i64 d.y.o,.int .i64 d.y.r,.int .u64 d.y.b,.int .u64 d.y.g,.int .i64 d.y.z] (fun j v hj=>by
  rw[JG,Nat.zero_add]
  simp only[World.cell?]
  rw[hb]
  simp only[Jp]
  rw[<- hj]
  simp only[Option.isSome_none,Bool.false_eq_true,if_false,List.getElem?_toArray])
 simp only[loadVar,Sem.run_bind,Tryz.isAgg151,Tryz.sizeOf151,Result.andThen_ok,if_true]
 rw[show(22:Nat)=List.length [Value.int .i64 d.c.q,.int .i64 d.c.a,.int .i64 d.c.w,.int .i64 d.c.A,.int .i64 d.c.B,.int .i64 d.c.C,.int .i64 d.core,.int .i64 d.who,.int .i64 0,.int .i64 d.f,.int .i64 d.x.k,.int .i64 d.x.o,.int .i64 d.x.r,.int .u64 d.x.b,.int .u64 d.x.g,.int .i64 d.x.z,.int .i64 d.y.k,.int .i64 d.y.o,.int .i64 d.y.r,.int .u64 d.y.b,.int .u64 d.y.g,.int .i64 d.y.z] from rfl,h1]
 rfl
theorem Sep.to4 {a b c e:Th} (s:Sep w0 r w (a::b::c::e::R)):Sep w0 r w (b::c::e::a::R):=
 s.perm ((Jqn b a _).trans (.cons _ ((Jqn c a _).trans (.cons _ (.swap e a _)))))
theorem Sep.from4 {a b c e:Th} (s:Sep w0 r w (b::c::e::a::R)):Sep w0 r w (a::b::c::e::R):=
 s.perm ((Jqn b a _).trans (.cons _ ((Jqn c a _).trans (.cons _ (.swap e a _))))).symm
theorem Sep.metz {q:Nat} (s:Sep w0 r w R) (h:blk q (.cells #[.bool false,.int .i64 0,.int .i64 0,.int .i64 0,.int .u64 0,.int .u64 0,.int .u64 0,.int .u64 0,.int .u64 0,.bool false] 258)∈R):(∀ j,w.frozen? ⟨q,j,none⟩=false)/\w.cell? ⟨q,0,none⟩=some (.bool false)/\w.cell? ⟨q,1,none⟩=some (.int .i64 0)/\w.cell? ⟨q,2,none⟩=some (.int .i64 0)/\w.cell? ⟨q,3,none⟩=some (.int .i64 0)/\w.cell? ⟨q,4,none⟩=some (.int .u64 0)/\w.cell? ⟨q,5,none⟩=some (.int .u64 0)/\w.cell? ⟨q,6,none⟩=some (.int .u64 0)/\w.cell? ⟨q,7,none⟩=some (.int .u64 0)/\w.cell? ⟨q,8,none⟩=some (.int .u64 0)/\w.cell? ⟨q,9,none⟩=some (.bool false):=
 ⟨fun j=>(s.blkCell h j).2,(s.blkCell h 0).1,(s.blkCell h 1).1,(s.blkCell h 2).1,(s.blkCell h 3).1,(s.blkCell h 4).1,(s.blkCell h 5).1,(s.blkCell h 6).1,(s.blkCell h 7).1,(s.blkCell h 8).1,(s.blkCell h 9).1⟩
theorem Sep.putM {q:Nat} (s:Sep w0 r w (blk q (.cells #[.bool false,.int .i64 0,.int .i64 0,.int .i64 0,.int .u64 0,.int .u64 0,.int .u64 0,.int .u64 0,.int .u64 0,.bool false] 258)::R)) (x:En.Mt):Sep w0 r ((((((((((w.setCell ⟨q,0,none⟩ (.bool x.i)).setCell ⟨q,1,none⟩ (.int .i64 x.f)).setCell ⟨q,2,none⟩ (.int .i64 x.t)).setCell ⟨q,3,none⟩ (.int .i64 x.m.l)).setCell ⟨q,4,none⟩ (.int .u64 x.m.a)).setCell ⟨q,5,none⟩ (.int .u64 x.m.b)).setCell ⟨q,6,none⟩ (.int .u64 x.m.c)).setCell ⟨q,7,none⟩ (.int .u64 x.m.d)).setCell ⟨q,8,none⟩ (.int .u64 x.m.g)).setCell ⟨q,9,none⟩ (.bool x.m.q)) (blk q (.cells #[.bool x.i,.int .i64 x.f,.int .i64 x.t,.int .i64 x.m.l,.int .u64 x.m.a,.int .u64 x.m.b,.int .u64 x.m.c,.int .u64 x.m.d,.int .u64 x.m.g,.bool x.m.q] 258)::R):=by
 have:=(((((((((s.putB 0 (.bool x.i)).putB 1 (.int .i64 x.f)).putB 2 (.int .i64 x.t)).putB 3 (.int .i64 x.m.l)).putB 4 (.int .u64 x.m.a)).putB 5 (.int .u64 x.m.b)).putB 6 (.int .u64 x.m.c)).putB 7 (.int .u64 x.m.d)).putB 8 (.int .u64 x.m.g)).putB 9 (.bool x.m.q)
 simpa using this
theorem Sep.zCp {q:Nat} (s:Sep w0 r w R) (h:blk q (.cells #[.int .i64 0,.int .i64 0,.int .i64 0,.int .u64 0,.int .u64 0,.int .i64 0] 82)∈R):(∀ j,w.frozen? ⟨q,j,none⟩=false)/\w.cell? ⟨q,0,none⟩=some (.int .i64 0)/\w.cell? ⟨q,1,none⟩=some (.int .i64 0)/\w.cell? ⟨q,2,none⟩=some (.int .i64 0)/\w.cell? ⟨q,3,none⟩=some (.int .u64 0)/\w.cell? ⟨q,4,none⟩=some (.int .u64 0)/\w.cell? ⟨q,5,none⟩=some (.int .i64 0):=
 ⟨fun j=>(s.blkCell h j).2,(s.blkCell h 0).1,(s.blkCell h 1).1,(s.blkCell h 2).1,(s.blkCell h 3).1,(s.blkCell h 4).1,(s.blkCell h 5).1⟩
theorem Sep.putCp {q:Nat} (s:Sep w0 r w (blk q (.cells #[.int .i64 0,.int .i64 0,.int .i64 0,.int .u64 0,.int .u64 0,.int .i64 0] 82)::R)) (x:Sl.Cp):Sep w0 r ((((((w.setCell ⟨q,0,none⟩ (.int .i64 x.k)).setCell ⟨q,1,none⟩ (.int .i64 x.o)).setCell ⟨q,2,none⟩ (.int .i64 x.r)).setCell ⟨q,3,none⟩ (.int .u64 x.b)).setCell ⟨q,4,none⟩ (.int .u64 x.g)).setCell ⟨q,5,none⟩ (.int .i64 x.z)) (blk q (.cells #[.int .i64 x.k,.int .i64 x.o,.int .i64 x.r,.int .u64 x.b,.int .u64 x.g,.int .i64 x.z] 82)::R):=by
 have:=(((((s.putB 0 (.int .i64 x.k)).putB 1 (.int .i64 x.o)).putB 2 (.int .i64 x.r)).putB 3 (.int .u64 x.b)).putB 4 (.int .u64 x.g)).putB 5 (.int .i64 x.z)
 simpa using this
theorem Sep.del3 {a b c:Th} (s:Sep w0 r w (a::b::c::R)):Sep w0 r w (a::b::R):=s.third.third.drop
end
end
section
open Go.RowKit Go.Deep Go.Shelf Go.MapKept
open Classical
def fnL:List Nat:=[125,126,127,128,129,130,131,132,133,134,135,136,137,138,139,140,141,142]
def fnV (p i:Nat):Value:=.func (.func (fnL.getD i 0)) #[Je p] #[]
def ent (p j:Nat):MapEntry:=⟨.int .i64 (j:Int),fnV p j,j⟩
def F8 (p i:Nat):List MapEntry:=(List.range i).map (ent p)
def Oe (p i:Nat):Obj:=.map (F8 p i).toArray i
theorem F9 (p:Nat) (k:Int):∀ (L:List Nat) (n:Nat),(∀ j∈L,(j:Int)≠k)->Instr.findNow (.int .i64) (.int .i64 k) (L.map (ent p)) n=some none
 | [],_,_=>rfl
 | j::L,n,h=>by
  have hj:(k == (j:Int))=false:=by
   have:=h j (Jms)
   simp only[beq_eq_false_iff_ne,ne_eq]
   exact fun e=>this e.symm
  have ih:=F9 p k L (n+1) fun x hx=>h x (Jmc hx)
  simp only[List.map_cons,Instr.findNow,ent,Instr.sameNow,if_true,hj]
  exact ih
theorem Je1 (p k:Nat):∀ (L:List Nat) (n i:Nat),(∀ x y:Nat,L[x]? = some k->L[y]? = some k->x=y)->L[i]? = some k->Instr.findNow (.int .i64) (.int .i64 (k:Int)) (L.map (ent p)) n=some (some (n+i,fnV p k))
 | [],_,_,_,h=>by simp at h
 | j::L,n,i,u,h=>by
  by_cases e:j=k
  ·subst e
   have:i=0:=u i 0 h rfl
   subst this
   simp[Instr.findNow,ent,Instr.sameNow]
  ·cases i with
   | zero=>exact absurd (Jqz h) e
   | succ i =>
    have hj:((k:Int) == (j:Int))=false:=by
     simp only[beq_eq_false_iff_ne,ne_eq]
     omega
    have ih:=Je1 p k L (n+1) i (fun x y hx hy=>Nat.succ.inj (u (x+1) (y+1) hx hy)) h
    simp only[List.map_cons,Instr.findNow,ent,Instr.sameNow,if_true,hj]
    rw[show n+(i+1)=n+1+i by omega]
    exact ih
theorem Jge (p i:Nat):F8 p (i+1)=F8 p i++[ent p i]:=by
 unfold F8
 rw[List.range_succ,List.map_append]
 rfl
def Za (w:World) (p i:Nat):World:=w.alloc (Oe p i)
theorem Jdp (w:World) (p i:Nat):(Za w p i).heap[w.heap.size]? = some (.map (F8 p i).toArray i):=by
 unfold Za
 exact blk_alloc_new w _
theorem Jlt {α:Type} (A:Array α) (x y:α):(A.push x).setIfInBounds A.size y=A.push y:=by
 apply Array.ext'
 rw[Array.toList_setIfInBounds,Array.toList_push,Array.toList_push,<- Array.length_toList,List.set_append_right _ _ (Nat.le_refl _),Nat.sub_self]
 rfl
theorem Jg6 (w:World) (p i:Nat):{ Za w p i with heap:=(Za w p i).heap.setIfInBounds w.heap.size (Oe p (i+1)) }=Za w p (i+1):=by
 show({ w with heap:=(w.heap.push (Oe p i)).setIfInBounds w.heap.size (Oe p (i+1)) }:World)={ w with heap:=w.heap.push (Oe p (i+1)) }
 rw[Jlt]
theorem Zd (w:World) (p i:Nat):(Instr.mapUpdate 148 (.map (some w.heap.size)) (.int .i64 (i:Int)) (fnV p i)).run Tryz.prog (Za w p i)=.ok () (Za w p (i+1)):=by
 have hb:=Jdp w p i
 have hf:Instr.findNow (.int .i64) (.int .i64 (i:Int)) (F8 p i) 0=some none:=F9 p i (List.range i) 0 fun j hj=>by
  have:=List.mem_range.1 hj
  omega
 have hc:(Instr.checkKey false 10000 3 (.int .i64 (i:Int))).run Tryz.prog (Za w p i)=.ok () (Za w p i):=MapKept.run_checkKey (k:=.int .i64 (i:Int)) Tryz.underlying3 (by simp[IsKey]) false 9999
 have hf2:Instr.findNow (.int .i64) (.int .i64 (i:Int)) (F8 p i).toArray.toList 0=some none:=by rw[List.toList_toArray];exact hf
 have hn:=Jg6 w p i
 rw[<- hn]
 unfold Oe
 rw[Jge]
 simp[Instr.mapUpdate,run_underlying Tryz.underlying148,MapKept.run_getObj_map hb,hc,MapKept.run_findKey Tryz.underlying3 hf2,MapKept.run_setObj_map _ hb,Result.andThen,ent]
theorem AW (w:World) (p b:Nat) (hb:w.heap[b]? = some (Oe p 18)) (k:Nat) (hk:k<18):(Instr.lookup 148 (.map (some b)) (.int .i64 (k:Int)) true).run Tryz.prog w=.ok (.tuple #[fnV p k,.bool true]) w:=by
 unfold Oe at hb
 have hf:Instr.findNow (.int .i64) (.int .i64 (k:Int)) (F8 p 18).toArray.toList 0=some (some (k,fnV p k)):=by
  rw[List.toList_toArray]
  have:=Je1 p k (List.range 18) 0 k (fun x y hx hy=>by
   have hx:=Jqb.1 hx
   have hy:=Jqb.1 hy
   obtain⟨_,hx⟩:=hx
   obtain⟨_,hy⟩:=hy
   rw[List.getElem_range] at hx hy
   omega) (by rw[List.getElem?_range hk])
  rw[Nat.zero_add] at this
  exact this
 have hc:∀ e,(Instr.checkKey e 10000 3 (.int .i64 (k:Int))).run Tryz.prog w=.ok () w:=fun e=>MapKept.run_checkKey (k:=.int .i64 (k:Int)) Tryz.underlying3 (by simp[IsKey]) e 9999
 simp[Instr.lookup,run_underlying Tryz.underlying148,MapKept.run_getObj_map hb,hc,MapKept.run_findKey Tryz.underlying3 hf,Result.andThen]
theorem Jop (w:World) (p b:Nat) (hb:w.heap[b]? = some (Oe p 18)) (k:Int) (hk:¬ (0<=k/\k<=17)):(Instr.lookup 148 (.map (some b)) (.int .i64 k) true).run Tryz.prog w=.ok (.tuple #[.nilFunc,.bool false]) w:=by
 unfold Oe at hb
 have hf:Instr.findNow (.int .i64) (.int .i64 k) (F8 p 18).toArray.toList 0=some none:=by
  rw[List.toList_toArray]
  exact F9 p k (List.range 18) 0 fun j hj e=>by
   have:=List.mem_range.1 hj
   omega
 have hc:∀ e,(Instr.checkKey e 10000 3 (.int .i64 k)).run Tryz.prog w=.ok () w:=fun e=>MapKept.run_checkKey (k:=.int .i64 k) Tryz.underlying3 (by simp[IsKey]) e 9999
 simp[Instr.lookup,run_underlying Tryz.underlying148,MapKept.run_getObj_map hb,hc,MapKept.run_findKey Tryz.underlying3 hf,Result.andThen]
theorem UJ {w0 w:World} {r:Nat} {R:List Th} (s:Sep w0 r w R) (p:Nat) :
  Calls Tryz.prog 61 #[Je p] w fun e w'=>∃ b,e=.returned (.map (some b))/\Sep w0 r w' (blk b (Oe p 18)::R):=by
 have S1:Hid (Sep w0 r (Za w p 18) (blk w.heap.size (Oe p 18)::R)):=Ja (s.box (Oe p 18))
 have hmk:(Instr.makeMap 148 none).run Tryz.prog w=.ok (.map (some w.heap.size)) (Za w p 0):=run_makeMap_plain w 148
 have hmf:=Jhm
 have e0:(Instr.mapUpdate 148 (.map (some w.heap.size)) (.int .i64 0) (.func (.func 125) #[Je p] #[])).run Tryz.prog (Za w p 0)=.ok () (Za w p 1):=Zd w p 0
 have e1:(Instr.mapUpdate 148 (.map (some w.heap.size)) (.int .i64 1) (.func (.func 126) #[Je p] #[])).run Tryz.prog (Za w p 1)=.ok () (Za w p 2):=Zd w p 1
 have e2:(Instr.mapUpdate 148 (.map (some w.heap.size)) (.int .i64 2) (.func (.func 127) #[Je p] #[])).run Tryz.prog (Za w p 2)=.ok () (Za w p 3):=Zd w p 2
 have e3:(Instr.mapUpdate 148 (.map (some w.heap.size)) (.int .i64 3) (.func (.func 128) #[Je p] #[])).run Tryz.prog (Za w p 3)=.ok () (Za w p 4):=Zd w p 3
 have e4:(Instr.mapUpdate 148 (.map (some w.heap.size)) (.int .i64 4) (.func (.func 129) #[Je p] #[])).run Tryz.prog (Za w p 4)=.ok () (Za w p 5):=Zd w p 4
 have e5:(Instr.mapUpdate 148 (.map (some w.heap.size)) (.int .i64 5) (.func (.func 130) #[Je p] #[])).run Tryz.prog (Za w p 5)=.ok () (Za w p 6):=Zd w p 5
 have e6:(Instr.mapUpdate 148 (.map (some w.heap.size)) (.int .i64 6) (.func (.func 131) #[Je p] #[])).run Tryz.prog (Za w p 6)=.ok () (Za w p 7):=Zd w p 6
 have e7:(Instr.mapUpdate 148 (.map (some w.heap.size)) (.int .i64 7) (.func (.func 132) #[Je p] #[])).run Tryz.prog (Za w p 7)=.ok () (Za w p 8):=Zd w p 7
 have e8:(Instr.mapUpdate 148 (.map (some w.heap.size)) (.int .i64 8) (.func (.func 133) #[Je p] #[])).run Tryz.prog (Za w p 8)=.ok () (Za w p 9):=Zd w p 8
 have e9:(Instr.mapUpdate 148 (.map (some w.heap.size)) (.int .i64 9) (.func (.func 134) #[Je p] #[])).run Tryz.prog (Za w p 9)=.ok () (Za w p 10):=Zd w p 9
 have e10:(Instr.mapUpdate 148 (.map (some w.heap.size)) (.int .i64 10) (.func (.func 135) #[Je p] #[])).run Tryz.prog (Za w p 10)=.ok () (Za w p 11):=Zd w p 10
 have e11:(Instr.mapUpdate 148 (.map (some w.heap.size)) (.int .i64 11) (.func (.func 136) #[Je p] #[])).run Tryz.prog (Za w p 11)=.ok () (Za w p 12):=Zd w p 11
 have e12:(Instr.mapUpdate 148 (.map (some w.heap.size)) (.int .i64 12) (.func (.func 137) #[Je p] #[])).run Tryz.prog (Za w p 12)=.ok () (Za w p 13):=Zd w p 12
 have e13:(Instr.mapUpdate 148 (.map (some w.heap.size)) (.int .i64 13) (.func (.func 138) #[Je p] #[])).run Tryz.prog (Za w p 13)=.ok () (Za w p 14):=Zd w p 13
 have e14:(Instr.mapUpdate 148 (.map (some w.heap.size)) (.int .i64 14) (.func (.func 139) #[Je p] #[])).run Tryz.prog (Za w p 14)=.ok () (Za w p 15):=Zd w p 14
 have e15:(Instr.mapUpdate 148 (.map (some w.heap.size)) (.int .i64 15) (.func (.func 140) #[Je p] #[])).run Tryz.prog (Za w p 15)=.ok () (Za w p 16):=Zd w p 15
 have e16:(Instr.mapUpdate 148 (.map (some w.heap.size)) (.int .i64 16) (.func (.func 141) #[Je p] #[])).run Tryz.prog (Za w p 16)=.ok () (Za w p 17):=Zd w p 16
 have e17:(Instr.mapUpdate 148 (.map (some w.heap.size)) (.int .i64 17) (.func (.func 142) #[Je p] #[])).run Tryz.prog (Za w p 17)=.ok () (Za w p 18):=Zd w p 17
 clear s
 generalize Za w p=M at *
 generalize hq:w.heap.size=q at *
 go_enter Tryz.func61,Tryz.ntmps61
 go_wp2
 go_ret
 exact⟨_,rfl,S1.out⟩
end
end Go.Proofs.YtbfjjpdnoalojaaGreatDoor
