/-
  What stands below: KT KL KG KDe; no condition but what each says.
-/
import Derived.Test.YtilnjnblpeeigaaGreatDoorPb4
import Derived.Test.YtilnjnblpeeigaaGreatDoorPb6
import Derived.Test.YtilnjnblpeeigaaGreatDoorPb7
import Derived.Test.YtilnjnblpeeigaaGreatDoorPb9
import Derived.Test.YtilnjnblpeeigaaGreatDoorPb10
import Derived.Test.YtilnjnblpeeigaaGreatDoorPb11
import Derived.Test.YtilnjnblpeeigaaGreatDoorPb12
import Derived.Test.YtilnjnblpeeigaaGreatDoorPb13
import Derived.WideMake
namespace Go.Proofs.YtilnjnblpeeigaaGreatDoor
open Go.RowKit Go.Deep Go.Shelf
open Classical
structure Ly where
 n:Nat
 F:Nat->Prop
 t:Nat
 tv:Value
 h:Nat
 hF:Nat->Prop
 l:Nat
 lv:Value
 uv:Value
 pv:Value
 P:List (Nat×Value)
 nv:Value
 N:List (Nat×Value)
 dv:Value
 D:List (Nat×(Nat->Option Nat))
def objK (Y:Ly) (fr tb:Nat):Obj:=.cells #[ptr Y.n,ptr Y.t,ptr Y.h,ptr Y.l,Y.uv,Y.pv,Y.nv,Y.dv,.int .i64 (fr:Int),.int .i64 (tb:Int)] 73
def epsT (P:List (Nat×Value)) (S:List En.St):List Th:=List.zipWith (fun a S=>En.epT a.1 a.2 S) P S
def ntsT (P:List (Nat×Value)) (S:List No.Ns):List Th:=List.zipWith (fun a S=>No.ntT a.1 a.2 S) P S
def spsT (P:List (Nat×(Nat->Option Nat))) (S:List Ta.Sp):List Th:=List.zipWith (fun a S=>Ta.spT a.1 a.2 S) P S
def eT (p:Nat) (v:Value) (S:Tr.St):Th where
 F:=Tr.fpT p v
 H:=fun w=>Tr.TrH p v S w
 lt:=(Tr.trT p v S).lt
 keep:=(Tr.trT p v S).keep
def partsK (p:Nat) (Y:Ly) (K:Kr):List Th:=
 [blk p (objK Y K.fr K.tb),nT Y.n Y.F K.S,eT Y.t Y.tv K.E,Th.tT Y.h Y.hF K.h,Ir.lnT Y.l Y.lv K.l,lst elU Y.uv K.U,lst elPe Y.pv (Y.P.map (·.1)),lst elPn Y.nv (Y.N.map (·.1)),lst elPs Y.dv (Y.D.map (·.1))]++(epsT Y.P K.P++(ntsT Y.N K.N++spsT Y.D K.D))
def Lens (Y:Ly) (K:Kr):Prop:=Y.P.length=K.P.length/\Y.N.length=K.N.length/\Y.D.length=K.D.length
def kT (p:Nat) (Y:Ly) (K:Kr):Th:=many (Lens Y K) (partsK p Y K)
def KS (w0:World) (r:Nat) (w:World) (p:Nat) (K:Kr) (R:List Th):Prop:=∃ Y,Sep w0 r w (kT p Y K::R)
section
variable {w0 w w':World} {r p:Nat} {Y:Ly} {K:Kr} {R:List Th}
theorem Sep.obj (s:Sep w0 r w (kT p Y K::R)):w.heap[p]? = some (objK Y K.fr K.tb):=s.has (t:=blk p (objK Y K.fr K.tb)) (by simp [partsK])
theorem Sep.k0 (s:Sep w0 r w (kT p Y K::R)):w.cell? ⟨p,0,none⟩=some (ptr Y.n):=by simp [World.cell?,s.obj,objK]
theorem Sep.k1 (s:Sep w0 r w (kT p Y K::R)):w.cell? ⟨p,1,none⟩=some (ptr Y.t):=by simp [World.cell?,s.obj,objK]
theorem Sep.k2 (s:Sep w0 r w (kT p Y K::R)):w.cell? ⟨p,2,none⟩=some (ptr Y.h):=by simp [World.cell?,s.obj,objK]
theorem Sep.k4 (s:Sep w0 r w (kT p Y K::R)):w.cell? ⟨p,4,none⟩=some Y.uv:=by simp [World.cell?,s.obj,objK]
theorem Sep.k5 (s:Sep w0 r w (kT p Y K::R)):w.cell? ⟨p,5,none⟩=some Y.pv:=by simp [World.cell?,s.obj,objK]
theorem Sep.k6 (s:Sep w0 r w (kT p Y K::R)):w.cell? ⟨p,6,none⟩=some Y.nv:=by simp [World.cell?,s.obj,objK]
theorem Sep.k7 (s:Sep w0 r w (kT p Y K::R)):w.cell? ⟨p,7,none⟩=some Y.dv:=by simp [World.cell?,s.obj,objK]
theorem Sep.kN (s:Sep w0 r w (kT p Y K::R)):∃ Q,Sep w0 r w (nT Y.n Y.F K.S::Q)/\∀ w' F' S' E,Sep w0 r w' (nT Y.n F' S'::(E++Q))->Sep w0 r w' (kT p { Y with F:=F' } { K with S:=S' }::(E++R)):=
 ⟨_,Sep.into (A:=[blk p (objK Y K.fr K.tb)]) s,fun _ F' S' _ h=>Sep.back (A:=[blk p (objK Y K.fr K.tb)]) (P':=Lens { Y with F:=F' } { K with S:=S' }) s.fact h⟩
theorem Sep.kE (s:Sep w0 r w (kT p Y K::R)):∃ Q,Sep w0 r w (Tr.trT Y.t Y.tv K.E::Q)/\∀ w' v' S' E,Sep w0 r w' (Tr.trT Y.t v' S'::(E++Q))->Sep w0 r w' (kT p { Y with tv:=v' } { K with E:=S' }::(E++R)):=
 ⟨_,Sep.into (A:=[blk p (objK Y K.fr K.tb),nT Y.n Y.F K.S]) s,fun _ v' S' _ h=>Sep.back (A:=[blk p (objK Y K.fr K.tb),nT Y.n Y.F K.S]) (P':=Lens { Y with tv:=v' } { K with E:=S' }) s.fact h⟩
theorem Sep.kH (s:Sep w0 r w (kT p Y K::R)):∃ Q,Sep w0 r w (Th.tT Y.h Y.hF K.h::Q)/\∀ w' F' S' E,Sep w0 r w' (Th.tT Y.h F' S'::(E++Q))->Sep w0 r w' (kT p { Y with hF:=F' } { K with h:=S' }::(E++R)):=
 ⟨_,Sep.into (A:=[blk p (objK Y K.fr K.tb),nT Y.n Y.F K.S,eT Y.t Y.tv K.E]) s,fun _ F' S' _ h=>Sep.back (A:=[blk p (objK Y K.fr K.tb),nT Y.n Y.F K.S,eT Y.t Y.tv K.E]) (P':=Lens { Y with hF:=F' } { K with h:=S' }) s.fact h⟩
theorem Sep.kU (s:Sep w0 r w (kT p Y K::R)):∃ Q,Sep w0 r w (lst elU Y.uv K.U::blk p (objK Y K.fr K.tb)::Q)/\∀ w' v' S' E,Sep w0 r w' (lst elU v' S'::blk p (objK { Y with uv:=v' } K.fr K.tb)::(E++Q))->Sep w0 r w' (kT p { Y with uv:=v' } { K with U:=S' }::(E++R)):=by
 refine ⟨[nT Y.n Y.F K.S,eT Y.t Y.tv K.E,Th.tT Y.h Y.hF K.h,Ir.lnT Y.l Y.lv K.l]++([lst elPe Y.pv (Y.P.map (·.1)),lst elPn Y.nv (Y.N.map (·.1)),lst elPs Y.dv (Y.D.map (·.1))]++(epsT Y.P K.P++(ntsT Y.N K.N++spsT Y.D K.D)))++R,?_,fun _ v' S' _ h=>?_⟩
 ·exact Sep.into (A:=[blk p (objK Y K.fr K.tb),nT Y.n Y.F K.S,eT Y.t Y.tv K.E,Th.tT Y.h Y.hF K.h,Ir.lnT Y.l Y.lv K.l]) s
 ·refine Sep.back (A:=[blk p (objK { Y with uv:=v' } K.fr K.tb),nT Y.n Y.F K.S,eT Y.t Y.tv K.E,Th.tT Y.h Y.hF K.h,Ir.lnT Y.l Y.lv K.l]) (P':=Lens { Y with uv:=v' } { K with U:=S' }) s.fact (h.perm (.cons _ ?_))
  exact List.perm_middle.symm
end
end Go.Proofs.YtilnjnblpeeigaaGreatDoor
namespace Go.Proofs.YtilnjnblpeeigaaGreatDoor
open Go.RowKit Go.Deep Go.Shelf
open Classical
section
variable {w0 w w':World} {r p:Nat} {Y:Ly} {K:Kr} {R:List Th}
theorem k_put (s:Sep w0 r w (kT p Y K::R)) (x:Sl.Sl) (c:Sl.Cp) (hx:x.Fits) (hc:c.Fits) :
  Calls Tryz.prog 27 #[ptr Y.n,Sl.encS x,Sl.encC c] w fun e w'=>e = .returned (.int .i64 (Sl.putE K.S x c))/\Sep w0 r w' (kT p Y { K with S:=Sl.putS K.S x c }::R):=by
 obtain ⟨Q,s1,bk⟩:=s.kN
 obtain ⟨L,hin,out⟩:=s1.inSl
 haveI:Inhabited Sl.Sl:=⟨⟨0,0⟩⟩
 haveI:Inhabited Sl.Cp:=⟨Sl.no⟩
 refine Calls.mono (Sl.put_has x c _ _ hin hx hc rfl rfl) ?_
 rintro e w' ⟨rfl,h⟩
 exact ⟨rfl,bk w' _ _ [] (out _ _ _ h)⟩
theorem k_take (s:Sep w0 r w (kT p Y K::R)) (x:Sl.Sl) (hx:x.Fits) :
  Calls Tryz.prog 180 #[ptr Y.n,Sl.encS x] w fun e w'=>e = .returned (.tuple #[Sl.encC (Sl.takeC K.S x),.int .i64 (Sl.takeE K.S x)])/\Sep w0 r w' (kT p Y { K with S:=Sl.takeS K.S x }::R):=by
 obtain ⟨Q,s1,bk⟩:=s.kN
 obtain ⟨L,hin,out⟩:=s1.inSl
 haveI:Inhabited Sl.Sl:=⟨⟨0,0⟩⟩
 haveI:Inhabited Sl.Cp:=⟨Sl.no⟩
 refine Calls.mono (Sl.take_has x _ _ _ hin hx rfl rfl rfl) ?_
 rintro e w' ⟨rfl,h⟩
 exact ⟨rfl,bk w' _ _ [] (out _ _ _ h)⟩
theorem k_get (s:Sep w0 r w (kT p Y K::R)) (x:Sl.Sl) (hx:x.Fits) :
  Calls Tryz.prog 102 #[ptr Y.n,Sl.encS x] w fun e w'=>e = .returned (.tuple #[Sl.encC (Sl.getC K.S x),.int .i64 (Sl.getE K.S x)])/\Below w.heap.size w w':=by
 obtain ⟨Q,s1,bk⟩:=s.kN
 exact Sl.get_any _ _ _ x w s1.head hx
theorem k_size (s:Sep w0 r w (kT p Y K::R)) (n:Int) :
  Calls Tryz.prog 103 #[ptr Y.n,.int .i64 n] w fun e w'=>e = .returned (.tuple #[.int .i64 (Sl.sizeN K.S n),.bool (Sl.sizeB K.S n)])/\w'=w:=by
 obtain ⟨Q,s1,bk⟩:=s.kN
 exact Sl.size_any _ _ _ n w s1.head
theorem k_make (s:Sep w0 r w (kT p Y K::R)) (n:Int) :
  Calls Tryz.prog 20 #[ptr Y.n,.int .i64 n] w fun e w'=>e = .returned (.tuple #[.int .i64 (Sl.makeN K.S n),.int .i64 (Sl.makeE K.S n)])/\∃ xx,Sep w0 r w' (kT p { Y with F:=xx } { K with S:=Sl.makeS K.S n }::R):=by
 obtain ⟨Q,s1,bk⟩:=s.kN
 obtain ⟨L,hin,out⟩:=s1.inSl
 haveI:Inhabited Sl.Sl:=⟨⟨0,0⟩⟩
 haveI:Inhabited Sl.Cp:=⟨Sl.no⟩
 refine Calls.mono (Sl.make_has n _ _ _ hin rfl rfl rfl) ?_
 rintro e w' ⟨rfl,F',h⟩
 exact ⟨rfl,_,bk w' _ _ [] (out _ _ _ h)⟩
theorem k_look (s:Sep w0 r w (kT p Y K::R)) (c:Sl.Cp) (a d:Int) (hf:c.Fits) (ha:0<=a/\a<=18446744073709551615) :
  Calls Tryz.prog 55 #[ptr Y.n,Sl.encC c,.int .u64 a,.int .i64 d] w fun e w'=>e = .returned (.tuple #[Sl.encS (Sl.slotR K.S c a d).1,.int .i64 (Sl.slotR K.S c a d).2])/\Below w.heap.size w w':=by
 obtain ⟨Q,s1,bk⟩:=s.kN
 obtain ⟨L,hin,out⟩:=s1.inSl
 haveI:Inhabited Sl.Sl:=⟨⟨0,0⟩⟩
 haveI:Inhabited Sl.Cp:=⟨Sl.no⟩
 exact Sl.slot_any _ _ _ c a d w s1.head hf ha
theorem k_root (s:Sep w0 r w (kT p Y K::R)) (x:Tr.Sl) (hl:K.E.length<=1000) :
  Calls Tryz.prog 28 #[ptr Y.t,Tr.encS x] w fun e w'=>e = .returned (.int .i64 (Tr.rootE K.E x))/\∃ xx,Sep w0 r w' (kT p { Y with tv:=xx } { K with E:=Tr.rootS K.E x }::R):=by
 obtain ⟨Q,s1,bk⟩:=s.kE
 refine Calls.mono (Tr.root_sep x s1 hl) ?_
 rintro e w' ⟨rfl,v',h⟩
 exact ⟨rfl,_,bk w' _ _ [] h⟩
theorem k_add (s:Sep w0 r w (kT p Y K::R)) (a x:Tr.Sl) (hl:K.E.length<=1000) :
  Calls Tryz.prog 172 #[ptr Y.t,Tr.encS a,Tr.encS x] w fun e w'=>e = .returned (.int .i64 (Tr.addE K.E a x))/\∃ xx,Sep w0 r w' (kT p { Y with tv:=xx } { K with E:=Tr.addS K.E a x }::R):=by
 obtain ⟨Q,s1,bk⟩:=s.kE
 refine Calls.mono (Tr.add_sep a x s1 hl) ?_
 rintro e w' ⟨rfl,v',h⟩
 exact ⟨rfl,_,bk w' _ _ [] h⟩
theorem k_tk (s:Sep w0 r w (kT p Y K::R)) (x:Tr.Sl) (hl:K.E.length<=1000) :
  Calls Tryz.prog 179 #[ptr Y.t,Tr.encS x] w fun e w'=>e = .returned (.int .i64 (Tr.takeE K.E x))/\∃ xx,Sep w0 r w' (kT p { Y with tv:=xx } { K with E:=Tr.takeS K.E x }::R):=by
 obtain ⟨Q,s1,bk⟩:=s.kE
 refine Calls.mono (Tr.take_sep x s1 hl) ?_
 rintro e w' ⟨rfl,v',h⟩
 exact ⟨rfl,_,bk w' _ _ [] h⟩
theorem k_under (s:Sep w0 r w (kT p Y K::R)) (x:Tr.Sl) (hl:K.E.length<=1000) :
  Calls Tryz.prog 121 #[ptr Y.t,Tr.encS x] w fun e w'=>∃ ao cap,e = .returned (.slice ao (Tr.underS K.E x).length cap)/\Sep w0 r w' (kT p Y K::Tr.lstS (.slice ao (Tr.underS K.E x).length cap) (Tr.underS K.E x)::R):=by
 obtain ⟨Q,s1,bk⟩:=s.kE
 refine Calls.mono (Tr.under_sep x s1 hl) ?_
 rintro e w' ⟨ao,cap,rfl,h⟩
 exact ⟨ao,cap,rfl,bk w' _ _ [_] h⟩
theorem k_tmake (s:Sep w0 r w (kT p Y K::R)) (a b:Int):Calls Tryz.prog 53 #[ptr Y.h,.int .i64 a,.int .i64 b] w fun e w'=>e = .returned (.tuple #[.int .i64 (Th.makeN K.h a b),.int .i64 (Th.makeE K.h a b)])/\∃ xx,Sep w0 r w' (kT p { Y with hF:=xx } { K with h:=Th.makeH K.h a b }::R):=by
 obtain ⟨Q,s1,bk⟩:=s.kH
 refine Calls.mono (Th.make_sep s1 a b) ?_
 rintro e w' ⟨rfl,F',h⟩
 exact ⟨rfl,_,bk w' _ _ [] h⟩
theorem k_tget (s:Sep w0 r w (kT p Y K::R)) (a:Int):Calls Tryz.prog 33 #[ptr Y.h,.int .i64 a] w fun e w'=>e = .returned (.tuple #[Th.encT (Th.getT K.h a),.int .i64 (Th.getE K.h a)])/\Below w.heap.size w w':=by
 obtain ⟨Q,s1,bk⟩:=s.kH
 obtain ⟨v,u,qs,t⟩:=s1.head.1.at
 exact Th.get_any t a
theorem k_resume (s:Sep w0 r w (kT p Y K::R)) (a:Int):Calls Tryz.prog 54 #[ptr Y.h,.int .i64 a] w fun e w'=>e = .returned (.int .i64 (Th.resumeE K.h a))/\∃ xx,Sep w0 r w' (kT p { Y with hF:=xx } { K with h:=Th.resumeH K.h a }::R):=by
 obtain ⟨Q,s1,bk⟩:=s.kH
 refine Calls.mono (Th.resume_sep s1 a) ?_
 rintro e w' ⟨rfl,F',h⟩
 exact ⟨rfl,_,bk w' _ _ [] h⟩
theorem k_suspend (s:Sep w0 r w (kT p Y K::R)) (a:Int):Calls Tryz.prog 124 #[ptr Y.h,.int .i64 a] w fun e w'=>e = .returned (.int .i64 (Th.suspendE K.h a))/\∃ xx,Sep w0 r w' (kT p { Y with hF:=xx } { K with h:=Th.suspendH K.h a }::R):=by
 obtain ⟨Q,s1,bk⟩:=s.kH
 refine Calls.mono (Th.suspend_sep s1 a) ?_
 rintro e w' ⟨rfl,F',h⟩
 exact ⟨rfl,_,bk w' _ _ [] h⟩
theorem k_block (s:Sep w0 r w (kT p Y K::R)) (a:Int):Calls Tryz.prog 192 #[ptr Y.h,.int .i64 a] w fun e w'=>e = .returned (.int .i64 (Th.blockE K.h a))/\∃ xx,Sep w0 r w' (kT p { Y with hF:=xx } { K with h:=Th.blockH K.h a }::R):=by
 obtain ⟨Q,s1,bk⟩:=s.kH
 refine Calls.mono (Th.block_sep s1 a) ?_
 rintro e w' ⟨rfl,F',h⟩
 exact ⟨rfl,_,bk w' _ _ [] h⟩
theorem k_prio (s:Sep w0 r w (kT p Y K::R)) (a b:Int):Calls Tryz.prog 125 #[ptr Y.h,.int .i64 a,.int .i64 b] w fun e w'=>e = .returned (.int .i64 (Th.prioE K.h a b))/\∃ xx,Sep w0 r w' (kT p { Y with hF:=xx } { K with h:=Th.prioH K.h a b }::R):=by
 obtain ⟨Q,s1,bk⟩:=s.kH
 refine Calls.mono (Th.prio_sep s1 a b) ?_
 rintro e w' ⟨rfl,F',h⟩
 exact ⟨rfl,_,bk w' _ _ [] h⟩
theorem k_pick (s:Sep w0 r w (kT p Y K::R)) (ht:∀ u,Below r w0 u->Th.Tab u) (a:Int):Calls Tryz.prog 29 #[ptr Y.h,.int .i64 a] w fun e w'=>e = .returned (.tuple #[.int .i64 (Th.runsN (Th.pickH K.h a) a),.bool (Th.runsB (Th.pickH K.h a) a)])/\∃ xx,Sep w0 r w' (kT p { Y with hF:=xx } { K with h:=Th.pickH K.h a }::R):=by
 obtain ⟨Q,s1,bk⟩:=s.kH
 refine Calls.mono (Th.pick_sep s1 ht a) ?_
 rintro e w' ⟨rfl,F',h⟩
 exact ⟨rfl,_,bk w' _ _ [] h⟩
theorem k_yield (s:Sep w0 r w (kT p Y K::R)) (ht:∀ u,Below r w0 u->Th.Tab u) (a:Int):Calls Tryz.prog 136 #[ptr Y.h,.int .i64 a] w fun e w'=>e = .returned (.bool (Th.runsB K.h a))/\∃ xx,Sep w0 r w' (kT p { Y with hF:=xx } { K with h:=Th.yieldH K.h a }::R):=by
 obtain ⟨Q,s1,bk⟩:=s.kH
 refine Calls.mono (Th.yield_sep s1 ht a) ?_
 rintro e w' ⟨rfl,F',h⟩
 exact ⟨rfl,_,bk w' _ _ [] h⟩
end
end Go.Proofs.YtilnjnblpeeigaaGreatDoor
namespace Go.Proofs.YtilnjnblpeeigaaGreatDoor
open Go.RowKit Go.Deep Go.Shelf
open Classical
structure De where
 c:Cl
 core:Int
 who:Int
 f:Int
 x:Sl.Cp
 y:Sl.Cp
def objD (d:De):Obj:=.cells #[.int .i64 d.c.q,.int .i64 d.c.a,.int .i64 d.c.w,.int .i64 d.c.A,.int .i64 d.c.B,.int .i64 d.c.C,.int .i64 d.core,.int .i64 d.who,.int .i64 0,.int .i64 d.f,.int .i64 d.x.k,.int .i64 d.x.o,.int .i64 d.x.r,.int .u64 d.x.b,.int .u64 d.x.g,.int .i64 d.x.z,.int .i64 d.y.k,.int .i64 d.y.o,.int .i64 d.y.r,.int .u64 d.y.b,.int .u64 d.y.g,.int .i64 d.y.z] 99
def encD (d:De):Value:=.agg #[.int .i64 d.c.q,.int .i64 d.c.a,.int .i64 d.c.w,.int .i64 d.c.A,.int .i64 d.c.B,.int .i64 d.c.C,.int .i64 d.core,.int .i64 d.who,.int .i64 0,.int .i64 d.f,.int .i64 d.x.k,.int .i64 d.x.o,.int .i64 d.x.r,.int .u64 d.x.b,.int .u64 d.x.g,.int .i64 d.x.z,.int .i64 d.y.k,.int .i64 d.y.o,.int .i64 d.y.r,.int .u64 d.y.b,.int .u64 d.y.g,.int .i64 d.y.z]
def objTl (e w k:Int) (v:Value):Obj:=.cells #[.int .i64 e,.int .u64 w,.int .i64 k,v] 35
section
variable {w0 w w':World} {r p:Nat} {Y:Ly} {K:Kr} {R:List Th}
theorem Sep.put4 {q:Nat} {e0 w1 k1:Int} {v0:Value} (s:Sep w0 r w (blk q (objTl e0 w1 k1 v0)::R)) (e x k:Int) (v:Value):Sep w0 r ((((w.setCell ⟨q,0,none⟩ (.int .i64 e)).setCell ⟨q,1,none⟩ (.int .u64 x)).setCell ⟨q,2,none⟩ (.int .i64 k)).setCell ⟨q,3,none⟩ v) (blk q (objTl e x k v)::R):=by
 have:=(((Sep.putB s 0 (.int .i64 e)).putB 1 (.int .u64 x)).putB 2 (.int .i64 k)).putB 3 v
 simpa [objTl] using this
theorem Sep.cells4 {q:Nat} {e x k:Int} {v:Value} (s:Sep w0 r w R) (h:blk q (objTl e x k v)∈R):w.cell? ⟨q,0,none⟩=some (.int .i64 e)/\w.cell? ⟨q,1,none⟩=some (.int .u64 x)/\w.cell? ⟨q,2,none⟩=some (.int .i64 k)/\w.cell? ⟨q,3,none⟩=some v/\w.frozen? ⟨q,0,none⟩=false/\w.frozen? ⟨q,1,none⟩=false/\w.frozen? ⟨q,2,none⟩=false/\w.frozen? ⟨q,3,none⟩=false:=
 ⟨(s.blkCell h 0).1,(s.blkCell h 1).1,(s.blkCell h 2).1,(s.blkCell h 3).1,(s.blkCell h 0).2,(s.blkCell h 1).2,(s.blkCell h 2).2,(s.blkCell h 3).2⟩
theorem Sep.putTW {q:Nat} {e x k:Int} {v:Value} (s:Sep w0 r w (blk q (objTl e x k v)::R)) (y:Int):Sep w0 r (w.setCell ⟨q,1,none⟩ (.int .u64 y)) (blk q (objTl e y k v)::R):=by
 have:=Sep.putB s 1 (.int .u64 y)
 simpa [objTl] using this
theorem Sep.putTK {q:Nat} {e x k:Int} {v:Value} (s:Sep w0 r w (blk q (objTl e x k v)::R)) (y:Int):Sep w0 r (w.setCell ⟨q,2,none⟩ (.int .i64 y)) (blk q (objTl e x y v)::R):=by
 have:=Sep.putB s 2 (.int .i64 y)
 simpa [objTl] using this
theorem Sep.putTF {q:Nat} {e x k:Int} {v:Value} (s:Sep w0 r w (blk q (objTl e x k v)::R)) (y:Value):Sep w0 r (w.setCell ⟨q,3,none⟩ y) (blk q (objTl e x k y)::R):=by
 have:=Sep.putB s 3 y
 simpa [objTl] using this
theorem Sep.ne {a b:Nat} {o o':Obj} {t:Th} (s:Sep w0 r w (blk a o::t::blk b o'::R)):a≠b/\b≠a:=by
 have h:=(List.pairwise_cons.1 s.apart).1 (blk b o') (by simp) a rfl
 exact ⟨h,fun e=>h e.symm⟩
theorem Sep.deed (s:Sep w0 r w (kT p Y K::R)) (d:De):Sep w0 r ((w.alloc (objD d)).alloc (objTl 0 0 0 (.slice none 0 0))) (kT p Y K::blk (w.heap.size+1) (objTl 0 0 0 (.slice none 0 0))::blk w.heap.size (objD d)::R):=by
 have:=((s.box (objD d)).swap.box (objTl 0 0 0 (.slice none 0 0))).swap
 rwa [show (w.alloc (objD d)).heap.size=w.heap.size+1 by simp] at this
theorem load_deed {q:Nat} {d:De} (s:Sep w0 r w R) (h:blk q (objD d)∈R):(loadVar 99 ⟨q,0,none⟩).run Tryz.prog w = .ok (encD d) w:=by
 have hb:w.heap[q]? = some (objD d):=(s.each _ h).1
 have h1:=run_loadCells_list (P:=Tryz.prog) w ⟨q,0,none⟩ [.int .i64 d.c.q,.int .i64 d.c.a,.int .i64 d.c.w,.int .i64 d.c.A,.int .i64 d.c.B,.int .i64 d.c.C,.int .i64 d.core,.int .i64 d.who,.int .i64 0,.int .i64 d.f,.int .i64 d.x.k,.int .i64 d.x.o,.int .i64 d.x.r,.int .u64 d.x.b,.int .u64 d.x.g,.int .i64 d.x.z,.int .i64 d.y.k,.int .i64 d.y.o,.int .i64 d.y.r,.int .u64 d.y.b,.int .u64 d.y.g,.int .i64 d.y.z] (fun j v hj=>by
  rw [add_none,Nat.zero_add]
  simp only [World.cell?]
  rw [hb]
  simp only [objD]
  rw [<- hj]
  simp only [Option.isSome_none,Bool.false_eq_true,if_false,List.getElem?_toArray])
 simp only [loadVar,Sem.run_bind,Tryz.isAgg99,Tryz.sizeOf99,Result.andThen_ok,if_true]
 rw [show (22:Nat)=List.length [Value.int .i64 d.c.q,.int .i64 d.c.a,.int .i64 d.c.w,.int .i64 d.c.A,.int .i64 d.c.B,.int .i64 d.c.C,.int .i64 d.core,.int .i64 d.who,.int .i64 0,.int .i64 d.f,.int .i64 d.x.k,.int .i64 d.x.o,.int .i64 d.x.r,.int .u64 d.x.b,.int .u64 d.x.g,.int .i64 d.x.z,.int .i64 d.y.k,.int .i64 d.y.o,.int .i64 d.y.r,.int .u64 d.y.b,.int .u64 d.y.g,.int .i64 d.y.z] from rfl,h1]
 rfl
theorem Sep.to4 {a b c e:Th} (s:Sep w0 r w (a::b::c::e::R)):Sep w0 r w (b::c::e::a::R):=
 s.perm ((List.Perm.swap b a _).trans (.cons _ ((List.Perm.swap c a _).trans (.cons _ (.swap e a _)))))
theorem Sep.from4 {a b c e:Th} (s:Sep w0 r w (b::c::e::a::R)):Sep w0 r w (a::b::c::e::R):=
 s.perm ((List.Perm.swap b a _).trans (.cons _ ((List.Perm.swap c a _).trans (.cons _ (.swap e a _))))).symm
theorem Sep.metz {q:Nat} (s:Sep w0 r w R) (h:blk q (.cells #[.bool false,.int .i64 0,.int .i64 0,.int .i64 0,.int .u64 0,.int .u64 0,.int .u64 0,.int .u64 0,.int .u64 0,.bool false] 224)∈R):(∀ j,w.frozen? ⟨q,j,none⟩=false)/\w.cell? ⟨q,0,none⟩=some (.bool false)/\w.cell? ⟨q,1,none⟩=some (.int .i64 0)/\w.cell? ⟨q,2,none⟩=some (.int .i64 0)/\w.cell? ⟨q,3,none⟩=some (.int .i64 0)/\w.cell? ⟨q,4,none⟩=some (.int .u64 0)/\w.cell? ⟨q,5,none⟩=some (.int .u64 0)/\w.cell? ⟨q,6,none⟩=some (.int .u64 0)/\w.cell? ⟨q,7,none⟩=some (.int .u64 0)/\w.cell? ⟨q,8,none⟩=some (.int .u64 0)/\w.cell? ⟨q,9,none⟩=some (.bool false):=
 ⟨fun j=>(s.blkCell h j).2,(s.blkCell h 0).1,(s.blkCell h 1).1,(s.blkCell h 2).1,(s.blkCell h 3).1,(s.blkCell h 4).1,(s.blkCell h 5).1,(s.blkCell h 6).1,(s.blkCell h 7).1,(s.blkCell h 8).1,(s.blkCell h 9).1⟩
theorem Sep.putM {q:Nat} (s:Sep w0 r w (blk q (.cells #[.bool false,.int .i64 0,.int .i64 0,.int .i64 0,.int .u64 0,.int .u64 0,.int .u64 0,.int .u64 0,.int .u64 0,.bool false] 224)::R)) (x:En.Mt):Sep w0 r ((((((((((w.setCell ⟨q,0,none⟩ (.bool x.i)).setCell ⟨q,1,none⟩ (.int .i64 x.f)).setCell ⟨q,2,none⟩ (.int .i64 x.t)).setCell ⟨q,3,none⟩ (.int .i64 x.m.l)).setCell ⟨q,4,none⟩ (.int .u64 x.m.a)).setCell ⟨q,5,none⟩ (.int .u64 x.m.b)).setCell ⟨q,6,none⟩ (.int .u64 x.m.c)).setCell ⟨q,7,none⟩ (.int .u64 x.m.d)).setCell ⟨q,8,none⟩ (.int .u64 x.m.g)).setCell ⟨q,9,none⟩ (.bool x.m.q)) (blk q (.cells #[.bool x.i,.int .i64 x.f,.int .i64 x.t,.int .i64 x.m.l,.int .u64 x.m.a,.int .u64 x.m.b,.int .u64 x.m.c,.int .u64 x.m.d,.int .u64 x.m.g,.bool x.m.q] 224)::R):=by
 have:=(((((((((s.putB 0 (.bool x.i)).putB 1 (.int .i64 x.f)).putB 2 (.int .i64 x.t)).putB 3 (.int .i64 x.m.l)).putB 4 (.int .u64 x.m.a)).putB 5 (.int .u64 x.m.b)).putB 6 (.int .u64 x.m.c)).putB 7 (.int .u64 x.m.d)).putB 8 (.int .u64 x.m.g)).putB 9 (.bool x.m.q)
 simpa using this
theorem Sep.zCp {q:Nat} (s:Sep w0 r w R) (h:blk q (.cells #[.int .i64 0,.int .i64 0,.int .i64 0,.int .u64 0,.int .u64 0,.int .i64 0] 75)∈R):(∀ j,w.frozen? ⟨q,j,none⟩=false)/\w.cell? ⟨q,0,none⟩=some (.int .i64 0)/\w.cell? ⟨q,1,none⟩=some (.int .i64 0)/\w.cell? ⟨q,2,none⟩=some (.int .i64 0)/\w.cell? ⟨q,3,none⟩=some (.int .u64 0)/\w.cell? ⟨q,4,none⟩=some (.int .u64 0)/\w.cell? ⟨q,5,none⟩=some (.int .i64 0):=
 ⟨fun j=>(s.blkCell h j).2,(s.blkCell h 0).1,(s.blkCell h 1).1,(s.blkCell h 2).1,(s.blkCell h 3).1,(s.blkCell h 4).1,(s.blkCell h 5).1⟩
theorem Sep.putCp {q:Nat} (s:Sep w0 r w (blk q (.cells #[.int .i64 0,.int .i64 0,.int .i64 0,.int .u64 0,.int .u64 0,.int .i64 0] 75)::R)) (x:Sl.Cp):Sep w0 r ((((((w.setCell ⟨q,0,none⟩ (.int .i64 x.k)).setCell ⟨q,1,none⟩ (.int .i64 x.o)).setCell ⟨q,2,none⟩ (.int .i64 x.r)).setCell ⟨q,3,none⟩ (.int .u64 x.b)).setCell ⟨q,4,none⟩ (.int .u64 x.g)).setCell ⟨q,5,none⟩ (.int .i64 x.z)) (blk q (.cells #[.int .i64 x.k,.int .i64 x.o,.int .i64 x.r,.int .u64 x.b,.int .u64 x.g,.int .i64 x.z] 75)::R):=by
 have:=(((((s.putB 0 (.int .i64 x.k)).putB 1 (.int .i64 x.o)).putB 2 (.int .i64 x.r)).putB 3 (.int .u64 x.b)).putB 4 (.int .u64 x.g)).putB 5 (.int .i64 x.z)
 simpa using this
theorem Sep.del3 {a b c:Th} (s:Sep w0 r w (a::b::c::R)):Sep w0 r w (a::b::R):=s.third.third.drop
end
end Go.Proofs.YtilnjnblpeeigaaGreatDoor
namespace Go.Proofs.YtilnjnblpeeigaaGreatDoor
open Go.RowKit Go.Deep Go.Shelf Go.MapKept
open Classical
def fnL:List Nat:=[64,65,66,67,68,69,70,71,72,73,74,75,76,77,78,79,80,81]
def fnV (p i:Nat):Value:=.func (.func (fnL.getD i 0)) #[ptr p] #[]
def ent (p j:Nat):MapEntry:=⟨.int .i64 (j:Int),fnV p j,j⟩
def entL (p i:Nat):List MapEntry:=(List.range i).map (ent p)
def entO (p i:Nat):Obj:=.map (entL p i).toArray i
theorem find_no (p:Nat) (k:Int):∀ (L:List Nat) (n:Nat),(∀ j∈L,(j:Int)≠k)->Instr.findNow (.int .i64) (.int .i64 k) (L.map (ent p)) n=some none
 | [],_,_=>rfl
 | j::L,n,h=>by
  have hj:(k == (j:Int))=false:=by
   have:=h j (List.mem_cons_self)
   simp only [beq_eq_false_iff_ne,ne_eq]
   exact fun e=>this e.symm
  have ih:=find_no p k L (n+1) fun x hx=>h x (List.mem_cons_of_mem _ hx)
  simp only [List.map_cons,Instr.findNow,ent,Instr.sameNow,if_true,hj]
  exact ih
theorem find_at (p k:Nat):∀ (L:List Nat) (n i:Nat),(∀ x y:Nat,L[x]? = some k->L[y]? = some k->x=y)->L[i]? = some k->Instr.findNow (.int .i64) (.int .i64 (k:Int)) (L.map (ent p)) n=some (some (n+i,fnV p k))
 | [],_,_,_,h=>by simp at h
 | j::L,n,i,u,h=>by
  by_cases e:j=k
  ·subst e
   have:i=0:=u i 0 h rfl
   subst this
   simp [Instr.findNow,ent,Instr.sameNow]
  ·cases i with
   | zero=>exact absurd (Option.some.inj h) e
   | succ i =>
    have hj:((k:Int) == (j:Int))=false:=by
     simp only [beq_eq_false_iff_ne,ne_eq]
     omega
    have ih:=find_at p k L (n+1) i (fun x y hx hy=>Nat.succ.inj (u (x+1) (y+1) hx hy)) h
    simp only [List.map_cons,Instr.findNow,ent,Instr.sameNow,if_true,hj]
    rw [show n+(i+1)=n+1+i by omega]
    exact ih
theorem entL_more (p i:Nat):entL p (i+1)=entL p i++[ent p i]:=by
 unfold entL
 rw [List.range_succ,List.map_append]
 rfl
def mapW (w:World) (p i:Nat):World:=w.alloc (entO p i)
theorem mapW_block (w:World) (p i:Nat):(mapW w p i).heap[w.heap.size]? = some (.map (entL p i).toArray i):=by
 unfold mapW
 exact blk_alloc_new w _
theorem push_set {α:Type} (A:Array α) (x y:α):(A.push x).setIfInBounds A.size y=A.push y:=by
 apply Array.ext'
 rw [Array.toList_setIfInBounds,Array.toList_push,Array.toList_push,<- Array.length_toList,List.set_append_right _ _ (Nat.le_refl _),Nat.sub_self]
 rfl
theorem mapW_next (w:World) (p i:Nat):{ mapW w p i with heap:=(mapW w p i).heap.setIfInBounds w.heap.size (entO p (i+1)) }=mapW w p (i+1):=by
 show ({ w with heap:=(w.heap.push (entO p i)).setIfInBounds w.heap.size (entO p (i+1)) }:World)={ w with heap:=w.heap.push (entO p (i+1)) }
 rw [push_set]
theorem ins_run (w:World) (p i:Nat):(Instr.mapUpdate 96 (.map (some w.heap.size)) (.int .i64 (i:Int)) (fnV p i)).run Tryz.prog (mapW w p i) = .ok () (mapW w p (i+1)):=by
 have hb:=mapW_block w p i
 have hf:Instr.findNow (.int .i64) (.int .i64 (i:Int)) (entL p i) 0=some none:=find_no p i (List.range i) 0 fun j hj=>by
  have:=List.mem_range.1 hj
  omega
 have hc:(Instr.checkKey false 10000 3 (.int .i64 (i:Int))).run Tryz.prog (mapW w p i) = .ok () (mapW w p i):=MapKept.run_checkKey (k:=.int .i64 (i:Int)) Tryz.underlying3 (by simp [IsKey]) false 9999
 have hf2:Instr.findNow (.int .i64) (.int .i64 (i:Int)) (entL p i).toArray.toList 0=some none:=by rw [List.toList_toArray];exact hf
 have hn:=mapW_next w p i
 rw [<- hn]
 unfold entO
 rw [entL_more]
 simp [Instr.mapUpdate,run_underlying Tryz.underlying96,MapKept.run_getObj_map hb,hc,MapKept.run_findKey Tryz.underlying3 hf2,MapKept.run_setObj_map _ hb,Result.andThen,ent]
theorem look_run (w:World) (p b:Nat) (hb:w.heap[b]? = some (entO p 18)) (k:Nat) (hk:k<18):(Instr.lookup 96 (.map (some b)) (.int .i64 (k:Int)) true).run Tryz.prog w = .ok (.tuple #[fnV p k,.bool true]) w:=by
 unfold entO at hb
 have hf:Instr.findNow (.int .i64) (.int .i64 (k:Int)) (entL p 18).toArray.toList 0=some (some (k,fnV p k)):=by
  rw [List.toList_toArray]
  have:=find_at p k (List.range 18) 0 k (fun x y hx hy=>by
   have hx:=List.getElem?_eq_some_iff.1 hx
   have hy:=List.getElem?_eq_some_iff.1 hy
   obtain ⟨_,hx⟩:=hx
   obtain ⟨_,hy⟩:=hy
   rw [List.getElem_range] at hx hy
   omega) (by rw [List.getElem?_range hk])
  rw [Nat.zero_add] at this
  exact this
 have hc:∀ e,(Instr.checkKey e 10000 3 (.int .i64 (k:Int))).run Tryz.prog w = .ok () w:=fun e=>MapKept.run_checkKey (k:=.int .i64 (k:Int)) Tryz.underlying3 (by simp [IsKey]) e 9999
 simp [Instr.lookup,run_underlying Tryz.underlying96,MapKept.run_getObj_map hb,hc,MapKept.run_findKey Tryz.underlying3 hf,Result.andThen]
theorem look_no (w:World) (p b:Nat) (hb:w.heap[b]? = some (entO p 18)) (k:Int) (hk:¬ (0<=k/\k<=17)):(Instr.lookup 96 (.map (some b)) (.int .i64 k) true).run Tryz.prog w = .ok (.tuple #[.nilFunc,.bool false]) w:=by
 unfold entO at hb
 have hf:Instr.findNow (.int .i64) (.int .i64 k) (entL p 18).toArray.toList 0=some none:=by
  rw [List.toList_toArray]
  exact find_no p k (List.range 18) 0 fun j hj e=>by
   have:=List.mem_range.1 hj
   omega
 have hc:∀ e,(Instr.checkKey e 10000 3 (.int .i64 k)).run Tryz.prog w = .ok () w:=fun e=>MapKept.run_checkKey (k:=.int .i64 k) Tryz.underlying3 (by simp [IsKey]) e 9999
 simp [Instr.lookup,run_underlying Tryz.underlying96,MapKept.run_getObj_map hb,hc,MapKept.run_findKey Tryz.underlying3 hf,Result.andThen]
set_option maxHeartbeats 4000000 in
set_option maxRecDepth 100000 in
theorem deeds_any {w0 w:World} {r:Nat} {R:List Th} (s:Sep w0 r w R) (p:Nat) :
  Calls Tryz.prog 31 #[ptr p] w fun e w'=>∃ b,e = .returned (.map (some b))/\Sep w0 r w' (blk b (entO p 18)::R):=by
 have S1:Hid (Sep w0 r (mapW w p 18) (blk w.heap.size (entO p 18)::R)):=hid (s.box (entO p 18))
 have hmk:(Instr.makeMap 96 none).run Tryz.prog w = .ok (.map (some w.heap.size)) (mapW w p 0):=run_makeMap_plain w 96
 have hmf:∀ (fn:Fn) (first cap:Array Value) (w:World),(Instr.makeFunc fn first cap).run Tryz.prog w = .ok (.func fn first cap) w:=fun _ _ _ _=>rfl
 have e0:(Instr.mapUpdate 96 (.map (some w.heap.size)) (.int .i64 0) (.func (.func 64) #[ptr p] #[])).run Tryz.prog (mapW w p 0) = .ok () (mapW w p 1):=ins_run w p 0
 have e1:(Instr.mapUpdate 96 (.map (some w.heap.size)) (.int .i64 1) (.func (.func 65) #[ptr p] #[])).run Tryz.prog (mapW w p 1) = .ok () (mapW w p 2):=ins_run w p 1
 have e2:(Instr.mapUpdate 96 (.map (some w.heap.size)) (.int .i64 2) (.func (.func 66) #[ptr p] #[])).run Tryz.prog (mapW w p 2) = .ok () (mapW w p 3):=ins_run w p 2
 have e3:(Instr.mapUpdate 96 (.map (some w.heap.size)) (.int .i64 3) (.func (.func 67) #[ptr p] #[])).run Tryz.prog (mapW w p 3) = .ok () (mapW w p 4):=ins_run w p 3
 have e4:(Instr.mapUpdate 96 (.map (some w.heap.size)) (.int .i64 4) (.func (.func 68) #[ptr p] #[])).run Tryz.prog (mapW w p 4) = .ok () (mapW w p 5):=ins_run w p 4
 have e5:(Instr.mapUpdate 96 (.map (some w.heap.size)) (.int .i64 5) (.func (.func 69) #[ptr p] #[])).run Tryz.prog (mapW w p 5) = .ok () (mapW w p 6):=ins_run w p 5
 have e6:(Instr.mapUpdate 96 (.map (some w.heap.size)) (.int .i64 6) (.func (.func 70) #[ptr p] #[])).run Tryz.prog (mapW w p 6) = .ok () (mapW w p 7):=ins_run w p 6
 have e7:(Instr.mapUpdate 96 (.map (some w.heap.size)) (.int .i64 7) (.func (.func 71) #[ptr p] #[])).run Tryz.prog (mapW w p 7) = .ok () (mapW w p 8):=ins_run w p 7
 have e8:(Instr.mapUpdate 96 (.map (some w.heap.size)) (.int .i64 8) (.func (.func 72) #[ptr p] #[])).run Tryz.prog (mapW w p 8) = .ok () (mapW w p 9):=ins_run w p 8
 have e9:(Instr.mapUpdate 96 (.map (some w.heap.size)) (.int .i64 9) (.func (.func 73) #[ptr p] #[])).run Tryz.prog (mapW w p 9) = .ok () (mapW w p 10):=ins_run w p 9
 have e10:(Instr.mapUpdate 96 (.map (some w.heap.size)) (.int .i64 10) (.func (.func 74) #[ptr p] #[])).run Tryz.prog (mapW w p 10) = .ok () (mapW w p 11):=ins_run w p 10
 have e11:(Instr.mapUpdate 96 (.map (some w.heap.size)) (.int .i64 11) (.func (.func 75) #[ptr p] #[])).run Tryz.prog (mapW w p 11) = .ok () (mapW w p 12):=ins_run w p 11
 have e12:(Instr.mapUpdate 96 (.map (some w.heap.size)) (.int .i64 12) (.func (.func 76) #[ptr p] #[])).run Tryz.prog (mapW w p 12) = .ok () (mapW w p 13):=ins_run w p 12
 have e13:(Instr.mapUpdate 96 (.map (some w.heap.size)) (.int .i64 13) (.func (.func 77) #[ptr p] #[])).run Tryz.prog (mapW w p 13) = .ok () (mapW w p 14):=ins_run w p 13
 have e14:(Instr.mapUpdate 96 (.map (some w.heap.size)) (.int .i64 14) (.func (.func 78) #[ptr p] #[])).run Tryz.prog (mapW w p 14) = .ok () (mapW w p 15):=ins_run w p 14
 have e15:(Instr.mapUpdate 96 (.map (some w.heap.size)) (.int .i64 15) (.func (.func 79) #[ptr p] #[])).run Tryz.prog (mapW w p 15) = .ok () (mapW w p 16):=ins_run w p 15
 have e16:(Instr.mapUpdate 96 (.map (some w.heap.size)) (.int .i64 16) (.func (.func 80) #[ptr p] #[])).run Tryz.prog (mapW w p 16) = .ok () (mapW w p 17):=ins_run w p 16
 have e17:(Instr.mapUpdate 96 (.map (some w.heap.size)) (.int .i64 17) (.func (.func 81) #[ptr p] #[])).run Tryz.prog (mapW w p 17) = .ok () (mapW w p 18):=ins_run w p 17
 clear s
 generalize mapW w p=M at *
 generalize hq:w.heap.size=q at *
 go_enter Tryz.func31,Tryz.ntmps31
 go_wp2
 go_ret
 exact ⟨_,rfl,S1.out⟩
end Go.Proofs.YtilnjnblpeeigaaGreatDoor
