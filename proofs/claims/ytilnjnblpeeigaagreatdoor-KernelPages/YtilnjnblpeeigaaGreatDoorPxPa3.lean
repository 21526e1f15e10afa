/-
  What stands below: KT KM KI6 KJ2 KrBr KH3 KH8 KDo1 KDo5 KLaw KrRuns KFx GSay KrMints KrPages GMask KBgM; no condition but what each says.
-/
import Derived.Test.YtilnjnblpeeigaaGreatDoorPb1
import Derived.Test.YtilnjnblpeeigaaGreatDoorPb2
import Derived.Test.YtilnjnblpeeigaaGreatDoorPb3
import Derived.Test.YtilnjnblpeeigaaGreatDoorPb4
import Derived.Test.YtilnjnblpeeigaaGreatDoorPb5
import Derived.Test.YtilnjnblpeeigaaGreatDoorPb6
import Derived.Test.YtilnjnblpeeigaaGreatDoorPb7
import Derived.Test.YtilnjnblpeeigaaGreatDoorPb8
import Derived.Test.YtilnjnblpeeigaaGreatDoorPb9
import Derived.Test.YtilnjnblpeeigaaGreatDoorPb10
import Derived.Test.YtilnjnblpeeigaaGreatDoorPb11
import Derived.Test.YtilnjnblpeeigaaGreatDoorPb12
import Derived.Test.YtilnjnblpeeigaaGreatDoorPb13
import Derived.Test.YtilnjnblpeeigaaGreatDoorPb14
import Derived.Test.YtilnjnblpeeigaaGreatDoorPb15
import Derived.Test.YtilnjnblpeeigaaGreatDoorPb16
import Derived.Test.YtilnjnblpeeigaaGreatDoorPb17
import Derived.Test.YtilnjnblpeeigaaGreatDoorPb18
import Derived.Test.YtilnjnblpeeigaaGreatDoorPb19
import Derived.Test.YtilnjnblpeeigaaGreatDoorPb20
import Derived.Test.YtilnjnblpeeigaaGreatDoorPb21
import Derived.Test.YtilnjnblpeeigaaGreatDoorPb22
import Derived.Test.YtilnjnblpeeigaaGreatDoorPb23
import Derived.Test.YtilnjnblpeeigaaGreatDoorPb24
import Derived.Test.YtilnjnblpeeigaaGreatDoorPb25
import Derived.Test.YtilnjnblpeeigaaGreatDoorPb26
import Derived.Test.YtilnjnblpeeigaaGreatDoorPb27
import Derived.Test.YtilnjnblpeeigaaGreatDoorPb28
import Derived.Test.YtilnjnblpeeigaaGreatDoorPb29
import Derived.Test.YtilnjnblpeeigaaGreatDoorPb30
import Derived.Test.YtilnjnblpeeigaaGreatDoorPb31
import Derived.Test.YtilnjnblpeeigaaGreatDoorPb32
import Derived.Test.YtilnjnblpeeigaaGreatDoorPxPa1
import Derived.Test.YtilnjnblpeeigaaGreatDoorPxPa2
import Derived.Below
import Derived.BigQuiet
import Derived.Deep.Cut
import Derived.Deep.CutRange
import Derived.Deep.DeepHandedRow
import Derived.Deep.OwnRows
import Derived.Deep.QuietTactic
import Derived.Deep.RegionHeld3
import Derived.Deep.RegionLaw
import Derived.Deep.RegionWith
import Derived.Deep.Slices
import Derived.Deep.WholeRow
import Derived.DeepKeys4
import Derived.KernelRfl
import Derived.LaidMore
import Derived.Laws.AppendOwnNone
import Derived.Laws.BitsAllLaws
import Derived.Laws.BitsLemmas
import Derived.Laws.CopyOwn
import Derived.Laws.IdiomArrays
import Derived.Laws.StructEq
import Derived.Lib.AppendZerosOnto
import Derived.Lib.Overlaps
import Derived.Lib.SliceRun
import Derived.Lib.SmallJoins
import Derived.Lib.Walk
import Derived.Maps.AppendAt
import Derived.Maps.Range
import Derived.Maps.RangeWalk
import Derived.OpenShut
import Derived.ProofKit
import Derived.Shelf.Abstract
import Derived.Shelf.RegionOpenPlain
import Derived.Shelf.SlIterI.Nil
import Derived.Shelf.SlMaps.Clone
import Derived.Shelf.SlSortCmp.NoneTotal
import Derived.Shelf.SlSortCmp.WholeK
import Derived.Shelf.SlicesE.Clone
import Derived.Shelf.SortM.Plain
import Derived.Shelf.SortM.SortNone
import Derived.Sort.Grow
import Derived.Sort.Statements
import Derived.Test.YtilnjnblpeeigaaGreatDoorProg
import Derived.Test.YtilnjnblpeeigaaGreatDoorRows
import Derived.WalkKit
import Derived.WalkLawsBesides
import Derived.WideMake
namespace Go.Proofs.YtilnjnblpeeigaaGreatDoor
open Go.RowKit Go.Deep Go.Shelf
open Classical
section
variable {w0 w w':World} {r p:Nat} {Y:Ly} {K:Kr} {R:List Th}
theorem Sep.k3 (s:Sep w0 r w (kT p Y K::R)):w.cell? ⟨p,3,none⟩=some (ptr Y.l):=by simp [World.cell?,s.obj,objK]
end
end Go.Proofs.YtilnjnblpeeigaaGreatDoor
namespace Go.Proofs.YtilnjnblpeeigaaGreatDoor
open Go.RowKit Go.Deep Go.Shelf
open Classical
section
variable {w0 w w':World} {r p:Nat} {Y:Ly} {K:Kr} {R:List Th}
theorem Sep.spWay {Y':Ly} (s:Sep w0 r w (kT p Y' K::R)) {g z cap i q:Nat} {v:(Nat->Option Nat)} (hv:Y'.dv = .slice (some ⟨g,0,none⟩) z cap) (hi:Y'.D[i]? = some (q,v)):w.cell? ⟨g,i,none⟩=some (ptr q):=by
 obtain ⟨ao,cap',e,-,h⟩:=s.spPtr
 rw [hv] at e
 simp only [Value.slice.injEq] at e
 obtain ⟨rfl,-,-⟩:=e
 obtain ⟨g',e2,h5⟩:=h i q v hi
 cases e2
 exact h5
theorem k_tab (s:Sep w0 r w (kT p Y K::R)) {i q:Nat} {v:(Nat->Option Nat)} {S:Ta.Sp} (hi:K.D[i]? = some S) (hy:Y.D[i]? = some (q,v)) (a n:Int) :
  Calls Tryz.prog 131 #[ptr q,.int .i64 a,.int .i64 n] w fun e w'=>e = .returned (.int .i64 (Ta.tabE S a n))/\∃ v',Sep w0 r w' (kT p { Y with D:=Y.D.set i (q,v') } { K with D:=K.D.set i (Ta.tabS S a n) }::R):=by
 obtain ⟨Q,s1,bk⟩:=s.spIn hi hy
 refine Calls.mono (Ta.tab_is s1 a n rfl rfl) ?_
 rintro e w' ⟨rfl,v',h⟩
 exact ⟨rfl,_,bk w' _ _ [] h⟩
theorem k_map (s:Sep w0 r w (kT p Y K::R)) {i q:Nat} {v:(Nat->Option Nat)} {S:Ta.Sp} (hi:K.D[i]? = some S) (hy:Y.D[i]? = some (q,v)) (n a c:Int) :
  Calls Tryz.prog 132 #[ptr q,.int .i64 n,.agg #[.int .i64 a,.int .i64 c]] w fun e w'=>e = .returned (.int .i64 (Ta.mapE S n ⟨a,c⟩))/\∃ v',Sep w0 r w' (kT p { Y with D:=Y.D.set i (q,v') } { K with D:=K.D.set i (Ta.mapS S n ⟨a,c⟩) }::R):=by
 obtain ⟨Q,s1,bk⟩:=s.spIn hi hy
 refine Calls.mono (Ta.mp_is s1 n a c rfl rfl) ?_
 rintro e w' ⟨rfl,h⟩
 exact ⟨rfl,_,bk w' _ _ [] h⟩
end
end Go.Proofs.YtilnjnblpeeigaaGreatDoor
namespace Go.Proofs.YtilnjnblpeeigaaGreatDoor
open Go.RowKit Go.Deep Go.Shelf
open Classical
section
variable {w0 w w':World} {r p:Nat} {Y:Ly} {K:Kr} {R:List Th}
set_option maxHeartbeats 4000000 in
set_option maxRecDepth 100000 in
theorem remove_0 (s:Sep w0 r w (kT p Y K::R)) (d:De) (hk:d.c.a=0) :
  Calls Tryz.prog 67 #[ptr p,encD d] w fun e w'=>e = .returned (encTl 181 0 (-1) (.slice none 0 0))/\KS w0 r w' p K R:=by
 have S1:=hid (s.deed d)
 obtain ⟨w1,hw⟩:∃ w1,(w.alloc (objD d)).alloc (objTl 0 0 0 (.slice none 0 0))=w1:=⟨_,rfl⟩
 rw [hw] at S1
 have HW:=hid hw
 unfold objD objTl at HW
 clear s hw
 have hq:(d.c.a == 0)=true:=by simpa using hk
 have hq2:decide (d.c.a=0)=true:=by simpa using hk
 clear hk
 unfold encD
 have dc1:w1.cell? ⟨w.heap.size,1,none⟩=some (.int .i64 d.c.a):=(S1.out.blkCell (p:=w.heap.size) (List.mem_cons_of_mem _ (List.mem_cons_of_mem _ (List.mem_cons_self))) 1).1
 go_enter Tryz.func67,Tryz.ntmps67
 go_wp2_with (first | rw [HW.out] | (go_at_call 30;refine Calls.mono (told_any _ _) ?_;rintro e w9 ⟨rfl,b9⟩;have s9:=(S1.out.below b9);obtain ⟨t0,t1,t2,t3,f0,f1,f2,f3⟩:=s9.swap.cells4 (List.mem_cons_self);have s10:=s9.swap.put4 181 0 (-1) (.slice none 0 0);have S10:=hid s10;clear s9 s10;simp only [encTl]) | fail)
 obtain ⟨g0,g1,g2,g3,-⟩:=S10.out.cells4 (List.mem_cons_self)
 have G10:=hid (And.intro (And.intro g0 g1) (And.intro g2 g3))
 clear g0 g1 g2 g3
 go_wp2
 refine bodyPost_ret (v:=encTl 181 0 (-1) (.slice none 0 0)) ?_ rfl ⟨rfl,_,S10.out.drop.drop2⟩
 simp [results,Tryz.f67,go_sem,encTl,G10.out.1.1,G10.out.1.2,G10.out.2.1,G10.out.2.2]
set_option maxHeartbeats 4000000 in
set_option maxRecDepth 100000 in
theorem remove_ok (s:Sep w0 r w (kT p Y K::R)) (d:De) (hk:¬ d.c.a=0) (h0:0<=d.f) (h1:d.f<=63) (hl:K.E.length<=1000) (hf:Few K) (hd:K.D.length<=1000000) :
  Calls Tryz.prog 67 #[ptr p,encD d] w fun e w'=>∃ v,e = .returned (encTl 0 0 (-1) v)/\KS w0 r w' p (goneK K d.f) (lst elR v (goneL K d.f)::R):=by
 have S1:=hid (s.deed d)
 obtain ⟨w1,hw⟩:∃ w1,(w.alloc (objD d)).alloc (objTl 0 0 0 (.slice none 0 0))=w1:=⟨_,rfl⟩
 rw [hw] at S1
 have HW:=hid hw
 unfold objD objTl at HW
 clear s hw
 have hq:(d.c.a == 0)=false:=by simpa using hk
 have hq2:decide (d.c.a=0)=false:=by simpa using hk
 have HZ:=hid (And.intro (And.intro h0 h1) (And.intro hl (And.intro hf hd)))
 clear hk h0 h1 hl hf hd
 generalize hgl:goneL K d.f=G
 have HGL:=hid hgl
 clear hgl
 have HDR:Hid (∀ W Y' R',Sep w0 r W (kT p Y' K::R')->Calls Tryz.prog 120 #[ptr p,.agg #[.int .i64 0,.int .i64 d.f]] W fun e w'=>∃ ao cap,e = .returned (.slice ao G.length cap)/\KS w0 r w' p (goneK K d.f) (lst elR (.slice ao G.length cap) G::R')):=fun W Y' R' s'=>by
  have h:=drop_sep s' HZ.out.1.1 HZ.out.1.2 HZ.out.2.1 HZ.out.2.2.1 HZ.out.2.2.2
  rw [HGL.out] at h
  exact h
 unfold encD
 have dc1:w1.cell? ⟨w.heap.size,1,none⟩=some (.int .i64 d.c.a):=(S1.out.blkCell (p:=w.heap.size) (List.mem_cons_of_mem _ (List.mem_cons_of_mem _ (List.mem_cons_self))) 1).1
 go_enter Tryz.func67,Tryz.ntmps67
 go_wp2_with (first | rw [HW.out] | (go_at_call 30;refine Calls.mono (told_any _ _) ?_;rintro e w9 ⟨rfl,b9⟩;have S2:=hid ((S1.out.below b9).box (objTl 0 0 (-1) (.slice none 0 0))).swap;clear b9;have dd8:(w9.alloc (.cells #[.int .i64 0,.int .u64 0,.int .i64 (-1),.slice none 0 0] 35)).cell? ⟨w.heap.size,8,none⟩=some (.int .i64 0):=(S2.out.blkCell (p:=w.heap.size) (List.mem_cons_of_mem _ (List.mem_cons_of_mem _ (List.mem_cons_of_mem _ (List.mem_cons_self)))) 8).1;have dd9:(w9.alloc (.cells #[.int .i64 0,.int .u64 0,.int .i64 (-1),.slice none 0 0] 35)).cell? ⟨w.heap.size,9,none⟩=some (.int .i64 d.f):=(S2.out.blkCell (p:=w.heap.size) (List.mem_cons_of_mem _ (List.mem_cons_of_mem _ (List.mem_cons_of_mem _ (List.mem_cons_self)))) 9).1;simp only [encTl]) | (go_at_call 120;refine Calls.mono (HDR.out _ _ _ S2.out) ?_;rintro e w5 ⟨ao,cap,rfl,Y5,s5⟩;have S5:=hid (s5.swap.to4);clear s5 dd8 dd9;have sv:=S5.out.swap;obtain ⟨t0,t1,t2,t3,f0,f1,f2,f3⟩:=sv.cells4 (List.mem_cons_self);obtain ⟨ne1,ne2⟩:=sv.ne;have sv0:=sv.putTF (.slice ao G.length cap);obtain ⟨t10,t11,t12,t13,-⟩:=sv0.cells4 (List.mem_cons_self);have sx:=sv0.third.swap;obtain ⟨u0,u1,u2,u3,g0,g1,g2,g3⟩:=sx.cells4 (List.mem_cons_self);have s10:=sx.put4 0 0 (-1) (.slice ao G.length cap);have S10:=hid s10;clear sv sv0 sx s10) | fail)
 generalize hv:Value.slice ao G.length cap=v at *
 obtain ⟨h0,h1,h2,h3,-⟩:=S10.out.cells4 (List.mem_cons_self)
 have G10:=hid (And.intro (And.intro h0 h1) (And.intro h2 h3))
 clear h0 h1 h2 h3
 go_wp2
 refine bodyPost_ret (v:=encTl 0 0 (-1) v) ?_ rfl ⟨v,rfl,_,S10.out.drop.drop2.del3⟩
 simp [results,Tryz.f67,go_sem,encTl,G10.out.1.1,G10.out.1.2,G10.out.2.1,G10.out.2.2]
end
end Go.Proofs.YtilnjnblpeeigaaGreatDoor
namespace Go.Proofs.YtilnjnblpeeigaaGreatDoor
open Go.RowKit Go.Deep Go.Shelf
open Classical
section
variable {w0 w w':World} {r p:Nat} {Y:Ly} {K:Kr} {R:List Th}
theorem k_pages (s:Sep w0 r w (kT p Y K::R)) {i q:Nat} {v:(Nat->Option Nat)} {S:Ta.Sp} (hi:K.D[i]? = some S) (hy:Y.D[i]? = some (q,v)) :
  Calls Tryz.prog 39 #[ptr q] w fun e w'=>∃ ao cap,e = .returned (.slice ao (Ta.allP S.f).length cap)/\Sep w0 r w' (kT p Y K::Ta.lstL (.slice ao (Ta.allP S.f).length cap) (Ta.allP S.f)::R):=by
 obtain ⟨Q,s1,bk⟩:=s.spIn hi hy
 refine Calls.mono (Ta.pgs_is s1 rfl) ?_
 rintro e w' ⟨u,rfl,h⟩
 have h2:=bk w' _ _ [_] h
 rw [set_same hi,set_same hy] at h2
 obtain ⟨ao,cap,rfl⟩:=h2.listIs (E:=Ta.elL) (v:=u) (A:=Ta.allP S.f) (by simp)
 exact ⟨ao,cap,rfl,h2⟩
set_option maxHeartbeats 4000000 in
set_option maxRecDepth 100000 in
theorem Pages_yes (s:Sep w0 r w (kT p Y K::R)) {n:Int} {i:Nat} (hn:n=(i:Int)) {S:Ta.Sp} (hi:K.D[i]? = some S) :
  Calls Tryz.prog 13 #[ptr p,.int .i64 n] w fun e w'=>∃ ao cap,e = .returned (.slice ao (Ta.allP S.f).length cap)/\Sep w0 r w' (kT p Y K::Ta.lstL (.slice ao (Ta.allP S.f).length cap) (Ta.allP S.f)::R):=by
 subst hn
 have c:=s.k7
 obtain ⟨q,v,Q,hy,-,-⟩:=s.spOf hi
 obtain ⟨ao,cap,hv,-,hp⟩:=s.spPtr
 obtain ⟨g,rfl,cq⟩:=hp i q v hy
 rw [hv] at c
 have hil:(i:Int)<(K.D.length:Int):=by have:=(List.getElem?_eq_some_iff.1 hi).1;omega
 have hnum:(decide (0<=(i:Int)) && decide ((i:Int)<(K.D.length:Int)))=true:=by simp only [Bool.and_eq_true,decide_eq_true_eq];omega
 have HC:=hid (k_pages s hi hy)
 clear s hv hp hi hy Q
 generalize K.D.length=z at *
 go_enter Tryz.func13,Tryz.ntmps13
 go_wp2_with (first | (go_at_call 38;refine Calls.mono (numD_any _ _ _ _ _) ?_;rintro e w2 ⟨rfl,rfl⟩;rw [hnum]) | (go_at_call 39;refine Calls.mono HC.out ?_;rintro e w3 ⟨ao,cap2,rfl,s3⟩) | fail)
 go_ret
 exact ⟨ao,cap2,rfl,s3⟩
end
end Go.Proofs.YtilnjnblpeeigaaGreatDoor
namespace Go.Proofs.YtilnjnblpeeigaaGreatDoor
open Classical
variable {n m:Nat} {K:Kr}
theorem spN_is {i:Nat} {S:Ta.Sp} (h:K.D[i]? = some S):spN K (i:Int)=S:=by unfold spN;rw [Int.toNat_natCast,List.getD_eq_getElem?_getD,h];rfl
end Go.Proofs.YtilnjnblpeeigaaGreatDoor
namespace Go.Proofs.YtilnjnblpeeigaaGreatDoor
open Go.RowKit Go.Deep Go.Shelf
open Classical
section
variable {w0 w w':World} {r p:Nat} {Y:Ly} {K:Kr} {R:List Th}
set_option maxHeartbeats 4000000 in
theorem table_deed (s:Sep w0 r w (kT p Y K::R)) (d:De) {i:Nat} {S:Ta.Sp} (hi:K.D[i]? = some S) (hxo:d.y.o=(i:Int)) :
  Calls Tryz.prog 76 #[ptr p,encD d] w fun e w'=>e = .returned (encTl (Ta.tabE S d.c.A d.x.o) 0 (-1) (.slice none 0 0))/\KS w0 r w' p { K with D:=K.D.set i (Ta.tabS S d.c.A d.x.o) } R:=by
 obtain ⟨qn,vn,Q,hyi,-,-⟩:=s.spOf hi
 obtain ⟨ao,cap,hnv,hzm,hpt⟩:=s.spPtr
 obtain ⟨g,rfl,-⟩:=hpt i qn vn hyi
 have hil:(i:Int)<(K.D.length:Int):=by have:=(List.getElem?_eq_some_iff.1 hi).1;omega
 have HI:=hid (And.intro hi hyi)
 have HX:=hid hxo
 clear Q hpt
 have hz:∃ z,K.D.length=z:=⟨_,rfl⟩
 obtain ⟨z,hz⟩:=hz
 rw [hz] at hnv hil hzm
 clear hz hi hyi hxo
 have S1:=hid (s.deed d)
 obtain ⟨w1,hw⟩:∃ w1,(w.alloc (objD d)).alloc (objTl 0 0 0 (.slice none 0 0))=w1:=⟨_,rfl⟩
 rw [hw] at S1
 have HW:=hid hw
 unfold objD objTl at HW
 clear s hw
 generalize hE:Ta.tabE S d.c.A d.x.o=E
 have HE:=hid hE
 clear hE
 unfold encD
 go_enter Tryz.func76,Tryz.ntmps76
 go_wp2_with (first | rw [HW.out] | fail)
 generalize w.heap.size+1=q2 at *
 generalize w.heap.size=q at *
 have HS:Hid (∀ (W:World) (Y':Ly) (K':Kr) (o:Obj) (R':List Th),Y'.dv=Y.dv->(∃ v',Y'.D[i]? = some (qn,v'))->Sep w0 r W (kT p Y' K'::blk q2 o::blk q (objD d)::R')->W.cell? ⟨p,7,none⟩=some (.slice (some ⟨g,0,none⟩) z cap)/\W.cell? ⟨g,i,none⟩=some (ptr qn)/\W.cell? ⟨q,17,none⟩=some (.int .i64 (i:Int))/\W.cell? ⟨q,3,none⟩=some (.int .i64 d.c.A)/\W.cell? ⟨q,11,none⟩=some (.int .i64 d.x.o)):=fun W Y' K' o R' hy ⟨v',hv⟩ s=>by
  have k:=s.k7
  rw [hy,hnv] at k
  have k2:=s.spWay (hy.trans hnv) hv
  have c17:W.cell? ⟨q,17,none⟩=some (.int .i64 d.y.o):=(s.blkCell (p:=q) (List.mem_cons_of_mem _ (List.mem_cons_of_mem _ (List.mem_cons_self))) 17).1
  rw [HX.out] at c17
  have c3:W.cell? ⟨q,3,none⟩=some (.int .i64 d.c.A):=(s.blkCell (p:=q) (List.mem_cons_of_mem _ (List.mem_cons_of_mem _ (List.mem_cons_self))) 3).1
  have c11:W.cell? ⟨q,11,none⟩=some (.int .i64 d.x.o):=(s.blkCell (p:=q) (List.mem_cons_of_mem _ (List.mem_cons_of_mem _ (List.mem_cons_self))) 11).1
  exact ⟨k,k2,c17,c3,c11⟩
 have hS:=HS.out _ _ _ _ _ (by rfl) ⟨_,HI.out.2⟩ S1.out.drew
 have HC1:=hid (k_tab S1.out.drew HI.out.1 HI.out.2 d.c.A d.x.o)
 go_region_held3 (fun W=>W.cell? ⟨p,7,none⟩=some (.slice (some ⟨g,0,none⟩) z cap)/\W.cell? ⟨g,i,none⟩=some (ptr qn)/\W.cell? ⟨q,17,none⟩=some (.int .i64 (i:Int))/\W.cell? ⟨q,3,none⟩=some (.int .i64 d.c.A)/\W.cell? ⟨q,11,none⟩=some (.int .i64 d.x.o)) (first | with_reducible assumption | with_reducible exact hS) (first | (go_at_call 131;refine Calls.mono HC1.out ?_;rintro e w3 ⟨rfl,x3,s3⟩;have hS3:=HS.out _ _ _ _ _ (by rfl) ⟨_,set_sp HI.out.2 _⟩ s3;rw [HE.out];have SP1:=hid s3;clear s3) | (go_at_call 30;refine Calls.mono (told_any _ _) ?_;rintro e w9 ⟨rfl,b9⟩;have s9:=(SP1.out.below b9);have hS9:=HS.out _ _ _ _ _ (by rfl) ⟨_,set_sp HI.out.2 _⟩ s9;obtain ⟨t0,t1,t2,t3,f0,f1,f2,f3⟩:=s9.swap.cells4 (List.mem_cons_self);have s10:=s9.swap.put4 E 0 (-1) (.slice none 0 0);have hS10:=HS.out _ _ _ _ _ (by rfl) ⟨_,set_sp HI.out.2 _⟩ s10.swap;have S10:=hid s10;clear s9 s10;simp only [encTl]))
 clear hS
 obtain ⟨g0,g1,g2,g3,-⟩:=S10.out.cells4 (List.mem_cons_self)
 have G10:=hid (And.intro (And.intro g0 g1) (And.intro g2 g3))
 clear g0 g1 g2 g3
 go_wp2
 refine bodyPost_ret (v:=encTl E 0 (-1) (.slice none 0 0)) ?_ rfl ⟨rfl,_,S10.out.drop.drop2⟩
 simp [results,Tryz.f76,go_sem,encTl,G10.out.1.1,G10.out.1.2,G10.out.2.1,G10.out.2.2]
end
end Go.Proofs.YtilnjnblpeeigaaGreatDoor
namespace Go.Proofs.YtilnjnblpeeigaaGreatDoor
open Go.RowKit Go.Deep Go.Shelf
open Classical
section
variable {w0 w w':World} {r p:Nat} {Y:Ly} {K:Kr} {R:List Th}
set_option maxHeartbeats 4000000 in
set_option maxRecDepth 100000 in
theorem lay_deed (s:Sep w0 r w (kT p Y K::R)) (d:De) {i:Nat} {S:Ta.Sp} (hi:K.D[i]? = some S) (hxo:d.y.o=(i:Int)) :
  Calls Tryz.prog 77 #[ptr p,encD d] w fun e w'=>e = .returned (encTl (Ta.mapE S d.c.A ⟨d.x.o,bits .and .i64 d.x.r d.c.B⟩) 0 (-1) (.slice none 0 0))/\KS w0 r w' p { K with D:=K.D.set i (Ta.mapS S d.c.A ⟨d.x.o,bits .and .i64 d.x.r d.c.B⟩) } R:=by
 obtain ⟨qn,vn,Q,hyi,-,-⟩:=s.spOf hi
 obtain ⟨ao,cap,hnv,hzm,hpt⟩:=s.spPtr
 obtain ⟨g,rfl,-⟩:=hpt i qn vn hyi
 have hil:(i:Int)<(K.D.length:Int):=by have:=(List.getElem?_eq_some_iff.1 hi).1;omega
 have HI:=hid (And.intro hi hyi)
 have HX:=hid hxo
 clear Q hpt
 have hz:∃ z,K.D.length=z:=⟨_,rfl⟩
 obtain ⟨z,hz⟩:=hz
 rw [hz] at hnv hil hzm
 clear hz hi hyi hxo
 have S1:=hid (s.deed d)
 obtain ⟨w1,hw⟩:∃ w1,(w.alloc (objD d)).alloc (objTl 0 0 0 (.slice none 0 0))=w1:=⟨_,rfl⟩
 rw [hw] at S1
 have HW:=hid hw
 unfold objD objTl at HW
 clear s hw
 obtain ⟨rb,hb⟩:∃ rb,bits .and .i64 d.x.r d.c.B=rb:=⟨_,rfl⟩
 rw [hb]
 generalize hE:Ta.mapE S d.c.A ⟨d.x.o,rb⟩=E
 have HE:=hid hE
 have S2:=hid ((S1.out.box (.cells #[.int .i64 d.x.o,.int .i64 rb] 49)).to4)
 clear hE
 unfold encD
 have dc11:w1.cell? ⟨w.heap.size,11,none⟩=some (.int .i64 d.x.o):=(S1.out.blkCell (p:=w.heap.size) (List.mem_cons_of_mem _ (List.mem_cons_of_mem _ (List.mem_cons_self))) 11).1
 have dc12:w1.cell? ⟨w.heap.size,12,none⟩=some (.int .i64 d.x.r):=(S1.out.blkCell (p:=w.heap.size) (List.mem_cons_of_mem _ (List.mem_cons_of_mem _ (List.mem_cons_self))) 12).1
 have dc4:w1.cell? ⟨w.heap.size,4,none⟩=some (.int .i64 d.c.B):=(S1.out.blkCell (p:=w.heap.size) (List.mem_cons_of_mem _ (List.mem_cons_of_mem _ (List.mem_cons_self))) 4).1
 go_enter Tryz.func77,Tryz.ntmps77
 go_wp2_with (first | rw [HW.out] | fail)
 generalize w.heap.size+1=q2 at *
 generalize w.heap.size=q at *
 clear dc11 dc12 dc4 hb
 obtain ⟨w2,hw2⟩:∃ w2,w1.alloc (.cells #[.int .i64 d.x.o,.int .i64 rb] 49)=w2:=⟨_,rfl⟩
 rw [hw2] at S2
 try rw [hw2]
 clear hw2
 generalize w1.heap.size=k1 at *
 have HS:Hid (∀ (W:World) (Y':Ly) (K':Kr) (o:Obj) (R':List Th),Y'.dv=Y.dv->(∃ v',Y'.D[i]? = some (qn,v'))->blk k1 (.cells #[.int .i64 d.x.o,.int .i64 rb] 49)∈R'->Sep w0 r W (kT p Y' K'::blk q2 o::blk q (objD d)::R')->W.cell? ⟨p,7,none⟩=some (.slice (some ⟨g,0,none⟩) z cap)/\W.cell? ⟨g,i,none⟩=some (ptr qn)/\W.cell? ⟨q,17,none⟩=some (.int .i64 (i:Int))/\W.cell? ⟨q,3,none⟩=some (.int .i64 d.c.A)/\W.cell? ⟨k1,0,none⟩=some (.int .i64 d.x.o)/\W.cell? ⟨k1,1,none⟩=some (.int .i64 rb)):=fun W Y' K' o R' hy ⟨v',hv⟩ hm s=>by
  have k:=s.k7
  rw [hy,hnv] at k
  have k2:=s.spWay (hy.trans hnv) hv
  have c17:W.cell? ⟨q,17,none⟩=some (.int .i64 d.y.o):=(s.blkCell (p:=q) (List.mem_cons_of_mem _ (List.mem_cons_of_mem _ (List.mem_cons_self))) 17).1
  rw [HX.out] at c17
  have c3:W.cell? ⟨q,3,none⟩=some (.int .i64 d.c.A):=(s.blkCell (p:=q) (List.mem_cons_of_mem _ (List.mem_cons_of_mem _ (List.mem_cons_self))) 3).1
  have km:=fun j=>(s.blkCell (p:=k1) (List.mem_cons_of_mem _ (List.mem_cons_of_mem _ (List.mem_cons_of_mem _ hm))) j).1
  exact ⟨k,k2,c17,c3,km 0,km 1⟩
 have hS:=HS.out _ _ _ _ _ (by rfl) ⟨_,HI.out.2⟩ (by simp) S2.out.drew
 have HC1:=hid (k_map S2.out.drew HI.out.1 HI.out.2 d.c.A d.x.o rb)
 go_region_held3 (fun W=>W.cell? ⟨p,7,none⟩=some (.slice (some ⟨g,0,none⟩) z cap)/\W.cell? ⟨g,i,none⟩=some (ptr qn)/\W.cell? ⟨q,17,none⟩=some (.int .i64 (i:Int))/\W.cell? ⟨q,3,none⟩=some (.int .i64 d.c.A)/\W.cell? ⟨k1,0,none⟩=some (.int .i64 d.x.o)/\W.cell? ⟨k1,1,none⟩=some (.int .i64 rb)) (first | with_reducible assumption | with_reducible exact hS) (first | (go_at_call 132;refine Calls.mono HC1.out ?_;rintro e w3 ⟨rfl,x3,s3⟩;have hS3:=HS.out _ _ _ _ _ (by rfl) ⟨_,set_sp HI.out.2 _⟩ (by simp) s3;rw [HE.out];have SP1:=hid s3;clear s3) | (go_at_call 30;refine Calls.mono (told_any _ _) ?_;rintro e w9 ⟨rfl,b9⟩;have s9:=(SP1.out.below b9);have hS9:=HS.out _ _ _ _ _ (by rfl) ⟨_,set_sp HI.out.2 _⟩ (by simp) s9;obtain ⟨t0,t1,t2,t3,f0,f1,f2,f3⟩:=s9.swap.cells4 (List.mem_cons_self);have s10:=s9.swap.put4 E 0 (-1) (.slice none 0 0);have hS10:=HS.out _ _ _ _ _ (by rfl) ⟨_,set_sp HI.out.2 _⟩ (by simp) s10.swap;have S10:=hid s10;clear s9 s10;simp only [encTl]))
 clear hS
 obtain ⟨g0,g1,g2,g3,-⟩:=S10.out.cells4 (List.mem_cons_self)
 have G10:=hid (And.intro (And.intro g0 g1) (And.intro g2 g3))
 clear g0 g1 g2 g3
 go_wp2
 refine bodyPost_ret (v:=encTl E 0 (-1) (.slice none 0 0)) ?_ rfl ⟨rfl,_,S10.out.drop.drop2.drop2⟩
 simp [results,Tryz.f77,go_sem,encTl,G10.out.1.1,G10.out.1.2,G10.out.2.1,G10.out.2.2]
end
end Go.Proofs.YtilnjnblpeeigaaGreatDoor
namespace Go.Proofs.YtilnjnblpeeigaaGreatDoor
open Go.RowKit Go.Deep Go.Shelf
open Classical
section
variable {w0 w w':World} {r p n m:Nat} {Y:Ly} {K:Kr} {R:List Th} {d:De}
theorem d_remove (s:Sep w0 r w (kT p Y K::R)) (o:Dd w0 r n m K d):Calls Tryz.prog 67 #[ptr p,encD d] w (DR w0 r p R (if d.c.a=0 then (K,tlE 181) else (goneK K d.c.a,⟨0,0,-1,goneL K d.c.a⟩))):=by
 by_cases h:d.c.a=0
 ·rw [if_pos h]
  exact DR.plain (remove_0 s d h)
 ·rw [if_neg h,<- o.f]
  exact remove_ok s d h o.f0.1 o.f0.2 o.few o.v.few (by have:=o.v.cd;have:=o.hm;omega)
theorem d_table (s:Sep w0 r w (kT p Y K::R)) (o:Dd w0 r n m K d) (hy:d.y=capN K d.c.w) (hk:d.y.k=8):Calls Tryz.prog 76 #[ptr p,encD d] w (DR w0 r p R (setD K d.y.o (Ta.tabS (spN K d.y.o) d.c.A d.x.o),tlE (Ta.tabE (spN K d.y.o) d.c.A d.x.o))):=by
 have hk2:(capN K d.c.w).k≠0:=by rw [<- hy,hk];decide
 have h0:0<=d.y.o:=by rw [hy];exact cap_obj o.v hk2
 have hlt:d.y.o<(K.D.length:Int):=by
  have h:=(cap_ref o.v hk2).d
  rw [<- hy] at h
  exact h hk
 obtain ⟨i,hi⟩:∃ i:Nat,d.y.o=(i:Int):=⟨d.y.o.toNat,by omega⟩
 obtain ⟨S,hS⟩:∃ S,K.D[i]? = some S:=⟨_,List.getElem?_eq_getElem (by omega)⟩
 unfold setD
 rw [hi,spN_is hS,Int.toNat_natCast]
 exact DR.plain (table_deed s d hS hi)
theorem d_lay (s:Sep w0 r w (kT p Y K::R)) (o:Dd w0 r n m K d) (hy:d.y=capN K d.c.w) (hk:d.y.k=8):Calls Tryz.prog 77 #[ptr p,encD d] w (DR w0 r p R (setD K d.y.o (Ta.mapS (spN K d.y.o) d.c.A ⟨d.x.o,bits .and .i64 d.x.r d.c.B⟩),tlE (Ta.mapE (spN K d.y.o) d.c.A ⟨d.x.o,bits .and .i64 d.x.r d.c.B⟩))):=by
 have hk2:(capN K d.c.w).k≠0:=by rw [<- hy,hk];decide
 have h0:0<=d.y.o:=by rw [hy];exact cap_obj o.v hk2
 have hlt:d.y.o<(K.D.length:Int):=by
  have h:=(cap_ref o.v hk2).d
  rw [<- hy] at h
  exact h hk
 obtain ⟨i,hi⟩:∃ i:Nat,d.y.o=(i:Int):=⟨d.y.o.toNat,by omega⟩
 obtain ⟨S,hS⟩:∃ S,K.D[i]? = some S:=⟨_,List.getElem?_eq_getElem (by omega)⟩
 unfold setD
 rw [hi,spN_is hS,Int.toNat_natCast]
 exact DR.plain (lay_deed s d hS hi)
end
end Go.Proofs.YtilnjnblpeeigaaGreatDoor
namespace Go.Proofs.YtilnjnblpeeigaaGreatDoor
open Go.RowKit Go.Deep Go.Shelf
open Classical
section
variable {w0 w w':World} {r p n m:Nat} {Y:Ly} {K:Kr} {R:List Th} {d:De}
def askL:List Nat:=[0,1,3,4,6,9,12,13]
def qIn (q:Int):Bool:=decide (q<0) || decide (17<=q) || askL.contains q.toNat
structure Cd (c:Cl):Prop where
 w:I64 c.w
 A:I64 c.A
 B:I64 c.B
 C:I64 c.C
 q:qIn c.q=true
theorem qIn_at {i:Nat} (h:qIn (i:Int)=true) (hi:i<17):askL.contains i=true:=by
 unfold qIn at h
 rw [decide_eq_false (by omega),decide_eq_false (by omega)] at h
 exact h
theorem deed_any (s:Sep w0 r w (kT p Y K::R)) (o:Dd w0 r n m K d) {i:Nat} (hq:d.c.q=(i:Int)) (hi:i<17) (hin:askL.contains i=true) (hB:findB K d.c i=true) (hy:d.y=if nW i=0 then Sl.no else capN K d.c.w) :
  Calls Tryz.prog (fnL.getD i 0) #[ptr p,encD d] w (DR w0 r p R (if mayB d.c d.x=true then doesK K d.core d.who d.c d.x else (K,tlE 181))):=by
 have hat:atB d.x i=true:=by
  rw [findB_at,<- o.x] at hB
  exact (Bool.and_eq_true_iff.1 hB).1
 have hkk:=atB_k hat
 have hrr:0<=d.x.r/\d.x.r<=7:=by rw [o.x];exact cap_r o.v
 have hmay:=may_find (c:=d.c) (x:=d.x) hq hi hrr
 rw [hat,Bool.true_and] at hmay
 have hwy:nW i≠0->d.y=capN K d.c.w/\(capN K d.c.w).k=nW i:=fun h=>by
  rw [if_neg h] at hy
  rw [findB_at] at hB
  have h2:=(Bool.and_eq_true_iff.1 hB).2
  simp only [Bool.or_eq_true,Bool.and_eq_true,beq_iff_eq] at h2
  refine ⟨hy,?_⟩
  rcases h2 with h2 | ⟨_,h2 | h2⟩
  ·exact absurd h2 h
  ·exact absurd h2 h
  ·exact h2
 have hcs:i=0\/i=1\/i=2\/i=3\/i=4\/i=5\/i=6\/i=7\/i=8\/i=9\/i=10\/i=11\/i=12\/i=13\/i=14\/i=15\/i=16:=by omega
 rw [hmay]
 clear hmay hB hat
 have hd:∀ X,doesK K d.core d.who d.c d.x=X->X=doesK K d.core d.who d.c d.x:=fun X h=>h.symm
 rcases hcs with rfl | rfl | rfl | rfl | rfl | rfl | rfl | rfl | rfl | rfl | rfl | rfl | rfl | rfl | rfl | rfl | rfl
 ·rw [hq,if_pos (by rfl)]
  unfold doesK
  rw [hq]
  exact d_retype s o (hkk.2.resolve_left (by decide))
 ·by_cases hk:d.x.k=1
  ·have h:=d_mint s o
   rw [if_pos hk] at h
   rw [hq,hk,if_neg (by decide)]
   exact h
  ·have h:=d_mint s o
   rw [if_neg hk] at h
   have e:(d.x.k == 1)=false:=by simpa using hk
   rw [hq,e,if_pos (by rfl)]
   unfold doesK
   rw [hq]
   exact h
 ·exact absurd hin (by decide)
 ·rw [hq,if_pos (by rfl)]
  unfold doesK
  rw [hq]
  exact d_remove s o
 ·rw [hq,if_pos (by rfl)]
  unfold doesK
  rw [hq]
  exact d_revoke s o
 ·exact absurd hin (by decide)
 ·rw [hq,if_pos (by rfl)]
  unfold doesK
  rw [hq]
  exact d_suspend s o
 ·exact absurd hin (by decide)
 ·exact absurd hin (by decide)
 ·rw [hq,if_pos (by rfl)]
  unfold doesK
  rw [hq]
  exact d_recv s o (hkk.2.resolve_left (by decide))
 ·exact absurd hin (by decide)
 ·exact absurd hin (by decide)
 ·obtain ⟨h1,h2⟩:=hwy (by decide)
  have h3:d.y.k=8:=by rw [h1];exact h2
  have h:=d_table s o h1 h3
  rw [hq,if_pos (by rfl)]
  unfold doesK
  rw [hq]
  show Calls _ _ _ _ (DR w0 r p R (if (capN K d.c.w).k=8 then _ else _))
  rw [if_pos (show (capN K d.c.w).k=8 from h2),<- h1]
  exact h
 ·obtain ⟨h1,h2⟩:=hwy (by decide)
  have h3:d.y.k=8:=by rw [h1];exact h2
  have h:=d_lay s o h1 h3
  rw [hq,if_pos (by rfl)]
  unfold doesK
  rw [hq]
  show Calls _ _ _ _ (DR w0 r p R (if (capN K d.c.w).k=8 then _ else _))
  rw [if_pos (show (capN K d.c.w).k=8 from h2),<- h1]
  exact h
 ·exact absurd hin (by decide)
 ·exact absurd hin (by decide)
 ·exact absurd hin (by decide)
theorem Do_any (s:Sep w0 r w (kT p Y K::R)) (o:Kd w0 r n m K) (core:Int) {c:Cl} (b:Cd c) :
  Calls Tryz.prog 9 #[ptr p,.int .i64 core,encCl c] w (DR w0 r p R (doK K core c)):=by
 unfold doK
 by_cases hb:Th.runsB (pickedK K core).h core=true
 ·rw [if_pos hb]
  by_cases hq:0<=c.q/\c.q<=17
  ·rw [if_pos hq]
   obtain ⟨i,hi⟩:∃ i:Nat,c.q=(i:Int):=⟨c.q.toNat,by omega⟩
   obtain ⟨t1,t2⟩:=runs_tid (o.v.picked core) hb
   by_cases h17:c.q=17
   ·rw [if_pos h17]
    exact Do_yield s o.ht core c hb hi (by omega) _ rfl fun Y2 W T s2=>by
     obtain rfl:i=17:=by omega
     exact DR.plain (yield_deed s2 (de0 c core _) o.ht)
   ·rw [if_neg h17]
    have hi17:i<17:=by omega
    have vp:=o.v.picked core
    have ec:∀ a,capN (pickedK K core) a=capN K a:=fun _=>rfl
    rw [<- ec]
    by_cases hB:findB (pickedK K core) c i=true
    ·refine Do_call s o.ht core c hb hi hi17 o.v.ts.n0 o.N o.hn hB _ rfl fun Y2 W T s2=>?_
     have hk:(capN (pickedK K core) c.a).k≠0:=by
      rw [findB_at] at hB
      exact (atB_k (Bool.and_eq_true_iff.1 hB).1).1
     exact deed_any s2 (d:=de1 c core (Th.runsN (Th.pickH K.h core) core) (capN (pickedK K core) c.a) (if nW i=0 then Sl.no else capN (pickedK K core) c.w)) ⟨vp,o.hm,o.fu,o.T,o.hr,o.ht,t1,t2,b.A,b.B,b.C,b.w,rfl,rfl,hk⟩ hi hi17 (qIn_at (by rw [<- hi];exact b.q) hi17) hB rfl
    ·rw [find_not vp hi hi17 (by simpa using hB)]
     exact DR.plain (Do_cap s o.ht core c hb hi hi17 o.v.ts.n0 o.N o.hn (by simpa using hB))
  ·rw [if_neg hq]
   exact DR.plain (Do_label s o.ht core c hb hq)
 ·rw [if_neg hb]
  have hb2:Th.runsB (pickedK K core).h core=false:=by simpa using hb
  exact DR.plain (Do_state s o.ht core c hb2)
end
end Go.Proofs.YtilnjnblpeeigaaGreatDoor
namespace Go.Proofs.YtilnjnblpeeigaaGreatDoor
open Go.RowKit Go.Deep Go.Shelf
open Classical
theorem Lt.below {w w':World} (h:Lt w) (b:Below w.heap.size w w'):Lt w':=⟨h.u.below b h.u.size,h.n.below b h.n.size,h.t.below b⟩
section
variable {w0 w w':World} {p n m:Nat} {Y:Ly} {K K':Kr} {R:List Th}
theorem do_law (s:Sep w0 w0.heap.size w (kT p Y K::R)) (L:Lt w0) (v:Kv n m K) (hm:m<=100000) (core:Int) {c:Cl} (b:Cd c) {e x k:Int} {f:List Lr} (hX:doK K core c=(K',⟨e,x,k,f⟩)) :
  Calls Tryz.prog 9 #[ptr p,.int .i64 core,.agg #[.int .i64 c.q,.int .i64 c.a,.int .i64 c.w,.int .i64 c.A,.int .i64 c.B,.int .i64 c.C]] w fun r w'=>∃ ao cap Y',r = .returned (.agg #[.int .i64 e,.int .u64 x,.int .i64 k,.slice ao f.length cap])/\Sep w0 w0.heap.size w' (kT p Y' K'::lst elR (.slice ao f.length cap) f::R):=by
 have h:=Do_any s ⟨v.v,hm,v.fu,L.u,L.u.size,L.n,L.n.size,fun u b=>L.t.below b⟩ core b
 rw [hX] at h
 refine Calls.mono h ?_
 rintro r w' ⟨u,rfl,Y',s'⟩
 obtain ⟨ao,cap,rfl⟩:=s'.listIs (E:=elR) (v:=u) (A:=f) (by simp)
 exact ⟨ao,cap,Y',rfl,s'⟩
end
end Go.Proofs.YtilnjnblpeeigaaGreatDoor
namespace Go.Proofs.YtilnjnblpeeigaaGreatDoor
set_option maxRecDepth 100000
def K0:Kr:=begK 1 12 0 [5]
end Go.Proofs.YtilnjnblpeeigaaGreatDoor
namespace Go.Proofs.YtilnjnblpeeigaaGreatDoor
open Go.RowKit Go.Deep Go.Shelf
open Classical
section
variable {w0 w w':World} {r:Nat} {R:List Th}
theorem fx_do {w0:World} (L:Lt w0) {n m:Nat} {K K':Kr} (v:Kv n m K) (hm:m<=100000) {core:Int} {c:Cl} (b:Cd c) {e x k:Int} (hX:doK K core c=(K',⟨e,x,k,[]⟩)) (p:Nat) (W:World) (Y:Ly) (T:List Th) (s:Sep w0 w0.heap.size W (kT p Y K::T)) :
  Calls Tryz.prog 9 #[ptr p,.int .i64 core,.agg #[.int .i64 c.q,.int .i64 c.a,.int .i64 c.w,.int .i64 c.A,.int .i64 c.B,.int .i64 c.C]] W fun r w'=>∃ ao cap Y',r = .returned (.agg #[.int .i64 e,.int .u64 x,.int .i64 k,.slice ao 0 cap])/\Sep w0 w0.heap.size w' (kT p Y' K'::T):=by
 refine Calls.mono (do_law s L v hm core b hX) ?_
 rintro r w' ⟨ao,cap,Y',rfl,s'⟩
 exact ⟨ao,cap,Y',rfl,s'.drop2⟩
set_option maxHeartbeats 8000000 in
set_option maxRecDepth 100000 in
theorem fixed_any (w:World) (L:Lt w):Calls Tryz.prog 12 #[] w fun e w'=>e = .returned (.bool true)/\Below w.heap.size w w':=by
 have k0:Kv 1 0 Kf0:=by
  have h:=boot_kv (n:=1) (m:=2) (b:=10) (Q:=[5]) rfl rfl
  rw [beg_eq] at h
  exact h
 have x1:doK Kf0 0 cf1=(Kf1,⟨0,0,(-1),[]⟩):=go_is rfl f1
 have k1:=k0.call (by omega) (small _ (by decide)) x1
 have H1:Hid (∀ (p:Nat) (W:World) (Y:Ly) (T:List Th),Sep w w.heap.size W (kT p Y Kf0::T)->Calls Tryz.prog 9 #[ptr p,.int .i64 0,.agg #[.int .i64 0,.int .i64 1,.int .i64 20,.int .i64 4,.int .i64 0,.int .i64 1]] W fun r w'=>∃ ao cap Y',r = .returned (.agg #[.int .i64 0,.int .u64 0,.int .i64 (-1),.slice ao 0 cap])/\Sep w w.heap.size w' (kT p Y' Kf1::T)):=fun p W Y T s=>fx_do L k0 (by omega) ⟨small _ (by decide),small _ (by decide),small _ (by decide),small _ (by decide),rfl⟩ x1 p W Y T s
 have x2:doK Kf1 0 cf2=(Kf2,⟨0,0,(-1),[]⟩):=go_is rfl f2
 have k2:=k1.call (by omega) (small _ (by decide)) x2
 have H2:Hid (∀ (p:Nat) (W:World) (Y:Ly) (T:List Th),Sep w w.heap.size W (kT p Y Kf1::T)->Calls Tryz.prog 9 #[ptr p,.int .i64 0,.agg #[.int .i64 1,.int .i64 20,.int .i64 21,.int .i64 2,.int .i64 7,.int .i64 0]] W fun r w'=>∃ ao cap Y',r = .returned (.agg #[.int .i64 0,.int .u64 0,.int .i64 (-1),.slice ao 0 cap])/\Sep w w.heap.size w' (kT p Y' Kf2::T)):=fun p W Y T s=>fx_do L k1 (by omega) ⟨small _ (by decide),small _ (by decide),small _ (by decide),small _ (by decide),rfl⟩ x2 p W Y T s
 have x3:doK Kf2 0 cf3=(Kf3,⟨181,0,(-1),[]⟩):=go_is rfl f3
 have k3:=k2.call (by omega) (small _ (by decide)) x3
 have H3:Hid (∀ (p:Nat) (W:World) (Y:Ly) (T:List Th),Sep w w.heap.size W (kT p Y Kf2::T)->Calls Tryz.prog 9 #[ptr p,.int .i64 0,.agg #[.int .i64 9,.int .i64 21,.int .i64 0,.int .i64 0,.int .i64 0,.int .i64 0]] W fun r w'=>∃ ao cap Y',r = .returned (.agg #[.int .i64 181,.int .u64 0,.int .i64 (-1),.slice ao 0 cap])/\Sep w w.heap.size w' (kT p Y' Kf3::T)):=fun p W Y T s=>fx_do L k2 (by omega) ⟨small _ (by decide),small _ (by decide),small _ (by decide),small _ (by decide),rfl⟩ x3 p W Y T s
 have x4:doK Kf3 0 cf4=(Kf4,⟨0,2,(-1),[]⟩):=go_is rfl f4
 have k4:=k3.call (by omega) (small _ (by decide)) x4
 have H4:Hid (∀ (p:Nat) (W:World) (Y:Ly) (T:List Th),Sep w w.heap.size W (kT p Y Kf3::T)->Calls Tryz.prog 9 #[ptr p,.int .i64 0,.agg #[.int .i64 4,.int .i64 1,.int .i64 0,.int .i64 0,.int .i64 0,.int .i64 0]] W fun r w'=>∃ ao cap Y',r = .returned (.agg #[.int .i64 0,.int .u64 2,.int .i64 (-1),.slice ao 0 cap])/\Sep w w.heap.size w' (kT p Y' Kf4::T)):=fun p W Y T s=>fx_do L k3 (by omega) ⟨small _ (by decide),small _ (by decide),small _ (by decide),small _ (by decide),rfl⟩ x4 p W Y T s
 have x5:doK Kf4 0 cf5=(Kf5,⟨180,0,(-1),[]⟩):=go_is rfl f5
 have k5:=k4.call (by omega) (small _ (by decide)) x5
 have H5:Hid (∀ (p:Nat) (W:World) (Y:Ly) (T:List Th),Sep w w.heap.size W (kT p Y Kf4::T)->Calls Tryz.prog 9 #[ptr p,.int .i64 0,.agg #[.int .i64 18,.int .i64 0,.int .i64 0,.int .i64 0,.int .i64 0,.int .i64 0]] W fun r w'=>∃ ao cap Y',r = .returned (.agg #[.int .i64 180,.int .u64 0,.int .i64 (-1),.slice ao 0 cap])/\Sep w w.heap.size w' (kT p Y' Kf5::T)):=fun p W Y T s=>fx_do L k4 (by omega) ⟨small _ (by decide),small _ (by decide),small _ (by decide),small _ (by decide),rfl⟩ x5 p W Y T s
 have x6:doK Kf5 1 cf6=(Kf6,⟨182,0,(-1),[]⟩):=go_is rfl f6
 have k6:=k5.call (by omega) (small _ (by decide)) x6
 have H6:Hid (∀ (p:Nat) (W:World) (Y:Ly) (T:List Th),Sep w w.heap.size W (kT p Y Kf5::T)->Calls Tryz.prog 9 #[ptr p,.int .i64 1,.agg #[.int .i64 0,.int .i64 0,.int .i64 0,.int .i64 0,.int .i64 0,.int .i64 0]] W fun r w'=>∃ ao cap Y',r = .returned (.agg #[.int .i64 182,.int .u64 0,.int .i64 (-1),.slice ao 0 cap])/\Sep w w.heap.size w' (kT p Y' Kf6::T)):=fun p W Y T s=>fx_do L k5 (by omega) ⟨small _ (by decide),small _ (by decide),small _ (by decide),small _ (by decide),rfl⟩ x6 p W Y T s
 have x7:doK Kf6 0 cf7=(Kf7,⟨0,0,(-1),[]⟩):=go_is rfl f7
 have k7:=k6.call (by omega) (small _ (by decide)) x7
 have H7:Hid (∀ (p:Nat) (W:World) (Y:Ly) (T:List Th),Sep w w.heap.size W (kT p Y Kf6::T)->Calls Tryz.prog 9 #[ptr p,.int .i64 0,.agg #[.int .i64 6,.int .i64 2,.int .i64 0,.int .i64 0,.int .i64 0,.int .i64 0]] W fun r w'=>∃ ao cap Y',r = .returned (.agg #[.int .i64 0,.int .u64 0,.int .i64 (-1),.slice ao 0 cap])/\Sep w w.heap.size w' (kT p Y' Kf7::T)):=fun p W Y T s=>fx_do L k6 (by omega) ⟨small _ (by decide),small _ (by decide),small _ (by decide),small _ (by decide),rfl⟩ x7 p W Y T s
 have x8:doK Kf7 0 cf8=(Kf8,⟨182,0,(-1),[]⟩):=go_is rfl f8
 have k8:=k7.call (by omega) (small _ (by decide)) x8
 have H8:Hid (∀ (p:Nat) (W:World) (Y:Ly) (T:List Th),Sep w w.heap.size W (kT p Y Kf7::T)->Calls Tryz.prog 9 #[ptr p,.int .i64 0,.agg #[.int .i64 17,.int .i64 0,.int .i64 0,.int .i64 0,.int .i64 0,.int .i64 0]] W fun r w'=>∃ ao cap Y',r = .returned (.agg #[.int .i64 182,.int .u64 0,.int .i64 (-1),.slice ao 0 cap])/\Sep w w.heap.size w' (kT p Y' Kf8::T)):=fun p W Y T s=>fx_do L k7 (by omega) ⟨small _ (by decide),small _ (by decide),small _ (by decide),small _ (by decide),rfl⟩ x8 p W Y T s
 have HB:Hid (∀ (g:Nat) (W:World) (T:List Th),Sep w w.heap.size W (Ta.lstI (.slice (some ⟨g,0,none⟩) 1 1) [5]::T)->Calls Tryz.prog 8 #[.agg #[.int .i64 1,.int .i64 10,.int .i64 2,.slice (some ⟨g,0,none⟩) 1 1]] W fun r w'=>∃ p,r = .returned (.tuple #[ptr p,.int .i64 0])/\∃ Y,Sep w w.heap.size w' (kT p Y Kf0::T)):=fun g W T s=>by
  have h:=Boot_ok s (fun u b=>L.t.below b) (n:=1) (m:=2) (b:=10) rfl rfl
  rw [beg_eq] at h
  refine Calls.mono h ?_
  rintro r w' ⟨p,rfl,Y,s'⟩
  exact ⟨p,rfl,Y,s'.drop2⟩
 have HBN:Hid (∀ (W:World) (T:List Th),Sep w w.heap.size W T->Calls Tryz.prog 8 #[.agg #[.int .i64 0,.int .i64 0,.int .i64 0,.slice none 0 0]] W fun r w'=>r = .returned (.tuple #[.pointer none,.int .i64 1])/\Sep w w.heap.size w' T):=fun W T s=>by
  refine Calls.mono (Boot_no (s.nil (E:=Ta.elI)) (n:=0) (b:=0) (m:=0) rfl) ?_
  rintro r w' ⟨rfl,s'⟩
  exact ⟨rfl,s'.drop⟩
 have HH3:Hid (∀ (p:Nat) (W:World) (Y:Ly) (T:List Th),Sep w w.heap.size W (kT p Y Kf3::T)->Calls Tryz.prog 36 #[ptr p] W fun r w'=>∃ ao cap,r = .returned (.slice ao 8 cap)/\Sep w w.heap.size w' (kT p Y Kf3::T)):=fun p W Y T s=>by
  have h:=Held_sep s
  rw [fh3] at h
  refine Calls.mono h ?_
  rintro r w' ⟨ao,cap,rfl,s'⟩
  exact ⟨ao,cap,rfl,s'.drop2⟩
 have HH8:Hid (∀ (p:Nat) (W:World) (Y:Ly) (T:List Th),Sep w w.heap.size W (kT p Y Kf8::T)->Calls Tryz.prog 36 #[ptr p] W fun r w'=>∃ ao cap,r = .returned (.slice ao 6 cap)/\Sep w w.heap.size w' (kT p Y Kf8::T)):=fun p W Y T s=>by
  have h:=Held_sep s
  rw [fh8] at h
  refine Calls.mono h ?_
  rintro r w' ⟨ao,cap,rfl,s'⟩
  exact ⟨ao,cap,rfl,s'.drop2⟩
 have HU:Hid (∀ (p:Nat) (W:World) (Y:Ly) (T:List Th),Sep w w.heap.size W (kT p Y Kf6::T)->Calls Tryz.prog 37 #[ptr p,.int .i64 0] W fun r w'=>r = .returned (.tuple #[.agg #[.int .u64 0,.int .i64 10,.int .u64 0],.bool true])/\Sep w w.heap.size w' (kT p Y Kf6::T)):=fun p W Y T s=>Untyped_yes s (n:=0) (i:=0) rfl fu6
 have S0:=hid (sep_nil w)
 have heq:∀ W,(Op.equalIn 10000 79 (.agg #[.int .u64 0,.int .i64 10,.int .u64 0]) (.agg #[.int .u64 0,.int .i64 10,.int .u64 0])).run Tryz.prog W = .ok true W:=fun W=>eq_untyped W 0 10 0 0 10 0
 clear L k0 x1 k1 x2 k2 x3 k3 x4 k4 x5 k5 x6 k6 x7 k7 x8 k8
 go_enter Tryz.func12,Tryz.ntmps12
 go_wp2_with (first
  | (go_at_call 35;refine Calls.mono (one_sep S0.out) ?_;rintro e w1 ⟨g,rfl,s1⟩;have S1:=hid s1;clear s1)
  | (go_at_call 8;(with_reducible refine Calls.mono (HB.out _ _ _ S1.out) ?_);rintro e w2 ⟨p,rfl,Y0,s2⟩;have T0:=hid s2;clear s2)
  | (go_at_call 9;(with_reducible refine Calls.mono (H1.out _ _ _ _ T0.out) ?_);rintro e v1 ⟨a1,c1,Y1,rfl,s1⟩;have T1:=hid ((s1.box (.cells #[.int .i64 0,.int .u64 0,.int .i64 (-1),.slice a1 0 c1] 35)).swap);clear s1)
  | (go_at_call 9;(with_reducible refine Calls.mono (H2.out _ _ _ _ T1.out) ?_);rintro e v2 ⟨a2,c2,Y2,rfl,s2⟩;have T2:=hid ((s2.box (.cells #[.int .i64 0,.int .u64 0,.int .i64 (-1),.slice a2 0 c2] 35)).swap);clear s2)
  | (go_at_call 9;(with_reducible refine Calls.mono (H3.out _ _ _ _ T2.out) ?_);rintro e v3 ⟨a3,c3,Y3,rfl,s3⟩;have T3:=hid ((s3.box (.cells #[.int .i64 181,.int .u64 0,.int .i64 (-1),.slice a3 0 c3] 35)).swap);clear s3)
  | (go_at_call 36;(with_reducible refine Calls.mono (HH3.out _ _ _ _ T3.out) ?_);rintro e v31 ⟨a31,c31,rfl,s3⟩;have T31:=hid s3;clear s3)
  | (go_at_call 9;(with_reducible refine Calls.mono (H4.out _ _ _ _ T31.out) ?_);rintro e v4 ⟨a4,c4,Y4,rfl,s4⟩;have T4:=hid ((s4.box (.cells #[.int .i64 0,.int .u64 2,.int .i64 (-1),.slice a4 0 c4] 35)).swap);clear s4)
  | (go_at_call 9;(with_reducible refine Calls.mono (H5.out _ _ _ _ T4.out) ?_);rintro e v5 ⟨a5,c5,Y5,rfl,s5⟩;have T5:=hid ((s5.box (.cells #[.int .i64 180,.int .u64 0,.int .i64 (-1),.slice a5 0 c5] 35)).swap);clear s5)
  | (go_at_call 9;(with_reducible refine Calls.mono (H6.out _ _ _ _ T5.out) ?_);rintro e v6 ⟨a6,c6,Y6,rfl,s6⟩;have T6:=hid ((s6.box (.cells #[.int .i64 182,.int .u64 0,.int .i64 (-1),.slice a6 0 c6] 35)).swap);clear s6)
  | (go_at_call 37;(with_reducible refine Calls.mono (HU.out _ _ _ _ T6.out) ?_);rintro e v61 ⟨rfl,s6⟩;have T61:=hid ((s6.box (.cells #[.int .u64 0,.int .i64 10,.int .u64 0] 79)).swap);clear s6)
  | (go_at_call 9;(with_reducible refine Calls.mono (H7.out _ _ _ _ T61.out) ?_);rintro e v7 ⟨a7,c7,Y7,rfl,s7⟩;have T7:=hid ((s7.box (.cells #[.int .i64 0,.int .u64 0,.int .i64 (-1),.slice a7 0 c7] 35)).swap);clear s7)
  | (go_at_call 9;(with_reducible refine Calls.mono (H8.out _ _ _ _ T7.out) ?_);rintro e v8 ⟨a8,c8,Y8,rfl,s8⟩;have T8:=hid ((s8.box (.cells #[.int .i64 182,.int .u64 0,.int .i64 (-1),.slice a8 0 c8] 35)).swap);clear s8)
  | (go_at_call 8;(with_reducible refine Calls.mono (HBN.out _ _ T8.out) ?_);rintro e w9 ⟨rfl,s9⟩;have av10:w9.cell? ⟨v1.heap.size,0,none⟩=some (.int .i64 0):=(s9.blkCell (p:=v1.heap.size) (List.mem_cons_of_mem _ (List.mem_cons_of_mem _ (List.mem_cons_of_mem _ (List.mem_cons_of_mem _ (List.mem_cons_of_mem _ (List.mem_cons_of_mem _ (List.mem_cons_of_mem _ (List.mem_cons_of_mem _ (List.mem_cons_of_mem _ (List.mem_cons_self)))))))))) 0).1;have av12:w9.cell? ⟨v1.heap.size,2,none⟩=some (.int .i64 (-1)):=(s9.blkCell (p:=v1.heap.size) (List.mem_cons_of_mem _ (List.mem_cons_of_mem _ (List.mem_cons_of_mem _ (List.mem_cons_of_mem _ (List.mem_cons_of_mem _ (List.mem_cons_of_mem _ (List.mem_cons_of_mem _ (List.mem_cons_of_mem _ (List.mem_cons_of_mem _ (List.mem_cons_self)))))))))) 2).1;have av20:w9.cell? ⟨v2.heap.size,0,none⟩=some (.int .i64 0):=(s9.blkCell (p:=v2.heap.size) (List.mem_cons_of_mem _ (List.mem_cons_of_mem _ (List.mem_cons_of_mem _ (List.mem_cons_of_mem _ (List.mem_cons_of_mem _ (List.mem_cons_of_mem _ (List.mem_cons_of_mem _ (List.mem_cons_of_mem _ (List.mem_cons_self))))))))) 0).1;have av30:w9.cell? ⟨v3.heap.size,0,none⟩=some (.int .i64 181):=(s9.blkCell (p:=v3.heap.size) (List.mem_cons_of_mem _ (List.mem_cons_of_mem _ (List.mem_cons_of_mem _ (List.mem_cons_of_mem _ (List.mem_cons_of_mem _ (List.mem_cons_of_mem _ (List.mem_cons_of_mem _ (List.mem_cons_self)))))))) 0).1;have av40:w9.cell? ⟨v4.heap.size,0,none⟩=some (.int .i64 0):=(s9.blkCell (p:=v4.heap.size) (List.mem_cons_of_mem _ (List.mem_cons_of_mem _ (List.mem_cons_of_mem _ (List.mem_cons_of_mem _ (List.mem_cons_of_mem _ (List.mem_cons_of_mem _ (List.mem_cons_self))))))) 0).1;have av41:w9.cell? ⟨v4.heap.size,1,none⟩=some (.int .u64 2):=(s9.blkCell (p:=v4.heap.size) (List.mem_cons_of_mem _ (List.mem_cons_of_mem _ (List.mem_cons_of_mem _ (List.mem_cons_of_mem _ (List.mem_cons_of_mem _ (List.mem_cons_of_mem _ (List.mem_cons_self))))))) 1).1;have T9:=hid s9;clear s9)
  | (go_at_call 36;(with_reducible refine Calls.mono (HH8.out _ _ _ _ T9.out) ?_);rintro e w10 ⟨a10,c10,rfl,s10⟩;have bv50:w10.cell? ⟨v5.heap.size,0,none⟩=some (.int .i64 180):=(s10.blkCell (p:=v5.heap.size) (List.mem_cons_of_mem _ (List.mem_cons_of_mem _ (List.mem_cons_of_mem _ (List.mem_cons_of_mem _ (List.mem_cons_of_mem _ (List.mem_cons_self)))))) 0).1;have bv60:w10.cell? ⟨v6.heap.size,0,none⟩=some (.int .i64 182):=(s10.blkCell (p:=v6.heap.size) (List.mem_cons_of_mem _ (List.mem_cons_of_mem _ (List.mem_cons_of_mem _ (List.mem_cons_of_mem _ (List.mem_cons_self))))) 0).1;have bv70:w10.cell? ⟨v7.heap.size,0,none⟩=some (.int .i64 0):=(s10.blkCell (p:=v7.heap.size) (List.mem_cons_of_mem _ (List.mem_cons_of_mem _ (List.mem_cons_self))) 0).1;have bv80:w10.cell? ⟨v8.heap.size,0,none⟩=some (.int .i64 182):=(s10.blkCell (p:=v8.heap.size) (List.mem_cons_of_mem _ (List.mem_cons_self)) 0).1;have bu0:w10.cell? ⟨v61.heap.size,0,none⟩=some (.int .u64 0):=(s10.blkCell (p:=v61.heap.size) (List.mem_cons_of_mem _ (List.mem_cons_of_mem _ (List.mem_cons_of_mem _ (List.mem_cons_self)))) 0).1;have bu1:w10.cell? ⟨v61.heap.size,1,none⟩=some (.int .i64 10):=(s10.blkCell (p:=v61.heap.size) (List.mem_cons_of_mem _ (List.mem_cons_of_mem _ (List.mem_cons_of_mem _ (List.mem_cons_self)))) 1).1;have bu2:w10.cell? ⟨v61.heap.size,2,none⟩=some (.int .u64 0):=(s10.blkCell (p:=v61.heap.size) (List.mem_cons_of_mem _ (List.mem_cons_of_mem _ (List.mem_cons_of_mem _ (List.mem_cons_self)))) 2).1;have T10:=hid s10;clear s10)
  | fail)
 go_ret
 exact ⟨rfl,T10.out.low⟩
end
end Go.Proofs.YtilnjnblpeeigaaGreatDoor
namespace Go.Proofs.YtilnjnblpeeigaaGreatDoor
open Go.ChangeShapes Go.WideShapes Go.ChangeAt Go.RowKit Go.Joins Go.Deep
theorem ownK:ownKnob Tryz.prog.godebug=none:=by kernel_rfl
theorem laidOut:laidOutB Tryz.prog=true:=by kernel_rfl
def SeeK {α:Type} (k:Nat) (enc:α->List Value) (P:α->Prop) (W:World) (ao:Option Addr) (X:List α):Prop:=
 ∀ i x,X[i]? = some x->P x/\∃ b o,ao=some ⟨b,o,none⟩/\b<W.heap.size/\∀ j v,(enc x)[j]? = some v->W.cell? ⟨b,o+i*k+j,none⟩=some v
theorem SeeK.below {α:Type} {k:Nat} {enc:α->List Value} {P:α->Prop} {W W':World} {ao:Option Addr} {X:List α} {r:Nat} (h:SeeK k enc P W ao X) (hb:Below r W W') (hr:W.heap.size<=r):SeeK k enc P W' ao X:=fun i x hx=>by
 obtain ⟨h1,b,o,e,hlt,hc⟩:=h i x hx
 exact ⟨h1,b,o,e,Nat.lt_of_lt_of_le hlt hb.size,fun j v hj=>(hb.cell (p:=⟨b,o+i*k+j,none⟩) (by simp only;omega)).trans (hc j v hj)⟩
end Go.Proofs.YtilnjnblpeeigaaGreatDoor
namespace Go.Proofs.YtilnjnblpeeigaaGreatDoor
set_option maxRecDepth 100000
theorem put_go {S:Sl.St} {s:Sl.Sl} {c d:Sl.Cp} (hd:letI:=decTr;letI:=Sl.decFine;letI:=Ca.decLim;letI:=Ca.decFine;letI:=Ca.decMint;letI:=Ca.decCp;letI:=Ca.decBad;letI:=Ca.decFit;letI:=Ca.decWho;Sl.atS S s=some d) (hdk:d.k=0) (hc:letI:=decTr;letI:=Sl.decFine;letI:=Ca.decLim;letI:=Ca.decFine;letI:=Ca.decMint;letI:=Ca.decCp;letI:=Ca.decBad;letI:=Ca.decFit;letI:=Ca.decWho;Sl.Fine c) (hk:c.k≠0):letI:=decTr;letI:=Sl.decFine;letI:=Ca.decLim;letI:=Ca.decFine;letI:=Ca.decMint;letI:=Ca.decCp;letI:=Ca.decBad;letI:=Ca.decFit;letI:=Ca.decWho;Sl.putS S s c=Sl.setS S s c:=by
 letI:=decTr
 letI:=Sl.decFine
 letI:=Ca.decLim
 letI:=Ca.decFine
 letI:=Ca.decMint
 letI:=Ca.decCp
 letI:=Ca.decBad
 letI:=Ca.decFit
 letI:=Ca.decWho
 have hE:Sl.putE S s c=0:=by
  unfold Sl.putE
  rw [hd]
  simp only [hc,hk,hdk,if_true,if_false]
 unfold Sl.putS
 rw [hE]
 rfl
def K1:Kr:=letI:=decTr;letI:=Sl.decFine;letI:=Ca.decLim;letI:=Ca.decFine;letI:=Ca.decMint;letI:=Ca.decCp;letI:=Ca.decBad;letI:=Ca.decFit;letI:=Ca.decWho;(goK K0 0 ⟨0,1,20,4,0,1⟩).1
def K2 (r b:Int):Kr:=letI:=decTr;letI:=Sl.decFine;letI:=Ca.decLim;letI:=Ca.decFine;letI:=Ca.decMint;letI:=Ca.decCp;letI:=Ca.decBad;letI:=Ca.decFit;letI:=Ca.decWho;{ K1 with h:=Th.pickH K1.h 0,S:=Sl.setS K1.S (sl 21) ⟨4,0,bits .and .i64 7 r,b,0,0⟩,E:=Tr.addS K1.E (tr 20) (tr 21) }
def K3 (r:Int):Kr:=letI:=decTr;letI:=Sl.decFine;letI:=Ca.decLim;letI:=Ca.decFine;letI:=Ca.decMint;letI:=Ca.decCp;letI:=Ca.decBad;letI:=Ca.decFit;letI:=Ca.decWho;(goK K1 0 ⟨1,20,21,r,0,0⟩).1
end Go.Proofs.YtilnjnblpeeigaaGreatDoor
namespace Go.Proofs.YtilnjnblpeeigaaGreatDoor
set_option maxRecDepth 100000
theorem mint_fr {K:Kr} {core a w r:Int} (run:letI:=decTr;letI:=Sl.decFine;letI:=Ca.decLim;letI:=Ca.decFine;letI:=Ca.decMint;letI:=Ca.decCp;letI:=Ca.decBad;letI:=Ca.decFit;letI:=Ca.decWho;Th.runsB (pickedK K core).h core=true) (hx:letI:=decTr;letI:=Sl.decFine;letI:=Ca.decLim;letI:=Ca.decFine;letI:=Ca.decMint;letI:=Ca.decCp;letI:=Ca.decBad;letI:=Ca.decFit;letI:=Ca.decWho;capN K a=⟨6,0,7,0,0,0⟩) (hr:0<=r/\r<=7) (hf:letI:=decTr;letI:=Sl.decFine;letI:=Ca.decLim;letI:=Ca.decFine;letI:=Ca.decMint;letI:=Ca.decCp;letI:=Ca.decBad;letI:=Ca.decFit;letI:=Ca.decWho;freeE (pickedK K core) w 1=0) {d:Sl.Cp} (hd:letI:=decTr;letI:=Sl.decFine;letI:=Ca.decLim;letI:=Ca.decFine;letI:=Ca.decMint;letI:=Ca.decCp;letI:=Ca.decBad;letI:=Ca.decFit;letI:=Ca.decWho;Sl.atS K.S (sl w)=some d) (hdk:d.k=0) :
  letI:=decTr;letI:=Sl.decFine;letI:=Ca.decLim;letI:=Ca.decFine;letI:=Ca.decMint;letI:=Ca.decCp;letI:=Ca.decBad;letI:=Ca.decFit;letI:=Ca.decWho;goK K core ⟨1,a,w,r,0,0⟩=({ K with h:=Th.pickH K.h core,S:=Sl.setS K.S (sl w) ⟨6,0,bits .and .i64 7 r,0,0,0⟩,E:=Tr.addS K.E (tr a) (tr w) },tlE 0):=by
 letI:=decTr
 letI:=Sl.decFine
 letI:=Ca.decLim
 letI:=Ca.decFine
 letI:=Ca.decMint
 letI:=Ca.decCp
 letI:=Ca.decBad
 letI:=Ca.decFit
 letI:=Ca.decWho
 have hfine:Ca.Fine ⟨6,0,7,0,0,0⟩:=by decide
 have hM:¬ Ca.MintR ⟨6,0,7,0,0,0⟩ 0:=by decide
 have hlim:Ca.Lim 6:=by decide
 have e0:Ca.mintE ⟨6,0,7,0,0,0⟩ r 0=0:=by
  unfold Ca.mintE
  rw [if_pos hfine,if_pos hr,if_neg hM]
 have e1:mintE (pickedK K core) ⟨1,a,w,r,0,0⟩ ⟨6,0,7,0,0,0⟩=0:=by
  unfold mintE
  show (if freeE (pickedK K core) w 1≠0 then _ else Ca.mintE ⟨6,0,7,0,0,0⟩ r 0)=0
  rw [if_neg (by rw [hf];decide),e0]
 have e4:Ca.mintC ⟨6,0,7,0,0,0⟩ r 0=⟨6,0,bits .and .i64 7 r,0,0,0⟩:=by
  unfold Ca.mintC
  rw [if_pos hlim,if_pos rfl]
 have e2:ofCa (Ca.mintR (toCa ⟨6,0,7,0,0,0⟩) r (u64 0))=⟨6,0,bits .and .i64 7 r,0,0,0⟩:=by
  show ofCa (Ca.mintR ⟨6,0,7,0,0,0⟩ r 0)=_
  unfold Ca.mintR
  rw [if_pos e0,e4]
  rfl
 have e3:mintK (pickedK K core) ⟨1,a,w,r,0,0⟩ ⟨6,0,7,0,0,0⟩={ K with h:=Th.pickH K.h core,S:=Sl.setS K.S (sl w) ⟨6,0,bits .and .i64 7 r,0,0,0⟩,E:=Tr.addS K.E (tr a) (tr w) }:=by
  unfold mintK
  rw [if_pos e1]
  show layK (pickedK K core) a w (ofCa (Ca.mintR (toCa ⟨6,0,7,0,0,0⟩) r (u64 0)))=_
  rw [e2]
  unfold layK
  show ({ K with h:=Th.pickH K.h core,S:=Sl.putS K.S (sl w) ⟨6,0,bits .and .i64 7 r,0,0,0⟩,E:=Tr.addS K.E (tr a) (tr w) }:Kr)=_
  have hf2:Ca.Fine (Ca.mintC ⟨6,0,7,0,0,0⟩ r 0):=Ca.mint_fine hfine (by decide) hr (.inl rfl)
  rw [e4] at hf2
  have hf3:Sl.Fine ⟨6,0,bits .and .i64 7 r,0,0,0⟩:=by
   rcases hf2 with h | h
   ·have:(6:Int)=0:=congrArg Ca.Cp.k h
    omega
   ·exact .inr h
  rw [put_go hd hdk hf3 (show (6:Int)≠0 by decide)]
 have hm:mayB ⟨1,a,w,r,0,0⟩ ⟨6,0,7,0,0,0⟩=true:=rfl
 unfold goK doK
 rw [if_pos run,if_pos (show (0:Int)<=1/\(1:Int)<=17 by decide),if_neg (show ¬ (1:Int)=17 by decide)]
 show (if mayB _ (capN K a)=true then doesK _ _ _ _ (capN K a) else _)=_
 rw [hx,if_pos hm]
 unfold doesK
 rw [if_neg (show ¬ (1:Int)=0 by decide),if_pos rfl,e1,e3]
def P1:Kr:=letI:=decTr;letI:=Sl.decFine;letI:=Ca.decLim;letI:=Ca.decFine;letI:=Ca.decMint;letI:=Ca.decCp;letI:=Ca.decBad;letI:=Ca.decFit;letI:=Ca.decWho;(goK K0 0 ⟨0,1,20,6,0,1⟩).1
def P2:Kr:=letI:=decTr;letI:=Sl.decFine;letI:=Ca.decLim;letI:=Ca.decFine;letI:=Ca.decMint;letI:=Ca.decCp;letI:=Ca.decBad;letI:=Ca.decFit;letI:=Ca.decWho;(goK P1 0 ⟨0,1,21,7,0,1⟩).1
def P3:Kr:=letI:=decTr;letI:=Sl.decFine;letI:=Ca.decLim;letI:=Ca.decFine;letI:=Ca.decMint;letI:=Ca.decCp;letI:=Ca.decBad;letI:=Ca.decFit;letI:=Ca.decWho;(goK P2 0 ⟨12,21,3,0,0,0⟩).1
theorem p3_ok:letI:=decTr;letI:=Sl.decFine;letI:=Ca.decLim;letI:=Ca.decFine;letI:=Ca.decMint;letI:=Ca.decCp;letI:=Ca.decBad;letI:=Ca.decFit;letI:=Ca.decWho;(goK K0 0 ⟨0,1,20,6,0,1⟩).2.e=0/\(goK P1 0 ⟨0,1,21,7,0,1⟩).2.e=0/\(goK P2 0 ⟨12,21,3,0,0,0⟩).2.e=0:=⟨by kernel_rfl,by kernel_rfl,by kernel_rfl⟩
def P4 (s:Int):Kr:=letI:=decTr;letI:=Sl.decFine;letI:=Ca.decLim;letI:=Ca.decFine;letI:=Ca.decMint;letI:=Ca.decCp;letI:=Ca.decBad;letI:=Ca.decFit;letI:=Ca.decWho;{ P3 with h:=Th.pickH P3.h 0,S:=Sl.setS P3.S (sl 22) ⟨6,0,bits .and .i64 7 s,0,0,0⟩,E:=Tr.addS P3.E (tr 20) (tr 22) }
theorem p4_is {s:Int} (hs:0<=s/\s<=7):letI:=decTr;letI:=Sl.decFine;letI:=Ca.decLim;letI:=Ca.decFine;letI:=Ca.decMint;letI:=Ca.decCp;letI:=Ca.decBad;letI:=Ca.decFit;letI:=Ca.decWho;goK P3 0 ⟨1,20,22,s,0,0⟩=(P4 s,tlE 0):=
 mint_fr (by kernel_rfl) (by kernel_rfl) hs (by kernel_rfl) (show Sl.atS P3.S (sl 22)=some Sl.no by kernel_rfl) rfl
def t4:Int->Option Int:=letI:=decTr;letI:=Sl.decFine;letI:=Ca.decLim;letI:=Ca.decFine;letI:=Ca.decMint;letI:=Ca.decCp;letI:=Ca.decBad;letI:=Ca.decFit;letI:=Ca.decWho;Ta.upd (fun _=>none) 0 (some 0)
def D4:Ta.Sp:=letI:=decTr;letI:=Sl.decFine;letI:=Ca.decLim;letI:=Ca.decFine;letI:=Ca.decMint;letI:=Ca.decCp;letI:=Ca.decBad;letI:=Ca.decFit;letI:=Ca.decWho;⟨t4,fun _=>none⟩
def D5 (p y:Int):Ta.Sp:=letI:=decTr;letI:=Sl.decFine;letI:=Ca.decLim;letI:=Ca.decFine;letI:=Ca.decMint;letI:=Ca.decCp;letI:=Ca.decBad;letI:=Ca.decFit;letI:=Ca.decWho;⟨t4,Ta.upd (fun _=>none) p (some ⟨0,y⟩)⟩
def rtP (s r:Int):Int:=letI:=decTr;letI:=Sl.decFine;letI:=Ca.decLim;letI:=Ca.decFine;letI:=Ca.decMint;letI:=Ca.decCp;letI:=Ca.decBad;letI:=Ca.decFit;letI:=Ca.decWho;bits .and .i64 (bits .and .i64 7 s) r
def P5 (s p y:Int):Kr:=letI:=decTr;letI:=Sl.decFine;letI:=Ca.decLim;letI:=Ca.decFine;letI:=Ca.decMint;letI:=Ca.decCp;letI:=Ca.decBad;letI:=Ca.decFit;letI:=Ca.decWho;{ P4 s with h:=Th.pickH (P4 s).h 0,D:=[D5 p y] }
theorem rt_bd {s r:Int} (hs:0<=s/\s<=7) (hr:0<=r/\r<=7):letI:=decTr;letI:=Sl.decFine;letI:=Ca.decLim;letI:=Ca.decFine;letI:=Ca.decMint;letI:=Ca.decCp;letI:=Ca.decBad;letI:=Ca.decFit;letI:=Ca.decWho;0<=rtP s r/\rtP s r<=7:=by
 letI:=decTr
 letI:=Sl.decFine
 letI:=Ca.decLim
 letI:=Ca.decFine
 letI:=Ca.decMint
 letI:=Ca.decCp
 letI:=Ca.decBad
 letI:=Ca.decFit
 letI:=Ca.decWho
 rcases (by omega:s=0\/s=1\/s=2\/s=3\/s=4\/s=5\/s=6\/s=7) with rfl | rfl | rfl | rfl | rfl | rfl | rfl | rfl
 all_goals
  rcases (by omega:r=0\/r=1\/r=2\/r=3\/r=4\/r=5\/r=6\/r=7) with rfl | rfl | rfl | rfl | rfl | rfl | rfl | rfl
 all_goals decide
theorem p5_raw (s p r:Int):letI:=decTr;letI:=Sl.decFine;letI:=Ca.decLim;letI:=Ca.decFine;letI:=Ca.decMint;letI:=Ca.decCp;letI:=Ca.decBad;letI:=Ca.decFit;letI:=Ca.decWho;goK (P4 s) 0 ⟨13,22,3,p,r,0⟩=({ P4 s with h:=Th.pickH (P4 s).h 0,D:=[Ta.mapS D4 p ⟨0,rtP s r⟩] },tlE (Ta.mapE D4 p ⟨0,rtP s r⟩)):=by kernel_rfl
theorem p5_is {s p r:Int} (hs:0<=s/\s<=7) (hr:0<=r/\r<=7) (hp:0<=p/\p<64):letI:=decTr;letI:=Sl.decFine;letI:=Ca.decLim;letI:=Ca.decFine;letI:=Ca.decMint;letI:=Ca.decCp;letI:=Ca.decBad;letI:=Ca.decFit;letI:=Ca.decWho;goK (P4 s) 0 ⟨13,22,3,p,r,0⟩=(P5 s p (rtP s r),tlE 0):=by
 letI:=decTr
 letI:=Sl.decFine
 letI:=Ca.decLim
 letI:=Ca.decFine
 letI:=Ca.decMint
 letI:=Ca.decCp
 letI:=Ca.decBad
 letI:=Ca.decFit
 letI:=Ca.decWho
 obtain ⟨y0,y1⟩:=rt_bd hs hr
 have ht:(D4.t (p / 64)).isSome=true:=by
  rw [show p / 64=0 by omega]
  rfl
 have e:Ta.mapE D4 p ⟨0,rtP s r⟩=0:=by
  unfold Ta.mapE
  rw [if_neg,if_pos ht,if_neg (show ¬ (D4.f p).isSome=true from fun h=>by cases h)]
  show ¬ (p<0\/4096<=p\/(0:Int)<0\/rtP s r<0\/7<rtP s r)
  omega
 rw [p5_raw,e]
 unfold Ta.mapS
 rw [if_pos e]
 rfl
def P6 (s p y:Int):Kr:=letI:=decTr;letI:=Sl.decFine;letI:=Ca.decLim;letI:=Ca.decFine;letI:=Ca.decMint;letI:=Ca.decCp;letI:=Ca.decBad;letI:=Ca.decFit;letI:=Ca.decWho;outK { P5 s p y with h:=Th.pickH (P5 s p y).h 0 } 20
theorem p6_is (s p y:Int):letI:=decTr;letI:=Sl.decFine;letI:=Ca.decLim;letI:=Ca.decFine;letI:=Ca.decMint;letI:=Ca.decCp;letI:=Ca.decBad;letI:=Ca.decFit;letI:=Ca.decWho;goK (P5 s p y) 0 ⟨3,20,0,0,0,0⟩=(P6 s p y,⟨0,0,-1,[]⟩):=by kernel_rfl
theorem p7_raw (s p y:Int):letI:=decTr;letI:=Sl.decFine;letI:=Ca.decLim;letI:=Ca.decFine;letI:=Ca.decMint;letI:=Ca.decCp;letI:=Ca.decBad;letI:=Ca.decFit;letI:=Ca.decWho;(goK (P6 s p y) 0 ⟨3,22,0,0,0,0⟩).1.D=[unmL (D5 p y) (Ta.frmL (D5 p y).f 0)]/\(goK (P6 s p y) 0 ⟨3,22,0,0,0,0⟩).2=⟨0,0,-1,linesL 0 (frmLa (D5 p y) 0)++[]⟩:=⟨by kernel_rfl,by kernel_rfl⟩
theorem one_page {p:Int} (hp:0<=p/\p<4096) (q:Ta.Pg):letI:=decTr;letI:=Sl.decFine;letI:=Ca.decLim;letI:=Ca.decFine;letI:=Ca.decMint;letI:=Ca.decCp;letI:=Ca.decBad;letI:=Ca.decFit;letI:=Ca.decWho;Ta.allP (Ta.upd (fun _=>none) p (some q))=[(p,q)]:=by
 letI:=decTr
 letI:=Sl.decFine
 letI:=Ca.decLim
 letI:=Ca.decFine
 letI:=Ca.decMint
 letI:=Ca.decCp
 letI:=Ca.decBad
 letI:=Ca.decFit
 letI:=Ca.decWho
 unfold Ta.allP
 refine (Ta.seg_ext (List.pairwise_singleton _ _) fun n x=>?_).symm
 rw [List.mem_singleton]
 unfold Ta.upd
 constructor
 ·intro h
  cases h
  exact ⟨hp.1,by have:=hp.2;omega,if_pos rfl⟩
 ·rintro ⟨_,_,h⟩
  split at h
  ·rename_i e
   subst e
   cases h
   rfl
  ·cases h
theorem no_page (p:Int) (q:Option Ta.Pg):letI:=decTr;letI:=Sl.decFine;letI:=Ca.decLim;letI:=Ca.decFine;letI:=Ca.decMint;letI:=Ca.decCp;letI:=Ca.decBad;letI:=Ca.decFit;letI:=Ca.decWho;Ta.allP (Ta.upd (Ta.upd (fun _=>none) p q) p none)=[]:=by
 letI:=decTr
 letI:=Sl.decFine
 letI:=Ca.decLim
 letI:=Ca.decFine
 letI:=Ca.decMint
 letI:=Ca.decCp
 letI:=Ca.decBad
 letI:=Ca.decFit
 letI:=Ca.decWho
 unfold Ta.allP
 refine (Ta.seg_ext List.Pairwise.nil fun n x=>?_).symm
 unfold Ta.upd
 constructor
 ·intro h
  cases h
 ·rintro ⟨_,_,h⟩
  split at h
  ·cases h
  ·cases h
theorem frm_one {p:Int} (hp:0<=p/\p<4096) (y:Int):letI:=decTr;letI:=Sl.decFine;letI:=Ca.decLim;letI:=Ca.decFine;letI:=Ca.decMint;letI:=Ca.decCp;letI:=Ca.decBad;letI:=Ca.decFit;letI:=Ca.decWho;Ta.frmL (D5 p y).f 0=[p]:=by
 letI:=decTr
 letI:=Sl.decFine
 letI:=Ca.decLim
 letI:=Ca.decFine
 letI:=Ca.decMint
 letI:=Ca.decCp
 letI:=Ca.decBad
 letI:=Ca.decFit
 letI:=Ca.decWho
 unfold Ta.frmL D5
 rw [one_page hp]
 rfl
theorem p7_is {s p y:Int} (hp:0<=p/\p<4096):letI:=decTr;letI:=Sl.decFine;letI:=Ca.decLim;letI:=Ca.decFine;letI:=Ca.decMint;letI:=Ca.decCp;letI:=Ca.decBad;letI:=Ca.decFit;letI:=Ca.decWho;(goK (P6 s p y) 0 ⟨3,22,0,0,0,0⟩).2=⟨0,0,-1,[⟨0,p,0,y⟩]⟩/\∃ D,(goK (P6 s p y) 0 ⟨3,22,0,0,0,0⟩).1.D=[D]/\Ta.allP D.f=[]:=by
 letI:=decTr
 letI:=Sl.decFine
 letI:=Ca.decLim
 letI:=Ca.decFine
 letI:=Ca.decMint
 letI:=Ca.decCp
 letI:=Ca.decBad
 letI:=Ca.decFit
 letI:=Ca.decWho
 obtain ⟨e1,e2⟩:=p7_raw s p y
 rw [frm_one hp] at e1
 have hw:Ta.wlkP (D5 p y) p=⟨0,y⟩:=by
  unfold Ta.wlkP
  show (Ta.upd (fun _=>none) p (some (⟨0,y⟩:Ta.Pg)) p).getD Ta.pg0=_
  rw [Ta.upd_same]
  rfl
 have ef:frmLa (D5 p y) 0=[(p,⟨0,y⟩)]:=by
  unfold frmLa
  rw [frm_one hp]
  show [(p,Ta.wlkP (D5 p y) p)]=_
  rw [hw]
 rw [ef] at e2
 refine ⟨e2,_,e1,?_⟩
 show Ta.allP (Ta.unmS (D5 p y) p).f=[]
 have hu:Ta.unmE (D5 p y) p=0:=by
  unfold Ta.unmE
  rw [if_neg (by omega)]
  show (if (Ta.upd (fun _=>none) p (some (⟨0,y⟩:Ta.Pg)) p).isSome=true then (0:Int) else 141)=0
  rw [Ta.upd_same]
  rfl
 unfold Ta.unmS
 rw [if_pos hu]
 exact no_page _ _
end Go.Proofs.YtilnjnblpeeigaaGreatDoor
namespace Go.Proofs.YtilnjnblpeeigaaGreatDoor
theorem i64_mask (x:Int) (m:Nat) (hm:m<=62):bits .and .i64 x ((2 ^ m - 1:Nat):Int)=x % ((2 ^ m:Nat):Int):=by
 have hp:=Nat.two_pow_pos m
 have hq:2 ^ m<=2 ^ 62:=Nat.pow_le_pow_right (by omega) hm
 show IntKind.i64.wrap ((BitVec.ofInt 64 x &&& BitVec.ofInt 64 ((2 ^ m - 1:Nat):Int)).toNat:Int)=_
 rw [BitVec.toNat_and,ofInt_u64 (2 ^ m - 1) (by omega),Nat.and_two_pow_sub_one_eq_mod,BitVec.toNat_ofInt]
 have e:(((x % ((2 ^ 64:Nat):Int)).toNat % 2 ^ m:Nat):Int)=x % ((2 ^ m:Nat):Int):=by
  rw [Int.natCast_emod,Int.toNat_of_nonneg (Int.emod_nonneg _ (by decide))]
  apply Int.emod_emod_of_dvd
  exact Int.natCast_dvd_natCast.2 (Nat.pow_dvd_pow 2 (by omega))
 rw [e]
 have h1:0<=x % ((2 ^ m:Nat):Int):=Int.emod_nonneg _ (by omega)
 have h2:x % ((2 ^ m:Nat):Int)<((2 ^ m:Nat):Int):=Int.emod_lt_of_pos _ (by omega)
 generalize x % ((2 ^ m:Nat):Int)=y at *
 generalize 2 ^ m=p at *
 have hy:y % (2:Int) ^ 64=y:=Int.emod_eq_of_lt h1 (by omega)
 simp only [IntKind.wrap,IntKind.bits,IntKind.signed,hy]
 rw [if_neg]
 simp
 omega
theorem mask_is (x:Int) (m:Nat) (hm:m<=62):∃ p:Nat,p<2 ^ m/\bits .and .i64 x ((2 ^ m - 1:Nat):Int)=(p:Int):=by
 have hp:(0:Int)<((2 ^ m:Nat):Int):=by
  have:=Nat.two_pow_pos m
  omega
 have h0:0<=x % ((2 ^ m:Nat):Int):=Int.emod_nonneg _ (by omega)
 have h1:x % ((2 ^ m:Nat):Int)<((2 ^ m:Nat):Int):=Int.emod_lt_of_pos _ hp
 exact ⟨(x % ((2 ^ m:Nat):Int)).toNat,by omega,by rw [i64_mask x m hm];omega⟩
theorem mask7 (x:Int):∃ p:Nat,p<8/\bits .and .i64 x 7=(p:Int):=mask_is x 3 (by decide)
theorem mask63 (x:Int):∃ p:Nat,p<64/\bits .and .i64 x 63=(p:Int):=mask_is x 6 (by decide)
end Go.Proofs.YtilnjnblpeeigaaGreatDoor
namespace Go.Proofs.YtilnjnblpeeigaaGreatDoor
section
variable {α:Type} {a b c d e f g:α} {l:List α}
theorem mm0:a∈a::l:=List.mem_cons_self
theorem mm1:b∈a::b::l:=List.mem_cons_of_mem _ mm0
theorem mm2:c∈a::b::c::l:=List.mem_cons_of_mem _ mm1
theorem mm3:d∈a::b::c::d::l:=List.mem_cons_of_mem _ mm2
theorem mm4:e∈a::b::c::d::e::l:=List.mem_cons_of_mem _ mm3
end
end Go.Proofs.YtilnjnblpeeigaaGreatDoor
