/-
  What stands below: KT KL KG KJ1 KH9 KDo1 KDo5 KLaw KrRuns KFx GSay; no condition but what each says.
-/
import Derived.Test.YtilnjnblpeeigaaGreatDoorPb1
import Derived.Test.YtilnjnblpeeigaaGreatDoorPb2
import Derived.Test.YtilnjnblpeeigaaGreatDoorPb3
import Derived.Test.YtilnjnblpeeigaaGreatDoorPb4
import Derived.Test.YtilnjnblpeeigaaGreatDoorPb5
import Derived.Test.YtilnjnblpeeigaaGreatDoorPb6
import Derived.Test.YtilnjnblpeeigaaGreatDoorPb7
import Derived.Test.YtilnjnblpeeigaaGreatDoorPb8
import Derived.Test.YtilnjnblpeeigaaGreatDoorPb9
import Derived.Test.YtilnjnblpeeigaaGreatDoorPb10
import Derived.Test.YtilnjnblpeeigaaGreatDoorPb11
import Derived.Test.YtilnjnblpeeigaaGreatDoorPb12
import Derived.Test.YtilnjnblpeeigaaGreatDoorPb13
import Derived.Test.YtilnjnblpeeigaaGreatDoorPb14
import Derived.Test.YtilnjnblpeeigaaGreatDoorPb15
import Derived.Test.YtilnjnblpeeigaaGreatDoorPb16
import Derived.Test.YtilnjnblpeeigaaGreatDoorPb17
import Derived.Test.YtilnjnblpeeigaaGreatDoorPb18
import Derived.Test.YtilnjnblpeeigaaGreatDoorPb19
import Derived.Test.YtilnjnblpeeigaaGreatDoorPb20
import Derived.Test.YtilnjnblpeeigaaGreatDoorPb21
import Derived.Test.YtilnjnblpeeigaaGreatDoorPb22
import Derived.Test.YtilnjnblpeeigaaGreatDoorPb23
import Derived.Test.YtilnjnblpeeigaaGreatDoorPb24
import Derived.Test.YtilnjnblpeeigaaGreatDoorPb25
import Derived.Test.YtilnjnblpeeigaaGreatDoorPb26
import Derived.Test.YtilnjnblpeeigaaGreatDoorPb27
import Derived.Test.YtilnjnblpeeigaaGreatDoorPb28
import Derived.Test.YtilnjnblpeeigaaGreatDoorPb29
import Derived.Test.YtilnjnblpeeigaaGreatDoorPb30
import Derived.Test.YtilnjnblpeeigaaGreatDoorPb31
import Derived.Test.YtilnjnblpeeigaaGreatDoorPb32
import Derived.Test.YtilnjnblpeeigaaGreatDoorPxSe1
import Derived.Test.YtilnjnblpeeigaaGreatDoorPxSe2
import Derived.Below
import Derived.BigQuiet
import Derived.Deep.Cut
import Derived.Deep.CutRange
import Derived.Deep.DeepHandedRow
import Derived.Deep.OwnRows
import Derived.Deep.QuietTactic
import Derived.Deep.RegionHeld3
import Derived.Deep.RegionLaw
import Derived.Deep.RegionWith
import Derived.Deep.Slices
import Derived.Deep.WholeRow
import Derived.DeepKeys4
import Derived.KernelRfl
import Derived.LaidMore
import Derived.Laws.AppendOwnNone
import Derived.Laws.BitsAllLaws
import Derived.Laws.BitsLemmas
import Derived.Laws.CopyOwn
import Derived.Laws.IdiomArrays
import Derived.Laws.StructEq
import Derived.Lib.AppendZerosOnto
import Derived.Lib.Overlaps
import Derived.Lib.SliceRun
import Derived.Lib.SmallJoins
import Derived.Lib.Walk
import Derived.Maps.AppendAt
import Derived.Maps.Range
import Derived.Maps.RangeWalk
import Derived.OpenShut
import Derived.ProofKit
import Derived.Shelf.Abstract
import Derived.Shelf.RegionOpenPlain
import Derived.Shelf.SlIterI.Nil
import Derived.Shelf.SlMaps.Clone
import Derived.Shelf.SlSortCmp.NoneTotal
import Derived.Shelf.SlSortCmp.WholeK
import Derived.Shelf.SlicesE.Clone
import Derived.Shelf.SortM.Plain
import Derived.Shelf.SortM.SortNone
import Derived.Sort.Grow
import Derived.Sort.Statements
import Derived.Test.YtilnjnblpeeigaaGreatDoorProg
import Derived.Test.YtilnjnblpeeigaaGreatDoorRows
import Derived.WalkKit
import Derived.WalkLawsBesides
import Derived.WideMake
namespace Go.Proofs.YtilnjnblpeeigaaGreatDoor
open Go.RowKit Go.Deep Go.Shelf
open Classical
section
variable {w0 w w':World} {r p:Nat} {Y:Ly} {K:Kr} {R:List Th}
theorem Sep.k3 (s:Sep w0 r w (kT p Y K::R)):w.cell? ⟨p,3,none⟩=some (ptr Y.l):=by simp [World.cell?,s.obj,objK]
end
end Go.Proofs.YtilnjnblpeeigaaGreatDoor
namespace Go.Proofs.YtilnjnblpeeigaaGreatDoor
open Go.RowKit Go.Deep Go.Shelf
open Classical
section
variable {w0 w w':World} {r p:Nat} {Y:Ly} {K:Kr} {R:List Th}
theorem k_runs (s:Sep w0 r w (kT p Y K::R)) (a:Int):Calls Tryz.prog 34 #[ptr Y.h,.int .i64 a] w fun e w'=>e = .returned (.tuple #[.int .i64 (Th.runsN K.h a),.bool (Th.runsB K.h a)])/\Below w.heap.size w w':=by
 obtain ⟨Q,s1,bk⟩:=s.kH
 obtain ⟨v,u,qs,t⟩:=s1.head.1.at
 exact Th.runs_any t (by have:=s1.head.2.few;omega) a
end
end Go.Proofs.YtilnjnblpeeigaaGreatDoor
namespace Go.Proofs.YtilnjnblpeeigaaGreatDoor
open Go.RowKit Go.Deep Go.Shelf
open Classical
section
variable {w0 w w':World} {r p:Nat} {Y:Ly} {K:Kr} {R:List Th}
theorem Sep.zTh {q:Nat} (s:Sep w0 r w R) (h:blk q (.cells #[.int .i64 0,.int .i64 0,.int .i64 0,.int .i64 0,.int .u64 0,.int .u64 0,.int .u64 0,.int .u64 0,.int .u64 0,.int .u64 0,.int .u64 0,.int .u64 0] 39)∈R):(∀ j,w.frozen? ⟨q,j,none⟩=false)/\w.cell? ⟨q,0,none⟩=some (.int .i64 0)/\w.cell? ⟨q,1,none⟩=some (.int .i64 0)/\w.cell? ⟨q,2,none⟩=some (.int .i64 0)/\w.cell? ⟨q,3,none⟩=some (.int .i64 0)/\w.cell? ⟨q,4,none⟩=some (.int .u64 0)/\w.cell? ⟨q,5,none⟩=some (.int .u64 0)/\w.cell? ⟨q,6,none⟩=some (.int .u64 0)/\w.cell? ⟨q,7,none⟩=some (.int .u64 0)/\w.cell? ⟨q,8,none⟩=some (.int .u64 0)/\w.cell? ⟨q,9,none⟩=some (.int .u64 0)/\w.cell? ⟨q,10,none⟩=some (.int .u64 0)/\w.cell? ⟨q,11,none⟩=some (.int .u64 0):=
 ⟨fun j=>(s.blkCell h j).2,(s.blkCell h 0).1,(s.blkCell h 1).1,(s.blkCell h 2).1,(s.blkCell h 3).1,(s.blkCell h 4).1,(s.blkCell h 5).1,(s.blkCell h 6).1,(s.blkCell h 7).1,(s.blkCell h 8).1,(s.blkCell h 9).1,(s.blkCell h 10).1,(s.blkCell h 11).1⟩
theorem Sep.putTh {q:Nat} (s:Sep w0 r w (blk q (.cells #[.int .i64 0,.int .i64 0,.int .i64 0,.int .i64 0,.int .u64 0,.int .u64 0,.int .u64 0,.int .u64 0,.int .u64 0,.int .u64 0,.int .u64 0,.int .u64 0] 39)::R)) (x:Th.Td):Sep w0 r ((((((((((((w.setCell ⟨q,0,none⟩ (.int .i64 x.st)).setCell ⟨q,1,none⟩ (.int .i64 x.p)).setCell ⟨q,2,none⟩ (.int .i64 x.c)).setCell ⟨q,3,none⟩ (.int .i64 x.l)).setCell ⟨q,4,none⟩ (.int .u64 (Th.rg x 0))).setCell ⟨q,5,none⟩ (.int .u64 (Th.rg x 1))).setCell ⟨q,6,none⟩ (.int .u64 (Th.rg x 2))).setCell ⟨q,7,none⟩ (.int .u64 (Th.rg x 3))).setCell ⟨q,8,none⟩ (.int .u64 (Th.rg x 4))).setCell ⟨q,9,none⟩ (.int .u64 (Th.rg x 5))).setCell ⟨q,10,none⟩ (.int .u64 (Th.rg x 6))).setCell ⟨q,11,none⟩ (.int .u64 (Th.rg x 7))) (blk q (.cells #[.int .i64 x.st,.int .i64 x.p,.int .i64 x.c,.int .i64 x.l,.int .u64 (Th.rg x 0),.int .u64 (Th.rg x 1),.int .u64 (Th.rg x 2),.int .u64 (Th.rg x 3),.int .u64 (Th.rg x 4),.int .u64 (Th.rg x 5),.int .u64 (Th.rg x 6),.int .u64 (Th.rg x 7)] 39)::R):=by
 have:=(((((((((((s.putB 0 (.int .i64 x.st)).putB 1 (.int .i64 x.p)).putB 2 (.int .i64 x.c)).putB 3 (.int .i64 x.l)).putB 4 (.int .u64 (Th.rg x 0))).putB 5 (.int .u64 (Th.rg x 1))).putB 6 (.int .u64 (Th.rg x 2))).putB 7 (.int .u64 (Th.rg x 3))).putB 8 (.int .u64 (Th.rg x 4))).putB 9 (.int .u64 (Th.rg x 5))).putB 10 (.int .u64 (Th.rg x 6))).putB 11 (.int .u64 (Th.rg x 7))
 simpa using this
end
end Go.Proofs.YtilnjnblpeeigaaGreatDoor
namespace Go.Proofs.YtilnjnblpeeigaaGreatDoor
open Go.RowKit Go.Deep Go.Shelf
open Classical
section
variable {w0 w w':World} {r p:Nat} {Y:Ly} {K:Kr} {R:List Th}
set_option maxHeartbeats 4000000 in
set_option maxRecDepth 100000 in
theorem Thread_sep (s:Sep w0 r w (kT p Y K::R)) (i:Int) :
  Calls Tryz.prog 10 #[ptr p,.int .i64 i] w fun e w'=>e = .returned (.tuple #[Th.encT (Th.getT K.h i),.int .i64 (Th.getE K.h i)])/\Sep w0 r w' (kT p Y K::R):=by
 obtain ⟨x,hx⟩:∃ x,Th.getT K.h i=x:=⟨_,rfl⟩
 obtain ⟨E,hE⟩:∃ E,Th.getE K.h i=E:=⟨_,rfl⟩
 have s1:=(s.box (.cells #[.int .i64 0,.int .i64 0,.int .i64 0,.int .i64 0,.int .u64 0,.int .u64 0,.int .u64 0,.int .u64 0,.int .u64 0,.int .u64 0,.int .u64 0,.int .u64 0] 39)).swap
 have c:=s1.k2
 have hk:=k_tget s1 i
 rw [hx,hE] at hk ⊢
 unfold Th.encT at hk ⊢
 have HC:=hid hk
 have S1:=hid s1
 obtain ⟨w1,hw⟩:∃ w1,w.alloc (.cells #[.int .i64 0,.int .i64 0,.int .i64 0,.int .i64 0,.int .u64 0,.int .u64 0,.int .u64 0,.int .u64 0,.int .u64 0,.int .u64 0,.int .u64 0,.int .u64 0] 39)=w1:=⟨_,rfl⟩
 rw [hw] at HC S1 c
 have HW:=hid hw
 clear s s1 hk hx hE hw
 go_enter Tryz.func10,Tryz.ntmps10
 go_wp2_with (first | rw [HW.out] | fail)
 refine Calls.mono HC.out ?_
 rintro e w3 ⟨rfl,b3⟩
 have s4:=(S1.out.below b3).swap
 obtain ⟨mf0,mz⟩:=s4.zTh (List.mem_cons_self)
 obtain ⟨z0,z1,z2,z3,z4,z5,z6,z7,z8,z9,z10,z11⟩:=mz
 have s5:=s4.putTh x
 have hg:=fun j=>(s5.blkCell (List.mem_cons_self) j).1
 have g0:=hid (hg 0)
 have g1:=hid (hg 1)
 have g2:=hid (hg 2)
 have g3:=hid (hg 3)
 have g4:=hid (hg 4)
 have g5:=hid (hg 5)
 have g6:=hid (hg 6)
 have g7:=hid (hg 7)
 have g8:=hid (hg 8)
 have g9:=hid (hg 9)
 have g10:=hid (hg 10)
 have g11:=hid (hg 11)
 have S5:=hid s5.drop
 clear s4 s5 S1 b3 c HC hg
 go_wp2
 refine bodyPost_ret (v:=.tuple #[.agg #[.int .i64 x.st,.int .i64 x.p,.int .i64 x.c,.int .i64 x.l,.int .u64 (Th.rg x 0),.int .u64 (Th.rg x 1),.int .u64 (Th.rg x 2),.int .u64 (Th.rg x 3),.int .u64 (Th.rg x 4),.int .u64 (Th.rg x 5),.int .u64 (Th.rg x 6),.int .u64 (Th.rg x 7)],.int .i64 E]) ?_ rfl ⟨rfl,S5.out⟩
 simp [results,Tryz.f10,go_sem,g0.out,g1.out,g2.out,g3.out,g4.out,g5.out,g6.out,g7.out,g8.out,g9.out,g10.out,g11.out]
set_option maxHeartbeats 4000000 in
theorem Runs_sep (s:Sep w0 r w (kT p Y K::R)) (i:Int) :
  Calls Tryz.prog 11 #[ptr p,.int .i64 i] w fun e w'=>e = .returned (.tuple #[.int .i64 (Th.runsN K.h i),.bool (Th.runsB K.h i)])/\Sep w0 r w' (kT p Y K::R):=by
 have c:=s.k2
 have s0:=s
 have HC:=hid (k_runs s i)
 clear s
 have S0:=hid s0
 clear s0
 go_enter Tryz.func11,Tryz.ntmps11
 go_wp2_with (go_at_call 34;refine Calls.mono HC.out ?_;rintro e w3 ⟨rfl,b3⟩)
 go_ret2
 exact ⟨rfl,S0.out.below b3⟩
end
end Go.Proofs.YtilnjnblpeeigaaGreatDoor
namespace Go.Proofs.YtilnjnblpeeigaaGreatDoor
open Go.RowKit Go.Deep Go.Shelf
open Classical
section
variable {w0 w w':World} {r p:Nat} {Y:Ly} {K:Kr} {R:List Th}
set_option maxHeartbeats 4000000 in
set_option maxRecDepth 100000 in
theorem resume_by (s:Sep w0 r w (kT p Y K::R)) (d:De) (hb:(Th.getT K.h d.x.o).st=3) (he:Th.resumeE K.h d.x.o=0) (hf:Few K) :
  Calls Tryz.prog 69 #[ptr p,encD d] w fun e w'=>e = .returned (encTl (Th.resumeE (freed K d.x.o).h d.x.o) 0 d.x.o (.slice none 0 0))/\KS w0 r w' p (wakeK (freed K d.x.o) d.x.o) R:=by
 have S1:=hid (s.deed d)
 obtain ⟨w1,hw⟩:∃ w1,(w.alloc (objD d)).alloc (objTl 0 0 0 (.slice none 0 0))=w1:=⟨_,rfl⟩
 rw [hw] at S1
 have HW:=hid hw
 unfold objD objTl at HW
 clear s hw
 obtain ⟨x,hx⟩:∃ x,Th.getT K.h d.x.o=x:=⟨_,rfl⟩
 rw [hx] at hb
 obtain ⟨E,hE⟩:∃ E,Th.resumeE K.h d.x.o=E:=⟨_,rfl⟩
 rw [hE] at he
 have HE:=hid hE
 have hk:=k_tget S1.out.drew d.x.o
 have SB:=hid ((S1.out.box (.cells #[.int .i64 0,.int .i64 0,.int .i64 0,.int .i64 0,.int .u64 0,.int .u64 0,.int .u64 0,.int .u64 0,.int .u64 0,.int .u64 0,.int .u64 0,.int .u64 0] 39)).to4.drew)
 have hkb:=k_tget SB.out d.x.o
 rw [hx] at hk hkb
 unfold Th.encT at hk hkb
 have HK:=hid hk
 have HKB:=hid hkb
 have hb2:(x.st == 3)=true:=by simpa using hb
 have hb3:decide (x.st=3)=true:=by simpa using hb
 have HB2:=hid hb2
 have he2:(E == 0)=true:=by simpa using he
 have he3:(E != 0)=false:=by simpa using he
 clear hx hE hk hkb hb hb2 hb3 he
 have HL:=hid hf
 clear hf
 rw [show Th.resumeE (freed K d.x.o).h d.x.o=E from HE.out]
 unfold encD
 go_enter Tryz.func69,Tryz.ntmps69
 go_wp2_with (first | rw [HW.out] | fail)
 generalize w.heap.size+1=q2 at *
 generalize w.heap.size=q at *
 have HSX:Hid (∀ (W:World) (Y':Ly) (K':Kr) (o:Obj) (R':List Th),Y'.h=Y.h->Sep w0 r W (kT p Y' K'::blk q2 o::blk q (objD d)::R')->W.cell? ⟨p,2,none⟩=some (ptr Y.h)/\W.cell? ⟨q,11,none⟩=some (.int .i64 d.x.o)):=fun W Y' K' o R' hy s=>by
  have k:=s.k2
  rw [hy] at k
  exact ⟨k,(s.blkCell (p:=q) (List.mem_cons_of_mem _ (List.mem_cons_of_mem _ (List.mem_cons_self))) 11).1⟩
 go_cut [5,6] from 9 to 19 (fun sa sb wx=>∃ k y,sa = .pointer (some ⟨k,0,none⟩)/\sb = .int .i64 y/\Sep w0 r wx (kT p Y K::blk q2 (objTl 0 0 0 (.slice none 0 0))::blk q (objD d)::blk k (.cells #[.int .i64 x.st,.int .i64 x.p,.int .i64 x.c,.int .i64 x.l,.int .u64 (Th.rg x 0),.int .u64 (Th.rg x 1),.int .u64 (Th.rg x 2),.int .u64 (Th.rg x 3),.int .u64 (Th.rg x 4),.int .u64 (Th.rg x 5),.int .u64 (Th.rg x 6),.int .u64 (Th.rg x 7)] 39)::R))
 case first =>
  have hS:=HSX.out _ _ _ _ _ (by rfl) S1.out.drew
  have hSB:=HSX.out _ _ _ _ _ (by rfl) SB.out
  go_region_held3 (fun W=>W.cell? ⟨p,2,none⟩=some (ptr Y.h)/\W.cell? ⟨q,11,none⟩=some (.int .i64 d.x.o)) (first | with_reducible assumption | with_reducible exact hS | with_reducible exact hSB) (first | (go_at_call 33;(with_reducible refine Calls.mono HKB.out ?_);rintro e w3 ⟨rfl,b3⟩;have s3:=SB.out.below b3;have hS3:=HSX.out _ _ _ _ _ (by rfl) s3;have s4:=s3.from4;obtain ⟨mf0,mz⟩:=s4.zTh (List.mem_cons_self);obtain ⟨z0,z1,z2,z3,z4,z5,z6,z7,z8,z9,z10,z11⟩:=mz;have s5:=s4.putTh x;have s6:=s5.to4;have hS6:=HSX.out _ _ _ _ _ (by rfl) s6;have S6:=hid s6;clear s3 s4 s5 s6) | (go_at_call 33;(with_reducible refine Calls.mono HK.out ?_);rintro e w3 ⟨rfl,b3⟩;have s3:=S1.out.drew.below b3;have hS3:=HSX.out _ _ _ _ _ (by rfl) s3;have s4:=(s3.box (.cells #[.int .i64 0,.int .i64 0,.int .i64 0,.int .i64 0,.int .u64 0,.int .u64 0,.int .u64 0,.int .u64 0,.int .u64 0,.int .u64 0,.int .u64 0,.int .u64 0] 39)).to4;have hS4:=HSX.out _ _ _ _ _ (by rfl) s4;have s6:=(s3.box (.cells #[.int .i64 x.st,.int .i64 x.p,.int .i64 x.c,.int .i64 x.l,.int .u64 (Th.rg x 0),.int .u64 (Th.rg x 1),.int .u64 (Th.rg x 2),.int .u64 (Th.rg x 3),.int .u64 (Th.rg x 4),.int .u64 (Th.rg x 5),.int .u64 (Th.rg x 6),.int .u64 (Th.rg x 7)] 39)).to4;have hS6:=HSX.out _ _ _ _ _ (by rfl) s6;have S6:=hid s6;clear s3 s4 s6))
  all_goals go_wp2_with fail
  all_goals go_meet
  all_goals exact ⟨_,_,rfl,rfl,S6.out⟩
 case rest =>
  obtain ⟨k,y,rfl,rfl,s6⟩:=hcut
  have S6:=hid s6
  clear S1 SB HK HKB HSX s6
  have m0:wc.cell? ⟨k,0,none⟩=some (.int .i64 x.st):=(S6.out.blkCell (p:=k) (List.mem_cons_of_mem _ (List.mem_cons_of_mem _ (List.mem_cons_of_mem _ (List.mem_cons_self)))) 0).1
  have hb2:=HB2.out
  have d11:wc.cell? ⟨q,11,none⟩=some (.int .i64 d.x.o):=(S6.out.blkCell (p:=q) (List.mem_cons_of_mem _ (List.mem_cons_of_mem _ (List.mem_cons_self))) 11).1
  go_wp2_with (first | (go_at_call 123;refine Calls.mono (letGo_sep S6.out HL.out d.x.o) ?_;rintro e w2 ⟨rfl,Y2,s2⟩;have S2:=hid s2;clear s2 d11 m0 hb2) | fail)
  clear HB2
  have HS:Hid (∀ (W:World) (Y':Ly) (K':Kr) (o:Obj) (R':List Th),Y'.h=Y2.h->Sep w0 r W (kT p Y' K'::blk q2 o::blk q (objD d)::R')->W.cell? ⟨p,2,none⟩=some (ptr Y2.h)/\W.cell? ⟨q,11,none⟩=some (.int .i64 d.x.o)):=fun W Y' K' o R' hy s=>by
   have k:=s.k2
   rw [hy] at k
   exact ⟨k,(s.blkCell (p:=q) (List.mem_cons_of_mem _ (List.mem_cons_of_mem _ (List.mem_cons_self))) 11).1⟩
  have hS:=HS.out _ _ _ _ _ (by rfl) S2.out.drew
  have HC1:=hid (k_resume S2.out.drew d.x.o)
  go_region_held3 (fun W=>W.cell? ⟨p,2,none⟩=some (ptr Y2.h)/\W.cell? ⟨q,11,none⟩=some (.int .i64 d.x.o)) (first | with_reducible assumption | with_reducible exact hS) (first | (go_at_call 54;refine Calls.mono HC1.out ?_;rintro e w3 ⟨rfl,x3,s3⟩;have hS3:=HS.out _ _ _ _ _ (by rfl) s3;rw [show Th.resumeE (freed K d.x.o).h d.x.o=E from HE.out];have SP1:=hid s3;clear s3))
  clear hS
  clear HS hS3
  obtain rfl:E=0:=by simpa using he2
  clear he2 he3 HE
  have SQ:=hid SP1.out
  go_wp2_with (first | (go_at_call 30;refine Calls.mono (told_any _ _) ?_;rintro e w9 ⟨rfl,b9⟩;have sv:=((SP1.out.below b9).box (objTl 0 0 d.x.o (.slice none 0 0)));change Sep w0 r (w9.alloc (.cells #[.int .i64 0,.int .u64 0,.int .i64 d.x.o,(.slice none 0 0)] 35)) _ at sv;have sx:=sv.third.swap;obtain ⟨u0,u1,u2,u3,g0,g1,g2,g3⟩:=sx.cells4 (List.mem_cons_self);have s10:=sx.put4 0 0 d.x.o (.slice none 0 0);have dd11:w9.cell? ⟨q,11,none⟩=some (.int .i64 d.x.o):=((SP1.out.below b9).blkCell (p:=q) (List.mem_cons_of_mem _ (List.mem_cons_of_mem _ (List.mem_cons_self))) 11).1;have dd12:=cell_al dd11 (.cells #[.int .i64 0,.int .u64 0,.int .i64 (-1),.slice none 0 0] 35);have S10:=hid s10;clear sv sx s10 b9;simp only [encTl]) | fail)
  obtain ⟨h0,h1,h2,h3,-⟩:=S10.out.cells4 (List.mem_cons_self)
  have G10:=hid (And.intro (And.intro h0 h1) (And.intro h2 h3))
  clear h0 h1 h2 h3
  go_wp2
  refine bodyPost_ret (v:=encTl 0 0 d.x.o (.slice none 0 0)) ?_ rfl ⟨rfl,_,S10.out.drop.drop2.drop2.drop2⟩
  simp [results,Tryz.f69,go_sem,encTl,G10.out.1.1,G10.out.1.2,G10.out.2.1,G10.out.2.2]
set_option maxHeartbeats 4000000 in
set_option maxRecDepth 100000 in
theorem resume_bn (s:Sep w0 r w (kT p Y K::R)) (d:De) (hb:(Th.getT K.h d.x.o).st=3) (he:¬ Th.resumeE K.h d.x.o=0) (hf:Few K) :
  Calls Tryz.prog 69 #[ptr p,encD d] w fun e w'=>e = .returned (encTl (Th.resumeE (freed K d.x.o).h d.x.o) 0 (-1) (.slice none 0 0))/\KS w0 r w' p (wakeK (freed K d.x.o) d.x.o) R:=by
 have S1:=hid (s.deed d)
 obtain ⟨w1,hw⟩:∃ w1,(w.alloc (objD d)).alloc (objTl 0 0 0 (.slice none 0 0))=w1:=⟨_,rfl⟩
 rw [hw] at S1
 have HW:=hid hw
 unfold objD objTl at HW
 clear s hw
 obtain ⟨x,hx⟩:∃ x,Th.getT K.h d.x.o=x:=⟨_,rfl⟩
 rw [hx] at hb
 obtain ⟨E,hE⟩:∃ E,Th.resumeE K.h d.x.o=E:=⟨_,rfl⟩
 rw [hE] at he
 have HE:=hid hE
 have hk:=k_tget S1.out.drew d.x.o
 have SB:=hid ((S1.out.box (.cells #[.int .i64 0,.int .i64 0,.int .i64 0,.int .i64 0,.int .u64 0,.int .u64 0,.int .u64 0,.int .u64 0,.int .u64 0,.int .u64 0,.int .u64 0,.int .u64 0] 39)).to4.drew)
 have hkb:=k_tget SB.out d.x.o
 rw [hx] at hk hkb
 unfold Th.encT at hk hkb
 have HK:=hid hk
 have HKB:=hid hkb
 have hb2:(x.st == 3)=true:=by simpa using hb
 have hb3:decide (x.st=3)=true:=by simpa using hb
 have HB2:=hid hb2
 have he2:(E == 0)=false:=by simpa using he
 have he3:(E != 0)=true:=by simpa using he
 clear hx hE hk hkb hb hb2 hb3 he
 have HL:=hid hf
 clear hf
 rw [show Th.resumeE (freed K d.x.o).h d.x.o=E from HE.out]
 unfold encD
 go_enter Tryz.func69,Tryz.ntmps69
 go_wp2_with (first | rw [HW.out] | fail)
 generalize w.heap.size+1=q2 at *
 generalize w.heap.size=q at *
 have HSX:Hid (∀ (W:World) (Y':Ly) (K':Kr) (o:Obj) (R':List Th),Y'.h=Y.h->Sep w0 r W (kT p Y' K'::blk q2 o::blk q (objD d)::R')->W.cell? ⟨p,2,none⟩=some (ptr Y.h)/\W.cell? ⟨q,11,none⟩=some (.int .i64 d.x.o)):=fun W Y' K' o R' hy s=>by
  have k:=s.k2
  rw [hy] at k
  exact ⟨k,(s.blkCell (p:=q) (List.mem_cons_of_mem _ (List.mem_cons_of_mem _ (List.mem_cons_self))) 11).1⟩
 go_cut [5,6] from 9 to 19 (fun sa sb wx=>∃ k y,sa = .pointer (some ⟨k,0,none⟩)/\sb = .int .i64 y/\Sep w0 r wx (kT p Y K::blk q2 (objTl 0 0 0 (.slice none 0 0))::blk q (objD d)::blk k (.cells #[.int .i64 x.st,.int .i64 x.p,.int .i64 x.c,.int .i64 x.l,.int .u64 (Th.rg x 0),.int .u64 (Th.rg x 1),.int .u64 (Th.rg x 2),.int .u64 (Th.rg x 3),.int .u64 (Th.rg x 4),.int .u64 (Th.rg x 5),.int .u64 (Th.rg x 6),.int .u64 (Th.rg x 7)] 39)::R))
 case first =>
  have hS:=HSX.out _ _ _ _ _ (by rfl) S1.out.drew
  have hSB:=HSX.out _ _ _ _ _ (by rfl) SB.out
  go_region_held3 (fun W=>W.cell? ⟨p,2,none⟩=some (ptr Y.h)/\W.cell? ⟨q,11,none⟩=some (.int .i64 d.x.o)) (first | with_reducible assumption | with_reducible exact hS | with_reducible exact hSB) (first | (go_at_call 33;(with_reducible refine Calls.mono HKB.out ?_);rintro e w3 ⟨rfl,b3⟩;have s3:=SB.out.below b3;have hS3:=HSX.out _ _ _ _ _ (by rfl) s3;have s4:=s3.from4;obtain ⟨mf0,mz⟩:=s4.zTh (List.mem_cons_self);obtain ⟨z0,z1,z2,z3,z4,z5,z6,z7,z8,z9,z10,z11⟩:=mz;have s5:=s4.putTh x;have s6:=s5.to4;have hS6:=HSX.out _ _ _ _ _ (by rfl) s6;have S6:=hid s6;clear s3 s4 s5 s6) | (go_at_call 33;(with_reducible refine Calls.mono HK.out ?_);rintro e w3 ⟨rfl,b3⟩;have s3:=S1.out.drew.below b3;have hS3:=HSX.out _ _ _ _ _ (by rfl) s3;have s4:=(s3.box (.cells #[.int .i64 0,.int .i64 0,.int .i64 0,.int .i64 0,.int .u64 0,.int .u64 0,.int .u64 0,.int .u64 0,.int .u64 0,.int .u64 0,.int .u64 0,.int .u64 0] 39)).to4;have hS4:=HSX.out _ _ _ _ _ (by rfl) s4;have s6:=(s3.box (.cells #[.int .i64 x.st,.int .i64 x.p,.int .i64 x.c,.int .i64 x.l,.int .u64 (Th.rg x 0),.int .u64 (Th.rg x 1),.int .u64 (Th.rg x 2),.int .u64 (Th.rg x 3),.int .u64 (Th.rg x 4),.int .u64 (Th.rg x 5),.int .u64 (Th.rg x 6),.int .u64 (Th.rg x 7)] 39)).to4;have hS6:=HSX.out _ _ _ _ _ (by rfl) s6;have S6:=hid s6;clear s3 s4 s6))
  all_goals go_wp2_with fail
  all_goals go_meet
  all_goals exact ⟨_,_,rfl,rfl,S6.out⟩
 case rest =>
  obtain ⟨k,y,rfl,rfl,s6⟩:=hcut
  have S6:=hid s6
  clear S1 SB HK HKB HSX s6
  have m0:wc.cell? ⟨k,0,none⟩=some (.int .i64 x.st):=(S6.out.blkCell (p:=k) (List.mem_cons_of_mem _ (List.mem_cons_of_mem _ (List.mem_cons_of_mem _ (List.mem_cons_self)))) 0).1
  have hb2:=HB2.out
  have d11:wc.cell? ⟨q,11,none⟩=some (.int .i64 d.x.o):=(S6.out.blkCell (p:=q) (List.mem_cons_of_mem _ (List.mem_cons_of_mem _ (List.mem_cons_self))) 11).1
  go_wp2_with (first | (go_at_call 123;refine Calls.mono (letGo_sep S6.out HL.out d.x.o) ?_;rintro e w2 ⟨rfl,Y2,s2⟩;have S2:=hid s2;clear s2 d11 m0 hb2) | fail)
  clear HB2
  have HS:Hid (∀ (W:World) (Y':Ly) (K':Kr) (o:Obj) (R':List Th),Y'.h=Y2.h->Sep w0 r W (kT p Y' K'::blk q2 o::blk q (objD d)::R')->W.cell? ⟨p,2,none⟩=some (ptr Y2.h)/\W.cell? ⟨q,11,none⟩=some (.int .i64 d.x.o)):=fun W Y' K' o R' hy s=>by
   have k:=s.k2
   rw [hy] at k
   exact ⟨k,(s.blkCell (p:=q) (List.mem_cons_of_mem _ (List.mem_cons_of_mem _ (List.mem_cons_self))) 11).1⟩
  have hS:=HS.out _ _ _ _ _ (by rfl) S2.out.drew
  have HC1:=hid (k_resume S2.out.drew d.x.o)
  go_region_held3 (fun W=>W.cell? ⟨p,2,none⟩=some (ptr Y2.h)/\W.cell? ⟨q,11,none⟩=some (.int .i64 d.x.o)) (first | with_reducible assumption | with_reducible exact hS) (first | (go_at_call 54;refine Calls.mono HC1.out ?_;rintro e w3 ⟨rfl,x3,s3⟩;have hS3:=HS.out _ _ _ _ _ (by rfl) s3;rw [show Th.resumeE (freed K d.x.o).h d.x.o=E from HE.out];have SP1:=hid s3;clear s3))
  clear hS
  clear HS hS3
  go_wp2_with (first | (go_at_call 30;refine Calls.mono (told_any _ _) ?_;rintro e w9 ⟨rfl,b9⟩;have s9:=(SP1.out.below b9);obtain ⟨t0,t1,t2,t3,f0,f1,f2,f3⟩:=s9.swap.cells4 (List.mem_cons_self);have s10:=s9.swap.put4 E 0 (-1) (.slice none 0 0);have S10:=hid s10;clear s9 s10;simp only [encTl]) | fail)
  obtain ⟨g0,g1,g2,g3,-⟩:=S10.out.cells4 (List.mem_cons_self)
  have G10:=hid (And.intro (And.intro g0 g1) (And.intro g2 g3))
  clear g0 g1 g2 g3
  go_wp2
  refine bodyPost_ret (v:=encTl E 0 (-1) (.slice none 0 0)) ?_ rfl ⟨rfl,_,S10.out.drop.drop2.drop2⟩
  simp [results,Tryz.f69,go_sem,encTl,G10.out.1.1,G10.out.1.2,G10.out.2.1,G10.out.2.2]
set_option maxHeartbeats 4000000 in
set_option maxRecDepth 100000 in
theorem resume_ny (s:Sep w0 r w (kT p Y K::R)) (d:De) (hb:¬ (Th.getT K.h d.x.o).st=3) (he:Th.resumeE K.h d.x.o=0) :
  Calls Tryz.prog 69 #[ptr p,encD d] w fun e w'=>e = .returned (encTl (Th.resumeE K.h d.x.o) 0 d.x.o (.slice none 0 0))/\KS w0 r w' p (wakeK K d.x.o) R:=by
 have S1:=hid (s.deed d)
 obtain ⟨w1,hw⟩:∃ w1,(w.alloc (objD d)).alloc (objTl 0 0 0 (.slice none 0 0))=w1:=⟨_,rfl⟩
 rw [hw] at S1
 have HW:=hid hw
 unfold objD objTl at HW
 clear s hw
 obtain ⟨x,hx⟩:∃ x,Th.getT K.h d.x.o=x:=⟨_,rfl⟩
 rw [hx] at hb
 obtain ⟨E,hE⟩:∃ E,Th.resumeE K.h d.x.o=E:=⟨_,rfl⟩
 rw [hE] at he
 have HE:=hid hE
 have hk:=k_tget S1.out.drew d.x.o
 have SB:=hid ((S1.out.box (.cells #[.int .i64 0,.int .i64 0,.int .i64 0,.int .i64 0,.int .u64 0,.int .u64 0,.int .u64 0,.int .u64 0,.int .u64 0,.int .u64 0,.int .u64 0,.int .u64 0] 39)).to4.drew)
 have hkb:=k_tget SB.out d.x.o
 rw [hx] at hk hkb
 unfold Th.encT at hk hkb
 have HK:=hid hk
 have HKB:=hid hkb
 have hb2:(x.st == 3)=false:=by simpa using hb
 have hb3:decide (x.st=3)=false:=by simpa using hb
 have HB2:=hid hb2
 have he2:(E == 0)=true:=by simpa using he
 have he3:(E != 0)=false:=by simpa using he
 clear hx hE hk hkb hb hb2 hb3 he
 rw [show Th.resumeE K.h d.x.o=E from HE.out]
 unfold encD
 go_enter Tryz.func69,Tryz.ntmps69
 go_wp2_with (first | rw [HW.out] | fail)
 generalize w.heap.size+1=q2 at *
 generalize w.heap.size=q at *
 have HSX:Hid (∀ (W:World) (Y':Ly) (K':Kr) (o:Obj) (R':List Th),Y'.h=Y.h->Sep w0 r W (kT p Y' K'::blk q2 o::blk q (objD d)::R')->W.cell? ⟨p,2,none⟩=some (ptr Y.h)/\W.cell? ⟨q,11,none⟩=some (.int .i64 d.x.o)):=fun W Y' K' o R' hy s=>by
  have k:=s.k2
  rw [hy] at k
  exact ⟨k,(s.blkCell (p:=q) (List.mem_cons_of_mem _ (List.mem_cons_of_mem _ (List.mem_cons_self))) 11).1⟩
 go_cut [5,6] from 9 to 19 (fun sa sb wx=>∃ k y,sa = .pointer (some ⟨k,0,none⟩)/\sb = .int .i64 y/\Sep w0 r wx (kT p Y K::blk q2 (objTl 0 0 0 (.slice none 0 0))::blk q (objD d)::blk k (.cells #[.int .i64 x.st,.int .i64 x.p,.int .i64 x.c,.int .i64 x.l,.int .u64 (Th.rg x 0),.int .u64 (Th.rg x 1),.int .u64 (Th.rg x 2),.int .u64 (Th.rg x 3),.int .u64 (Th.rg x 4),.int .u64 (Th.rg x 5),.int .u64 (Th.rg x 6),.int .u64 (Th.rg x 7)] 39)::R))
 case first =>
  have hS:=HSX.out _ _ _ _ _ (by rfl) S1.out.drew
  have hSB:=HSX.out _ _ _ _ _ (by rfl) SB.out
  go_region_held3 (fun W=>W.cell? ⟨p,2,none⟩=some (ptr Y.h)/\W.cell? ⟨q,11,none⟩=some (.int .i64 d.x.o)) (first | with_reducible assumption | with_reducible exact hS | with_reducible exact hSB) (first | (go_at_call 33;(with_reducible refine Calls.mono HKB.out ?_);rintro e w3 ⟨rfl,b3⟩;have s3:=SB.out.below b3;have hS3:=HSX.out _ _ _ _ _ (by rfl) s3;have s4:=s3.from4;obtain ⟨mf0,mz⟩:=s4.zTh (List.mem_cons_self);obtain ⟨z0,z1,z2,z3,z4,z5,z6,z7,z8,z9,z10,z11⟩:=mz;have s5:=s4.putTh x;have s6:=s5.to4;have hS6:=HSX.out _ _ _ _ _ (by rfl) s6;have S6:=hid s6;clear s3 s4 s5 s6) | (go_at_call 33;(with_reducible refine Calls.mono HK.out ?_);rintro e w3 ⟨rfl,b3⟩;have s3:=S1.out.drew.below b3;have hS3:=HSX.out _ _ _ _ _ (by rfl) s3;have s4:=(s3.box (.cells #[.int .i64 0,.int .i64 0,.int .i64 0,.int .i64 0,.int .u64 0,.int .u64 0,.int .u64 0,.int .u64 0,.int .u64 0,.int .u64 0,.int .u64 0,.int .u64 0] 39)).to4;have hS4:=HSX.out _ _ _ _ _ (by rfl) s4;have s6:=(s3.box (.cells #[.int .i64 x.st,.int .i64 x.p,.int .i64 x.c,.int .i64 x.l,.int .u64 (Th.rg x 0),.int .u64 (Th.rg x 1),.int .u64 (Th.rg x 2),.int .u64 (Th.rg x 3),.int .u64 (Th.rg x 4),.int .u64 (Th.rg x 5),.int .u64 (Th.rg x 6),.int .u64 (Th.rg x 7)] 39)).to4;have hS6:=HSX.out _ _ _ _ _ (by rfl) s6;have S6:=hid s6;clear s3 s4 s6))
  all_goals go_wp2_with fail
  all_goals go_meet
  all_goals exact ⟨_,_,rfl,rfl,S6.out⟩
 case rest =>
  obtain ⟨k,y,rfl,rfl,s6⟩:=hcut
  have S6:=hid s6
  clear S1 SB HK HKB HSX s6
  have m0:wc.cell? ⟨k,0,none⟩=some (.int .i64 x.st):=(S6.out.blkCell (p:=k) (List.mem_cons_of_mem _ (List.mem_cons_of_mem _ (List.mem_cons_of_mem _ (List.mem_cons_self)))) 0).1
  have hb2:=HB2.out
  go_wp2_with fail
  clear m0 hb2
  clear HB2
  have HS:Hid (∀ (W:World) (Y':Ly) (K':Kr) (o:Obj) (R':List Th),Y'.h=Y.h->Sep w0 r W (kT p Y' K'::blk q2 o::blk q (objD d)::R')->W.cell? ⟨p,2,none⟩=some (ptr Y.h)/\W.cell? ⟨q,11,none⟩=some (.int .i64 d.x.o)):=fun W Y' K' o R' hy s=>by
   have k:=s.k2
   rw [hy] at k
   exact ⟨k,(s.blkCell (p:=q) (List.mem_cons_of_mem _ (List.mem_cons_of_mem _ (List.mem_cons_self))) 11).1⟩
  have hS:=HS.out _ _ _ _ _ (by rfl) S6.out.drew
  have HC1:=hid (k_resume S6.out.drew d.x.o)
  go_region_held3 (fun W=>W.cell? ⟨p,2,none⟩=some (ptr Y.h)/\W.cell? ⟨q,11,none⟩=some (.int .i64 d.x.o)) (first | with_reducible assumption | with_reducible exact hS) (first | (go_at_call 54;refine Calls.mono HC1.out ?_;rintro e w3 ⟨rfl,x3,s3⟩;have hS3:=HS.out _ _ _ _ _ (by rfl) s3;rw [show Th.resumeE K.h d.x.o=E from HE.out];have SP1:=hid s3;clear s3))
  clear hS
  clear HS hS3
  obtain rfl:E=0:=by simpa using he2
  clear he2 he3 HE
  have SQ:=hid SP1.out
  go_wp2_with (first | (go_at_call 30;refine Calls.mono (told_any _ _) ?_;rintro e w9 ⟨rfl,b9⟩;have sv:=((SP1.out.below b9).box (objTl 0 0 d.x.o (.slice none 0 0)));change Sep w0 r (w9.alloc (.cells #[.int .i64 0,.int .u64 0,.int .i64 d.x.o,(.slice none 0 0)] 35)) _ at sv;have sx:=sv.third.swap;obtain ⟨u0,u1,u2,u3,g0,g1,g2,g3⟩:=sx.cells4 (List.mem_cons_self);have s10:=sx.put4 0 0 d.x.o (.slice none 0 0);have dd11:w9.cell? ⟨q,11,none⟩=some (.int .i64 d.x.o):=((SP1.out.below b9).blkCell (p:=q) (List.mem_cons_of_mem _ (List.mem_cons_of_mem _ (List.mem_cons_self))) 11).1;have dd12:=cell_al dd11 (.cells #[.int .i64 0,.int .u64 0,.int .i64 (-1),.slice none 0 0] 35);have S10:=hid s10;clear sv sx s10 b9;simp only [encTl]) | fail)
  obtain ⟨h0,h1,h2,h3,-⟩:=S10.out.cells4 (List.mem_cons_self)
  have G10:=hid (And.intro (And.intro h0 h1) (And.intro h2 h3))
  clear h0 h1 h2 h3
  go_wp2
  refine bodyPost_ret (v:=encTl 0 0 d.x.o (.slice none 0 0)) ?_ rfl ⟨rfl,_,S10.out.drop.drop2.drop2.drop2⟩
  simp [results,Tryz.f69,go_sem,encTl,G10.out.1.1,G10.out.1.2,G10.out.2.1,G10.out.2.2]
set_option maxHeartbeats 4000000 in
set_option maxRecDepth 100000 in
theorem resume_nn (s:Sep w0 r w (kT p Y K::R)) (d:De) (hb:¬ (Th.getT K.h d.x.o).st=3) (he:¬ Th.resumeE K.h d.x.o=0) :
  Calls Tryz.prog 69 #[ptr p,encD d] w fun e w'=>e = .returned (encTl (Th.resumeE K.h d.x.o) 0 (-1) (.slice none 0 0))/\KS w0 r w' p (wakeK K d.x.o) R:=by
 have S1:=hid (s.deed d)
 obtain ⟨w1,hw⟩:∃ w1,(w.alloc (objD d)).alloc (objTl 0 0 0 (.slice none 0 0))=w1:=⟨_,rfl⟩
 rw [hw] at S1
 have HW:=hid hw
 unfold objD objTl at HW
 clear s hw
 obtain ⟨x,hx⟩:∃ x,Th.getT K.h d.x.o=x:=⟨_,rfl⟩
 rw [hx] at hb
 obtain ⟨E,hE⟩:∃ E,Th.resumeE K.h d.x.o=E:=⟨_,rfl⟩
 rw [hE] at he
 have HE:=hid hE
 have hk:=k_tget S1.out.drew d.x.o
 have SB:=hid ((S1.out.box (.cells #[.int .i64 0,.int .i64 0,.int .i64 0,.int .i64 0,.int .u64 0,.int .u64 0,.int .u64 0,.int .u64 0,.int .u64 0,.int .u64 0,.int .u64 0,.int .u64 0] 39)).to4.drew)
 have hkb:=k_tget SB.out d.x.o
 rw [hx] at hk hkb
 unfold Th.encT at hk hkb
 have HK:=hid hk
 have HKB:=hid hkb
 have hb2:(x.st == 3)=false:=by simpa using hb
 have hb3:decide (x.st=3)=false:=by simpa using hb
 have HB2:=hid hb2
 have he2:(E == 0)=false:=by simpa using he
 have he3:(E != 0)=true:=by simpa using he
 clear hx hE hk hkb hb hb2 hb3 he
 rw [show Th.resumeE K.h d.x.o=E from HE.out]
 unfold encD
 go_enter Tryz.func69,Tryz.ntmps69
 go_wp2_with (first | rw [HW.out] | fail)
 generalize w.heap.size+1=q2 at *
 generalize w.heap.size=q at *
 have HSX:Hid (∀ (W:World) (Y':Ly) (K':Kr) (o:Obj) (R':List Th),Y'.h=Y.h->Sep w0 r W (kT p Y' K'::blk q2 o::blk q (objD d)::R')->W.cell? ⟨p,2,none⟩=some (ptr Y.h)/\W.cell? ⟨q,11,none⟩=some (.int .i64 d.x.o)):=fun W Y' K' o R' hy s=>by
  have k:=s.k2
  rw [hy] at k
  exact ⟨k,(s.blkCell (p:=q) (List.mem_cons_of_mem _ (List.mem_cons_of_mem _ (List.mem_cons_self))) 11).1⟩
 go_cut [5,6] from 9 to 19 (fun sa sb wx=>∃ k y,sa = .pointer (some ⟨k,0,none⟩)/\sb = .int .i64 y/\Sep w0 r wx (kT p Y K::blk q2 (objTl 0 0 0 (.slice none 0 0))::blk q (objD d)::blk k (.cells #[.int .i64 x.st,.int .i64 x.p,.int .i64 x.c,.int .i64 x.l,.int .u64 (Th.rg x 0),.int .u64 (Th.rg x 1),.int .u64 (Th.rg x 2),.int .u64 (Th.rg x 3),.int .u64 (Th.rg x 4),.int .u64 (Th.rg x 5),.int .u64 (Th.rg x 6),.int .u64 (Th.rg x 7)] 39)::R))
 case first =>
  have hS:=HSX.out _ _ _ _ _ (by rfl) S1.out.drew
  have hSB:=HSX.out _ _ _ _ _ (by rfl) SB.out
  go_region_held3 (fun W=>W.cell? ⟨p,2,none⟩=some (ptr Y.h)/\W.cell? ⟨q,11,none⟩=some (.int .i64 d.x.o)) (first | with_reducible assumption | with_reducible exact hS | with_reducible exact hSB) (first | (go_at_call 33;(with_reducible refine Calls.mono HKB.out ?_);rintro e w3 ⟨rfl,b3⟩;have s3:=SB.out.below b3;have hS3:=HSX.out _ _ _ _ _ (by rfl) s3;have s4:=s3.from4;obtain ⟨mf0,mz⟩:=s4.zTh (List.mem_cons_self);obtain ⟨z0,z1,z2,z3,z4,z5,z6,z7,z8,z9,z10,z11⟩:=mz;have s5:=s4.putTh x;have s6:=s5.to4;have hS6:=HSX.out _ _ _ _ _ (by rfl) s6;have S6:=hid s6;clear s3 s4 s5 s6) | (go_at_call 33;(with_reducible refine Calls.mono HK.out ?_);rintro e w3 ⟨rfl,b3⟩;have s3:=S1.out.drew.below b3;have hS3:=HSX.out _ _ _ _ _ (by rfl) s3;have s4:=(s3.box (.cells #[.int .i64 0,.int .i64 0,.int .i64 0,.int .i64 0,.int .u64 0,.int .u64 0,.int .u64 0,.int .u64 0,.int .u64 0,.int .u64 0,.int .u64 0,.int .u64 0] 39)).to4;have hS4:=HSX.out _ _ _ _ _ (by rfl) s4;have s6:=(s3.box (.cells #[.int .i64 x.st,.int .i64 x.p,.int .i64 x.c,.int .i64 x.l,.int .u64 (Th.rg x 0),.int .u64 (Th.rg x 1),.int .u64 (Th.rg x 2),.int .u64 (Th.rg x 3),.int .u64 (Th.rg x 4),.int .u64 (Th.rg x 5),.int .u64 (Th.rg x 6),.int .u64 (Th.rg x 7)] 39)).to4;have hS6:=HSX.out _ _ _ _ _ (by rfl) s6;have S6:=hid s6;clear s3 s4 s6))
  all_goals go_wp2_with fail
  all_goals go_meet
  all_goals exact ⟨_,_,rfl,rfl,S6.out⟩
 case rest =>
  obtain ⟨k,y,rfl,rfl,s6⟩:=hcut
  have S6:=hid s6
  clear S1 SB HK HKB HSX s6
  have m0:wc.cell? ⟨k,0,none⟩=some (.int .i64 x.st):=(S6.out.blkCell (p:=k) (List.mem_cons_of_mem _ (List.mem_cons_of_mem _ (List.mem_cons_of_mem _ (List.mem_cons_self)))) 0).1
  have hb2:=HB2.out
  go_wp2_with fail
  clear m0 hb2
  clear HB2
  have HS:Hid (∀ (W:World) (Y':Ly) (K':Kr) (o:Obj) (R':List Th),Y'.h=Y.h->Sep w0 r W (kT p Y' K'::blk q2 o::blk q (objD d)::R')->W.cell? ⟨p,2,none⟩=some (ptr Y.h)/\W.cell? ⟨q,11,none⟩=some (.int .i64 d.x.o)):=fun W Y' K' o R' hy s=>by
   have k:=s.k2
   rw [hy] at k
   exact ⟨k,(s.blkCell (p:=q) (List.mem_cons_of_mem _ (List.mem_cons_of_mem _ (List.mem_cons_self))) 11).1⟩
  have hS:=HS.out _ _ _ _ _ (by rfl) S6.out.drew
  have HC1:=hid (k_resume S6.out.drew d.x.o)
  go_region_held3 (fun W=>W.cell? ⟨p,2,none⟩=some (ptr Y.h)/\W.cell? ⟨q,11,none⟩=some (.int .i64 d.x.o)) (first | with_reducible assumption | with_reducible exact hS) (first | (go_at_call 54;refine Calls.mono HC1.out ?_;rintro e w3 ⟨rfl,x3,s3⟩;have hS3:=HS.out _ _ _ _ _ (by rfl) s3;rw [show Th.resumeE K.h d.x.o=E from HE.out];have SP1:=hid s3;clear s3))
  clear hS
  clear HS hS3
  go_wp2_with (first | (go_at_call 30;refine Calls.mono (told_any _ _) ?_;rintro e w9 ⟨rfl,b9⟩;have s9:=(SP1.out.below b9);obtain ⟨t0,t1,t2,t3,f0,f1,f2,f3⟩:=s9.swap.cells4 (List.mem_cons_self);have s10:=s9.swap.put4 E 0 (-1) (.slice none 0 0);have S10:=hid s10;clear s9 s10;simp only [encTl]) | fail)
  obtain ⟨g0,g1,g2,g3,-⟩:=S10.out.cells4 (List.mem_cons_self)
  have G10:=hid (And.intro (And.intro g0 g1) (And.intro g2 g3))
  clear g0 g1 g2 g3
  go_wp2
  refine bodyPost_ret (v:=encTl E 0 (-1) (.slice none 0 0)) ?_ rfl ⟨rfl,_,S10.out.drop.drop2.drop2⟩
  simp [results,Tryz.f69,go_sem,encTl,G10.out.1.1,G10.out.1.2,G10.out.2.1,G10.out.2.2]
end
end Go.Proofs.YtilnjnblpeeigaaGreatDoor
namespace Go.Proofs.YtilnjnblpeeigaaGreatDoor
open Go.RowKit Go.Deep Go.Shelf
open Classical
section
variable {w0 w w':World} {r p n m:Nat} {Y:Ly} {K:Kr} {R:List Th} {d:De}
theorem d_resume (s:Sep w0 r w (kT p Y K::R)) (o:Dd w0 r n m K d):Calls Tryz.prog 69 #[ptr p,encD d] w (DR w0 r p R (wakeK (easedK K d.x.o) d.x.o,⟨wakeE (easedK K d.x.o) d.x.o,0,wakeN (easedK K d.x.o) d.x.o,[]⟩)):=by
 unfold easedK
 by_cases hb:(Th.getT K.h d.x.o).st=3
 ·rw [if_pos hb]
  unfold wakeN wakeE
  by_cases he:Th.resumeE K.h d.x.o=0
  ·rw [if_pos (show Th.resumeE (freed K d.x.o).h d.x.o=0 from he)]
   exact DR.plain (resume_by s d hb he o.v.few)
  ·rw [if_neg (show ¬ Th.resumeE (freed K d.x.o).h d.x.o=0 from he)]
   exact DR.plain (resume_bn s d hb he o.v.few)
 ·rw [if_neg hb]
  unfold wakeN wakeE
  by_cases he:Th.resumeE K.h d.x.o=0
  ·rw [if_pos he]
   exact DR.plain (resume_ny s d hb he)
  ·rw [if_neg he]
   exact DR.plain (resume_nn s d hb he)
theorem d_prio (s:Sep w0 r w (kT p Y K::R)):Calls Tryz.prog 71 #[ptr p,encD d] w (DR w0 r p R ({ K with h:=Th.prioH K.h d.x.o d.c.A },tlE (Th.prioE K.h d.x.o d.c.A))):=
 DR.plain (prio_deed s d)
end
end Go.Proofs.YtilnjnblpeeigaaGreatDoor
namespace Go.Proofs.YtilnjnblpeeigaaGreatDoor
open Go.RowKit Go.Deep Go.Shelf
open Classical
section
variable {w0 w w':World} {r p n m:Nat} {Y:Ly} {K:Kr} {R:List Th} {d:De}
def askL:List Nat:=[0,1,4,5,6,7,8,9]
def qIn (q:Int):Bool:=decide (q<0) || decide (17<=q) || askL.contains q.toNat
structure Cd (c:Cl):Prop where
 w:I64 c.w
 A:I64 c.A
 B:I64 c.B
 C:I64 c.C
 q:qIn c.q=true
theorem qIn_at {i:Nat} (h:qIn (i:Int)=true) (hi:i<17):askL.contains i=true:=by
 unfold qIn at h
 rw [decide_eq_false (by omega),decide_eq_false (by omega)] at h
 exact h
theorem deed_any (s:Sep w0 r w (kT p Y K::R)) (o:Dd w0 r n m K d) {i:Nat} (hq:d.c.q=(i:Int)) (hi:i<17) (hin:askL.contains i=true) (hB:findB K d.c i=true) (hy:d.y=if nW i=0 then Sl.no else capN K d.c.w) :
  Calls Tryz.prog (fnL.getD i 0) #[ptr p,encD d] w (DR w0 r p R (if mayB d.c d.x=true then doesK K d.core d.who d.c d.x else (K,tlE 181))):=by
 have hat:atB d.x i=true:=by
  rw [findB_at,<- o.x] at hB
  exact (Bool.and_eq_true_iff.1 hB).1
 have hkk:=atB_k hat
 have hrr:0<=d.x.r/\d.x.r<=7:=by rw [o.x];exact cap_r o.v
 have hmay:=may_find (c:=d.c) (x:=d.x) hq hi hrr
 rw [hat,Bool.true_and] at hmay
 have hwy:nW i≠0->d.y=capN K d.c.w/\(capN K d.c.w).k=nW i:=fun h=>by
  rw [if_neg h] at hy
  rw [findB_at] at hB
  have h2:=(Bool.and_eq_true_iff.1 hB).2
  simp only [Bool.or_eq_true,Bool.and_eq_true,beq_iff_eq] at h2
  refine ⟨hy,?_⟩
  rcases h2 with h2 | ⟨_,h2 | h2⟩
  ·exact absurd h2 h
  ·exact absurd h2 h
  ·exact h2
 have hcs:i=0\/i=1\/i=2\/i=3\/i=4\/i=5\/i=6\/i=7\/i=8\/i=9\/i=10\/i=11\/i=12\/i=13\/i=14\/i=15\/i=16:=by omega
 rw [hmay]
 clear hmay hB hat
 have hd:∀ X,doesK K d.core d.who d.c d.x=X->X=doesK K d.core d.who d.c d.x:=fun X h=>h.symm
 rcases hcs with rfl | rfl | rfl | rfl | rfl | rfl | rfl | rfl | rfl | rfl | rfl | rfl | rfl | rfl | rfl | rfl | rfl
 ·rw [hq,if_pos (by rfl)]
  unfold doesK
  rw [hq]
  exact d_retype s o (hkk.2.resolve_left (by decide))
 ·by_cases hk:d.x.k=1
  ·have h:=d_mint s o
   rw [if_pos hk] at h
   rw [hq,hk,if_neg (by decide)]
   exact h
  ·have h:=d_mint s o
   rw [if_neg hk] at h
   have e:(d.x.k == 1)=false:=by simpa using hk
   rw [hq,e,if_pos (by rfl)]
   unfold doesK
   rw [hq]
   exact h
 ·exact absurd hin (by decide)
 ·exact absurd hin (by decide)
 ·rw [hq,if_pos (by rfl)]
  unfold doesK
  rw [hq]
  exact d_revoke s o
 ·rw [hq,if_pos (by rfl)]
  unfold doesK
  rw [hq]
  exact d_resume s o
 ·rw [hq,if_pos (by rfl)]
  unfold doesK
  rw [hq]
  exact d_suspend s o
 ·rw [hq,if_pos (by rfl)]
  unfold doesK
  rw [hq]
  exact d_prio s
 ·rw [hq,if_pos (by rfl)]
  unfold doesK
  rw [hq]
  exact d_send s o (hkk.2.resolve_left (by decide))
 ·rw [hq,if_pos (by rfl)]
  unfold doesK
  rw [hq]
  exact d_recv s o (hkk.2.resolve_left (by decide))
 ·exact absurd hin (by decide)
 ·exact absurd hin (by decide)
 ·exact absurd hin (by decide)
 ·exact absurd hin (by decide)
 ·exact absurd hin (by decide)
 ·exact absurd hin (by decide)
 ·exact absurd hin (by decide)
theorem Do_any (s:Sep w0 r w (kT p Y K::R)) (o:Kd w0 r n m K) (core:Int) {c:Cl} (b:Cd c) :
  Calls Tryz.prog 9 #[ptr p,.int .i64 core,encCl c] w (DR w0 r p R (doK K core c)):=by
 unfold doK
 by_cases hb:Th.runsB (pickedK K core).h core=true
 ·rw [if_pos hb]
  by_cases hq:0<=c.q/\c.q<=17
  ·rw [if_pos hq]
   obtain ⟨i,hi⟩:∃ i:Nat,c.q=(i:Int):=⟨c.q.toNat,by omega⟩
   obtain ⟨t1,t2⟩:=runs_tid (o.v.picked core) hb
   by_cases h17:c.q=17
   ·rw [if_pos h17]
    exact Do_yield s o.ht core c hb hi (by omega) _ rfl fun Y2 W T s2=>by
     obtain rfl:i=17:=by omega
     exact DR.plain (yield_deed s2 (de0 c core _) o.ht)
   ·rw [if_neg h17]
    have hi17:i<17:=by omega
    have vp:=o.v.picked core
    have ec:∀ a,capN (pickedK K core) a=capN K a:=fun _=>rfl
    rw [<- ec]
    by_cases hB:findB (pickedK K core) c i=true
    ·refine Do_call s o.ht core c hb hi hi17 o.v.ts.n0 o.N o.hn hB _ rfl fun Y2 W T s2=>?_
     have hk:(capN (pickedK K core) c.a).k≠0:=by
      rw [findB_at] at hB
      exact (atB_k (Bool.and_eq_true_iff.1 hB).1).1
     exact deed_any s2 (d:=de1 c core (Th.runsN (Th.pickH K.h core) core) (capN (pickedK K core) c.a) (if nW i=0 then Sl.no else capN (pickedK K core) c.w)) ⟨vp,o.hm,o.fu,o.T,o.hr,o.ht,t1,t2,b.A,b.B,b.C,b.w,rfl,rfl,hk⟩ hi hi17 (qIn_at (by rw [<- hi];exact b.q) hi17) hB rfl
    ·rw [find_not vp hi hi17 (by simpa using hB)]
     exact DR.plain (Do_cap s o.ht core c hb hi hi17 o.v.ts.n0 o.N o.hn (by simpa using hB))
  ·rw [if_neg hq]
   exact DR.plain (Do_label s o.ht core c hb hq)
 ·rw [if_neg hb]
  have hb2:Th.runsB (pickedK K core).h core=false:=by simpa using hb
  exact DR.plain (Do_state s o.ht core c hb2)
end
end Go.Proofs.YtilnjnblpeeigaaGreatDoor
namespace Go.Proofs.YtilnjnblpeeigaaGreatDoor
open Go.RowKit Go.Deep Go.Shelf
open Classical
theorem Lt.below {w w':World} (h:Lt w) (b:Below w.heap.size w w'):Lt w':=⟨h.u.below b h.u.size,h.n.below b h.n.size,h.t.below b⟩
section
variable {w0 w w':World} {p n m:Nat} {Y:Ly} {K K':Kr} {R:List Th}
theorem do_law (s:Sep w0 w0.heap.size w (kT p Y K::R)) (L:Lt w0) (v:Kv n m K) (hm:m<=100000) (core:Int) {c:Cl} (b:Cd c) {e x k:Int} {f:List Lr} (hX:doK K core c=(K',⟨e,x,k,f⟩)) :
  Calls Tryz.prog 9 #[ptr p,.int .i64 core,.agg #[.int .i64 c.q,.int .i64 c.a,.int .i64 c.w,.int .i64 c.A,.int .i64 c.B,.int .i64 c.C]] w fun r w'=>∃ ao cap Y',r = .returned (.agg #[.int .i64 e,.int .u64 x,.int .i64 k,.slice ao f.length cap])/\Sep w0 w0.heap.size w' (kT p Y' K'::lst elR (.slice ao f.length cap) f::R):=by
 have h:=Do_any s ⟨v.v,hm,v.fu,L.u,L.u.size,L.n,L.n.size,fun u b=>L.t.below b⟩ core b
 rw [hX] at h
 refine Calls.mono h ?_
 rintro r w' ⟨u,rfl,Y',s'⟩
 obtain ⟨ao,cap,rfl⟩:=s'.listIs (E:=elR) (v:=u) (A:=f) (by simp)
 exact ⟨ao,cap,Y',rfl,s'⟩
end
end Go.Proofs.YtilnjnblpeeigaaGreatDoor
namespace Go.Proofs.YtilnjnblpeeigaaGreatDoor
set_option maxRecDepth 100000
def K0:Kr:=begK 1 12 0 [5]
end Go.Proofs.YtilnjnblpeeigaaGreatDoor
namespace Go.Proofs.YtilnjnblpeeigaaGreatDoor
open Go.RowKit Go.Deep Go.Shelf
open Classical
section
variable {w0 w w':World} {r:Nat} {R:List Th}
theorem fx_do {w0:World} (L:Lt w0) {n m:Nat} {K K':Kr} (v:Kv n m K) (hm:m<=100000) {core:Int} {c:Cl} (b:Cd c) {e x k:Int} (hX:doK K core c=(K',⟨e,x,k,[]⟩)) (p:Nat) (W:World) (Y:Ly) (T:List Th) (s:Sep w0 w0.heap.size W (kT p Y K::T)) :
  Calls Tryz.prog 9 #[ptr p,.int .i64 core,.agg #[.int .i64 c.q,.int .i64 c.a,.int .i64 c.w,.int .i64 c.A,.int .i64 c.B,.int .i64 c.C]] W fun r w'=>∃ ao cap Y',r = .returned (.agg #[.int .i64 e,.int .u64 x,.int .i64 k,.slice ao 0 cap])/\Sep w0 w0.heap.size w' (kT p Y' K'::T):=by
 refine Calls.mono (do_law s L v hm core b hX) ?_
 rintro r w' ⟨ao,cap,Y',rfl,s'⟩
 exact ⟨ao,cap,Y',rfl,s'.drop2⟩
set_option maxHeartbeats 8000000 in
set_option maxRecDepth 100000 in
theorem fixed_any (w:World) (L:Lt w):Calls Tryz.prog 12 #[] w fun e w'=>e = .returned (.bool true)/\Below w.heap.size w w':=by
 have k0:Kv 1 0 Kf0:=by
  have h:=boot_kv (n:=1) (m:=2) (b:=10) (Q:=[5]) rfl rfl
  rw [beg_eq] at h
  exact h
 have x1:doK Kf0 0 cf1=(Kf1,⟨0,0,(-1),[]⟩):=go_is rfl f1
 have k1:=k0.call (by omega) (small _ (by decide)) x1
 have H1:Hid (∀ (p:Nat) (W:World) (Y:Ly) (T:List Th),Sep w w.heap.size W (kT p Y Kf0::T)->Calls Tryz.prog 9 #[ptr p,.int .i64 0,.agg #[.int .i64 0,.int .i64 1,.int .i64 20,.int .i64 4,.int .i64 0,.int .i64 1]] W fun r w'=>∃ ao cap Y',r = .returned (.agg #[.int .i64 0,.int .u64 0,.int .i64 (-1),.slice ao 0 cap])/\Sep w w.heap.size w' (kT p Y' Kf1::T)):=fun p W Y T s=>fx_do L k0 (by omega) ⟨small _ (by decide),small _ (by decide),small _ (by decide),small _ (by decide),rfl⟩ x1 p W Y T s
 have x2:doK Kf1 0 cf2=(Kf2,⟨0,0,(-1),[]⟩):=go_is rfl f2
 have k2:=k1.call (by omega) (small _ (by decide)) x2
 have H2:Hid (∀ (p:Nat) (W:World) (Y:Ly) (T:List Th),Sep w w.heap.size W (kT p Y Kf1::T)->Calls Tryz.prog 9 #[ptr p,.int .i64 0,.agg #[.int .i64 1,.int .i64 20,.int .i64 21,.int .i64 2,.int .i64 7,.int .i64 0]] W fun r w'=>∃ ao cap Y',r = .returned (.agg #[.int .i64 0,.int .u64 0,.int .i64 (-1),.slice ao 0 cap])/\Sep w w.heap.size w' (kT p Y' Kf2::T)):=fun p W Y T s=>fx_do L k1 (by omega) ⟨small _ (by decide),small _ (by decide),small _ (by decide),small _ (by decide),rfl⟩ x2 p W Y T s
 have x3:doK Kf2 0 cf3=(Kf3,⟨181,0,(-1),[]⟩):=go_is rfl f3
 have k3:=k2.call (by omega) (small _ (by decide)) x3
 have H3:Hid (∀ (p:Nat) (W:World) (Y:Ly) (T:List Th),Sep w w.heap.size W (kT p Y Kf2::T)->Calls Tryz.prog 9 #[ptr p,.int .i64 0,.agg #[.int .i64 9,.int .i64 21,.int .i64 0,.int .i64 0,.int .i64 0,.int .i64 0]] W fun r w'=>∃ ao cap Y',r = .returned (.agg #[.int .i64 181,.int .u64 0,.int .i64 (-1),.slice ao 0 cap])/\Sep w w.heap.size w' (kT p Y' Kf3::T)):=fun p W Y T s=>fx_do L k2 (by omega) ⟨small _ (by decide),small _ (by decide),small _ (by decide),small _ (by decide),rfl⟩ x3 p W Y T s
 have x4:doK Kf3 0 cf4=(Kf4,⟨0,2,(-1),[]⟩):=go_is rfl f4
 have k4:=k3.call (by omega) (small _ (by decide)) x4
 have H4:Hid (∀ (p:Nat) (W:World) (Y:Ly) (T:List Th),Sep w w.heap.size W (kT p Y Kf3::T)->Calls Tryz.prog 9 #[ptr p,.int .i64 0,.agg #[.int .i64 4,.int .i64 1,.int .i64 0,.int .i64 0,.int .i64 0,.int .i64 0]] W fun r w'=>∃ ao cap Y',r = .returned (.agg #[.int .i64 0,.int .u64 2,.int .i64 (-1),.slice ao 0 cap])/\Sep w w.heap.size w' (kT p Y' Kf4::T)):=fun p W Y T s=>fx_do L k3 (by omega) ⟨small _ (by decide),small _ (by decide),small _ (by decide),small _ (by decide),rfl⟩ x4 p W Y T s
 have x5:doK Kf4 0 cf5=(Kf5,⟨180,0,(-1),[]⟩):=go_is rfl f5
 have k5:=k4.call (by omega) (small _ (by decide)) x5
 have H5:Hid (∀ (p:Nat) (W:World) (Y:Ly) (T:List Th),Sep w w.heap.size W (kT p Y Kf4::T)->Calls Tryz.prog 9 #[ptr p,.int .i64 0,.agg #[.int .i64 18,.int .i64 0,.int .i64 0,.int .i64 0,.int .i64 0,.int .i64 0]] W fun r w'=>∃ ao cap Y',r = .returned (.agg #[.int .i64 180,.int .u64 0,.int .i64 (-1),.slice ao 0 cap])/\Sep w w.heap.size w' (kT p Y' Kf5::T)):=fun p W Y T s=>fx_do L k4 (by omega) ⟨small _ (by decide),small _ (by decide),small _ (by decide),small _ (by decide),rfl⟩ x5 p W Y T s
 have x6:doK Kf5 1 cf6=(Kf6,⟨182,0,(-1),[]⟩):=go_is rfl f6
 have k6:=k5.call (by omega) (small _ (by decide)) x6
 have H6:Hid (∀ (p:Nat) (W:World) (Y:Ly) (T:List Th),Sep w w.heap.size W (kT p Y Kf5::T)->Calls Tryz.prog 9 #[ptr p,.int .i64 1,.agg #[.int .i64 0,.int .i64 0,.int .i64 0,.int .i64 0,.int .i64 0,.int .i64 0]] W fun r w'=>∃ ao cap Y',r = .returned (.agg #[.int .i64 182,.int .u64 0,.int .i64 (-1),.slice ao 0 cap])/\Sep w w.heap.size w' (kT p Y' Kf6::T)):=fun p W Y T s=>fx_do L k5 (by omega) ⟨small _ (by decide),small _ (by decide),small _ (by decide),small _ (by decide),rfl⟩ x6 p W Y T s
 have x7:doK Kf6 0 cf7=(Kf7,⟨0,0,(-1),[]⟩):=go_is rfl f7
 have k7:=k6.call (by omega) (small _ (by decide)) x7
 have H7:Hid (∀ (p:Nat) (W:World) (Y:Ly) (T:List Th),Sep w w.heap.size W (kT p Y Kf6::T)->Calls Tryz.prog 9 #[ptr p,.int .i64 0,.agg #[.int .i64 6,.int .i64 2,.int .i64 0,.int .i64 0,.int .i64 0,.int .i64 0]] W fun r w'=>∃ ao cap Y',r = .returned (.agg #[.int .i64 0,.int .u64 0,.int .i64 (-1),.slice ao 0 cap])/\Sep w w.heap.size w' (kT p Y' Kf7::T)):=fun p W Y T s=>fx_do L k6 (by omega) ⟨small _ (by decide),small _ (by decide),small _ (by decide),small _ (by decide),rfl⟩ x7 p W Y T s
 have x8:doK Kf7 0 cf8=(Kf8,⟨182,0,(-1),[]⟩):=go_is rfl f8
 have k8:=k7.call (by omega) (small _ (by decide)) x8
 have H8:Hid (∀ (p:Nat) (W:World) (Y:Ly) (T:List Th),Sep w w.heap.size W (kT p Y Kf7::T)->Calls Tryz.prog 9 #[ptr p,.int .i64 0,.agg #[.int .i64 17,.int .i64 0,.int .i64 0,.int .i64 0,.int .i64 0,.int .i64 0]] W fun r w'=>∃ ao cap Y',r = .returned (.agg #[.int .i64 182,.int .u64 0,.int .i64 (-1),.slice ao 0 cap])/\Sep w w.heap.size w' (kT p Y' Kf8::T)):=fun p W Y T s=>fx_do L k7 (by omega) ⟨small _ (by decide),small _ (by decide),small _ (by decide),small _ (by decide),rfl⟩ x8 p W Y T s
 have HB:Hid (∀ (g:Nat) (W:World) (T:List Th),Sep w w.heap.size W (Ta.lstI (.slice (some ⟨g,0,none⟩) 1 1) [5]::T)->Calls Tryz.prog 8 #[.agg #[.int .i64 1,.int .i64 10,.int .i64 2,.slice (some ⟨g,0,none⟩) 1 1]] W fun r w'=>∃ p,r = .returned (.tuple #[ptr p,.int .i64 0])/\∃ Y,Sep w w.heap.size w' (kT p Y Kf0::T)):=fun g W T s=>by
  have h:=Boot_ok s (fun u b=>L.t.below b) (n:=1) (m:=2) (b:=10) rfl rfl
  rw [beg_eq] at h
  refine Calls.mono h ?_
  rintro r w' ⟨p,rfl,Y,s'⟩
  exact ⟨p,rfl,Y,s'.drop2⟩
 have HBN:Hid (∀ (W:World) (T:List Th),Sep w w.heap.size W T->Calls Tryz.prog 8 #[.agg #[.int .i64 0,.int .i64 0,.int .i64 0,.slice none 0 0]] W fun r w'=>r = .returned (.tuple #[.pointer none,.int .i64 1])/\Sep w w.heap.size w' T):=fun W T s=>by
  refine Calls.mono (Boot_no (s.nil (E:=Ta.elI)) (n:=0) (b:=0) (m:=0) rfl) ?_
  rintro r w' ⟨rfl,s'⟩
  exact ⟨rfl,s'.drop⟩
 have HH3:Hid (∀ (p:Nat) (W:World) (Y:Ly) (T:List Th),Sep w w.heap.size W (kT p Y Kf3::T)->Calls Tryz.prog 36 #[ptr p] W fun r w'=>∃ ao cap,r = .returned (.slice ao 8 cap)/\Sep w w.heap.size w' (kT p Y Kf3::T)):=fun p W Y T s=>by
  have h:=Held_sep s
  rw [fh3] at h
  refine Calls.mono h ?_
  rintro r w' ⟨ao,cap,rfl,s'⟩
  exact ⟨ao,cap,rfl,s'.drop2⟩
 have HH8:Hid (∀ (p:Nat) (W:World) (Y:Ly) (T:List Th),Sep w w.heap.size W (kT p Y Kf8::T)->Calls Tryz.prog 36 #[ptr p] W fun r w'=>∃ ao cap,r = .returned (.slice ao 6 cap)/\Sep w w.heap.size w' (kT p Y Kf8::T)):=fun p W Y T s=>by
  have h:=Held_sep s
  rw [fh8] at h
  refine Calls.mono h ?_
  rintro r w' ⟨ao,cap,rfl,s'⟩
  exact ⟨ao,cap,rfl,s'.drop2⟩
 have HU:Hid (∀ (p:Nat) (W:World) (Y:Ly) (T:List Th),Sep w w.heap.size W (kT p Y Kf6::T)->Calls Tryz.prog 37 #[ptr p,.int .i64 0] W fun r w'=>r = .returned (.tuple #[.agg #[.int .u64 0,.int .i64 10,.int .u64 0],.bool true])/\Sep w w.heap.size w' (kT p Y Kf6::T)):=fun p W Y T s=>Untyped_yes s (n:=0) (i:=0) rfl fu6
 have S0:=hid (sep_nil w)
 have heq:∀ W,(Op.equalIn 10000 79 (.agg #[.int .u64 0,.int .i64 10,.int .u64 0]) (.agg #[.int .u64 0,.int .i64 10,.int .u64 0])).run Tryz.prog W = .ok true W:=fun W=>eq_untyped W 0 10 0 0 10 0
 clear L k0 x1 k1 x2 k2 x3 k3 x4 k4 x5 k5 x6 k6 x7 k7 x8 k8
 go_enter Tryz.func12,Tryz.ntmps12
 go_wp2_with (first
  | (go_at_call 35;refine Calls.mono (one_sep S0.out) ?_;rintro e w1 ⟨g,rfl,s1⟩;have S1:=hid s1;clear s1)
  | (go_at_call 8;(with_reducible refine Calls.mono (HB.out _ _ _ S1.out) ?_);rintro e w2 ⟨p,rfl,Y0,s2⟩;have T0:=hid s2;clear s2)
  | (go_at_call 9;(with_reducible refine Calls.mono (H1.out _ _ _ _ T0.out) ?_);rintro e v1 ⟨a1,c1,Y1,rfl,s1⟩;have T1:=hid ((s1.box (.cells #[.int .i64 0,.int .u64 0,.int .i64 (-1),.slice a1 0 c1] 35)).swap);clear s1)
  | (go_at_call 9;(with_reducible refine Calls.mono (H2.out _ _ _ _ T1.out) ?_);rintro e v2 ⟨a2,c2,Y2,rfl,s2⟩;have T2:=hid ((s2.box (.cells #[.int .i64 0,.int .u64 0,.int .i64 (-1),.slice a2 0 c2] 35)).swap);clear s2)
  | (go_at_call 9;(with_reducible refine Calls.mono (H3.out _ _ _ _ T2.out) ?_);rintro e v3 ⟨a3,c3,Y3,rfl,s3⟩;have T3:=hid ((s3.box (.cells #[.int .i64 181,.int .u64 0,.int .i64 (-1),.slice a3 0 c3] 35)).swap);clear s3)
  | (go_at_call 36;(with_reducible refine Calls.mono (HH3.out _ _ _ _ T3.out) ?_);rintro e v31 ⟨a31,c31,rfl,s3⟩;have T31:=hid s3;clear s3)
  | (go_at_call 9;(with_reducible refine Calls.mono (H4.out _ _ _ _ T31.out) ?_);rintro e v4 ⟨a4,c4,Y4,rfl,s4⟩;have T4:=hid ((s4.box (.cells #[.int .i64 0,.int .u64 2,.int .i64 (-1),.slice a4 0 c4] 35)).swap);clear s4)
  | (go_at_call 9;(with_reducible refine Calls.mono (H5.out _ _ _ _ T4.out) ?_);rintro e v5 ⟨a5,c5,Y5,rfl,s5⟩;have T5:=hid ((s5.box (.cells #[.int .i64 180,.int .u64 0,.int .i64 (-1),.slice a5 0 c5] 35)).swap);clear s5)
  | (go_at_call 9;(with_reducible refine Calls.mono (H6.out _ _ _ _ T5.out) ?_);rintro e v6 ⟨a6,c6,Y6,rfl,s6⟩;have T6:=hid ((s6.box (.cells #[.int .i64 182,.int .u64 0,.int .i64 (-1),.slice a6 0 c6] 35)).swap);clear s6)
  | (go_at_call 37;(with_reducible refine Calls.mono (HU.out _ _ _ _ T6.out) ?_);rintro e v61 ⟨rfl,s6⟩;have T61:=hid ((s6.box (.cells #[.int .u64 0,.int .i64 10,.int .u64 0] 79)).swap);clear s6)
  | (go_at_call 9;(with_reducible refine Calls.mono (H7.out _ _ _ _ T61.out) ?_);rintro e v7 ⟨a7,c7,Y7,rfl,s7⟩;have T7:=hid ((s7.box (.cells #[.int .i64 0,.int .u64 0,.int .i64 (-1),.slice a7 0 c7] 35)).swap);clear s7)
  | (go_at_call 9;(with_reducible refine Calls.mono (H8.out _ _ _ _ T7.out) ?_);rintro e v8 ⟨a8,c8,Y8,rfl,s8⟩;have T8:=hid ((s8.box (.cells #[.int .i64 182,.int .u64 0,.int .i64 (-1),.slice a8 0 c8] 35)).swap);clear s8)
  | (go_at_call 8;(with_reducible refine Calls.mono (HBN.out _ _ T8.out) ?_);rintro e w9 ⟨rfl,s9⟩;have av10:w9.cell? ⟨v1.heap.size,0,none⟩=some (.int .i64 0):=(s9.blkCell (p:=v1.heap.size) (List.mem_cons_of_mem _ (List.mem_cons_of_mem _ (List.mem_cons_of_mem _ (List.mem_cons_of_mem _ (List.mem_cons_of_mem _ (List.mem_cons_of_mem _ (List.mem_cons_of_mem _ (List.mem_cons_of_mem _ (List.mem_cons_of_mem _ (List.mem_cons_self)))))))))) 0).1;have av12:w9.cell? ⟨v1.heap.size,2,none⟩=some (.int .i64 (-1)):=(s9.blkCell (p:=v1.heap.size) (List.mem_cons_of_mem _ (List.mem_cons_of_mem _ (List.mem_cons_of_mem _ (List.mem_cons_of_mem _ (List.mem_cons_of_mem _ (List.mem_cons_of_mem _ (List.mem_cons_of_mem _ (List.mem_cons_of_mem _ (List.mem_cons_of_mem _ (List.mem_cons_self)))))))))) 2).1;have av20:w9.cell? ⟨v2.heap.size,0,none⟩=some (.int .i64 0):=(s9.blkCell (p:=v2.heap.size) (List.mem_cons_of_mem _ (List.mem_cons_of_mem _ (List.mem_cons_of_mem _ (List.mem_cons_of_mem _ (List.mem_cons_of_mem _ (List.mem_cons_of_mem _ (List.mem_cons_of_mem _ (List.mem_cons_of_mem _ (List.mem_cons_self))))))))) 0).1;have av30:w9.cell? ⟨v3.heap.size,0,none⟩=some (.int .i64 181):=(s9.blkCell (p:=v3.heap.size) (List.mem_cons_of_mem _ (List.mem_cons_of_mem _ (List.mem_cons_of_mem _ (List.mem_cons_of_mem _ (List.mem_cons_of_mem _ (List.mem_cons_of_mem _ (List.mem_cons_of_mem _ (List.mem_cons_self)))))))) 0).1;have av40:w9.cell? ⟨v4.heap.size,0,none⟩=some (.int .i64 0):=(s9.blkCell (p:=v4.heap.size) (List.mem_cons_of_mem _ (List.mem_cons_of_mem _ (List.mem_cons_of_mem _ (List.mem_cons_of_mem _ (List.mem_cons_of_mem _ (List.mem_cons_of_mem _ (List.mem_cons_self))))))) 0).1;have av41:w9.cell? ⟨v4.heap.size,1,none⟩=some (.int .u64 2):=(s9.blkCell (p:=v4.heap.size) (List.mem_cons_of_mem _ (List.mem_cons_of_mem _ (List.mem_cons_of_mem _ (List.mem_cons_of_mem _ (List.mem_cons_of_mem _ (List.mem_cons_of_mem _ (List.mem_cons_self))))))) 1).1;have T9:=hid s9;clear s9)
  | (go_at_call 36;(with_reducible refine Calls.mono (HH8.out _ _ _ _ T9.out) ?_);rintro e w10 ⟨a10,c10,rfl,s10⟩;have bv50:w10.cell? ⟨v5.heap.size,0,none⟩=some (.int .i64 180):=(s10.blkCell (p:=v5.heap.size) (List.mem_cons_of_mem _ (List.mem_cons_of_mem _ (List.mem_cons_of_mem _ (List.mem_cons_of_mem _ (List.mem_cons_of_mem _ (List.mem_cons_self)))))) 0).1;have bv60:w10.cell? ⟨v6.heap.size,0,none⟩=some (.int .i64 182):=(s10.blkCell (p:=v6.heap.size) (List.mem_cons_of_mem _ (List.mem_cons_of_mem _ (List.mem_cons_of_mem _ (List.mem_cons_of_mem _ (List.mem_cons_self))))) 0).1;have bv70:w10.cell? ⟨v7.heap.size,0,none⟩=some (.int .i64 0):=(s10.blkCell (p:=v7.heap.size) (List.mem_cons_of_mem _ (List.mem_cons_of_mem _ (List.mem_cons_self))) 0).1;have bv80:w10.cell? ⟨v8.heap.size,0,none⟩=some (.int .i64 182):=(s10.blkCell (p:=v8.heap.size) (List.mem_cons_of_mem _ (List.mem_cons_self)) 0).1;have bu0:w10.cell? ⟨v61.heap.size,0,none⟩=some (.int .u64 0):=(s10.blkCell (p:=v61.heap.size) (List.mem_cons_of_mem _ (List.mem_cons_of_mem _ (List.mem_cons_of_mem _ (List.mem_cons_self)))) 0).1;have bu1:w10.cell? ⟨v61.heap.size,1,none⟩=some (.int .i64 10):=(s10.blkCell (p:=v61.heap.size) (List.mem_cons_of_mem _ (List.mem_cons_of_mem _ (List.mem_cons_of_mem _ (List.mem_cons_self)))) 1).1;have bu2:w10.cell? ⟨v61.heap.size,2,none⟩=some (.int .u64 0):=(s10.blkCell (p:=v61.heap.size) (List.mem_cons_of_mem _ (List.mem_cons_of_mem _ (List.mem_cons_of_mem _ (List.mem_cons_self)))) 2).1;have T10:=hid s10;clear s10)
  | fail)
 go_ret
 exact ⟨rfl,T10.out.low⟩
end
end Go.Proofs.YtilnjnblpeeigaaGreatDoor
namespace Go.Proofs.YtilnjnblpeeigaaGreatDoor
open Go.ChangeShapes Go.WideShapes Go.ChangeAt Go.RowKit Go.Joins Go.Deep
theorem ownK:ownKnob Tryz.prog.godebug=none:=by kernel_rfl
theorem laidOut:laidOutB Tryz.prog=true:=by kernel_rfl
def SeeK {α:Type} (k:Nat) (enc:α->List Value) (P:α->Prop) (W:World) (ao:Option Addr) (X:List α):Prop:=
 ∀ i x,X[i]? = some x->P x/\∃ b o,ao=some ⟨b,o,none⟩/\b<W.heap.size/\∀ j v,(enc x)[j]? = some v->W.cell? ⟨b,o+i*k+j,none⟩=some v
theorem SeeK.below {α:Type} {k:Nat} {enc:α->List Value} {P:α->Prop} {W W':World} {ao:Option Addr} {X:List α} {r:Nat} (h:SeeK k enc P W ao X) (hb:Below r W W') (hr:W.heap.size<=r):SeeK k enc P W' ao X:=fun i x hx=>by
 obtain ⟨h1,b,o,e,hlt,hc⟩:=h i x hx
 exact ⟨h1,b,o,e,Nat.lt_of_lt_of_le hlt hb.size,fun j v hj=>(hb.cell (p:=⟨b,o+i*k+j,none⟩) (by simp only;omega)).trans (hc j v hj)⟩
end Go.Proofs.YtilnjnblpeeigaaGreatDoor
