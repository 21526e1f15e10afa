/-
  KernelYields: threads of one priority that yield run in turns: whatever their number and their priority, the statement's function returns true; the condition: that the three tables lie where they were laid.
-/
import Derived.Test.YtilnjnblpeeigaaGreatDoorPb1
import Derived.Test.YtilnjnblpeeigaaGreatDoorPb2
import Derived.Test.YtilnjnblpeeigaaGreatDoorPb3
import Derived.Test.YtilnjnblpeeigaaGreatDoorPb4
import Derived.Test.YtilnjnblpeeigaaGreatDoorPb5
import Derived.Test.YtilnjnblpeeigaaGreatDoorPb6
import Derived.Test.YtilnjnblpeeigaaGreatDoorPb7
import Derived.Test.YtilnjnblpeeigaaGreatDoorPb8
import Derived.Test.YtilnjnblpeeigaaGreatDoorPb9
import Derived.Test.YtilnjnblpeeigaaGreatDoorPb10
import Derived.Test.YtilnjnblpeeigaaGreatDoorPb11
import Derived.Test.YtilnjnblpeeigaaGreatDoorPb12
import Derived.Test.YtilnjnblpeeigaaGreatDoorPb13
import Derived.Test.YtilnjnblpeeigaaGreatDoorPb14
import Derived.Test.YtilnjnblpeeigaaGreatDoorPb15
import Derived.Test.YtilnjnblpeeigaaGreatDoorPb16
import Derived.Test.YtilnjnblpeeigaaGreatDoorPb17
import Derived.Test.YtilnjnblpeeigaaGreatDoorPb18
import Derived.Test.YtilnjnblpeeigaaGreatDoorPb19
import Derived.Test.YtilnjnblpeeigaaGreatDoorPb20
import Derived.Test.YtilnjnblpeeigaaGreatDoorPb21
import Derived.Test.YtilnjnblpeeigaaGreatDoorPb22
import Derived.Test.YtilnjnblpeeigaaGreatDoorPb23
import Derived.Test.YtilnjnblpeeigaaGreatDoorPb24
import Derived.Test.YtilnjnblpeeigaaGreatDoorPb25
import Derived.Test.YtilnjnblpeeigaaGreatDoorPb26
import Derived.Test.YtilnjnblpeeigaaGreatDoorPb27
import Derived.Test.YtilnjnblpeeigaaGreatDoorPb28
import Derived.Test.YtilnjnblpeeigaaGreatDoorPb29
import Derived.Test.YtilnjnblpeeigaaGreatDoorPb30
import Derived.Test.YtilnjnblpeeigaaGreatDoorPb31
import Derived.Test.YtilnjnblpeeigaaGreatDoorPb32
import Derived.Test.YtilnjnblpeeigaaGreatDoorPb33
import Derived.Test.YtilnjnblpeeigaaGreatDoorPxYi1
import Derived.Test.YtilnjnblpeeigaaGreatDoorPxYi2
import Derived.Test.YtilnjnblpeeigaaGreatDoorPxYi3
import Derived.Below
import Derived.BigQuiet
import Derived.Deep.Cut
import Derived.Deep.CutRange
import Derived.Deep.DeepHandedRow
import Derived.Deep.OwnRows
import Derived.Deep.QuietTactic
import Derived.Deep.RegionHeld3
import Derived.Deep.RegionLaw
import Derived.Deep.RegionWith
import Derived.Deep.Slices
import Derived.Deep.WholeRow
import Derived.DeepKeys4
import Derived.KernelRfl
import Derived.LaidMore
import Derived.Laws.AppendOwnNone
import Derived.Laws.BitsAllLaws
import Derived.Laws.BitsLemmas
import Derived.Laws.CopyOwn
import Derived.Laws.IdiomArrays
import Derived.Laws.StructEq
import Derived.Lib.AppendZerosOnto
import Derived.Lib.LaidTab
import Derived.Lib.Overlaps
import Derived.Lib.SliceRun
import Derived.Lib.SmallJoins
import Derived.Lib.Walk
import Derived.Maps.AppendAt
import Derived.Maps.Range
import Derived.Maps.RangeWalk
import Derived.OpenShut
import Derived.ProofKit
import Derived.Shelf.Abstract
import Derived.Shelf.RegionOpenPlain
import Derived.Shelf.SlIterI.Nil
import Derived.Shelf.SlMaps.Clone
import Derived.Shelf.SlSortCmp.NoneTotal
import Derived.Shelf.SlSortCmp.WholeK
import Derived.Shelf.SlicesE.Clone
import Derived.Shelf.SortM.Plain
import Derived.Shelf.SortM.SortNone
import Derived.Sort.Grow
import Derived.Sort.Statements
import Derived.Test.YtilnjnblpeeigaaGreatDoorCards
import Derived.Test.YtilnjnblpeeigaaGreatDoorProg
import Derived.Test.YtilnjnblpeeigaaGreatDoorRows
import Derived.Test.YtilnjnblpeeigaaGreatDoorTie
import Derived.WalkKit
import Derived.WalkLawsBesides
import Derived.WideMake
namespace Go.Proofs.YtilnjnblpeeigaaGreatDoor
open Go.RowKit Go.Deep Go.Shelf
theorem wri {x:Int} (h1 : -9223372036854775808<=x) (h2:x<=9223372036854775807):IntKind.i64.wrap x=x:=by
 rw [IntKind.wrap_i64]
 omega
theorem wru {x:Int} (h1:0<=x) (h2:x<=1000000):IntKind.u64.wrap x=x:=by
 rw [u64_wrap]
 unfold u64
 omega
theorem sm (x:Int) (h:(decide (0<=x) && decide (x<=1000))=true):I64 x:=by
 rw [Bool.and_eq_true,decide_eq_true_eq,decide_eq_true_eq] at h
 exact small x h
open Classical
theorem yl_boot {p:Nat} (hp:p<256):bootB 1 12 0 [(p:Int)]=true:=by
 have h:badP (p:Int)=false:=by
  unfold badP
  simp
  omega
 unfold bootB
 rw [show ([(p:Int)].any badP)=false by rw [List.any_cons,h];rfl]
 rfl
theorem yl_do (K:Kr) (core:Int) (c:Cl):doK K core c=goK K core c:=by rw [go_eq]
theorem yl_turn {m p:Nat} (hm:1<=m/\m<=4) (hp:p<256) (i:Nat):doK (withH (Km m) (Y (m+1) p i)) 0 ⟨17,0,0,0,0,0⟩=(withH (Km m) (Y (m+1) p (i+1)),⟨0,0,-1,[]⟩)/\Th.runsB (Y (m+1) p i) 0=true/\Th.runsN (Y (m+1) p i) 0=((i % (m+1):Nat):Int):=by
 obtain ⟨h1,h2,h3⟩:=turn_is hm hp (i % (m+1)) (Nat.mod_lt _ (by omega))
 rw [show Y (m+1) p (i % (m+1)+1)=Y (m+1) p (i+1) by rw [y_mod (m+1) p (i % (m+1)+1),y_mod (m+1) p (i+1),Nat.mod_add_mod]] at h1
 rw [<- y_mod] at h1 h2 h3
 exact ⟨(yl_do _ _ _).trans h1,h2,h3⟩
theorem yl_kv {m p:Nat} (hm:1<=m/\m<=4) (hp:p<256) (k0:Kv 1 0 (withH K0 (Hm 0 p 0))):(∀ i,i<=m->∃ n,n<=1000/\Kv 1 n (withH (Km m) (Hm m p i)))/\(∀ i,i<m->∃ n,n<=1000/\Kv 1 n (withH (Km m) (Hn m p i)))/\∀ i,i<=20->∃ n,n<=5000/\Kv 1 n (withH (Km m) (Y (m+1) p i)):=by
 have a:∀ i,i<=m->Kv 1 (64+128*i) (withH (Km m) (Hm m p i)):=by
  intro i
  induction i with
  | zero=>exact fun _=>k0.call (by omega) (sm _ rfl) ((yl_do _ _ _).trans (km_is p hm))
  | succ i ih =>
   intro hi
   have h1:=(ih (by omega)).call (by omega) (sm _ rfl) ((yl_do _ _ _).trans (prio_is i hm (by omega) hp))
   exact h1.call (by omega) (sm _ rfl) ((yl_do _ _ _).trans (wake_is i hm (by omega) hp))
 have b:∀ i,i<m->Kv 1 (64+128*i+64) (withH (Km m) (Hn m p i)):=fun i hi =>
  (a i (by omega)).call (by omega) (sm _ rfl) ((yl_do _ _ _).trans (prio_is i hm hi hp))
 have c:∀ i,i<=20->Kv 1 (64+128*m+64*i) (withH (Km m) (Y (m+1) p i)):=by
  intro i
  induction i with
  | zero =>
   intro _
   have h:=a m (Nat.le_refl _)
   rw [hm_y hm] at h
   exact h
  | succ i ih=>exact fun hi=>(ih (by omega)).call (by omega) (sm _ rfl) (yl_turn hm hp i).1
 exact ⟨fun i hi=>⟨_,by omega,a i hi⟩,fun i hi=>⟨_,by omega,b i hi⟩,fun i hi=>⟨_,by omega,c i hi⟩⟩
end Go.Proofs.YtilnjnblpeeigaaGreatDoor
namespace Go.Proofs.YtilnjnblpeeigaaGreatDoor.kernelYields
open Go.RowKit Go.Deep Go.Shelf
open Classical
set_option maxHeartbeats 8000000 in
set_option maxRecDepth 100000 in
theorem walk (a0 a1:Int) (W:World) (L:Lt W) (_h0 : -9223372036854775808<=a0/\a0<=9223372036854775807) (_h1 : -9223372036854775808<=a1/\a1<=9223372036854775807) :
  Calls Tryz.prog 6 #[.int .i64 a0,.int .i64 a1] W fun e W'=>e = .returned (.bool true)/\Below W.heap.size W W':=by
 obtain ⟨q,hq4,hq⟩:=mask3 a0
 obtain ⟨p,hp,hpb⟩:∃ p:Nat,p<256/\bits .and .i64 a1 255=(p:Int):=mask_is a1 8 (by decide)
 obtain ⟨m,hm⟩:∃ m,1+q=m:=⟨_,rfl⟩
 obtain ⟨n,hn⟩:∃ n,m+1=n:=⟨_,rfl⟩
 have hm4:1<=m/\m<=4:=by omega
 have w1:IntKind.i64.wrap (1+(q:Int))=(m:Int):=by rw [<- hm,wri (by omega) (by omega)];omega
 have w2:IntKind.i64.wrap ((m:Int)+1)=(n:Int):=by rw [<- hn,wri (by omega) (by omega)];omega
 have k0:Kv 1 0 (withH K0 (Hm 0 p 0)):=by
  have h:=boot_kv (n:=1) (m:=0) (b:=12) (Q:=[(p:Int)]) rfl (yl_boot hp)
  rw [beg_eq,beg_p hp] at h
  exact h
 obtain ⟨kA,kB,kC⟩:=yl_kv hm4 hp k0
 have HBo:Hid (∀ (g:Nat) (V:World) (T:List Th),Sep W W.heap.size V (Ta.lstI (.slice (some ⟨g,0,none⟩) 1 1) [(p:Int)]::T)->Calls Tryz.prog 8 #[.agg #[.int .i64 1,.int .i64 12,.int .i64 0,.slice (some ⟨g,0,none⟩) 1 1]] V fun r w'=>∃ pp,r = .returned (.tuple #[ptr pp,.int .i64 0])/\∃ Yl,Sep W W.heap.size w' (kT pp Yl (withH K0 (Hm 0 p 0))::T)):=fun g V T s=>by
  have h:=Boot_ok s (fun u b=>L.t.below b) (n:=1) (m:=0) (b:=12) rfl (yl_boot hp)
  rw [beg_eq,beg_p hp] at h
  refine Calls.mono h ?_
  rintro r w' ⟨pp,rfl,Yl,s'⟩
  exact ⟨pp,rfl,Yl,s'.drop2⟩
 have HA:Hid (∀ (pp:Nat) (V:World) (Yl:Ly) (T:List Th),Sep W W.heap.size V (kT pp Yl (withH K0 (Hm 0 p 0))::T)->Calls Tryz.prog 9 #[ptr pp,.int .i64 0,.agg #[.int .i64 0,.int .i64 1,.int .i64 20,.int .i64 3,.int .i64 0,.int .i64 m]] V fun r w'=>∃ ao cap Y',r = .returned (.agg #[.int .i64 0,.int .u64 0,.int .i64 (-1),.slice ao 0 cap])/\Sep W W.heap.size w' (kT pp Y' (withH (Km m) (Hm m p 0))::T)):=fun pp V Yl T s =>
  fx_do L k0 (by omega) (c:=⟨0,1,20,3,0,m⟩) ⟨sm _ rfl,sm _ rfl,sm _ rfl,small (m:Int) (by omega),rfl⟩ ((yl_do _ _ _).trans (km_is p hm4)) pp V Yl T s
 have HP:Hid (∀ (i:Nat),i<m->∀ (pp:Nat) (V:World) (Yl:Ly) (T:List Th),Sep W W.heap.size V (kT pp Yl (withH (Km m) (Hm m p i))::T)->Calls Tryz.prog 9 #[ptr pp,.int .i64 0,.agg #[.int .i64 7,.int .i64 (20+(i:Int)),.int .i64 0,.int .i64 p,.int .i64 0,.int .i64 0]] V fun r w'=>∃ ao cap Y',r = .returned (.agg #[.int .i64 0,.int .u64 0,.int .i64 (-1),.slice ao 0 cap])/\Sep W W.heap.size w' (kT pp Y' (withH (Km m) (Hn m p i))::T)):=fun i hi pp V Yl T s=>by
  obtain ⟨nn,hnn,kv⟩:=kA i (by omega)
  exact fx_do L kv (by omega) (c:=⟨7,20+(i:Int),0,p,0,0⟩) ⟨sm _ rfl,small (p:Int) (by omega),sm _ rfl,sm _ rfl,rfl⟩ ((yl_do _ _ _).trans (prio_is i hm4 hi hp)) pp V Yl T s
 have HR:Hid (∀ (i:Nat),i<m->∀ (pp:Nat) (V:World) (Yl:Ly) (T:List Th),Sep W W.heap.size V (kT pp Yl (withH (Km m) (Hn m p i))::T)->Calls Tryz.prog 9 #[ptr pp,.int .i64 0,.agg #[.int .i64 5,.int .i64 (20+(i:Int)),.int .i64 0,.int .i64 0,.int .i64 0,.int .i64 0]] V fun r w'=>∃ ao cap Y',r = .returned (.agg #[.int .i64 0,.int .u64 0,.int .i64 ((i:Int)+1),.slice ao 0 cap])/\Sep W W.heap.size w' (kT pp Y' (withH (Km m) (Hm m p (i+1)))::T)):=fun i hi pp V Yl T s=>by
  obtain ⟨nn,hnn,kv⟩:=kB i hi
  exact fx_do L kv (by omega) (c:=⟨5,20+(i:Int),0,0,0,0⟩) ⟨sm _ rfl,sm _ rfl,sm _ rfl,sm _ rfl,rfl⟩ ((yl_do _ _ _).trans (wake_is i hm4 hi hp)) pp V Yl T s
 have HY:Hid (∀ (i:Nat),i<20->∀ (pp:Nat) (V:World) (Yl:Ly) (T:List Th),Sep W W.heap.size V (kT pp Yl (withH (Km m) (Y n p i))::T)->Calls Tryz.prog 9 #[ptr pp,.int .i64 0,.agg #[.int .i64 17,.int .i64 0,.int .i64 0,.int .i64 0,.int .i64 0,.int .i64 0]] V fun r w'=>∃ ao cap Y',r = .returned (.agg #[.int .i64 0,.int .u64 0,.int .i64 (-1),.slice ao 0 cap])/\Sep W W.heap.size w' (kT pp Y' (withH (Km m) (Y n p (i+1)))::T)):=fun i hi pp V Yl T s=>by
  subst hn
  obtain ⟨nn,hnn,kv⟩:=kC i (by omega)
  exact fx_do L kv (by omega) (c:=⟨17,0,0,0,0,0⟩) ⟨sm _ rfl,sm _ rfl,sm _ rfl,sm _ rfl,rfl⟩ (yl_turn hm4 hp i).1 pp V Yl T s
 have HU:Hid (∀ (i:Nat) (pp:Nat) (V:World) (Yl:Ly) (T:List Th),Sep W W.heap.size V (kT pp Yl (withH (Km m) (Y n p i))::T)->Calls Tryz.prog 11 #[ptr pp,.int .i64 0] V fun r w'=>r = .returned (.tuple #[.int .i64 ((i % n:Nat):Int),.bool true])/\Sep W W.heap.size w' (kT pp Yl (withH (Km m) (Y n p i))::T)):=fun i pp V Yl T s=>by
  subst hn
  have h:=Runs_sep s 0
  rw [show Th.runsN (withH (Km m) (Y (m+1) p i)).h 0=((i % (m+1):Nat):Int) from (yl_turn hm4 hp i).2.2,show Th.runsB (withH (Km m) (Y (m+1) p i)).h 0=true from (yl_turn hm4 hp i).2.1] at h
  exact h
 have HM:Hid (Hm m p m=Y n p 0):=by rw [<- hn];exact hm_y hm4
 have S0:Hid (Sep W W.heap.size (W.alloc (.cells #[.int .i64 (p:Int)] 3)) [Ta.lstI (.slice (some ⟨W.heap.size,0,none⟩) 1 1) [(p:Int)]]):=Sep.lit (E:=Ta.elI) Ta.okI (sep_nil W) [(p:Int)] (by simp) #[.int .i64 (p:Int)] rfl
 have HL:=hid L
 clear L k0 kA kB kC
 have hn5:2<=n/\n<=5:=by omega
 have hnz:((n:Int) == 0)=false:=by rw [beq_eq_false_iff_ne];omega
 have HN:=hid hn
 have HQ:=hid hm
 clear hn hm hq4
 go_enter Tryz.func6,Tryz.ntmps6
 go_wp2_with (first
  | (go_at_call 8;(with_reducible refine Calls.mono (HBo.out _ _ _ S0.out) ?_);rintro e v0 ⟨pp,rfl,Y0,s0⟩;have T0:=hid s0;clear s0)
  | (go_at_call 9;(with_reducible refine Calls.mono (HA.out _ _ _ _ T0.out) ?_);rintro e v1 ⟨a1,c1,Y1,rfl,s1⟩;have T1:Hid (∃ Yl,Sep W W.heap.size _ [kT pp Yl (withH (Km m) (Hm m p 0)),blk v1.heap.size (.cells #[.int .i64 0,.int .u64 0,.int .i64 (-1),.slice a1 0 c1] 35)]):=⟨_,(s1.box (.cells #[.int .i64 0,.int .u64 0,.int .i64 (-1),.slice a1 0 c1] 35)).swap⟩;clear s1)
  | fail)
 generalize hg:v1.heap.size=g at *
 clear hg
 go_loopw [10] (fun s10 wr=>∃ i:Nat,i<=m/\s10 = .int .i64 i/\∃ Yl,Sep W W.heap.size wr [kT pp Yl (withH (Km m) (Hm m p i)),blk g (.cells #[.int .i64 0,.int .u64 0,.int .i64 (-1),.slice a1 0 c1] 35)]) (fun s10 _=>m - (intOf s10).toNat)
 case atStart=>exact ⟨0,Nat.zero_le _,rfl,T1.out⟩
 case round =>
  clear T1
  obtain ⟨i,hi,rfl,Yl,s2⟩:=hrel
  have S2:=hid s2
  clear s2
  by_cases hlt:i<m
  ·have hltz:(i:Int)<(m:Int):=by omega
   have w3:IntKind.i64.wrap (20+(i:Int))=20+(i:Int):=wri (by omega) (by omega)
   have w4:IntKind.i64.wrap ((i:Int)+1)=(i:Int)+1:=wri (by omega) (by omega)
   have HI:=hid hlt
   go_wp2_with (first
    | (go_at_call 9;(with_reducible refine Calls.mono (HP.out i HI.out _ _ _ _ S2.out) ?_);rintro e v3 ⟨a3,c3,Y3,rfl,s3⟩;have S3:=hid ((s3.box (.cells #[.int .i64 0,.int .u64 0,.int .i64 (-1),.slice a3 0 c3] 35)).swap);clear s3 S2)
    | (go_at_call 9;(with_reducible refine Calls.mono (HR.out i HI.out _ _ _ _ S3.out) ?_);rintro e v4 ⟨a4,c4,Y4,rfl,s4⟩;have s5:=(s4.box (.cells #[.int .i64 0,.int .u64 0,.int .i64 ((i:Int)+1),.slice a4 0 c4] 35)).swap;have f1:=(s5.blkCell (p:=v3.heap.size) (List.mem_cons_of_mem _ (List.mem_cons_of_mem _ List.mem_cons_self)) 0).1;have f2:=(s5.blkCell (p:=v4.heap.size) (List.mem_cons_of_mem _ List.mem_cons_self) 0).1;have f3:=(s5.blkCell (p:=v4.heap.size) (List.mem_cons_of_mem _ List.mem_cons_self) 2).1;have S5:=hid s5.drop2.drop2;clear s4 s5 S3)
    | fail)
   go_round
   case rel=>exact ⟨i+1,HI.out,by go_num,_,S5.out⟩
   case measure=>simp [intOf];have:=HI.out;omega
  ·have hltz:¬ ((i:Int)<(m:Int)):=by omega
   obtain rfl:i=m:=by omega
   have S6:Hid (Sep W W.heap.size wr [kT pp Yl (withH (Km i) (Y n p 0)),blk g (.cells #[.int .i64 0,.int .u64 0,.int .i64 (-1),.slice a1 0 c1] 35)]):=by
    rw [<- HM.out]
    exact S2.out
   clear S2
   go_wp2_with fail
   go_loopw [13] (fun s13 wx=>∃ j:Nat,j<=20/\s13 = .int .i64 j/\∃ Yj,Sep W W.heap.size wx [kT pp Yj (withH (Km i) (Y n p j)),blk g (.cells #[.int .i64 0,.int .u64 0,.int .i64 (-1),.slice a1 0 c1] 35)]) (fun s13 _=>20 - (intOf s13).toNat)
   case atStart=>exact ⟨0,Nat.zero_le _,rfl,Yl,S6.out⟩
   case round =>
    clear S6
    obtain ⟨j,hj,rfl,Yj,s7⟩:=hrel
    have S7:=hid s7
    clear s7
    by_cases hltj:j<20
    ·have hltjz:(j:Int)<20:=by omega
     obtain ⟨k,hk⟩:∃ k,j % n=k:=⟨_,rfl⟩
     have hmod:(j:Int) % (n:Int)=(k:Int):=by rw [<- hk];exact (Int.natCast_emod _ _).symm
     have HUj:=HU.out j
     rw [hk] at HUj
     have HUJ:=hid HUj
     have HJ:=hid hltj
     clear HUj hk hltj
     go_wp2_with (first
      | (go_at_call 11;(with_reducible refine Calls.mono (HUJ.out _ _ _ _ S7.out) ?_);rintro e v8 ⟨rfl,s8⟩;have S8:=hid s8;clear s8)
      | (go_at_call 9;(with_reducible refine Calls.mono (HY.out j HJ.out _ _ _ _ S8.out) ?_);rintro e v9 ⟨a9,c9,Y9,rfl,s9⟩;have s10:=(s9.box (.cells #[.int .i64 0,.int .u64 0,.int .i64 (-1),.slice a9 0 c9] 35)).swap;have f1:=(s10.blkCell (p:=v9.heap.size) (List.mem_cons_of_mem _ List.mem_cons_self) 0).1;have S10:=hid s10.drop2;clear s9 s10)
      | fail)
     go_round
     case rel=>exact ⟨j+1,by have:=HJ.out;omega,by go_num,_,S10.out⟩
     case measure=>simp [intOf];have:=HJ.out;omega
    ·obtain rfl:j=20:=by omega
     have hltjz:¬ (((20:Nat):Int)<20):=by omega
     have f1:=(S7.out.blkCell (p:=g) (List.mem_cons_of_mem _ List.mem_cons_self) 0).1
     go_wp2_with (first
      | (go_at_call 12;refine Calls.mono (fixed_any _ (HL.out.below S7.out.low)) ?_;rintro e w9 ⟨rfl,b9⟩;have B9:=hid (S7.out.below b9).low;clear b9)
      | fail)
     go_ret
     exact ⟨rfl,B9.out⟩
open Go.ChangeShapes Go.WideShapes Go.ChangeAt Go.RowKit Go.Joins
set_option maxRecDepth 100000 in
theorem contract (H:Type) (enc:TypeId×Value->H) (W:World) (base:Nat) (args:Array Value) (ds gs:List (DataW H)) (before:List MemPlace)
  (hval:∀ (j:Nat) t v,Tryz.f6.params[j]? = some t->args[j]? = some v->Value.okWide Tryz.prog W .any base t v)
  (hW:DataW.Whole enc Tryz.prog Tryz.f6.params.toList Rows.kernelYieldsSpec.vars false W args.toList ds gs before) (hL:laidMetH Tryz.prog Rows.kernelYieldsRow.laid W) :
  Calls Tryz.prog 6 args W fun e W'=>∃ v,e = .returned v/\Rows.kernelYieldsSpec.post enc Tryz.prog Tryz.f6 false true false false W args v W':=by
 have hW':=hW
 obtain ⟨p,q,hA0,hV,rfl,hfz,hnd⟩:=hW
 have hA:DataW.TrodAll enc Tryz.prog W 0 (fun _=>true) true Tryz.f6.params.toList args.toList ds p:=hA0
 rw [Tryz.params6] at hA hval
 obtain ⟨v0,vs0,d0,ds0,p0,q0,hargs,rfl,rfl,h0,r0⟩:=trodAll_cons hA
 obtain ⟨v1,vs1,d1,ds1,p1,q1,rfl,rfl,rfl,h1,r1⟩:=trodAll_cons r0
 obtain ⟨rfl,rfl,rfl⟩:=trodAll_nil r1
 obtain rfl:args=#[v0,v1]:=by cases args;simp_all
 obtain ⟨rfl,rfl⟩:=trodVars_none hV
 have k0:=h0
 have lt0:∀ x∈p0,x.block<W.heap.size:=by obtain ⟨m,hm⟩:=k0;exact DataW.trod_lt m _ _ _ hm
 have k1:=h1
 have lt1:∀ x∈p1,x.block<W.heap.size:=by obtain ⟨m,hm⟩:=k1;exact DataW.trod_lt m _ _ _ hm
 obtain ⟨a0,rfl,_,_,w0⟩:=open_int Tryz.underlying3 (hval 0 3 v0 rfl rfl) h0
 obtain ⟨a1,rfl,_,_,w1⟩:=open_int Tryz.underlying3 (hval 1 3 v1 rfl rfl) h1
 clear hA0
 refine (walk a0 a1 W (table hL) (bounds_i64 w0) (bounds_i64 w1)).mono fun e W' ⟨he,bel⟩=>?_
 subst he
 exact ⟨_,rfl,_,_,_,[],_,[],hW',trodAll_mk1 (shut_bool Tryz.underlying4 _),(trodAll_cons_mk (Below.trod laidOut (by kernel_rfl) (of_decide_eq_true (by kernel_rfl)) k0 bel lt0) (trodAll_cons_mk (Below.trod laidOut (by kernel_rfl) (of_decide_eq_true (by kernel_rfl)) k1 bel lt1) trodAll_mk0)),rfl,bel.frame _,fun h=>by cases h⟩
theorem laid_met (os:Os):laidMet Tryz.prog Rows.kernelYieldsRow.laid ((World.doorLaid Tryz.prog 40 os).forCall (fun _ _=>0) ⟨#[],#[.int .i64 0,.int .i64 0],[]⟩).memory:=
 laidMet_of_run' 8 (by kernel_rfl) (by kernel_rfl)
theorem reads (os:Os) {H:Type} (enc:TypeId×Value->H):∃ places,DataW.whole enc Tryz.prog ((World.doorLaid Tryz.prog 40 os).forCall (fun _ _=>0) ⟨#[],#[.int .i64 0,.int .i64 0],[]⟩).memory Tryz.f6.params.toList Rows.kernelYieldsSpec.vars false (#[.int .i64 0,.int .i64 0]:Array Value).toList 8=some ([.lit (.int .i64 0),.lit (.int .i64 0)],[],places):=
 ⟨[],by kernel_rfl⟩
set_option maxRecDepth 100000 in
theorem lifted (os:Os) (started:os.Started) (H:Type) (enc:TypeId×Value->H) (F:Stop.Interp) :
  ReturnsInHanded {} Tryz.checked os 6 .any ((OpenSpec.ofChange Rows.kernelYieldsSpec).preRow enc Tryz.prog Tryz.f6 Rows.kernelYieldsRow.domain false Rows.kernelYieldsRow.laid) (((OpenSpec.ofChange Rows.kernelYieldsSpec).at F).post enc Tryz.prog Tryz.f6 false true false false):=by
 obtain ⟨places,hx⟩:=reads os enc
 refine returnsInHanded_of_row (C:=Tryz.checked) (s:=OpenSpec.ofChange Rows.kernelYieldsSpec) ownK started (by kernel_rfl) Tryz.func6
  (witness_row_at (enc:=enc) (C:=Tryz.checked) false (World.doorLaid Tryz.prog 40 os) #[.int .i64 0,.int .i64 0] rfl (by kernel_rfl) (by kernel_rfl) (by kernel_rfl)
   (OpenSpec.preRow_of_cond 8 hx (by kernel_rfl) (fun k hk=>by cases hk) (by kernel_rfl) (laid_met os))) ?_
 intro W base args ds gs before hval hW _ _ _ hL _ _
 exact contract H enc W base args ds gs before hval hW hL
theorem said:Rows.KernelYieldsSaid:=
 OpenClaim.holds_of_cond 6 Tryz.f6 rfl rfl rfl rfl rfl rfl rfl ⟨rfl,rfl,rfl,rfl,rfl⟩ rfl rfl rfl rfl rfl (by kernel_rfl) Tryz.func6 (by kernel_rfl)
  (of_decide_eq_true (by kernel_rfl)) (by unfold Func.isWrapper;first | (rw [if_pos (by decide +kernel)];kernel_rfl) | (rw [if_neg (by decide +kernel)];exact ⟨rfl,rfl⟩))
  (fun os started H enc _ F=>by rw [OpenClaim.pre_eq_preRow];exact lifted os started H enc F)
theorem plain (f:FuncId) (fn:Func) (hf:Tryz.pinned.checked.prog.funcNamed "buttress/buttresslaw18.KernelYields" = some f) (hfn:Tryz.pinned.checked.prog.funcs[f]? = some fn) :
  false=Tryz.pinned.checked.prog.looks []/\∀ (j:Nat) t,fn.params[j]? = some t->Tryz.pinned.checked.prog.wantsStandIn t=false:=by
 obtain rfl:f=6:=Option.some.inj ((show Tryz.prog.funcNamed "buttress/buttresslaw18.KernelYields" = some 6 by kernel_rfl).symm.trans hf) |>.symm
 obtain rfl:fn=Tryz.f6:=(Option.some.inj (Tryz.func6.symm.trans hfn)).symm
 refine ⟨by kernel_rfl,fun j t ht=>?_⟩
 rw [Tryz.params6] at ht
 have hm:t∈[3,3]:=by simpa using Array.mem_of_getElem? ht
 have hall:([3,3].all fun u => !Tryz.prog.wantsStandIn u)=true:=by kernel_rfl
 exact (show Tryz.prog.wantsStandIn t=false by simpa using List.all_eq_true.1 hall t hm)
end Go.Proofs.YtilnjnblpeeigaaGreatDoor.kernelYields
namespace Go.Proofs.YtilnjnblpeeigaaGreatDoor
theorem kernelYields_card:Rows.KernelYieldsCardSaid:=
 Claim7.holds_tied_plain_at .later [] _ _ _ _ kernelYields.said (fun _ h=>by cases h) (by kernel_rfl) (fun _ h=>by cases h) kernelYields_row_tie rfl ⟨rfl,rfl⟩ (by kernel_rfl) rfl kernelYields.plain (by kernel_rfl)
end Go.Proofs.YtilnjnblpeeigaaGreatDoor
