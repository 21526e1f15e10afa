/-
  KernelMints: what is minted of an endpoint has no more rights: whatever the rights and the badge, the statement's function returns true; the condition: that the three tables lie where they were laid.
-/
import Derived.Test.YtilnjnblpeeigaaGreatDoorPb1
import Derived.Test.YtilnjnblpeeigaaGreatDoorPb2
import Derived.Test.YtilnjnblpeeigaaGreatDoorPb3
import Derived.Test.YtilnjnblpeeigaaGreatDoorPb4
import Derived.Test.YtilnjnblpeeigaaGreatDoorPb5
import Derived.Test.YtilnjnblpeeigaaGreatDoorPb6
import Derived.Test.YtilnjnblpeeigaaGreatDoorPb7
import Derived.Test.YtilnjnblpeeigaaGreatDoorPb8
import Derived.Test.YtilnjnblpeeigaaGreatDoorPb9
import Derived.Test.YtilnjnblpeeigaaGreatDoorPb10
import Derived.Test.YtilnjnblpeeigaaGreatDoorPb11
import Derived.Test.YtilnjnblpeeigaaGreatDoorPb12
import Derived.Test.YtilnjnblpeeigaaGreatDoorPb13
import Derived.Test.YtilnjnblpeeigaaGreatDoorPb14
import Derived.Test.YtilnjnblpeeigaaGreatDoorPb15
import Derived.Test.YtilnjnblpeeigaaGreatDoorPb16
import Derived.Test.YtilnjnblpeeigaaGreatDoorPb17
import Derived.Test.YtilnjnblpeeigaaGreatDoorPb18
import Derived.Test.YtilnjnblpeeigaaGreatDoorPb19
import Derived.Test.YtilnjnblpeeigaaGreatDoorPb20
import Derived.Test.YtilnjnblpeeigaaGreatDoorPb21
import Derived.Test.YtilnjnblpeeigaaGreatDoorPb22
import Derived.Test.YtilnjnblpeeigaaGreatDoorPb23
import Derived.Test.YtilnjnblpeeigaaGreatDoorPb24
import Derived.Test.YtilnjnblpeeigaaGreatDoorPb25
import Derived.Test.YtilnjnblpeeigaaGreatDoorPb26
import Derived.Test.YtilnjnblpeeigaaGreatDoorPb27
import Derived.Test.YtilnjnblpeeigaaGreatDoorPb28
import Derived.Test.YtilnjnblpeeigaaGreatDoorPb29
import Derived.Test.YtilnjnblpeeigaaGreatDoorPb30
import Derived.Test.YtilnjnblpeeigaaGreatDoorPb31
import Derived.Test.YtilnjnblpeeigaaGreatDoorPb32
import Derived.Test.YtilnjnblpeeigaaGreatDoorPb33
import Derived.Test.YtilnjnblpeeigaaGreatDoorPxMi1
import Derived.Test.YtilnjnblpeeigaaGreatDoorPxMi2
import Derived.Test.YtilnjnblpeeigaaGreatDoorPxMi3
import Derived.Test.YtilnjnblpeeigaaGreatDoorPxMi4
import Derived.Below
import Derived.BigQuiet
import Derived.Deep.Cut
import Derived.Deep.CutRange
import Derived.Deep.DeepHandedRow
import Derived.Deep.OwnRows
import Derived.Deep.QuietTactic
import Derived.Deep.RegionHeld3
import Derived.Deep.RegionLaw
import Derived.Deep.RegionWith
import Derived.Deep.Slices
import Derived.Deep.WholeRow
import Derived.DeepKeys4
import Derived.KernelRfl
import Derived.LaidMore
import Derived.Laws.AppendOwnNone
import Derived.Laws.BitsAllLaws
import Derived.Laws.BitsLemmas
import Derived.Laws.CopyOwn
import Derived.Laws.IdiomArrays
import Derived.Laws.StructEq
import Derived.Lib.AppendZerosOnto
import Derived.Lib.LaidTab
import Derived.Lib.Overlaps
import Derived.Lib.SliceRun
import Derived.Lib.SmallJoins
import Derived.Lib.Walk
import Derived.Maps.AppendAt
import Derived.Maps.Range
import Derived.Maps.RangeWalk
import Derived.OpenShut
import Derived.ProofKit
import Derived.Shelf.Abstract
import Derived.Shelf.RegionOpenPlain
import Derived.Shelf.SlIterI.Nil
import Derived.Shelf.SlMaps.Clone
import Derived.Shelf.SlSortCmp.NoneTotal
import Derived.Shelf.SlSortCmp.WholeK
import Derived.Shelf.SlicesE.Clone
import Derived.Shelf.SortM.Plain
import Derived.Shelf.SortM.SortNone
import Derived.Sort.Grow
import Derived.Sort.Statements
import Derived.Test.YtilnjnblpeeigaaGreatDoorCards
import Derived.Test.YtilnjnblpeeigaaGreatDoorProg
import Derived.Test.YtilnjnblpeeigaaGreatDoorRows
import Derived.Test.YtilnjnblpeeigaaGreatDoorTie
import Derived.WalkKit
import Derived.WalkLawsBesides
import Derived.WideMake
namespace Go.Proofs.YtilnjnblpeeigaaGreatDoor
open Go.RowKit Go.Deep Go.Shelf
open Classical
theorem go_to (K:Kr) (core:Int) (c:Cl):doK K core c=((goK K core c).1,(goK K core c).2):=by rw [go_eq]
set_option maxRecDepth 100000 in
theorem mints_run {r b:Int} (hr:0<=r/\r<=7) (hb:0<=b/\b<=65535):∃ Ka ta Kb tb Kc tc Kd td,doK K0 0 ⟨0,1,20,4,0,1⟩=(Ka,ta)/\ta.e=0/\doK Ka 0 ⟨1,20,21,r,b,0⟩=(Kb,tb)/\tb.e=0/\doK Kb 0 ⟨8,21,0,0,0,0⟩=(Kc,tc)/\tc.e=(if r / 2 % 2=1 then 0 else 181)/\doK Kc 0 ⟨9,21,0,0,0,0⟩=(Kd,td)/\td.e=(if r % 2=1 then 0 else 181)/\Kd.P=[[]]:=by
 have e1:doK K0 0 ⟨0,1,20,4,0,1⟩=(K1,(goK K0 0 ⟨0,1,20,4,0,1⟩).2):=go_to _ _ _
 by_cases h:b=0
 ·subst h
  obtain ⟨h1,h2,h3,h4⟩:=k3_send r hr
  have e2:doK K1 0 ⟨1,20,21,r,0,0⟩=(K3 r,(goK K1 0 ⟨1,20,21,r,0,0⟩).2):=go_to _ _ _
  exact ⟨_,_,_,_,_,_,_,_,e1,k1_ok,e2,h1,go_to _ _ _,h2,go_to _ _ _,h3,h4⟩
 ·have hb2:0<b/\b<=65536:=by omega
  have e2:doK K1 0 ⟨1,20,21,r,b,0⟩=(K2 r b,tlE 0):=by rw [go_eq];exact k2_is hr hb2
  obtain ⟨h2,h3,h4⟩:=k2_send r b hr
  exact ⟨_,_,_,_,_,_,_,_,e1,k1_ok,e2,rfl,go_to _ _ _,h2,go_to _ _ _,h3,h4⟩
theorem lw_do {w0:World} (L:Lt w0) {n m:Nat} {K K':Kr} (v:Kv n m K) (hm:m<=100000) {core:Int} {c:Cl} (b:Cd c) {t:Tl} (hX:doK K core c=(K',t)) (p:Nat) (W:World) (Y:Ly) (T:List Th) (s:Sep w0 w0.heap.size W (kT p Y K::T)) :
  Calls Tryz.prog 9 #[ptr p,.int .i64 core,.agg #[.int .i64 c.q,.int .i64 c.a,.int .i64 c.w,.int .i64 c.A,.int .i64 c.B,.int .i64 c.C]] W fun r w'=>∃ ao cap Y',r = .returned (.agg #[.int .i64 t.e,.int .u64 t.w,.int .i64 t.k,.slice ao t.f.length cap])/\Sep w0 w0.heap.size w' (kT p Y' K'::T):=by
 refine Calls.mono (do_law s L v hm core b (e:=t.e) (x:=t.w) (k:=t.k) (f:=t.f) hX) ?_
 rintro r w' ⟨ao,cap,Y',rfl,s'⟩
 exact ⟨ao,cap,Y',rfl,s'.drop2⟩
theorem alike_any (a b:Bool) (w:World):Calls Tryz.prog 17 #[.bool a,.bool b] w fun e w'=>e = .returned (.bool (a == b))/\w'=w:=by
 cases a <;> cases b
 all_goals
  go_enter Tryz.func17,Tryz.ntmps17
  go_wp2
  go_ret
  exact ⟨rfl,rfl⟩
theorem bit_1 {r:Int} (h:0<=r/\r<=7):(bits .and .i64 r 1 != 0)=(r % 2 == 1):=by
 have:r=0\/r=1\/r=2\/r=3\/r=4\/r=5\/r=6\/r=7:=by omega
 rcases this with rfl | rfl | rfl | rfl | rfl | rfl | rfl | rfl <;> rfl
theorem bit_2 {r:Int} (h:0<=r/\r<=7):(bits .and .i64 r 2 != 0)=(r / 2 % 2 == 1):=by
 have:r=0\/r=1\/r=2\/r=3\/r=4\/r=5\/r=6\/r=7:=by omega
 rcases this with rfl | rfl | rfl | rfl | rfl | rfl | rfl | rfl <;> rfl
theorem bne_spell {x:Int} {β:Bool} (h:(x != 0)=β):(x == 0) = !β/\decide (x=0) = !β:=by
 subst h
 by_cases e:x=0
 ·subst e
  exact ⟨rfl,rfl⟩
 ·have h1:(x == 0)=false:=by simpa using e
  have h2:(x != 0)=true:=by simpa using e
  rw [h1,h2,decide_eq_false e]
  exact ⟨rfl,rfl⟩
end Go.Proofs.YtilnjnblpeeigaaGreatDoor
namespace Go.Proofs.YtilnjnblpeeigaaGreatDoor.kernelMints
open Go.RowKit Go.Deep Go.Shelf
open Classical
set_option maxHeartbeats 8000000 in
set_option maxRecDepth 100000 in
theorem walk (a0 a1:Int) (W:World) (L:Lt W) (_h0 : -9223372036854775808<=a0/\a0<=9223372036854775807) (_h1 : -9223372036854775808<=a1/\a1<=9223372036854775807) :
  Calls Tryz.prog 7 #[.int .i64 a0,.int .i64 a1] W fun e W'=>e = .returned (.bool true)/\Below W.heap.size W W':=by
 obtain ⟨r,hr8,hr⟩:=mask7 a0
 obtain ⟨b,hb8,hb⟩:=mask64k a1
 obtain ⟨Ka,ta,Kb,tb,Kc,tc,Kd,td,xa,ea,xb,eb,xc,ec,xd,ed,hP⟩:=mints_run (r:=(r:Int)) (b:=(b:Int)) (by omega) (by omega)
 have k0:Kv 1 0 K0:=by
  have h:=boot_kv (n:=1) (m:=0) (b:=12) (Q:=[5]) rfl rfl
  rw [beg_eq] at h
  exact h
 have ka:=k0.call (by omega) (small _ (by decide)) xa
 have hbI:I64 (b:Int):=⟨by omega,by omega⟩
 have kb:=ka.call (by omega) hbI xb
 have kc:=kb.call (by omega) (small _ (by decide)) xc
 have hc2:(tc.e=0/\(bits .and .i64 (r:Int) 2 != 0)=true)\/(tc.e=181/\(bits .and .i64 (r:Int) 2 != 0)=false):=by
  rw [bit_2 (by omega)]
  by_cases h:(r:Int) / 2 % 2=1
  ·rw [if_pos h] at ec
   exact .inl ⟨ec,beq_iff_eq.2 h⟩
  ·rw [if_neg h] at ec
   exact .inr ⟨ec,beq_eq_false_iff_ne.2 h⟩
 have hd2:(td.e=0/\(bits .and .i64 (r:Int) 1 != 0)=true)\/(td.e=181/\(bits .and .i64 (r:Int) 1 != 0)=false):=by
  rw [bit_1 (by omega)]
  by_cases h:(r:Int) % 2=1
  ·rw [if_pos h] at ed
   exact .inl ⟨ed,beq_iff_eq.2 h⟩
  ·rw [if_neg h] at ed
   exact .inr ⟨ed,beq_eq_false_iff_ne.2 h⟩
 have HA:=fun p V Y T s=>lw_do L k0 (by omega) ⟨small _ (by decide),small _ (by decide),small _ (by decide),small _ (by decide),rfl⟩ xa p V Y T s
 have HBB:=fun p V Y T s=>lw_do L ka (by omega) ⟨small 21 (by decide),small (r:Int) (by omega),hbI,small 0 (by decide),rfl⟩ xb p V Y T s
 have HC:=fun p V Y T s=>lw_do L kb (by omega) ⟨small _ (by decide),small _ (by decide),small _ (by decide),small _ (by decide),rfl⟩ xc p V Y T s
 have HD:=fun p V Y T s=>lw_do L kc (by omega) ⟨small _ (by decide),small _ (by decide),small _ (by decide),small _ (by decide),rfl⟩ xd p V Y T s
 rw [ea] at HA
 rw [eb] at HBB
 have HBo:Hid (∀ (g:Nat) (V:World) (T:List Th),Sep W W.heap.size V (Ta.lstI (.slice (some ⟨g,0,none⟩) 1 1) [5]::T)->Calls Tryz.prog 8 #[.agg #[.int .i64 1,.int .i64 12,.int .i64 0,.slice (some ⟨g,0,none⟩) 1 1]] V fun r w'=>∃ p,r = .returned (.tuple #[ptr p,.int .i64 0])/\∃ Y,Sep W W.heap.size w' (kT p Y K0::T)):=fun g V T s=>by
  have h:=Boot_ok s (fun u b=>L.t.below b) (n:=1) (m:=0) (b:=12) rfl rfl
  rw [beg_eq] at h
  refine Calls.mono h ?_
  rintro r w' ⟨p,rfl,Y,s'⟩
  exact ⟨p,rfl,Y,s'.drop2⟩
 have HWt:Hid (∀ (p:Nat) (V:World) (Y:Ly) (T:List Th),Sep W W.heap.size V (kT p Y Kd::T)->Calls Tryz.prog 16 #[ptr p,.int .i64 0] V fun r w'=>∃ ao cap,r = .returned (.tuple #[.slice ao 0 cap,.bool false])/\Sep W W.heap.size w' (kT p Y Kd::T)):=fun p V Y T s=>by
  refine Calls.mono (Waits_yes s (n:=0) (i:=0) rfl (S:=[]) (by rw [hP];rfl) (by decide)) ?_
  rintro r w' ⟨ao,cap,rfl,s'⟩
  exact ⟨ao,cap,rfl,s'.drop2⟩
 have S0:Hid (Sep W W.heap.size (W.alloc (.cells #[.int .i64 5] 3)) [Ta.lstI (.slice (some ⟨W.heap.size,0,none⟩) 1 1) [5]]):=Sep.lit (E:=Ta.elI) Ta.okI (sep_nil W) [5] (by simp) #[.int .i64 5] rfl
 have HL:=hid L
 clear L xa xb xc xd ea eb ec ed hP k0 ka kb kc hbI hr8 hb8
 rcases hc2 with ⟨ec,w2⟩ | ⟨ec,w2⟩
 ·rcases hd2 with ⟨ed,w1⟩ | ⟨ed,w1⟩
  ·obtain ⟨w21,w22⟩:=bne_spell w2
   obtain ⟨w11,w12⟩:=bne_spell w1
   rw [ec] at HC
   rw [ed] at HD
   have H1:=hid HA
   have H2:=hid HBB
   have H3:=hid HC
   have H4:=hid HD
   clear HA HBB HC HD ec ed
   go_enter Tryz.func7,Tryz.ntmps7
   go_wp2_with (first
    | (go_at_call 8;(with_reducible refine Calls.mono (HBo.out _ _ _ S0.out) ?_);rintro e v0 ⟨p,rfl,Y0,s0⟩;have T0:=hid s0;clear s0)
    | (go_at_call 9;(with_reducible refine Calls.mono (H1.out _ _ _ _ T0.out) ?_);rintro e v1 ⟨a1,c1,Y1,rfl,s1⟩;have T1:=hid ((s1.box (.cells #[.int .i64 0,.int .u64 ta.w,.int .i64 ta.k,.slice a1 ta.f.length c1] 35)).swap);clear s1)
    | (go_at_call 9;(with_reducible refine Calls.mono (H2.out _ _ _ _ T1.out) ?_);rintro e v2 ⟨a2,c2,Y2,rfl,s2⟩;have T2:=hid ((s2.box (.cells #[.int .i64 0,.int .u64 tb.w,.int .i64 tb.k,.slice a2 tb.f.length c2] 35)).swap);clear s2)
    | (go_at_call 9;(with_reducible refine Calls.mono (H3.out _ _ _ _ T2.out) ?_);rintro e v3 ⟨a3,c3,Y3,rfl,s3⟩;have T3:=hid ((s3.box (.cells #[.int .i64 0,.int .u64 tc.w,.int .i64 tc.k,.slice a3 tc.f.length c3] 35)).swap);clear s3)
    | (go_at_call 9;(with_reducible refine Calls.mono (H4.out _ _ _ _ T3.out) ?_);rintro e v4 ⟨a4,c4,Y4,rfl,s4⟩;have T4:=hid ((s4.box (.cells #[.int .i64 0,.int .u64 td.w,.int .i64 td.k,.slice a4 td.f.length c4] 35)).swap);clear s4)
    | (go_at_call 16;(with_reducible refine Calls.mono (HWt.out _ _ _ _ T4.out) ?_);rintro e v5 ⟨a5,c5,rfl,s5⟩;have f1:v5.cell? ⟨v1.heap.size,0,none⟩=some (.int .i64 0):=(s5.blkCell (p:=v1.heap.size) (List.mem_cons_of_mem _ (List.mem_cons_of_mem _ (List.mem_cons_of_mem _ (List.mem_cons_of_mem _ (List.mem_cons_self))))) 0).1;have f2:v5.cell? ⟨v2.heap.size,0,none⟩=some (.int .i64 0):=(s5.blkCell (p:=v2.heap.size) (List.mem_cons_of_mem _ (List.mem_cons_of_mem _ (List.mem_cons_of_mem _ (List.mem_cons_self)))) 0).1;have f3:v5.cell? ⟨v3.heap.size,0,none⟩=some (.int .i64 0):=(s5.blkCell (p:=v3.heap.size) (List.mem_cons_of_mem _ (List.mem_cons_of_mem _ (List.mem_cons_self))) 0).1;have f4:v5.cell? ⟨v4.heap.size,0,none⟩=some (.int .i64 0):=(s5.blkCell (p:=v4.heap.size) (List.mem_cons_of_mem _ (List.mem_cons_self)) 0).1;have T5:=hid s5;clear s5)
    | (go_at_call 17;refine Calls.mono (alike_any _ _ _) ?_;rintro e w6 ⟨rfl,rfl⟩)
    | (go_at_call 12;refine Calls.mono (fixed_any _ (HL.out.below T5.out.low)) ?_;rintro e w7 ⟨rfl,b7⟩;have B7:=hid (T5.out.below b7).low;clear b7)
    | fail)
   go_ret
   exact ⟨rfl,B7.out⟩
  ·obtain ⟨w21,w22⟩:=bne_spell w2
   obtain ⟨w11,w12⟩:=bne_spell w1
   rw [ec] at HC
   rw [ed] at HD
   have H1:=hid HA
   have H2:=hid HBB
   have H3:=hid HC
   have H4:=hid HD
   clear HA HBB HC HD ec ed
   go_enter Tryz.func7,Tryz.ntmps7
   go_wp2_with (first
    | (go_at_call 8;(with_reducible refine Calls.mono (HBo.out _ _ _ S0.out) ?_);rintro e v0 ⟨p,rfl,Y0,s0⟩;have T0:=hid s0;clear s0)
    | (go_at_call 9;(with_reducible refine Calls.mono (H1.out _ _ _ _ T0.out) ?_);rintro e v1 ⟨a1,c1,Y1,rfl,s1⟩;have T1:=hid ((s1.box (.cells #[.int .i64 0,.int .u64 ta.w,.int .i64 ta.k,.slice a1 ta.f.length c1] 35)).swap);clear s1)
    | (go_at_call 9;(with_reducible refine Calls.mono (H2.out _ _ _ _ T1.out) ?_);rintro e v2 ⟨a2,c2,Y2,rfl,s2⟩;have T2:=hid ((s2.box (.cells #[.int .i64 0,.int .u64 tb.w,.int .i64 tb.k,.slice a2 tb.f.length c2] 35)).swap);clear s2)
    | (go_at_call 9;(with_reducible refine Calls.mono (H3.out _ _ _ _ T2.out) ?_);rintro e v3 ⟨a3,c3,Y3,rfl,s3⟩;have T3:=hid ((s3.box (.cells #[.int .i64 0,.int .u64 tc.w,.int .i64 tc.k,.slice a3 tc.f.length c3] 35)).swap);clear s3)
    | (go_at_call 9;(with_reducible refine Calls.mono (H4.out _ _ _ _ T3.out) ?_);rintro e v4 ⟨a4,c4,Y4,rfl,s4⟩;have T4:=hid ((s4.box (.cells #[.int .i64 181,.int .u64 td.w,.int .i64 td.k,.slice a4 td.f.length c4] 35)).swap);clear s4)
    | (go_at_call 16;(with_reducible refine Calls.mono (HWt.out _ _ _ _ T4.out) ?_);rintro e v5 ⟨a5,c5,rfl,s5⟩;have f1:v5.cell? ⟨v1.heap.size,0,none⟩=some (.int .i64 0):=(s5.blkCell (p:=v1.heap.size) (List.mem_cons_of_mem _ (List.mem_cons_of_mem _ (List.mem_cons_of_mem _ (List.mem_cons_of_mem _ (List.mem_cons_self))))) 0).1;have f2:v5.cell? ⟨v2.heap.size,0,none⟩=some (.int .i64 0):=(s5.blkCell (p:=v2.heap.size) (List.mem_cons_of_mem _ (List.mem_cons_of_mem _ (List.mem_cons_of_mem _ (List.mem_cons_self)))) 0).1;have f3:v5.cell? ⟨v3.heap.size,0,none⟩=some (.int .i64 0):=(s5.blkCell (p:=v3.heap.size) (List.mem_cons_of_mem _ (List.mem_cons_of_mem _ (List.mem_cons_self))) 0).1;have f4:v5.cell? ⟨v4.heap.size,0,none⟩=some (.int .i64 181):=(s5.blkCell (p:=v4.heap.size) (List.mem_cons_of_mem _ (List.mem_cons_self)) 0).1;have T5:=hid s5;clear s5)
    | (go_at_call 17;refine Calls.mono (alike_any _ _ _) ?_;rintro e w6 ⟨rfl,rfl⟩)
    | (go_at_call 12;refine Calls.mono (fixed_any _ (HL.out.below T5.out.low)) ?_;rintro e w7 ⟨rfl,b7⟩;have B7:=hid (T5.out.below b7).low;clear b7)
    | fail)
   go_ret
   exact ⟨rfl,B7.out⟩
 ·rcases hd2 with ⟨ed,w1⟩ | ⟨ed,w1⟩
  ·obtain ⟨w21,w22⟩:=bne_spell w2
   obtain ⟨w11,w12⟩:=bne_spell w1
   rw [ec] at HC
   rw [ed] at HD
   have H1:=hid HA
   have H2:=hid HBB
   have H3:=hid HC
   have H4:=hid HD
   clear HA HBB HC HD ec ed
   go_enter Tryz.func7,Tryz.ntmps7
   go_wp2_with (first
    | (go_at_call 8;(with_reducible refine Calls.mono (HBo.out _ _ _ S0.out) ?_);rintro e v0 ⟨p,rfl,Y0,s0⟩;have T0:=hid s0;clear s0)
    | (go_at_call 9;(with_reducible refine Calls.mono (H1.out _ _ _ _ T0.out) ?_);rintro e v1 ⟨a1,c1,Y1,rfl,s1⟩;have T1:=hid ((s1.box (.cells #[.int .i64 0,.int .u64 ta.w,.int .i64 ta.k,.slice a1 ta.f.length c1] 35)).swap);clear s1)
    | (go_at_call 9;(with_reducible refine Calls.mono (H2.out _ _ _ _ T1.out) ?_);rintro e v2 ⟨a2,c2,Y2,rfl,s2⟩;have T2:=hid ((s2.box (.cells #[.int .i64 0,.int .u64 tb.w,.int .i64 tb.k,.slice a2 tb.f.length c2] 35)).swap);clear s2)
    | (go_at_call 9;(with_reducible refine Calls.mono (H3.out _ _ _ _ T2.out) ?_);rintro e v3 ⟨a3,c3,Y3,rfl,s3⟩;have T3:=hid ((s3.box (.cells #[.int .i64 181,.int .u64 tc.w,.int .i64 tc.k,.slice a3 tc.f.length c3] 35)).swap);clear s3)
    | (go_at_call 9;(with_reducible refine Calls.mono (H4.out _ _ _ _ T3.out) ?_);rintro e v4 ⟨a4,c4,Y4,rfl,s4⟩;have T4:=hid ((s4.box (.cells #[.int .i64 0,.int .u64 td.w,.int .i64 td.k,.slice a4 td.f.length c4] 35)).swap);clear s4)
    | (go_at_call 16;(with_reducible refine Calls.mono (HWt.out _ _ _ _ T4.out) ?_);rintro e v5 ⟨a5,c5,rfl,s5⟩;have f1:v5.cell? ⟨v1.heap.size,0,none⟩=some (.int .i64 0):=(s5.blkCell (p:=v1.heap.size) (List.mem_cons_of_mem _ (List.mem_cons_of_mem _ (List.mem_cons_of_mem _ (List.mem_cons_of_mem _ (List.mem_cons_self))))) 0).1;have f2:v5.cell? ⟨v2.heap.size,0,none⟩=some (.int .i64 0):=(s5.blkCell (p:=v2.heap.size) (List.mem_cons_of_mem _ (List.mem_cons_of_mem _ (List.mem_cons_of_mem _ (List.mem_cons_self)))) 0).1;have f3:v5.cell? ⟨v3.heap.size,0,none⟩=some (.int .i64 181):=(s5.blkCell (p:=v3.heap.size) (List.mem_cons_of_mem _ (List.mem_cons_of_mem _ (List.mem_cons_self))) 0).1;have f4:v5.cell? ⟨v4.heap.size,0,none⟩=some (.int .i64 0):=(s5.blkCell (p:=v4.heap.size) (List.mem_cons_of_mem _ (List.mem_cons_self)) 0).1;have T5:=hid s5;clear s5)
    | (go_at_call 17;refine Calls.mono (alike_any _ _ _) ?_;rintro e w6 ⟨rfl,rfl⟩)
    | (go_at_call 12;refine Calls.mono (fixed_any _ (HL.out.below T5.out.low)) ?_;rintro e w7 ⟨rfl,b7⟩;have B7:=hid (T5.out.below b7).low;clear b7)
    | fail)
   go_ret
   exact ⟨rfl,B7.out⟩
  ·obtain ⟨w21,w22⟩:=bne_spell w2
   obtain ⟨w11,w12⟩:=bne_spell w1
   rw [ec] at HC
   rw [ed] at HD
   have H1:=hid HA
   have H2:=hid HBB
   have H3:=hid HC
   have H4:=hid HD
   clear HA HBB HC HD ec ed
   go_enter Tryz.func7,Tryz.ntmps7
   go_wp2_with (first
    | (go_at_call 8;(with_reducible refine Calls.mono (HBo.out _ _ _ S0.out) ?_);rintro e v0 ⟨p,rfl,Y0,s0⟩;have T0:=hid s0;clear s0)
    | (go_at_call 9;(with_reducible refine Calls.mono (H1.out _ _ _ _ T0.out) ?_);rintro e v1 ⟨a1,c1,Y1,rfl,s1⟩;have T1:=hid ((s1.box (.cells #[.int .i64 0,.int .u64 ta.w,.int .i64 ta.k,.slice a1 ta.f.length c1] 35)).swap);clear s1)
    | (go_at_call 9;(with_reducible refine Calls.mono (H2.out _ _ _ _ T1.out) ?_);rintro e v2 ⟨a2,c2,Y2,rfl,s2⟩;have T2:=hid ((s2.box (.cells #[.int .i64 0,.int .u64 tb.w,.int .i64 tb.k,.slice a2 tb.f.length c2] 35)).swap);clear s2)
    | (go_at_call 9;(with_reducible refine Calls.mono (H3.out _ _ _ _ T2.out) ?_);rintro e v3 ⟨a3,c3,Y3,rfl,s3⟩;have T3:=hid ((s3.box (.cells #[.int .i64 181,.int .u64 tc.w,.int .i64 tc.k,.slice a3 tc.f.length c3] 35)).swap);clear s3)
    | (go_at_call 9;(with_reducible refine Calls.mono (H4.out _ _ _ _ T3.out) ?_);rintro e v4 ⟨a4,c4,Y4,rfl,s4⟩;have T4:=hid ((s4.box (.cells #[.int .i64 181,.int .u64 td.w,.int .i64 td.k,.slice a4 td.f.length c4] 35)).swap);clear s4)
    | (go_at_call 16;(with_reducible refine Calls.mono (HWt.out _ _ _ _ T4.out) ?_);rintro e v5 ⟨a5,c5,rfl,s5⟩;have f1:v5.cell? ⟨v1.heap.size,0,none⟩=some (.int .i64 0):=(s5.blkCell (p:=v1.heap.size) (List.mem_cons_of_mem _ (List.mem_cons_of_mem _ (List.mem_cons_of_mem _ (List.mem_cons_of_mem _ (List.mem_cons_self))))) 0).1;have f2:v5.cell? ⟨v2.heap.size,0,none⟩=some (.int .i64 0):=(s5.blkCell (p:=v2.heap.size) (List.mem_cons_of_mem _ (List.mem_cons_of_mem _ (List.mem_cons_of_mem _ (List.mem_cons_self)))) 0).1;have f3:v5.cell? ⟨v3.heap.size,0,none⟩=some (.int .i64 181):=(s5.blkCell (p:=v3.heap.size) (List.mem_cons_of_mem _ (List.mem_cons_of_mem _ (List.mem_cons_self))) 0).1;have f4:v5.cell? ⟨v4.heap.size,0,none⟩=some (.int .i64 181):=(s5.blkCell (p:=v4.heap.size) (List.mem_cons_of_mem _ (List.mem_cons_self)) 0).1;have T5:=hid s5;clear s5)
    | (go_at_call 17;refine Calls.mono (alike_any _ _ _) ?_;rintro e w6 ⟨rfl,rfl⟩)
    | (go_at_call 12;refine Calls.mono (fixed_any _ (HL.out.below T5.out.low)) ?_;rintro e w7 ⟨rfl,b7⟩;have B7:=hid (T5.out.below b7).low;clear b7)
    | fail)
   go_ret
   exact ⟨rfl,B7.out⟩
open Go.ChangeShapes Go.WideShapes Go.ChangeAt Go.RowKit Go.Joins
set_option maxRecDepth 100000 in
theorem contract (H:Type) (enc:TypeId×Value->H) (W:World) (base:Nat) (args:Array Value) (ds gs:List (DataW H)) (before:List MemPlace)
  (hval:∀ (j:Nat) t v,Tryz.f7.params[j]? = some t->args[j]? = some v->Value.okWide Tryz.prog W .any base t v)
  (hW:DataW.Whole enc Tryz.prog Tryz.f7.params.toList Rows.kernelMintsSpec.vars false W args.toList ds gs before) (hL:laidMetH Tryz.prog Rows.kernelMintsRow.laid W) :
  Calls Tryz.prog 7 args W fun e W'=>∃ v,e = .returned v/\Rows.kernelMintsSpec.post enc Tryz.prog Tryz.f7 false true false false W args v W':=by
 have hW':=hW
 obtain ⟨p,q,hA0,hV,rfl,hfz,hnd⟩:=hW
 have hA:DataW.TrodAll enc Tryz.prog W 0 (fun _=>true) true Tryz.f7.params.toList args.toList ds p:=hA0
 rw [Tryz.params7] at hA hval
 obtain ⟨v0,vs0,d0,ds0,p0,q0,hargs,rfl,rfl,h0,r0⟩:=trodAll_cons hA
 obtain ⟨v1,vs1,d1,ds1,p1,q1,rfl,rfl,rfl,h1,r1⟩:=trodAll_cons r0
 obtain ⟨rfl,rfl,rfl⟩:=trodAll_nil r1
 obtain rfl:args=#[v0,v1]:=by cases args;simp_all
 obtain ⟨rfl,rfl⟩:=trodVars_none hV
 have k0:=h0
 have lt0:∀ x∈p0,x.block<W.heap.size:=by obtain ⟨m,hm⟩:=k0;exact DataW.trod_lt m _ _ _ hm
 have k1:=h1
 have lt1:∀ x∈p1,x.block<W.heap.size:=by obtain ⟨m,hm⟩:=k1;exact DataW.trod_lt m _ _ _ hm
 obtain ⟨a0,rfl,_,_,w0⟩:=open_int Tryz.underlying3 (hval 0 3 v0 rfl rfl) h0
 obtain ⟨a1,rfl,_,_,w1⟩:=open_int Tryz.underlying3 (hval 1 3 v1 rfl rfl) h1
 clear hA0
 refine (walk a0 a1 W (table hL) (bounds_i64 w0) (bounds_i64 w1)).mono fun e W' ⟨he,bel⟩=>?_
 subst he
 exact ⟨_,rfl,_,_,_,[],_,[],hW',trodAll_mk1 (shut_bool Tryz.underlying4 _),(trodAll_cons_mk (Below.trod laidOut (by kernel_rfl) (of_decide_eq_true (by kernel_rfl)) k0 bel lt0) (trodAll_cons_mk (Below.trod laidOut (by kernel_rfl) (of_decide_eq_true (by kernel_rfl)) k1 bel lt1) trodAll_mk0)),rfl,bel.frame _,fun h=>by cases h⟩
theorem laid_met (os:Os):laidMet Tryz.prog Rows.kernelMintsRow.laid ((World.doorLaid Tryz.prog 40 os).forCall (fun _ _=>0) ⟨#[],#[.int .i64 0,.int .i64 0],[]⟩).memory:=
 laidMet_of_run' 8 (by kernel_rfl) (by kernel_rfl)
theorem reads (os:Os) {H:Type} (enc:TypeId×Value->H):∃ places,DataW.whole enc Tryz.prog ((World.doorLaid Tryz.prog 40 os).forCall (fun _ _=>0) ⟨#[],#[.int .i64 0,.int .i64 0],[]⟩).memory Tryz.f7.params.toList Rows.kernelMintsSpec.vars false (#[.int .i64 0,.int .i64 0]:Array Value).toList 8=some ([.lit (.int .i64 0),.lit (.int .i64 0)],[],places):=
 ⟨[],by kernel_rfl⟩
set_option maxRecDepth 100000 in
theorem lifted (os:Os) (started:os.Started) (H:Type) (enc:TypeId×Value->H) (F:Stop.Interp) :
  ReturnsInHanded {} Tryz.checked os 7 .any ((OpenSpec.ofChange Rows.kernelMintsSpec).preRow enc Tryz.prog Tryz.f7 Rows.kernelMintsRow.domain false Rows.kernelMintsRow.laid) (((OpenSpec.ofChange Rows.kernelMintsSpec).at F).post enc Tryz.prog Tryz.f7 false true false false):=by
 obtain ⟨places,hx⟩:=reads os enc
 refine returnsInHanded_of_row (C:=Tryz.checked) (s:=OpenSpec.ofChange Rows.kernelMintsSpec) ownK started (by kernel_rfl) Tryz.func7
  (witness_row_at (enc:=enc) (C:=Tryz.checked) false (World.doorLaid Tryz.prog 40 os) #[.int .i64 0,.int .i64 0] rfl (by kernel_rfl) (by kernel_rfl) (by kernel_rfl)
   (OpenSpec.preRow_of_cond 8 hx (by kernel_rfl) (fun k hk=>by cases hk) (by kernel_rfl) (laid_met os))) ?_
 intro W base args ds gs before hval hW _ _ _ hL _ _
 exact contract H enc W base args ds gs before hval hW hL
theorem said:Rows.KernelMintsSaid:=
 OpenClaim.holds_of_cond 7 Tryz.f7 rfl rfl rfl rfl rfl rfl rfl ⟨rfl,rfl,rfl,rfl,rfl⟩ rfl rfl rfl rfl rfl (by kernel_rfl) Tryz.func7 (by kernel_rfl)
  (of_decide_eq_true (by kernel_rfl)) (by unfold Func.isWrapper;first | (rw [if_pos (by decide +kernel)];kernel_rfl) | (rw [if_neg (by decide +kernel)];exact ⟨rfl,rfl⟩))
  (fun os started H enc _ F=>by rw [OpenClaim.pre_eq_preRow];exact lifted os started H enc F)
theorem plain (f:FuncId) (fn:Func) (hf:Tryz.pinned.checked.prog.funcNamed "buttress/buttresslaw18.KernelMints" = some f) (hfn:Tryz.pinned.checked.prog.funcs[f]? = some fn) :
  false=Tryz.pinned.checked.prog.looks []/\∀ (j:Nat) t,fn.params[j]? = some t->Tryz.pinned.checked.prog.wantsStandIn t=false:=by
 obtain rfl:f=7:=Option.some.inj ((show Tryz.prog.funcNamed "buttress/buttresslaw18.KernelMints" = some 7 by kernel_rfl).symm.trans hf) |>.symm
 obtain rfl:fn=Tryz.f7:=(Option.some.inj (Tryz.func7.symm.trans hfn)).symm
 refine ⟨by kernel_rfl,fun j t ht=>?_⟩
 rw [Tryz.params7] at ht
 have hm:t∈[3,3]:=by simpa using Array.mem_of_getElem? ht
 have hall:([3,3].all fun u => !Tryz.prog.wantsStandIn u)=true:=by kernel_rfl
 exact (show Tryz.prog.wantsStandIn t=false by simpa using List.all_eq_true.1 hall t hm)
end Go.Proofs.YtilnjnblpeeigaaGreatDoor.kernelMints
namespace Go.Proofs.YtilnjnblpeeigaaGreatDoor
theorem kernelMints_card:Rows.KernelMintsCardSaid:=
 Claim7.holds_tied_plain_at .later [] _ _ _ _ kernelMints.said (fun _ h=>by cases h) (by kernel_rfl) (fun _ h=>by cases h) kernelMints_row_tie rfl ⟨rfl,rfl⟩ (by kernel_rfl) rfl kernelMints.plain (by kernel_rfl)
end Go.Proofs.YtilnjnblpeeigaaGreatDoor
