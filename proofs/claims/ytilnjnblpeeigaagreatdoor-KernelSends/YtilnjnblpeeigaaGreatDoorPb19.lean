/-
  What stands below: KSlB; no condition but what each says.
-/
import Derived.Test.YtilnjnblpeeigaaGreatDoorPb1
import Derived.Test.YtilnjnblpeeigaaGreatDoorPb5
import Derived.Laws.BitsAllLaws
import Derived.Test.YtilnjnblpeeigaaGreatDoorRows
import Derived.WalkKit
import Derived.WalkLawsBesides
import Derived.Deep.QuietTactic
import Derived.BigQuiet
import Derived.Laws.StructEq
import Derived.Below
import Derived.Deep.OwnRows
import Derived.Deep.RegionWith
import Derived.Deep.RegionHeld3
import Derived.Maps.Range
import Derived.Maps.RangeWalk
import Derived.DeepKeys4
import Derived.Deep.Cut
import Derived.Maps.AppendAt
import Derived.Laws.CopyOwn
import Derived.Lib.SliceRun
import Derived.Deep.CutRange
import Derived.Sort.Grow
import Derived.Sort.Statements
import Derived.Shelf.SlSortCmp.WholeK
import Derived.Shelf.SlSortCmp.NoneTotal
import Derived.Shelf.SlMaps.Clone
import Derived.Shelf.SlicesE.Clone
set_option maxRecDepth 100000
namespace Go.Proofs.YtilnjnblpeeigaaGreatDoor.Sl
open Go.RowKit Go.Deep Go.MapKept Go.Maps
open Go.ChangeMaps (setBlock heap_setBlock_same heap_setBlock_other modify_eq_set)
set_option linter.unusedSectionVars false
variable [dCp:DecidableEq Cp] [dLim:∀ k,Decidable (Lim k)] [dBad:∀ k,Decidable (Bad k)] [dFit:∀ g z,Decidable (Fit g z)] [dFine:∀ c,Decidable (Fine c)] [dMint:∀ c v,Decidable (MintR c v)] [dWho:∀ x y,Decidable (Whose x y)] [dSl:DecidableEq Sl] [dLt:∀ a b,Decidable (ltS a b)]
section
variable {w:World} {b r:Nat} {f:Sl->Option Cp} {A:List (Sl×Cp)} {cnt:Nat}
theorem Ranges.left (h:Ranges w b r f A cnt):w.rangeLeft b r=cnt:=by
 obtain ⟨es,clock,since,seen,c0,hb,_,_,hr,_,_,_,hc,_⟩:=h
 simp only [World.rangeLeft,hb,hr]
 exact hc
theorem Ranges.apart (h:Ranges w b r f A cnt):A.Pairwise (fun p q=>p.1≠q.1):=by
 obtain ⟨es,clock,since,seen,c0,hb,st,F,hr,_,_,_,_,_,hA⟩:=h
 exact hA
theorem MapIs.range (h:MapIs w b f):∃ w' cnt,(Instr.range 126 (.map (some b))).run Tryz.prog w = .ok (.pointer (some ⟨w.heap.size,0,none⟩)) w'/\Ranges w' b w.heap.size f [] cnt/\w.grownBy w' none/\w'.heap.size=w.heap.size+1:=by
 have hlt:=h.lt
 obtain ⟨es,clock,hb,st,F⟩:=h
 exact ⟨_,_,run_range_map w _ _ _ b es clock Tryz.underlying126 hb,⟨es,clock,clock,#[],clock,(blk_alloc_lt _ _ _ hlt).trans hb,st,F,blk_alloc_new _ _,st.1,Nat.le_refl _,Nat.le_refl _,rfl,by simp,by simp⟩,World.grownBy_alloc w _ none,by simp⟩
theorem Ranges.next (h:Ranges w b r f A cnt) (ty:TypeId) :
  (cnt=0/\(Instr.next (.pointer (some ⟨r,0,none⟩)) false ty).run Tryz.prog w = .ok (.tuple #[.bool false]) w) \/
  ∃ s c w' cnt',(Instr.next (.pointer (some ⟨r,0,none⟩)) false ty).run Tryz.prog w = .ok (.tuple #[.bool true,encS s,encC c]) w'/\Ranges w' b r f (A++[(s,c)]) cnt'/\cnt'<cnt/\w.grownBy w' (some r)/\w'.heap.size=w.heap.size /\
   (Instr.entry (.pointer (some ⟨r,0,none⟩))).run Tryz.prog w' = .ok (.tuple #[encS s,encC c]) w':=by
 have hne:=h.ne
 obtain ⟨es,clock,since,seen,c0,hb,st,F,hr,hold,hsc,hsk,rfl,hA,hap⟩:=h
 have hst:=(stamped_iff es clock).1 st
 rcases run_next_at (P:=Tryz.prog) w ty r b since c0 seen es clock hr hb hold hsc with ⟨h0,hrun⟩ | ⟨e,he,w1,hal,hrun⟩
 ·exact .inl ⟨h0,hrun⟩
 ·obtain ⟨hem,hes⟩:=mem_left he
  obtain ⟨s,c,hs,ek,ev,hf⟩:=F.is e hem
  have hr1:w1.heap[r]? = some (.mapIter (some b) since seen c0):=by rcases hal with rfl | rfl <;> exact hr
  have hb1:w1.heap[b]? = some (.map es clock):=by rcases hal with rfl | rfl <;> exact hb
  have hset:=heap_set (o':=.mapIter (some b) since (seen.push e.born) clock) hr1
  have hb':(ChangeMaps.setBlock w1 r (.mapIter (some b) since (seen.push e.born) clock)).heap[b]? = some (.map es clock):=(hset.2 b (fun e1=>hne e1.symm)).trans hb1
  rw [ek,ev] at hrun
  refine .inr ⟨s,c,_,_,hrun,⟨es,clock,since,seen.push e.born,clock,hb',st,F,hset.1,hold,hsk,hsk,rfl,fun p=>?_,?_⟩,left_shrinks es seen e he,?_,?_,?_⟩
  ·rw [List.mem_append,hA,List.mem_singleton]
   constructor
   ·rintro (⟨x,hx,h1,h2,h3⟩ | rfl)
    ·exact ⟨x,hx,by rw [contains_push,h1];rfl,h2,h3⟩
    ·exact ⟨e,hem,by rw [contains_push];simp,ek,ev⟩
   ·rintro ⟨x,hx,h1,h2,h3⟩
    rw [contains_push] at h1
    cases h4:seen.contains x.born
    ·rw [h4] at h1
     have h5:x.born=e.born:=by simpa using h1
     obtain rfl:=born_inj hst.2.1 hx hem h5
     right
     obtain ⟨s',c'⟩:=p
     simp only at h2 h3
     rw [encS_inj (h2.symm.trans ek),encC_inj (h3.symm.trans ev)]
    ·exact .inl ⟨x,hx,h4,h2,h3⟩
  ·refine List.pairwise_append.2 ⟨hap,by simp,fun p hp q hq=>?_⟩
   rw [List.mem_singleton] at hq
   subst hq
   intro hk
   simp only at hk
   obtain ⟨x,hx,h1,h2,_⟩:=(hA p).1 hp
   have hxe:=entry_eq_of_key hst.2.2 hx hem (by rw [h2,ek,hk])
   subst hxe
   rw [hes] at h1
   cases h1
  ·rcases hal with rfl | rfl <;> exact ⟨rfl,rfl,rfl,by simp [ChangeMaps.setBlock],fun i _ hi=>hset.2 i (fun e1=>hi (by rw [e1]))⟩
  ·rcases hal with rfl | rfl <;> simp [ChangeMaps.setBlock]
  ·have:=run_entry_at (P:=Tryz.prog) _ r b since seen es clock e hset.1 hb' hem hst.2.1
   rw [ek,ev] at this
   exact this
end
section
variable {w:World} {ops:Array Oper} {rest:List Oper} {o:Oper} {a:Act} {Q:Exit->Act->World->Prop} {b:Nat} {f:Sl->Option Cp}
theorem wpList_range (hg:o.guard=none) (m:Operand) (hop:o.op=Op.range 126 m) (hm:a.eval m = .map (some b)) (h:MapIs w b f)
  (hK:∀ w' cnt,Ranges w' b w.heap.size f [] cnt->w.grownBy w' none->w'.heap.size=w.heap.size+1->wpList Tryz.prog ops Q rest (a.put o.dst (.pointer (some ⟨w.heap.size,0,none⟩))) w'):wpList Tryz.prog ops Q (o::rest) a w:=by
 refine wpList_plain hg fun K' hK'=>?_
 obtain ⟨w',cnt,hrun,r1,r2,r3⟩:=h.range
 unfold Oper.wp
 simp [execOp,hop,hm,hrun,Result.andThen]
 exact hK' _ _ (hK w' cnt r1 r2 r3)
theorem wpList_next {r:Nat} {A:List (Sl×Cp)} {cnt:Nat} (hg:o.guard=none) (it:Operand) (hop:o.op=Op.next it false) (hit:a.eval it = .pointer (some ⟨r,0,none⟩)) (h:Ranges w b r f A cnt)
  (hDone:cnt=0->wpList Tryz.prog ops Q rest (a.put o.dst (.tuple #[.bool false])) w)
  (hMore:∀ s c w' cnt',Ranges w' b r f (A++[(s,c)]) cnt'->cnt'<cnt->w.grownBy w' (some r)->w'.heap.size=w.heap.size->(Instr.entry (.pointer (some ⟨r,0,none⟩))).run Tryz.prog w' = .ok (.tuple #[encS s,encC c]) w' ->
   wpList Tryz.prog ops Q rest (a.put o.dst (.tuple #[.bool true,encS s,encC c])) w'):wpList Tryz.prog ops Q (o::rest) a w:=by
 refine wpList_plain hg fun K' hK'=>?_
 unfold Oper.wp
 rcases h.next o.type with ⟨h0,hrun⟩ | ⟨s,c,w',cnt',hrun,r1,r2,r3,r4,r5⟩
 ·simp [execOp,hop,hit,hrun,Result.andThen]
  exact hK' _ _ (hDone h0)
 ·simp [execOp,hop,hit,hrun,Result.andThen]
  exact hK' _ _ (hMore s c w' cnt' r1 r2 r3 r4 r5)
end
end Go.Proofs.YtilnjnblpeeigaaGreatDoor.Sl
namespace Go.Proofs.YtilnjnblpeeigaaGreatDoor.Sl
open Go.RowKit Go.Deep Go.Sort
set_option linter.unusedSectionVars false
variable [dCp:DecidableEq Cp] [dLim:∀ k,Decidable (Lim k)] [dBad:∀ k,Decidable (Bad k)] [dFit:∀ g z,Decidable (Fit g z)] [dFine:∀ c,Decidable (Fine c)] [dMint:∀ c v,Decidable (MintR c v)] [dWho:∀ x y,Decidable (Whose x y)] [dSl:DecidableEq Sl] [dLt:∀ a b,Decidable (ltS a b)]
def cmpI (x y:Int):Int:=if x<y then -1 else if y<x then 1 else 0
theorem nan_any (x:Int) (w:World):Calls Tryz.prog 200 #[.int .i64 x] w fun e w'=>e = .returned (.bool false)/\w'=w:=by
 go_enter Tryz.func200,Tryz.ntmps200
 have h:(x != x)=false:=by simp
 go_wp2
 go_ret
 exact ⟨by simp,rfl⟩
theorem compare_any (x y:Int) (w:World):Calls Tryz.prog 142 #[.int .i64 x,.int .i64 y] w fun e w'=>e = .returned (.int .i64 (cmpI x y))/\w'=w:=by
 go_enter Tryz.func142,Tryz.ntmps142
 go_wp2_with (go_at_call 200;refine (nan_any _ _).mono ?_;rintro e w' ⟨rfl,rfl⟩)
 all_goals go_ret
 all_goals exact ⟨by unfold cmpI;simp_all;try omega,rfl⟩
def orI (x y:Int):Int:=if x=0 then y else x
theorem or_any (x y:Int) (b:Nat) (w:World) (h0:w.cell? ⟨b,0,none⟩=some (.int .i64 x)) (h1:w.cell? ⟨b,1,none⟩=some (.int .i64 y)):Calls Tryz.prog 141 #[.slice (some ⟨b,0,none⟩) 2 2] w fun e w'=>e = .returned (.int .i64 (orI x y))/\w'=w:=by
 go_enter Tryz.func141,Tryz.ntmps141
 go_wp2
 refine wp_loop_rounds 3 ?_
 rw [rounds_succ]
 go_wp2
 ·go_ret
  exact ⟨by unfold orI;simp_all,rfl⟩
 ·rw [rounds_succ]
  go_wp2
  ·go_ret
   exact ⟨by unfold orI;simp_all,rfl⟩
  ·rw [rounds_succ]
   go_wp2
   go_ret
   exact ⟨by unfold orI;simp_all,rfl⟩
theorem or_new (x y:Int) (w:World):Calls Tryz.prog 141 #[.slice (some ⟨w.heap.size,0,none⟩) 2 2] (w.alloc (.cells #[.int .i64 x,.int .i64 y] 3)).drew fun e w'=>e = .returned (.int .i64 (orI x y))/\w'=(w.alloc (.cells #[.int .i64 x,.int .i64 y] 3)).drew:=by
 have h:(w.alloc (.cells #[.int .i64 x,.int .i64 y] 3)).drew.heap[w.heap.size]? = _:=blk_alloc_new w (.cells #[.int .i64 x,.int .i64 y] 3)
 refine or_any x y _ _ ?_ ?_ <;> (unfold World.cell?;rw [h];rfl)
def objH (x:Sl×Cp):Obj:=.cells (encH x).toArray 238
def cmpH (x y:Sl×Cp):Int:=orI (cmpI x.1.n y.1.n) (cmpI x.1.i y.1.i)
theorem cmpH_lt (x y:Sl×Cp):cmpH x y<0↔ltS x.1 y.1:=by
 unfold cmpH orI cmpI ltS
 repeat' split
 all_goals omega
theorem wide_cells {w:World} {q:Nat} {x:Sl×Cp} (h:w.heap[q]? = some (objH x)):w.cell? ⟨q,0,none⟩=some (.int .i64 x.1.n)/\w.cell? ⟨q,1,none⟩=some (.int .i64 x.1.i):=by
 unfold objH encH at h
 constructor <;> simp [World.cell?,h]
theorem c_drew {w W:World} {r:Nat} {a b c d:Int} (h:W.cell? ⟨r,0,none⟩=some (.int .i64 a)/\W.cell? ⟨r,1,none⟩=some (.int .i64 b)/\W.cell? ⟨r+1,0,none⟩=some (.int .i64 c)/\W.cell? ⟨r+1,1,none⟩=some (.int .i64 d)/\Grown w W) :
  W.drew.cell? ⟨r,0,none⟩=some (.int .i64 a)/\W.drew.cell? ⟨r,1,none⟩=some (.int .i64 b)/\W.drew.cell? ⟨r+1,0,none⟩=some (.int .i64 c)/\W.drew.cell? ⟨r+1,1,none⟩=some (.int .i64 d)/\Grown w W.drew:=
 ⟨h.1,h.2.1,h.2.2.1,h.2.2.2.1,h.2.2.2.2.drew⟩
theorem c_alloc {w W:World} {r:Nat} {a b c d:Int} (h:W.cell? ⟨r,0,none⟩=some (.int .i64 a)/\W.cell? ⟨r,1,none⟩=some (.int .i64 b)/\W.cell? ⟨r+1,0,none⟩=some (.int .i64 c)/\W.cell? ⟨r+1,1,none⟩=some (.int .i64 d)/\Grown w W) (o:Obj) :
  (W.alloc o).cell? ⟨r,0,none⟩=some (.int .i64 a)/\(W.alloc o).cell? ⟨r,1,none⟩=some (.int .i64 b)/\(W.alloc o).cell? ⟨r+1,0,none⟩=some (.int .i64 c)/\(W.alloc o).cell? ⟨r+1,1,none⟩=some (.int .i64 d)/\Grown w (W.alloc o):=
 ⟨Lib.cell?_alloc_some _ h.1,Lib.cell?_alloc_some _ h.2.1,Lib.cell?_alloc_some _ h.2.2.1,Lib.cell?_alloc_some _ h.2.2.2.1,h.2.2.2.2.alloc o⟩
set_option maxHeartbeats 1000000 in
theorem closure_any (x y:Sl×Cp) (w:World):Calls Tryz.prog 140 #[.agg (encH x).toArray,.agg (encH y).toArray] w fun e w'=>e = .returned (.int .i64 (cmpH x y))/\Grown w w':=by
 have HC:Hid (cmpH x y=orI (cmpI x.1.n y.1.n) (cmpI x.1.i y.1.i)):=rfl
 generalize cmpH x y=ch at *
 have x1:((w.alloc (objH x)).alloc (objH y)).heap[w.heap.size]? = some (objH x):=by
  rw [blk_alloc_lt _ _ _ (by simp)]
  exact blk_alloc_new _ _
 have x2:((w.alloc (objH x)).alloc (objH y)).heap[w.heap.size+1]? = some (objH y):=by
  have:=blk_alloc_new (w.alloc (objH x)) (objH y)
  simpa using this
 obtain ⟨c0,c1⟩:=wide_cells x1
 obtain ⟨d0,d1⟩:=wide_cells x2
 have hS:((w.alloc (objH x)).alloc (objH y)).cell? ⟨w.heap.size,0,none⟩=some (.int .i64 x.1.n)/\((w.alloc (objH x)).alloc (objH y)).cell? ⟨w.heap.size,1,none⟩=some (.int .i64 x.1.i)/\((w.alloc (objH x)).alloc (objH y)).cell? ⟨w.heap.size+1,0,none⟩=some (.int .i64 y.1.n)/\((w.alloc (objH x)).alloc (objH y)).cell? ⟨w.heap.size+1,1,none⟩=some (.int .i64 y.1.i)/\Grown w ((w.alloc (objH x)).alloc (objH y)):=
  ⟨c0,c1,d0,d1,Grown.alloc (Grown.alloc ⟨0,#[],by rw [grow_empty];rfl⟩ _) _⟩
 clear x1 x2 c0 c1 d0 d1
 simp only [encH,objH] at *
 go_enter Tryz.func140,Tryz.ntmps140
 go_wp2
 generalize (w.alloc (Obj.cells _ _)).alloc (Obj.cells _ _)=w2 at *
 generalize w.heap.size=r at *
 go_region_held3 (fun W=>W.cell? ⟨r,0,none⟩=some (.int .i64 x.1.n)/\W.cell? ⟨r,1,none⟩=some (.int .i64 x.1.i)/\W.cell? ⟨r+1,0,none⟩=some (.int .i64 y.1.n)/\W.cell? ⟨r+1,1,none⟩=some (.int .i64 y.1.i)/\Grown w W) ((first | assumption | with_reducible exact c_drew hS | with_reducible exact c_drew (c_alloc hS _)))
  (first | (go_at_call 142;refine (compare_any _ _ _).mono ?_;rintro e w' ⟨rfl,rfl⟩) | (go_at_call 141;refine (or_new _ _ _).mono ?_;rintro e w' ⟨rfl,rfl⟩))
 rename_i hH
 have hG:=hH.2.2.2.2
 clear hH hS
 go_wp2
 go_ret
 exact ⟨by rw [HC.out];rfl,hG⟩
end Go.Proofs.YtilnjnblpeeigaaGreatDoor.Sl
namespace Go.Proofs.YtilnjnblpeeigaaGreatDoor.Sl
open Go.Shelf
set_option linter.unusedSectionVars false
variable [dCp:DecidableEq Cp] [dLim:∀ k,Decidable (Lim k)] [dBad:∀ k,Decidable (Bad k)] [dFit:∀ g z,Decidable (Fit g z)] [dFine:∀ c,Decidable (Fine c)] [dMint:∀ c v,Decidable (MintR c v)] [dWho:∀ x y,Decidable (Whose x y)] [dSl:DecidableEq Sl] [dLt:∀ a b,Decidable (ltS a b)]
def sort_ren:Go.Shelf.Ren:=⟨fun | 6=>139 | 15=>199 | 14=>198 | 28=>234 | 29=>235 | 20=>226 | 21=>227 | 22=>228 | 23=>229 | 24=>230 | 25=>231 | 26=>232 | 27=>233 | 46=>242 | 47=>243 | 48=>244 | 49=>245 | 50=>246 | 57=>257 | n=>n,fun | 22=>103 | 24=>238 | 25=>241 | 3=>3 | 39=>254 | 0=>0 | 53=>319 | 55=>32 | 4=>4 | 46=>313 | 45=>312 | 50=>42 | 5=>5 | 9=>9 | 66=>325 | 70=>275 | 76=>335 | 77=>336 | n=>n,fun | n=>n⟩
theorem sort_lays:Go.Proofs.SlLaysF0.n6 Tryz.prog sort_ren:={
 mixed:=by kernel_rfl
 f6:=⟨Tryz.f139.name,by decide,Tryz.func139.trans (congrArg some (by kernel_rfl))⟩
 f14:=⟨Tryz.f198.name,by decide,Tryz.func198.trans (congrArg some (by kernel_rfl))⟩
 f15:=Tryz.func199.trans (congrArg some (by kernel_rfl))
 f20:=⟨Tryz.f226.name,by decide,Tryz.func226.trans (congrArg some (by kernel_rfl))⟩
 f21:=⟨Tryz.f227.name,by decide,Tryz.func227.trans (congrArg some (by kernel_rfl))⟩
 f22:=⟨Tryz.f228.name,by decide,Tryz.func228.trans (congrArg some (by kernel_rfl))⟩
 f23:=⟨Tryz.f229.name,by decide,Tryz.func229.trans (congrArg some (by kernel_rfl))⟩
 f24:=⟨Tryz.f230.name,by decide,Tryz.func230.trans (congrArg some (by kernel_rfl))⟩
 f25:=⟨Tryz.f231.name,by decide,Tryz.func231.trans (congrArg some (by kernel_rfl))⟩
 f26:=⟨Tryz.f232.name,by decide,Tryz.func232.trans (congrArg some (by kernel_rfl))⟩
 f27:=⟨Tryz.f233.name,by decide,Tryz.func233.trans (congrArg some (by kernel_rfl))⟩
 f28:=Tryz.func234.trans (congrArg some (by kernel_rfl))
 f29:=Tryz.func235.trans (congrArg some (by kernel_rfl))
 f46:=⟨Tryz.f242.name,by decide,Tryz.func242.trans (congrArg some (by kernel_rfl))⟩
 f47:=Tryz.func243.trans (congrArg some (by kernel_rfl))
 f48:=Tryz.func244.trans (congrArg some (by kernel_rfl))
 f49:=⟨Tryz.f245.name,by decide,Tryz.func245.trans (congrArg some (by kernel_rfl))⟩
 f50:=⟨Tryz.f246.name,by decide,Tryz.func246.trans (congrArg some (by kernel_rfl))⟩
 f57:=⟨Tryz.f257.name,by decide,Tryz.func257.trans (congrArg some (by kernel_rfl))⟩
 t0:=Tryz.underlying0
 a0:=Tryz.isAgg0
 z0:=Tryz.sizeOf0
 v0:=Tryz.zeroValue0
 t3:=Tryz.underlying3
 a3:=Tryz.isAgg3
 z3:=Tryz.sizeOf3
 v3:=Tryz.zeroValue3
 t4:=Tryz.underlying4
 a4:=Tryz.isAgg4
 z4:=Tryz.sizeOf4
 v4:=Tryz.zeroValue4
 t5:=Tryz.underlying5
 a5:=Tryz.isAgg5
 z5:=Tryz.sizeOf5
 v5:=Tryz.zeroValue5
 t9:=Tryz.underlying9
 a9:=Tryz.isAgg9
 z9:=Tryz.sizeOf9
 v9:=Tryz.zeroValue9
 t22:=Tryz.underlying103
 a22:=Tryz.isAgg103
 z22:=Tryz.sizeOf103
 v22:=Tryz.zeroValue103
 t25:=Tryz.underlying241
 a25:=Tryz.isAgg241
 z25:=Tryz.sizeOf241
 v25:=Tryz.zeroValue241
 t39:=Tryz.underlying254
 a39:=Tryz.isAgg254
 z39:=Tryz.sizeOf254
 v39:=Tryz.zeroValue254
 t45:=Tryz.underlying312
 a45:=Tryz.isAgg312
 z45:=Tryz.sizeOf312
 v45:=Tryz.zeroValue312
 t46:=Tryz.underlying313
 a46:=Tryz.isAgg313
 z46:=Tryz.sizeOf313
 v46:=Tryz.zeroValue313
 t50:=Tryz.underlying42
 a50:=Tryz.isAgg42
 z50:=Tryz.sizeOf42
 v50:=Tryz.zeroValue42
 t53:=Tryz.underlying319
 a53:=Tryz.isAgg319
 z53:=Tryz.sizeOf319
 v53:=Tryz.zeroValue319
 t55:=Tryz.underlying32
 a55:=Tryz.isAgg32
 z55:=Tryz.sizeOf32
 v55:=Tryz.zeroValue32
 t66:=Tryz.underlying325
 a66:=Tryz.isAgg325
 z66:=Tryz.sizeOf325
 v66:=Tryz.zeroValue325
 t70:=Tryz.underlying275
 a70:=Tryz.isAgg275
 z70:=Tryz.sizeOf275
 v70:=Tryz.zeroValue275
 t76:=Tryz.underlying335
 a76:=Tryz.isAgg335
 z76:=Tryz.sizeOf335
 v76:=Tryz.zeroValue335
 t77:=Tryz.underlying336
 a77:=Tryz.isAgg336
 z77:=Tryz.sizeOf336
 v77:=Tryz.zeroValue336 }
end Go.Proofs.YtilnjnblpeeigaaGreatDoor.Sl
namespace Go.Proofs.YtilnjnblpeeigaaGreatDoor.Sl
open Go.RowKit Go.Deep Go.Sort Go.Shelf Go.Lib
set_option linter.unusedSectionVars false
variable [dCp:DecidableEq Cp] [dLim:∀ k,Decidable (Lim k)] [dBad:∀ k,Decidable (Bad k)] [dFit:∀ g z,Decidable (Fit g z)] [dFine:∀ c,Decidable (Fine c)] [dMint:∀ c v,Decidable (MintR c v)] [dWho:∀ x y,Decidable (Whose x y)] [dSl:DecidableEq Sl] [dLt:∀ a b,Decidable (ltS a b)]
variable [iSl:Inhabited Sl] [iCp:Inhabited Cp]
theorem encH_len (x:Sl×Cp):(encH x).length=8:=rfl
theorem encH_one (x:Sl×Cp):∀ v∈encH x,v.oneCell'=true:=by
 intro v hv
 simp only [encH,List.mem_cons,List.not_mem_nil,or_false] at hv
 rcases hv with rfl | rfl | rfl | rfl | rfl | rfl | rfl | rfl <;> rfl
theorem flatH_len:∀ A:List (Sl×Cp),(flatH A).length=A.length*8
 | []=>rfl
 | x::A=>by
  have:=flatH_len A
  simp only [flatH,List.flatMap_cons,List.length_append,encH_len,List.length_cons] at this ⊢
  omega
theorem flatH_app (A B:List (Sl×Cp)):flatH (A++B)=flatH A++flatH B:=by simp [flatH]
theorem flatH_get:∀ (A:List (Sl×Cp)) (t:Nat),t<A.length*8->(flatH A)[t]? = some ((encH (A.getD (t / 8) default))[t % 8]!)
 | [],t,h=>by simp at h
 | x::A,t,h=>by
  simp only [flatH,List.flatMap_cons]
  rw [List.getElem?_append,encH_len]
  by_cases h8:t<8
  ·rw [if_pos h8]
   have e1:t / 8=0:=by omega
   have e2:t % 8=t:=by omega
   rw [e1,e2]
   have hx:t<(encH x).length:=by rw [encH_len];exact h8
   rw [List.getElem?_eq_getElem hx,getElem!_pos _ t hx]
   simp
  ·rw [if_neg h8]
   have ih:=flatH_get A (t - 8) (by simp at h;omega)
   unfold flatH at ih
   rw [ih]
   have e1:t / 8=(t - 8) / 8+1:=by omega
   have e2:t % 8=(t - 8) % 8:=by omega
   rw [e1,e2]
   simp
theorem flat_flat (A:List (Sl×Cp)):(_root_.Go.Sort.flatK encH 8 A.toArray).toList=flatH A:=by
 apply List.ext_getElem?
 intro t
 by_cases h:t<A.length*8
 ·rw [flatH_get A t h]
  have hs:t<(_root_.Go.Sort.flatK encH 8 A.toArray).size:=by simpa using h
  have:=get_flatK encH 8 A.toArray t (by simpa using h)
  rw [Array.getElem?_toList,Array.getElem?_eq_getElem hs]
  rw [getElem!_pos _ t hs] at this
  rw [this]
  have ht:t / 8<A.length:=by omega
  simp [ht]
 ·rw [List.getElem?_eq_none (by simp;omega),List.getElem?_eq_none (by rw [flatH_len];omega)]
theorem lt_cmp (x y:Sl×Cp):ltOf cmpH x y=decide (ltS x.1 y.1):=by
 unfold ltOf
 exact decide_eq_decide.2 (cmpH_lt x y)
theorem swo:SWO (ltOf cmpH) where
 irrefl x:=by rw [lt_cmp];simp [ltS_irrefl]
 trans x y z h1 h2:=by
  rw [lt_cmp] at *
  simp only [decide_eq_true_eq] at *
  exact ltS_trans h1 h2
 ntrans x y z h1 h2:=by
  rw [lt_cmp] at *
  simp only [decide_eq_false_iff_not] at *
  unfold ltS at *
  omega
theorem take_put (cur F:Array Value) (h:F.size<=cur.size):(putCells id 0 F cur).toList.take F.size=F.toList:=by
 apply List.ext_getElem?
 intro j
 by_cases hj:j<F.size
 ·rw [List.getElem?_take_of_lt hj,Array.getElem?_toList]
  simp [putCells,hj,show j<cur.size by omega]
 ·rw [List.getElem?_take_eq_none (by omega),List.getElem?_eq_none (by simp;omega)]
theorem sort_some (B g cap:Nat) (A:List (Sl×Cp)) (w:World) (h:OwnH B w (.slice (some ⟨g,0,none⟩) A.length cap) A) (hl:A.length<=1000000) :
  Calls Tryz.prog 139 #[.slice (some ⟨g,0,none⟩) A.length cap,.func (.func 140) #[] #[]] w fun e w' =>
   e = .returned (.tuple #[])/\∃ A',A'.Perm A/\A'.Pairwise (fun p q=>¬ ltS q.1 p.1)/\OwnH B w' (.slice (some ⟨g,0,none⟩) A.length cap) A'/\w.grownBy w' (some g):=by
 obtain ⟨h0,⟨h1,_⟩ | ⟨g',cap',cur,hv,hb,hg,hn,hc,hs,ht⟩⟩:=h
 ·cases h1
 ·simp only [Value.slice.injEq,Option.some.injEq,Addr.mk.injEq,and_true,true_and] at hv
  obtain ⟨rfl,rfl⟩:=hv
  have hlt:g<w.heap.size:=(Array.getElem?_eq_some_iff.1 hg).1
  have hH:HoldsK encH 8 w g 0 A.toArray:=by
   intro j hj
   have hj':j<A.length*8:=by simpa using hj
   have e1:(flatH A)[j]? = some (_root_.Go.Sort.flatK encH 8 A.toArray)[j]!:=by
    rw [<- flat_flat,Array.getElem?_toList,getElem!_pos _ j hj,Array.getElem?_eq_getElem hj]
   rw [<- ht,List.getElem?_take,if_pos (by omega)] at e1
   refine ⟨?_,by simp [World.frozen?,hg]⟩
   simpa [World.cell?,hg] using e1
  have eg:∀ args w,(callFunc 140 args).run Tryz.prog w = .ok (.enter 140 args) w:=enters_of Tryz.func140 (by kernel_rfl) rfl
  have hc2:=AnyQ.slices_SortFunc sort_lays 8 Tryz.isAgg238 Tryz.sizeOf238 encH encH_len encH_one cmpH swo 140 #[] g 0 cap A.toArray w eg (fun m os dk hd x y=>closure_any x y _) hH hlt (by simp;omega)
  refine hc2.mono ?_
  rintro e w' ⟨rfl,d',n,os,hp,hso,rfl⟩
  refine ⟨rfl,d'.toList,?_,?_,?_,?_⟩
  ·obtain ⟨hsz,_,hperm⟩:=hp
   have e1:d'.extract 0 A.toArray.size=d':=by rw [<- hsz];exact Array.extract_size
   rw [e1,Array.extract_size] at hperm
   simpa using hperm
  ·rw [List.pairwise_iff_getElem]
   intro i j hi hj hij
   have hi':i<d'.size:=by simpa using hi
   have hj':j<d'.size:=by simpa using hj
   have:=hso i j (Nat.zero_le _) hij (by rw [<- hp.1];exact hj')
   rw [getElem!_pos d' j hj',getElem!_pos d' i hi',lt_cmp] at this
   simpa using this
  ·have hsz:d'.size=A.length:=by simpa using hp.1
   have hl2:d'.toList.length=A.length:=by simpa using hsz
   refine ⟨by rw [flatH_len,hl2],.inr ⟨g,cap,putCells id 0 (_root_.Go.Sort.flatK encH 8 d') cur,by rw [hl2],hb,?_,by rw [hl2];exact hn,hc,by simp [putCells,hs],?_⟩⟩
   ·unfold sortWorldK putRowK
    rw [heap_grow_old _ _ (by simpa using hlt)]
    simp [putRow,mapBlock,Sort.ahead,Array.getElem?_modify,hg,onCells]
   ·have e1:d'.toList.length*8=(_root_.Go.Sort.flatK encH 8 d').size:=by simp
    rw [e1,take_put _ _ (by simp [hs,hsz];omega)]
    simpa using flat_flat d'.toList
  ·unfold sortWorldK putRowK
   refine ⟨rfl,rfl,rfl,by simp,fun k hk hne=>?_⟩
   rw [heap_grow_old _ _ (by simpa using hk)]
   have:g≠k:=fun e=>hne (by rw [e])
   simp [putRow,mapBlock,Sort.ahead,Array.getElem?_modify,this]
theorem sort_none (w:World):Calls Tryz.prog 139 #[.slice none 0 0,.func (.func 140) #[] #[]] w fun e w'=>e = .returned (.tuple #[])/\w'=w:=
 AnyF.slices_SortFunc_none sort_lays none 0 _ w
theorem sort_any (B:Nat) (v:Value) (A:List (Sl×Cp)) (w:World) (h:OwnH B w v A) (hl:A.length<=1000000) :
  Calls Tryz.prog 139 #[v,.func (.func 140) #[] #[]] w fun e w' =>
   e = .returned (.tuple #[])/\∃ A',A'.Perm A/\A'.Pairwise (fun p q=>¬ ltS q.1 p.1)/\OwnH B w' v A'/\w.grownBy w' v.ownBlock:=by
 have h':=h
 obtain ⟨h0,⟨rfl,hn⟩ | ⟨g,cap,cur,rfl,_⟩⟩:=h'
 ·refine (sort_none w).mono ?_
  rintro e w' ⟨rfl,rfl⟩
  obtain rfl:A=[]:=List.eq_nil_of_length_eq_zero hn
  exact ⟨rfl,[],List.Perm.refl _,List.Pairwise.nil,h,⟨rfl,rfl,rfl,Nat.le_refl _,fun _ _ _=>rfl⟩⟩
 ·exact sort_some B g cap A w h hl
end Go.Proofs.YtilnjnblpeeigaaGreatDoor.Sl
namespace Go.Proofs.YtilnjnblpeeigaaGreatDoor.Sl
open Go.RowKit Go.Deep Go.MapKept Go.Maps
set_option linter.unusedSectionVars false
variable [dCp:DecidableEq Cp] [dLim:∀ k,Decidable (Lim k)] [dBad:∀ k,Decidable (Bad k)] [dFit:∀ g z,Decidable (Fit g z)] [dFine:∀ c,Decidable (Fine c)] [dMint:∀ c v,Decidable (MintR c v)] [dWho:∀ x y,Decidable (Whose x y)] [dSl:DecidableEq Sl] [dLt:∀ a b,Decidable (ltS a b)] [iSl:Inhabited Sl] [iCp:Inhabited Cp]
theorem infoH:(Tryz.prog.info? 238).map (fun i=>(i.zero,i.size,i.bytes))=some (some (.agg #[.int .i64 0,.int .i64 0,.int .i64 0,.int .i64 0,.int .i64 0,.int .u64 0,.int .u64 0,.int .i64 0]),8,64):=by kernel_rfl
theorem add_none (b o j:Nat):(⟨b,o,none⟩:Addr).add j=⟨b,o+j,none⟩:=by unfold Addr.add;split <;> simp_all
theorem append_held (B:Nat) (w:World) (ty:TypeId) (v:Value) (A:List (Sl×Cp)) (x:Sl×Cp) (hown:OwnH B w v A) (hl:A.length<=1000000) (hB:B<=w.heap.size) :
  ∃ v' w',(Builtin.append_ #[103,103] ty #[v,.slice (some ⟨w.heap.size,0,none⟩) 1 1]).run Tryz.prog (w.alloc (objH x)) = .ok v' w'/\OwnH B w' v' (A++[x])/\w.grownBy w' v.ownBlock/\(v'.ownBlock=v.ownBlock\/v'.ownBlock=some (w.heap.size+1)):=by
 obtain ⟨i,hi,hz⟩:=Option.map_eq_some_iff.1 infoH
 simp only [Prod.mk.injEq] at hz
 have h1:(w.alloc (objH x)).ownsRow B 238 8 v A.length (flatH A):=World.ownsRow.alloc hown _
 obtain ⟨v',w',r1,r2,r3,_,r5⟩:=run_append_own_at (P:=Tryz.prog) (w.alloc (objH x)) B 103 ty 238 i _ 8 64 Tryz.underlying103 hi hz.1 hz.2.1 hz.2.2 rfl (by decide) v A.length (flatH A) h1 ⟨w.heap.size,0,none⟩ 1 1 (encH x) rfl
  (fun j u hju=>by
   rw [add_none]
   have e:=blk_alloc_new w (objH x)
   unfold objH at e ⊢
   simp only [World.cell?,e,Nat.zero_add]
   simpa using hju) (encH_one x) (by unfold maxLen;omega) (by omega) (by simp;omega)
 refine ⟨v',w',r1,?_,(World.grownBy_alloc w _ _).trans r3,by simpa using r5⟩
 unfold OwnH
 rw [List.length_append,flatH_app,show flatH [x]=encH x by simp [flatH]]
 exact r2
theorem OwnH.block_ne {B:Nat} {w:World} {v:Value} {A:List (Sl×Cp)} (h:OwnH B w v A) {k:Nat} (hk:∀ c t f,w.heap[k]? ≠ some (.cells c t f)):v.ownBlock≠some k:=by
 obtain ⟨_,⟨rfl,_⟩ | ⟨g,cap,cur,rfl,_,hg,_⟩⟩:=h
 ·simp [Value.ownBlock]
 ·intro e
  have:g=k:=by simpa [Value.ownBlock] using e
  subst this
  exact hk _ _ _ hg
theorem Ranges.row_ne {w:World} {b r:Nat} {f:Sl->Option Cp} {A A':List (Sl×Cp)} {cnt B:Nat} {v:Value} (h:Ranges w b r f A cnt) (k:OwnH B w v A'):v.ownBlock≠some b/\v.ownBlock≠some r:=by
 obtain ⟨es,clock,since,seen,c0,hb,_,_,hr,_⟩:=h
 exact ⟨k.block_ne fun c t f e=>(by rw [hb] at e;cases e),k.block_ne fun c t f e=>(by rw [hr] at e;cases e)⟩
theorem held_of {S:St} {A A':List (Sl×Cp)} (hA:∀ p,p∈A↔holdS S p.1=some p.2) (hap:A.Pairwise (fun p q=>p.1≠q.1)) (hp:A'.Perm A) (hs:A'.Pairwise (fun p q=>¬ ltS q.1 p.1)):A'=held S:=by
 refine sorted_eq _ _ ?_ (held_sorted S) fun p=>?_
 ·have hap':A'.Pairwise (fun p q=>p.1≠q.1):=(hp.pairwise_iff fun h=>Ne.symm h).2 hap
  have:=hs.and hap'
  refine this.imp fun {p q} ⟨h1,h2⟩=>Decidable.byContradiction fun h3=>h2 (ltS_total h3 h1)
 ·rw [hp.mem_iff,hA,<- mem_held]
theorem part_le {S:St} (ok:Okay S) {A:List (Sl×Cp)} (hA:∀ p∈A,holdS S p.1=some p.2) (hap:A.Pairwise (fun p q=>p.1≠q.1)):A.length<=16384:=
 Nat.le_trans (len_le A (held S) (hap.imp fun {p q} h e=>h (by rw [e])) fun p hp=>(mem_held S p.1 p.2).2 (hA p hp)) (held_le ok)
set_option maxHeartbeats 1000000 in
set_option maxRecDepth 100000 in
theorem held_any (p:Nat) (F:Nat->Prop) (S:St) (w:World) (h:Nds w p F S) :
  Calls Tryz.prog 88 #[.pointer (some ⟨p,0,none⟩)] w fun e w'=>∃ v,e = .returned v/\OwnH w.heap.size w' v (held S)/\Below w.heap.size w w':=by
 obtain ⟨m,v,h⟩:=h
 have OK:Hid (Okay S):=h.ok
 obtain ⟨c0,c1⟩:=h.cells
 have hm:=h.map
 have hml:Hid (m<w.heap.size):=h.lt _ h.fm
 clear h c0
 go_enter Tryz.func88,Tryz.ntmps88
 go_wp2_with (first | (at_range;refine wpList_range rfl _ rfl rfl hm ?_;intro w0 cnt0 hrg0 hg0 hs0) | go_in)
 go_frame
 go_loopw [3] (fun l wr=>∃ A cnt,OwnH w.heap.size wr l A/\Ranges wr m w.heap.size (holdS S) A cnt/\Below w.heap.size w wr) (fun _ wr=>wr.rangeLeft m w.heap.size)
 case atStart=>exact ⟨[],_,World.ownsRow_nil _ _ _ _,hrg0,(Below.refl _ _).grown hg0 (Nat.le_refl _) fun j hj=>by cases hj⟩
 case round =>
  obtain ⟨A,cnt,hown,hrg,hnx⟩:=hrel
  go_wp2_with (first | (at_next;refine wpList_next rfl _ rfl rfl hrg ?_ ?_) | go_in)
  ·intro hc0
   subst hc0
   have HD:Hid (OwnH w.heap.size _ _ A/\Ranges _ m w.heap.size (holdS S) A 0/\Below w.heap.size w _):=⟨hown,hrg,hnx⟩
   clear hown hrg hnx
   go_wp2_with fail
   refine (sort_any w.heap.size _ A _ HD.out.1 (by have:=part_le OK.out HD.out.2.1.mem HD.out.2.1.apart;omega)).mono ?_
   rintro e w5 ⟨rfl,A',hp,hs,ho,hg⟩
   have e1:=held_of HD.out.2.1.all HD.out.2.1.apart hp hs
   subst e1
   go_wp2
   go_ret
   exact ⟨_,rfl,ho,HD.out.2.2.grown hg HD.out.2.2.size fun k hk=>(World.ownsRow.lt HD.out.1 k hk).1⟩
  ·intro s c w1 cnt1 hrg1 hlt hg1 hs1 hen
   have own1:OwnH w.heap.size w1 u3 A:=hown.grown hg1 fun k hk=>by cases hk;exact (hrg.row_ne hown).2
   have x4:=(box2 w1 (objS s) (objC c)).2.2.2
   have x3:=(box2 w1 (objS s) (objC c)).2.2.1
   have own2:OwnH w.heap.size ((w1.alloc (objS s)).alloc (objC c)) u3 A:=World.ownsRow.alloc (World.ownsRow.alloc own1 _) _
   have hrg2:Ranges ((w1.alloc (objS s)).alloc (objC c)) m w.heap.size (holdS S) (A++[(s,c)]) cnt1:=hrg1.of_block (x4.block _ hrg1.lt.1) (x4.block _ hrg1.lt.2)
   have hlen:=part_le OK.out hrg1.mem hrg1.apart
   rw [List.length_append] at hlen
   have hsz:w.heap.size<=w1.heap.size:=Nat.le_trans hnx.size hg1.size
   obtain ⟨v',w5,hrun,own5,g5,_⟩:=append_held w.heap.size ((w1.alloc (objS s)).alloc (objC c)) 103 u3 A (s,c) own2 (by omega) (by rw [x3];omega)
   have hrg5:Ranges w5 m w.heap.size (holdS S) (A++[(s,c)]) cnt1:=hrg2.grown g5 (hrg2.row_ne own2).1 (hrg2.row_ne own2).2
   have hb5:Below w.heap.size w w5:=by
    have b1:Below w.heap.size w w1:=hnx.grown hg1 hnx.size fun k hk=>by cases hk;exact Nat.le_refl _
    have b2:Below w.heap.size w ((w1.alloc (objS s)).alloc (objC c)):=Below.then b1 x4 hsz
    exact b2.grown g5 (by rw [x3];omega) fun k hk=>(World.ownsRow.lt own2 k hk).1
   have HD:Hid (OwnH w.heap.size w5 v' (A++[(s,c)])/\Ranges w5 m w.heap.size (holdS S) (A++[(s,c)]) cnt1/\Below w.heap.size w w5/\w5.rangeLeft m w.heap.size<wr.rangeLeft m w.heap.size):=⟨own5,hrg5,hb5,by rw [hrg5.left,hrg.left];exact hlt⟩
   rw [x3] at hrun
   have HRun:Hid _:=hrun
   clear hrg0 hg0 hs0 hown hrg hnx hrg1 hlt hg1 hs1 own1 own2 hrg2 hlen hsz own5 g5 hrg5 hb5 x3 x4 hm hrun
   simp only [encS,encC,objS,objC,objH,encH] at *
   go_wp2_with (at_builtin;refine wpList_append_run rfl (.tmp 16) (.tmp 20) 103 rfl _ _ _ _ rfl rfl HRun.out ?_)
   go_roundw
   case rel=>exact ⟨_,_,HD.out.1,HD.out.2.1,HD.out.2.2.1⟩
   case measure=>exact HD.out.2.2.2
end Go.Proofs.YtilnjnblpeeigaaGreatDoor.Sl
