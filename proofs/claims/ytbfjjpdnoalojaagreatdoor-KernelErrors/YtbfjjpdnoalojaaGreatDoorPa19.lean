/- Below: KSlB; no condition. -/
import Derived.Test.YtbfjjpdnoalojaaGreatDoorPa5
import Derived.Shelf.SlSortCmp.WholeK
import Derived.Shelf.SlSortCmp.NoneTotal
set_option maxHeartbeats 16000000
set_option maxRecDepth 100000
set_option linter.unusedSectionVars false
namespace Go.Proofs.YtbfjjpdnoalojaaGreatDoor
namespace Sl
open Go.RowKit Go.Deep Go.MapKept Go.Maps
open Go.ChangeMaps (setBlock heap_setBlock_same heap_setBlock_other modify_eq_set)
variable [dCp:DecidableEq Cp] [dLim:∀ k,Decidable (ZV k)] [dBad:∀ k,Decidable (Xn k)] [dFit:∀ g z,Decidable (Fit g z)] [dFine:∀ c,Decidable (Fine c)] [dMint:∀ c v,Decidable (JK c v)] [dWho:∀ x y,Decidable (Zx x y)] [dSl:DecidableEq Sl] [dLt:∀ a b,Decidable (MC a b)]
section
variable {w:World} {b r:Nat} {f:Sl->Option Cp} {A:List (Sl×Cp)} {cnt:Nat}
theorem Ranges.left (h:Ranges w b r f A cnt):w.rangeLeft b r=cnt:=by
 obtain⟨es,clock,since,seen,c0,hb,_,_,hr,_,_,_,hc,_⟩:=h
 simp only[World.rangeLeft,hb,hr]
 exact hc
theorem Ranges.apart (h:Ranges w b r f A cnt):A.Pairwise (fun p q=>p.1≠q.1):=by
 obtain⟨es,clock,since,seen,c0,hb,st,F,hr,_,_,_,_,_,hA⟩:=h
 exact hA
theorem MapIs.range (h:MapIs w b f):∃ w' cnt,(Instr.range 190 (.map (some b))).run Tryz.prog w=.ok (.pointer (some ⟨w.heap.size,0,none⟩)) w'/\Ranges w' b w.heap.size f [] cnt/\w.grownBy w' none/\w'.heap.size=w.heap.size+1:=by
 have hlt:=h.lt
 obtain⟨es,clock,hb,st,F⟩:=h
 exact⟨_,_,run_range_map w _ _ _ b es clock Tryz.underlying190 hb,⟨es,clock,clock,#[],clock,(blk_alloc_lt _ _ _ hlt).trans hb,st,F,blk_alloc_new _ _,st.1,Jqd _,Jqd _,rfl,by simp,by simp⟩,World.grownBy_alloc w _ none,by simp⟩
theorem Ranges.next (h:Ranges w b r f A cnt) (ty:TypeId) :
  (cnt=0/\(Instr.next (.pointer (some ⟨r,0,none⟩)) false ty).run Tryz.prog w=.ok (.tuple #[.bool false]) w) \/
  ∃ s c w' cnt',(Instr.next (.pointer (some ⟨r,0,none⟩)) false ty).run Tryz.prog w=.ok (.tuple #[.bool true,Jh s,Jg c]) w'/\Ranges w' b r f (A++[(s,c)]) cnt'/\cnt'<cnt/\w.grownBy w' (some r)/\w'.heap.size=w.heap.size /\
   (Instr.entry (.pointer (some ⟨r,0,none⟩))).run Tryz.prog w'=.ok (.tuple #[Jh s,Jg c]) w':=by
 have hne:=h.ne
 obtain⟨es,clock,since,seen,c0,hb,st,F,hr,hold,hsc,hsk,rfl,hA,hap⟩:=h
 have hst:=(stamped_iff es clock).1 st
 rcases run_next_at (P:=Tryz.prog) w ty r b since c0 seen es clock hr hb hold hsc with ⟨h0,hrun⟩|⟨e,he,w1,hal,hrun⟩
 ·exact .inl ⟨h0,hrun⟩
 ·obtain⟨hem,hes⟩:=mem_left he
  obtain⟨s,c,hs,ek,ev,hf⟩:=F.is e hem
  have hr1:w1.heap[r]? = some (.mapIter (some b) since seen c0):=by rcases hal with rfl|rfl<;>exact hr
  have hb1:w1.heap[b]? = some (.map es clock):=by rcases hal with rfl|rfl<;>exact hb
  have hset:=heap_set (o':=.mapIter (some b) since (seen.push e.born) clock) hr1
  have hb':(ChangeMaps.setBlock w1 r (.mapIter (some b) since (seen.push e.born) clock)).heap[b]? = some (.map es clock):=(hset.2 b (fun e1=>hne e1.symm)).trans hb1
  rw[ek,ev] at hrun
  refine .inr ⟨s,c,_,_,hrun,⟨es,clock,since,seen.push e.born,clock,hb',st,F,hset.1,hold,hsk,hsk,rfl,fun p=>?_,?_⟩,left_shrinks es seen e he,?_,?_,?_⟩
  ·rw[List.mem_append,hA,List.mem_singleton]
   constructor
   ·rintro(⟨x,hx,h1,h2,h3⟩|rfl)
    ·exact⟨x,hx,by rw[contains_push,h1];rfl,h2,h3⟩
    ·exact⟨e,hem,by rw[contains_push];simp,ek,ev⟩
   ·rintro⟨x,hx,h1,h2,h3⟩
    rw[contains_push] at h1
    cases h4:seen.contains x.born
    ·rw[h4] at h1
     have h5:x.born=e.born:=by simpa using h1
     obtain rfl:=born_inj hst.2.1 hx hem h5
     right
     obtain⟨s',c'⟩:=p
     simp only at h2 h3
     rw[ZC (h2.symm.trans ek),Jag (h3.symm.trans ev)]
    ·exact .inl ⟨x,hx,h4,h2,h3⟩
  ·refine List.pairwise_append.2 ⟨hap,by simp,fun p hp q hq=>?_⟩
   rw[List.mem_singleton] at hq
   subst hq
   intro hk
   simp only at hk
   obtain⟨x,hx,h1,h2,_⟩:=(hA p).1 hp
   have hxe:=entry_eq_of_key hst.2.2 hx hem (by rw[h2,ek,hk])
   subst hxe
   rw[hes] at h1
   cases h1
  ·rcases hal with rfl|rfl<;>exact⟨rfl,rfl,rfl,by simp[ChangeMaps.setBlock],fun i _ hi=>hset.2 i (fun e1=>hi (by rw[e1]))⟩
  ·rcases hal with rfl|rfl<;>simp[ChangeMaps.setBlock]
  ·have:=run_entry_at (P:=Tryz.prog) _ r b since seen es clock e hset.1 hb' hem hst.2.1
   rw[ek,ev] at this
   exact this
end
section
variable {w:World} {ops:Array Oper} {rest:List Oper} {o:Oper} {a:Act} {Q:Exit->Act->World->Prop} {b:Nat} {f:Sl->Option Cp}
theorem GO (hg:o.guard=none) (m:Operand) (hop:o.op=Op.range 190 m) (hm:a.eval m=.map (some b)) (h:MapIs w b f)
  (hK:∀ w' cnt,Ranges w' b w.heap.size f [] cnt->w.grownBy w' none->w'.heap.size=w.heap.size+1->wpList Tryz.prog ops Q rest (a.put o.dst (.pointer (some ⟨w.heap.size,0,none⟩))) w'):wpList Tryz.prog ops Q (o::rest) a w:=by
 refine wpList_plain hg fun K' hK'=>?_
 obtain⟨w',cnt,hrun,r1,r2,r3⟩:=h.range
 unfold Oper.wp
 simp[execOp,hop,hm,hrun,Result.andThen]
 exact hK' _ _ (hK w' cnt r1 r2 r3)
theorem Jcn {r:Nat} {A:List (Sl×Cp)} {cnt:Nat} (hg:o.guard=none) (it:Operand) (hop:o.op=Op.next it false) (hit:a.eval it=.pointer (some ⟨r,0,none⟩)) (h:Ranges w b r f A cnt)
  (hDone:cnt=0->wpList Tryz.prog ops Q rest (a.put o.dst (.tuple #[.bool false])) w)
  (hMore:∀ s c w' cnt',Ranges w' b r f (A++[(s,c)]) cnt'->cnt'<cnt->w.grownBy w' (some r)->w'.heap.size=w.heap.size->(Instr.entry (.pointer (some ⟨r,0,none⟩))).run Tryz.prog w'=.ok (.tuple #[Jh s,Jg c]) w' ->
   wpList Tryz.prog ops Q rest (a.put o.dst (.tuple #[.bool true,Jh s,Jg c])) w'):wpList Tryz.prog ops Q (o::rest) a w:=by
 refine wpList_plain hg fun K' hK'=>?_
 unfold Oper.wp
 rcases h.next o.type with ⟨h0,hrun⟩|⟨s,c,w',cnt',hrun,r1,r2,r3,r4,r5⟩
 ·simp[execOp,hop,hit,hrun,Result.andThen]
  exact hK' _ _ (hDone h0)
 ·simp[execOp,hop,hit,hrun,Result.andThen]
  exact hK' _ _ (hMore s c w' cnt' r1 r2 r3 r4 r5)
end
end Sl
namespace Sl
open Go.RowKit Go.Deep Go.Sort
variable [dCp:DecidableEq Cp] [dLim:∀ k,Decidable (ZV k)] [dBad:∀ k,Decidable (Xn k)] [dFit:∀ g z,Decidable (Fit g z)] [dFine:∀ c,Decidable (Fine c)] [dMint:∀ c v,Decidable (JK c v)] [dWho:∀ x y,Decidable (Zx x y)] [dSl:DecidableEq Sl] [dLt:∀ a b,Decidable (MC a b)]
def Jcw (x y:Int):Int:=if x<y then -1 else if y<x then 1 else 0
theorem Jo4 (x:Int) (w:World):Calls Tryz.prog 269 #[.int .i64 x] w fun e w'=>e=.returned (.bool false)/\w'=w:=by
 go_enter Tryz.func269,Tryz.ntmps269
 have h:(x != x)=false:=by simp
 go_wp2
 go_ret
 exact⟨by simp,rfl⟩
theorem Jac (x y:Int) (w:World):Calls Tryz.prog 190 #[.int .i64 x,.int .i64 y] w fun e w'=>e=.returned (.int .i64 (Jcw x y))/\w'=w:=by
 go_enter Tryz.func190,Tryz.ntmps190
 go_wp2_with (go_at_call 269;refine(Jo4 _ _).mono ?_;rintro e w' ⟨rfl,rfl⟩)
 all_goals go_ret
 all_goals exact⟨by unfold Jcw;simp_all;try omega,rfl⟩
def orI (x y:Int):Int:=if x=0 then y else x
theorem Jtu (x y:Int) (b:Nat) (w:World) (h0:w.cell? ⟨b,0,none⟩=some (.int .i64 x)) (h1:w.cell? ⟨b,1,none⟩=some (.int .i64 y)):Calls Tryz.prog 189 #[.slice (some ⟨b,0,none⟩) 2 2] w fun e w'=>e=.returned (.int .i64 (orI x y))/\w'=w:=by
 go_enter Tryz.func189,Tryz.ntmps189
 go_wp2
 refine wp_loop_rounds 3 ?_
 rw[rounds_succ]
 go_wp2
 ·go_ret
  exact⟨by unfold orI;simp_all,rfl⟩
 ·rw[rounds_succ]
  go_wp2
  ·go_ret
   exact⟨by unfold orI;simp_all,rfl⟩
  ·rw[rounds_succ]
   go_wp2
   go_ret
   exact⟨by unfold orI;simp_all,rfl⟩
theorem Jtw (x y:Int) (w:World):Calls Tryz.prog 189 #[.slice (some ⟨w.heap.size,0,none⟩) 2 2] (w.alloc (.cells #[.int .i64 x,.int .i64 y] 3)).drew fun e w'=>e=.returned (.int .i64 (orI x y))/\w'=(w.alloc (.cells #[.int .i64 x,.int .i64 y] 3)).drew:=by
 have h:(w.alloc (.cells #[.int .i64 x,.int .i64 y] 3)).drew.heap[w.heap.size]? = _:=blk_alloc_new w (.cells #[.int .i64 x,.int .i64 y] 3)
 refine Jtu x y _ _ ?_ ?_<;>(unfold World.cell?;rw[h];rfl)
def XY (x:Sl×Cp):Obj:=.cells (Vs x).toArray 84
def Jab (x y:Sl×Cp):Int:=orI (Jcw x.1.n y.1.n) (Jcw x.1.i y.1.i)
theorem Jnu (x y:Sl×Cp):Jab x y<0↔MC x.1 y.1:=by
 unfold Jab orI Jcw MC
 repeat' split
 all_goals omega
theorem EC {w:World} {q:Nat} {x:Sl×Cp} (h:w.heap[q]? = some (XY x)):w.cell? ⟨q,0,none⟩=some (.int .i64 x.1.n)/\w.cell? ⟨q,1,none⟩=some (.int .i64 x.1.i):=by
 unfold XY Vs at h
 constructor<;>simp[World.cell?,h]
theorem Jjp {w W:World} {r:Nat} {a b c d:Int} (h:W.cell? ⟨r,0,none⟩=some (.int .i64 a)/\W.cell? ⟨r,1,none⟩=some (.int .i64 b)/\W.cell? ⟨r+1,0,none⟩=some (.int .i64 c)/\W.cell? ⟨r+1,1,none⟩=some (.int .i64 d)/\Grown w W) :
  W.drew.cell? ⟨r,0,none⟩=some (.int .i64 a)/\W.drew.cell? ⟨r,1,none⟩=some (.int .i64 b)/\W.drew.cell? ⟨r+1,0,none⟩=some (.int .i64 c)/\W.drew.cell? ⟨r+1,1,none⟩=some (.int .i64 d)/\Grown w W.drew:=
 ⟨h.1,h.2.1,h.2.2.1,h.2.2.2.1,h.2.2.2.2.drew⟩
theorem Jns {w W:World} {r:Nat} {a b c d:Int} (h:W.cell? ⟨r,0,none⟩=some (.int .i64 a)/\W.cell? ⟨r,1,none⟩=some (.int .i64 b)/\W.cell? ⟨r+1,0,none⟩=some (.int .i64 c)/\W.cell? ⟨r+1,1,none⟩=some (.int .i64 d)/\Grown w W) (o:Obj) :
  (W.alloc o).cell? ⟨r,0,none⟩=some (.int .i64 a)/\(W.alloc o).cell? ⟨r,1,none⟩=some (.int .i64 b)/\(W.alloc o).cell? ⟨r+1,0,none⟩=some (.int .i64 c)/\(W.alloc o).cell? ⟨r+1,1,none⟩=some (.int .i64 d)/\Grown w (W.alloc o):=
 ⟨Lib.cell?_alloc_some _ h.1,Lib.cell?_alloc_some _ h.2.1,Lib.cell?_alloc_some _ h.2.2.1,Lib.cell?_alloc_some _ h.2.2.2.1,h.2.2.2.2.alloc o⟩
theorem Jaa (x y:Sl×Cp) (w:World):Calls Tryz.prog 188 #[.agg (Vs x).toArray,.agg (Vs y).toArray] w fun e w'=>e=.returned (.int .i64 (Jab x y))/\Grown w w':=by
 have HC:Hid (Jab x y=orI (Jcw x.1.n y.1.n) (Jcw x.1.i y.1.i)):=rfl
 generalize Jab x y=ch at *
 have x1:((w.alloc (XY x)).alloc (XY y)).heap[w.heap.size]? = some (XY x):=by
  rw[blk_alloc_lt _ _ _ (by simp)]
  exact blk_alloc_new _ _
 have x2:((w.alloc (XY x)).alloc (XY y)).heap[w.heap.size+1]? = some (XY y):=by
  have:=blk_alloc_new (w.alloc (XY x)) (XY y)
  simpa using this
 obtain⟨c0,c1⟩:=EC x1
 obtain⟨d0,d1⟩:=EC x2
 have hS:((w.alloc (XY x)).alloc (XY y)).cell? ⟨w.heap.size,0,none⟩=some (.int .i64 x.1.n)/\((w.alloc (XY x)).alloc (XY y)).cell? ⟨w.heap.size,1,none⟩=some (.int .i64 x.1.i)/\((w.alloc (XY x)).alloc (XY y)).cell? ⟨w.heap.size+1,0,none⟩=some (.int .i64 y.1.n)/\((w.alloc (XY x)).alloc (XY y)).cell? ⟨w.heap.size+1,1,none⟩=some (.int .i64 y.1.i)/\Grown w ((w.alloc (XY x)).alloc (XY y)):=
  ⟨c0,c1,d0,d1,Grown.alloc (Grown.alloc ⟨0,#[],by rw[grow_empty];rfl⟩ _) _⟩
 clear x1 x2 c0 c1 d0 d1
 simp only[Vs,XY] at *
 go_enter Tryz.func188,Tryz.ntmps188
 go_wp2
 generalize(w.alloc (Obj.cells _ _)).alloc (Obj.cells _ _)=w2 at *
 generalize w.heap.size=r at *
 go_region_held3 (fun W=>W.cell? ⟨r,0,none⟩=some (.int .i64 x.1.n)/\W.cell? ⟨r,1,none⟩=some (.int .i64 x.1.i)/\W.cell? ⟨r+1,0,none⟩=some (.int .i64 y.1.n)/\W.cell? ⟨r+1,1,none⟩=some (.int .i64 y.1.i)/\Grown w W) ((first|assumption|with_reducible exact Jjp hS|with_reducible exact Jjp (Jns hS _)))
  (first|(go_at_call 190;refine(Jac _ _ _).mono ?_;rintro e w' ⟨rfl,rfl⟩)|(go_at_call 189;refine(Jtw _ _ _).mono ?_;rintro e w' ⟨rfl,rfl⟩))
 rename_i hH
 have hG:=hH.2.2.2.2
 clear hH hS
 go_wp2
 go_ret
 exact⟨by rw[HC.out];rfl,hG⟩
open Go.Shelf
def Es:Go.Shelf.Ren:=⟨fun|6=>187|15=>268|14=>267|28=>336|29=>337|20=>328|21=>329|22=>330|23=>331|24=>332|25=>333|26=>334|27=>335|46=>362|47=>363|48=>364|49=>365|50=>366|57=>373|n=>n,fun|22=>63|24=>84|25=>299|3=>3|39=>348|0=>0|53=>398|55=>39|4=>4|46=>392|45=>391|50=>61|5=>5|9=>9|66=>416|70=>378|76=>426|77=>427|n=>n,fun|n=>n⟩
theorem MB:Go.Proofs.SlLaysF0.n6 Tryz.prog Es:={
 mixed:=by kernel_rfl
 f6:=⟨Tryz.f187.name,by decide,Tryz.func187.trans (congrArg some (by kernel_rfl))⟩
 f14:=⟨Tryz.f267.name,by decide,Tryz.func267.trans (congrArg some (by kernel_rfl))⟩
 f15:=Tryz.func268.trans (congrArg some (by kernel_rfl))
 f20:=⟨Tryz.f328.name,by decide,Tryz.func328.trans (congrArg some (by kernel_rfl))⟩
 f21:=⟨Tryz.f329.name,by decide,Tryz.func329.trans (congrArg some (by kernel_rfl))⟩
 f22:=⟨Tryz.f330.name,by decide,Tryz.func330.trans (congrArg some (by kernel_rfl))⟩
 f23:=⟨Tryz.f331.name,by decide,Tryz.func331.trans (congrArg some (by kernel_rfl))⟩
 f24:=⟨Tryz.f332.name,by decide,Tryz.func332.trans (congrArg some (by kernel_rfl))⟩
 f25:=⟨Tryz.f333.name,by decide,Tryz.func333.trans (congrArg some (by kernel_rfl))⟩
 f26:=⟨Tryz.f334.name,by decide,Tryz.func334.trans (congrArg some (by kernel_rfl))⟩
 f27:=⟨Tryz.f335.name,by decide,Tryz.func335.trans (congrArg some (by kernel_rfl))⟩
 f28:=Tryz.func336.trans (congrArg some (by kernel_rfl))
 f29:=Tryz.func337.trans (congrArg some (by kernel_rfl))
 f46:=⟨Tryz.f362.name,by decide,Tryz.func362.trans (congrArg some (by kernel_rfl))⟩
 f47:=Tryz.func363.trans (congrArg some (by kernel_rfl))
 f48:=Tryz.func364.trans (congrArg some (by kernel_rfl))
 f49:=⟨Tryz.f365.name,by decide,Tryz.func365.trans (congrArg some (by kernel_rfl))⟩
 f50:=⟨Tryz.f366.name,by decide,Tryz.func366.trans (congrArg some (by kernel_rfl))⟩
 f57:=⟨Tryz.f373.name,by decide,Tryz.func373.trans (congrArg some (by kernel_rfl))⟩
 t0:=Tryz.underlying0
 a0:=Tryz.isAgg0
 z0:=Tryz.sizeOf0
 v0:=Tryz.zeroValue0
 t3:=Tryz.underlying3
 a3:=Tryz.isAgg3
 z3:=Tryz.sizeOf3
 v3:=Tryz.zeroValue3
 t4:=Tryz.underlying4
 a4:=Tryz.isAgg4
 z4:=Tryz.sizeOf4
 v4:=Tryz.zeroValue4
 t5:=Tryz.underlying5
 a5:=Tryz.isAgg5
 z5:=Tryz.sizeOf5
 v5:=Tryz.zeroValue5
 t9:=Tryz.underlying9
 a9:=Tryz.isAgg9
 z9:=Tryz.sizeOf9
 v9:=Tryz.zeroValue9
 t22:=Tryz.underlying63
 a22:=Tryz.isAgg63
 z22:=Tryz.sizeOf63
 v22:=Tryz.zeroValue63
 t25:=Tryz.underlying299
 a25:=Tryz.isAgg299
 z25:=Tryz.sizeOf299
 v25:=Tryz.zeroValue299
 t39:=Tryz.underlying348
 a39:=Tryz.isAgg348
 z39:=Tryz.sizeOf348
 v39:=Tryz.zeroValue348
 t45:=Tryz.underlying391
 a45:=Tryz.isAgg391
 z45:=Tryz.sizeOf391
 v45:=Tryz.zeroValue391
 t46:=Tryz.underlying392
 a46:=Tryz.isAgg392
 z46:=Tryz.sizeOf392
 v46:=Tryz.zeroValue392
 t50:=Tryz.underlying61
 a50:=Tryz.isAgg61
 z50:=Tryz.sizeOf61
 v50:=Tryz.zeroValue61
 t53:=Tryz.underlying398
 a53:=Tryz.isAgg398
 z53:=Tryz.sizeOf398
 v53:=Tryz.zeroValue398
 t55:=Tryz.underlying39
 a55:=Tryz.isAgg39
 z55:=Tryz.sizeOf39
 v55:=Tryz.zeroValue39
 t66:=Tryz.underlying416
 a66:=Tryz.isAgg416
 z66:=Tryz.sizeOf416
 v66:=Tryz.zeroValue416
 t70:=Tryz.underlying378
 a70:=Tryz.isAgg378
 z70:=Tryz.sizeOf378
 v70:=Tryz.zeroValue378
 t76:=Tryz.underlying426
 a76:=Tryz.isAgg426
 z76:=Tryz.sizeOf426
 v76:=Tryz.zeroValue426
 t77:=Tryz.underlying427
 a77:=Tryz.isAgg427
 z77:=Tryz.sizeOf427
 v77:=Tryz.zeroValue427 }
open Go.Lib
variable [iSl:Inhabited Sl] [iCp:Inhabited Cp]
theorem Ix (x:Sl×Cp):(Vs x).length=8:=rfl
theorem Jah (x:Sl×Cp):∀ v∈Vs x,v.oneCell'=true:=by
 intro v hv
 simp only[Vs,List.mem_cons,List.not_mem_nil,or_false] at hv
 rcases hv with rfl|rfl|rfl|rfl|rfl|rfl|rfl|rfl<;>rfl
theorem Oi:∀ A:List (Sl×Cp),(XS A).length=A.length*8
 | []=>rfl
 | x::A=>by
  have:=Oi A
  simp only[XS,List.flatMap_cons,List.length_append,Ix,List.length_cons] at this ⊢
  omega
theorem Jgi (A B:List (Sl×Cp)):XS (A++B)=XS A++XS B:=by simp[XS]
theorem E4:∀ (A:List (Sl×Cp)) (t:Nat),t<A.length*8->(XS A)[t]? = some ((Vs (A.getD (t / 8) default))[t % 8]!)
 | [],t,h=>by simp at h
 | x::A,t,h=>by
  simp only[XS,List.flatMap_cons]
  rw[List.getElem?_append,Ix]
  by_cases h8:t<8
  ·rw[if_pos h8]
   have e1:t / 8=0:=by omega
   have e2:t % 8=t:=by omega
   rw[e1,e2]
   have hx:t<(Vs x).length:=by rw[Ix];exact h8
   rw[List.getElem?_eq_getElem hx,getElem!_pos _ t hx]
   simp
  ·rw[if_neg h8]
   have ih:=E4 A (t - 8) (by simp at h;omega)
   unfold XS at ih
   rw[ih]
   have e1:t / 8=(t - 8) / 8+1:=by omega
   have e2:t % 8=(t - 8) % 8:=by omega
   rw[e1,e2]
   simp
theorem E5 (A:List (Sl×Cp)):(_root_.Go.Sort.flatK Vs 8 A.toArray).toList=XS A:=by
 apply List.ext_getElem?
 intro t
 by_cases h:t<A.length*8
 ·rw[E4 A t h]
  have hs:t<(_root_.Go.Sort.flatK Vs 8 A.toArray).size:=by simpa using h
  have:=get_flatK Vs 8 A.toArray t (by simpa using h)
  rw[Array.getElem?_toList,Array.getElem?_eq_getElem hs]
  rw[getElem!_pos _ t hs] at this
  rw[this]
  have ht:t / 8<A.length:=by omega
  simp[ht]
 ·rw[List.getElem?_eq_none (by simp;omega),List.getElem?_eq_none (by rw[Oi];omega)]
theorem Gt (x y:Sl×Cp):ltOf Jab x y=decide (MC x.1 y.1):=by
 unfold ltOf
 exact decide_eq_decide.2 (Jnu x y)
theorem swo:SWO (ltOf Jab) where
 irrefl x:=by rw[Gt];simp[MU]
 trans x y z h1 h2:=by
  rw[Gt] at *
  simp only[decide_eq_true_eq] at *
  exact Fv h1 h2
 ntrans x y z h1 h2:=by
  rw[Gt] at *
  simp only[decide_eq_false_iff_not] at *
  unfold MC at *
  omega
theorem Jmv (cur F:Array Value) (h:F.size<=cur.size):(putCells id 0 F cur).toList.take F.size=F.toList:=by
 apply List.ext_getElem?
 intro j
 by_cases hj:j<F.size
 ·rw[List.getElem?_take_of_lt hj,Array.getElem?_toList]
  simp[putCells,hj,show j<cur.size by omega]
 ·rw[List.getElem?_take_eq_none (by omega),List.getElem?_eq_none (by simp;omega)]
theorem Jib (B g cap:Nat) (A:List (Sl×Cp)) (w:World) (h:OwnH B w (.slice (some ⟨g,0,none⟩) A.length cap) A) (hl:A.length<=1000000) :
  Calls Tryz.prog 187 #[.slice (some ⟨g,0,none⟩) A.length cap,.func (.func 188) #[] #[]] w fun e w' =>
   e=.returned (.tuple #[])/\∃ A',A'.Perm A/\A'.Pairwise (fun p q=>¬ MC q.1 p.1)/\OwnH B w' (.slice (some ⟨g,0,none⟩) A.length cap) A'/\w.grownBy w' (some g):=by
 obtain⟨h0,⟨h1,_⟩|⟨g',cap',cur,hv,hb,hg,hn,hc,hs,ht⟩⟩:=h
 ·cases h1
 ·simp only[Value.slice.injEq,Option.some.injEq,Addr.mk.injEq,and_true,true_and] at hv
  obtain⟨rfl,rfl⟩:=hv
  have hlt:g<w.heap.size:=(Jqf.1 hg).1
  have hH:HoldsK Vs 8 w g 0 A.toArray:=by
   intro j hj
   have hj':j<A.length*8:=by simpa using hj
   have e1:(XS A)[j]? = some (_root_.Go.Sort.flatK Vs 8 A.toArray)[j]!:=by
    rw[<- E5,Array.getElem?_toList,getElem!_pos _ j hj,Array.getElem?_eq_getElem hj]
   rw[<- ht,List.getElem?_take,if_pos (by omega)] at e1
   refine⟨?_,by simp[World.frozen?,hg]⟩
   simpa [World.cell?,hg] using e1
  have eg:∀ args w,(callFunc 188 args).run Tryz.prog w=.ok (.enter 188 args) w:=enters_of Tryz.func188 (by kernel_rfl) rfl
  have hc2:=AnyQ.slices_SortFunc MB 8 Tryz.isAgg84 Tryz.sizeOf84 Vs Ix Jah Jab swo 188 #[] g 0 cap A.toArray w eg (fun m os dk hd x y=>Jaa x y _) hH hlt (by simp;omega)
  refine hc2.mono ?_
  rintro e w' ⟨rfl,d',n,os,hp,hso,rfl⟩
  refine⟨rfl,d'.toList,?_,?_,?_,?_⟩
  ·obtain⟨hsz,_,hperm⟩:=hp
   have e1:d'.extract 0 A.toArray.size=d':=by rw[<- hsz];exact Array.extract_size
   rw[e1,Array.extract_size] at hperm
   simpa using hperm
  ·rw[List.pairwise_iff_getElem]
   intro i j hi hj hij
   have hi':i<d'.size:=by simpa using hi
   have hj':j<d'.size:=by simpa using hj
   have:=hso i j (Jqp _) hij (by rw[<- hp.1];exact hj')
   rw[getElem!_pos d' j hj',getElem!_pos d' i hi',Gt] at this
   simpa using this
  ·have hsz:d'.size=A.length:=by simpa using hp.1
   have hl2:d'.toList.length=A.length:=by simpa using hsz
   refine⟨by rw[Oi,hl2],.inr ⟨g,cap,putCells id 0 (_root_.Go.Sort.flatK Vs 8 d') cur,by rw[hl2],hb,?_,by rw[hl2];exact hn,hc,by simp[putCells,hs],?_⟩⟩
   ·unfold sortWorldK putRowK
    rw[heap_grow_old _ _ (by simpa using hlt)]
    simp[putRow,mapBlock,Sort.ahead,Array.getElem?_modify,hg,onCells]
   ·have e1:d'.toList.length*8=(_root_.Go.Sort.flatK Vs 8 d').size:=by simp
    rw[e1,Jmv _ _ (by simp[hs,hsz];omega)]
    simpa using E5 d'.toList
  ·unfold sortWorldK putRowK
   refine⟨rfl,rfl,rfl,by simp,fun k hk hne=>?_⟩
   rw[heap_grow_old _ _ (by simpa using hk)]
   have:g≠k:=fun e=>hne (by rw[e])
   simp[putRow,mapBlock,Sort.ahead,Array.getElem?_modify,this]
theorem Jia (w:World):Calls Tryz.prog 187 #[.slice none 0 0,.func (.func 188) #[] #[]] w fun e w'=>e=.returned (.tuple #[])/\w'=w:=
 AnyF.slices_SortFunc_none MB none 0 _ w
theorem Jmo (B:Nat) (v:Value) (A:List (Sl×Cp)) (w:World) (h:OwnH B w v A) (hl:A.length<=1000000) :
  Calls Tryz.prog 187 #[v,.func (.func 188) #[] #[]] w fun e w' =>
   e=.returned (.tuple #[])/\∃ A',A'.Perm A/\A'.Pairwise (fun p q=>¬ MC q.1 p.1)/\OwnH B w' v A'/\w.grownBy w' v.ownBlock:=by
 have h':=h
 obtain⟨h0,⟨rfl,hn⟩|⟨g,cap,cur,rfl,_⟩⟩:=h'
 ·refine(Jia w).mono ?_
  rintro e w' ⟨rfl,rfl⟩
  obtain rfl:A=[]:=List.eq_nil_of_length_eq_zero hn
  exact⟨rfl,[],List.Perm.refl _,List.Pairwise.nil,h,⟨rfl,rfl,rfl,Jqd _,fun _ _ _=>rfl⟩⟩
 ·exact Jib B g cap A w h hl
end Sl
namespace Sl
open Go.RowKit Go.Deep Go.MapKept Go.Maps
variable [dCp:DecidableEq Cp] [dLim:∀ k,Decidable (ZV k)] [dBad:∀ k,Decidable (Xn k)] [dFit:∀ g z,Decidable (Fit g z)] [dFine:∀ c,Decidable (Fine c)] [dMint:∀ c v,Decidable (JK c v)] [dWho:∀ x y,Decidable (Zx x y)] [dSl:DecidableEq Sl] [dLt:∀ a b,Decidable (MC a b)] [iSl:Inhabited Sl] [iCp:Inhabited Cp]
theorem Jkf:(Tryz.prog.info? 84).map (fun i=>(i.zero,i.size,i.bytes))=some (some (.agg #[.int .i64 0,.int .i64 0,.int .i64 0,.int .i64 0,.int .i64 0,.int .u64 0,.int .u64 0,.int .i64 0]),8,64):=by kernel_rfl
theorem JG (b o j:Nat):(⟨b,o,none⟩:Addr).add j=⟨b,o+j,none⟩:=by unfold Addr.add;split<;>simp_all
theorem GR (B:Nat) (w:World) (ty:TypeId) (v:Value) (A:List (Sl×Cp)) (x:Sl×Cp) (hown:OwnH B w v A) (hl:A.length<=1000000) (hB:B<=w.heap.size) :
  ∃ v' w',(Builtin.append_ #[63,63] ty #[v,.slice (some ⟨w.heap.size,0,none⟩) 1 1]).run Tryz.prog (w.alloc (XY x))=.ok v' w'/\OwnH B w' v' (A++[x])/\w.grownBy w' v.ownBlock/\(v'.ownBlock=v.ownBlock\/v'.ownBlock=some (w.heap.size+1)):=by
 obtain⟨i,hi,hz⟩:=Jqt.1 Jkf
 simp only[Prod.mk.injEq] at hz
 have h1:(w.alloc (XY x)).ownsRow B 84 8 v A.length (XS A):=World.ownsRow.alloc hown _
 obtain⟨v',w',r1,r2,r3,_,r5⟩:=run_append_own_at (P:=Tryz.prog) (w.alloc (XY x)) B 63 ty 84 i _ 8 64 Tryz.underlying63 hi hz.1 hz.2.1 hz.2.2 rfl (by decide) v A.length (XS A) h1 ⟨w.heap.size,0,none⟩ 1 1 (Vs x) rfl
  (fun j u hju=>by
   rw[JG]
   have e:=blk_alloc_new w (XY x)
   unfold XY at e ⊢
   simp only[World.cell?,e,Nat.zero_add]
   simpa using hju) (Jah x) (by unfold maxLen;omega) (by omega) (by simp;omega)
 refine⟨v',w',r1,?_,(World.grownBy_alloc w _ _).trans r3,by simpa using r5⟩
 unfold OwnH
 rw[List.length_append,Jgi,show XS [x]=Vs x by simp[XS]]
 exact r2
theorem OwnH.block_ne {B:Nat} {w:World} {v:Value} {A:List (Sl×Cp)} (h:OwnH B w v A) {k:Nat} (hk:∀ c t f,w.heap[k]? ≠ some (.cells c t f)):v.ownBlock≠some k:=by
 obtain⟨_,⟨rfl,_⟩|⟨g,cap,cur,rfl,_,hg,_⟩⟩:=h
 ·simp[Value.ownBlock]
 ·intro e
  have:g=k:=by simpa [Value.ownBlock] using e
  subst this
  exact hk _ _ _ hg
theorem Ranges.row_ne {w:World} {b r:Nat} {f:Sl->Option Cp} {A A':List (Sl×Cp)} {cnt B:Nat} {v:Value} (h:Ranges w b r f A cnt) (k:OwnH B w v A'):v.ownBlock≠some b/\v.ownBlock≠some r:=by
 obtain⟨es,clock,since,seen,c0,hb,_,_,hr,_⟩:=h
 exact⟨k.block_ne fun c t f e=>(by rw[hb] at e;cases e),k.block_ne fun c t f e=>(by rw[hr] at e;cases e)⟩
theorem Jn9 {S:St} {A A':List (Sl×Cp)} (hA:∀ p,p∈A↔Zg S p.1=some p.2) (hap:A.Pairwise (fun p q=>p.1≠q.1)) (hp:A'.Perm A) (hs:A'.Pairwise (fun p q=>¬ MC q.1 p.1)):A'=JX S:=by
 refine FM _ _ ?_ (Jaz S) fun p=>?_
 ·have hap':A'.Pairwise (fun p q=>p.1≠q.1):=(hp.pairwise_iff fun h=>Ne.symm h).2 hap
  have:=hs.and hap'
  refine this.imp fun {p q} ⟨h1,h2⟩=>Decidable.byContradiction fun h3=>h2 (Jg4 h3 h1)
 ·rw[hp.mem_iff,hA,<- Jbm]
theorem Jfm {S:St} (ok:Okay S) {A:List (Sl×Cp)} (hA:∀ p∈A,Zg S p.1=some p.2) (hap:A.Pairwise (fun p q=>p.1≠q.1)):A.length<=16384:=
 Jql (Jkv A (JX S) (hap.imp fun {p q} h e=>h (by rw[e])) fun p hp=>(Jbm S p.1 p.2).2 (hA p hp)) (Jn7 ok)
theorem IH (p:Nat) (F:Nat->Prop) (S:St) (w:World) (h:Nds w p F S) :
  Calls Tryz.prog 88 #[.pointer (some ⟨p,0,none⟩)] w fun e w'=>∃ v,e=.returned v/\OwnH w.heap.size w' v (JX S)/\Below w.heap.size w w':=by
 obtain⟨m,v,h⟩:=h
 have OK:Hid (Okay S):=h.ok
 obtain⟨c0,c1⟩:=h.cells
 have hm:=h.map
 have hml:Hid (m<w.heap.size):=h.lt _ h.fm
 clear h c0
 go_enter Tryz.func88,Tryz.ntmps88
 go_wp2_with (first|(at_range;refine GO rfl _ rfl rfl hm ?_;intro w0 cnt0 hrg0 hg0 hs0)|go_in)
 go_frame
 go_loopw [3] (fun l wr=>∃ A cnt,OwnH w.heap.size wr l A/\Ranges wr m w.heap.size (Zg S) A cnt/\Below w.heap.size w wr) (fun _ wr=>wr.rangeLeft m w.heap.size)
 case atStart=>exact⟨[],_,World.ownsRow_nil _ _ _ _,hrg0,(Below.refl _ _).grown hg0 (Jqd _) fun j hj=>by cases hj⟩
 case round =>
  obtain⟨A,cnt,hown,hrg,hnx⟩:=hrel
  go_wp2_with (first|(at_next;refine Jcn rfl _ rfl rfl hrg ?_ ?_)|go_in)
  ·intro hc0
   subst hc0
   have HD:Hid (OwnH w.heap.size _ _ A/\Ranges _ m w.heap.size (Zg S) A 0/\Below w.heap.size w _):=⟨hown,hrg,hnx⟩
   clear hown hrg hnx
   go_wp2_with fail
   refine(Jmo w.heap.size _ A _ HD.out.1 (by have:=Jfm OK.out HD.out.2.1.mem HD.out.2.1.apart;omega)).mono ?_
   rintro e w5 ⟨rfl,A',hp,hs,ho,hg⟩
   have e1:=Jn9 HD.out.2.1.all HD.out.2.1.apart hp hs
   subst e1
   go_wp2
   go_ret
   exact⟨_,rfl,ho,HD.out.2.2.grown hg HD.out.2.2.size fun k hk=>(World.ownsRow.lt HD.out.1 k hk).1⟩
  ·intro s c w1 cnt1 hrg1 hlt hg1 hs1 hen
   have own1:OwnH w.heap.size w1 u3 A:=hown.grown hg1 fun k hk=>by cases hk;exact(hrg.row_ne hown).2
   have x4:=(O3 w1 (Jo s) (Jn c)).2.2.2
   have x3:=(O3 w1 (Jo s) (Jn c)).2.2.1
   have own2:OwnH w.heap.size ((w1.alloc (Jo s)).alloc (Jn c)) u3 A:=World.ownsRow.alloc (World.ownsRow.alloc own1 _) _
   have hrg2:Ranges ((w1.alloc (Jo s)).alloc (Jn c)) m w.heap.size (Zg S) (A++[(s,c)]) cnt1:=hrg1.of_block (x4.block _ hrg1.lt.1) (x4.block _ hrg1.lt.2)
   have hlen:=Jfm OK.out hrg1.mem hrg1.apart
   rw[List.length_append] at hlen
   have hsz:w.heap.size<=w1.heap.size:=Jql hnx.size hg1.size
   obtain⟨v',w5,hrun,own5,g5,_⟩:=GR w.heap.size ((w1.alloc (Jo s)).alloc (Jn c)) 63 u3 A (s,c) own2 (by omega) (by rw[x3];omega)
   have hrg5:Ranges w5 m w.heap.size (Zg S) (A++[(s,c)]) cnt1:=hrg2.grown g5 (hrg2.row_ne own2).1 (hrg2.row_ne own2).2
   have hb5:Below w.heap.size w w5:=by
    have b1:Below w.heap.size w w1:=hnx.grown hg1 hnx.size fun k hk=>by cases hk;exact Jqd _
    have b2:Below w.heap.size w ((w1.alloc (Jo s)).alloc (Jn c)):=Below.then b1 x4 hsz
    exact b2.grown g5 (by rw[x3];omega) fun k hk=>(World.ownsRow.lt own2 k hk).1
   have HD:Hid (OwnH w.heap.size w5 v' (A++[(s,c)])/\Ranges w5 m w.heap.size (Zg S) (A++[(s,c)]) cnt1/\Below w.heap.size w w5/\w5.rangeLeft m w.heap.size<wr.rangeLeft m w.heap.size):=⟨own5,hrg5,hb5,by rw[hrg5.left,hrg.left];exact hlt⟩
   rw[x3] at hrun
   have HRun:Hid _:=hrun
   clear hrg0 hg0 hs0 hown hrg hnx hrg1 hlt hg1 hs1 own1 own2 hrg2 hlen hsz own5 g5 hrg5 hb5 x3 x4 hm hrun
   simp only[Jh,Jg,Jo,Jn,XY,Vs] at *
   go_wp2_with (at_builtin;refine Jd rfl (.tmp 16) (.tmp 20) 63 rfl _ _ _ _ rfl rfl HRun.out ?_)
   go_roundw
   case rel=>exact⟨_,_,HD.out.1,HD.out.2.1,HD.out.2.2.1⟩
   case measure=>exact HD.out.2.2.2
end Sl
end Go.Proofs.YtbfjjpdnoalojaaGreatDoor
