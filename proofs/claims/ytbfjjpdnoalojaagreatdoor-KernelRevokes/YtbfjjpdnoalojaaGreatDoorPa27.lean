/- Below: KUn; no condition. -/
import Derived.Test.YtbfjjpdnoalojaaGreatDoorPa2
import Derived.Test.YtbfjjpdnoalojaaGreatDoorProg
import Derived.WalkKit
import Derived.WalkLawsBesides
import Derived.Test.YtbfjjpdnoalojaaGreatDoorRows
import Derived.Laws.CopyOwn
import Derived.Laws.AppendOwnNone
import Derived.Lib.SliceRun
import Derived.Deep.OwnRows
import Derived.Deep.QuietTactic
import Derived.BigQuiet
import Derived.Deep.RegionWith
import Derived.Laws.StructEq
import Derived.Below
set_option maxHeartbeats 16000000
set_option maxRecDepth 100000
namespace Go.Proofs.YtbfjjpdnoalojaaGreatDoor
namespace Un
open Go.RowKit
theorem ZM {k j:IntKind} {a b c d:Int} (h:a=b) (g:c=d):Ending.returned (.tuple #[.int k a,.int j c])=.returned (.tuple #[.int k b,.int j d]):=by rw[h,g]
theorem Jm {k:IntKind} {a b:Int} (h:a=b):Ending.returned (.int k a)=.returned (.int k b):=by rw[h]
theorem Js {a b:Bool} (h:a=true↔b=true):Ending.returned (.bool a)=.returned (.bool b):=by rw[Bool.eq_iff_iff.2 h]
theorem Vi (n:Int) (w:World) (h0:0<=n) (h1:n<=64) :
  Calls Tryz.prog 343 #[.int .i64 n] w fun e w'=>e=.returned (.int .u64 (Jr n))/\w'=w:=by
 go_enter Tryz.func343,Tryz.ntmps343
 go_wp2
 go_ret
 exact⟨Jm (XZ n h0 h1),rfl⟩
theorem Jm8 (v n:Int) (w:World) (v0:0<=v) (h0:0<=n) (h2:n<=63) (hv:v<=OC (Jr n)) :
  Calls Tryz.prog 295 #[.int .u64 v,.int .i64 n] w fun e w'=>e=.returned (.tuple #[.int .u64 (upI v n),.int .i64 0])/\w'=w:=by
 have hb:=Eg n (by omega) (by omega)
 have hn:v+Jr n<=18446744073709551615:=by unfold OC at hv;omega
 have hs:IntKind.u64.signed=false:=rfl
 have hx:=Jbs (Jr n) hb.1 hb.2
 go_enter Tryz.func295,Tryz.ntmps295
 go_wp2_with (go_at_call 343;refine(Vi _ _ (by omega) (by omega)).mono ?_;rintro e w' ⟨rfl,rfl⟩)
 go_ret2
 exact⟨ZM (Jq0 v n v0 h0 h2 hv) rfl,rfl⟩
theorem VO (n:Int) (w:World) (h0:0<=n) (h1:n<=63) :
  Calls Tryz.prog 296 #[.int .i64 n] w fun e w'=>e=.returned (.int .u64 (JT n))/\w'=w:=by
 go_enter Tryz.func296,Tryz.ntmps296
 go_wp2
 go_ret
 exact⟨Jm (Jil n h0 h1),rfl⟩
open Go.Deep
def ZX (L:List Int):List Value:=L.map (Value.int .u64)
theorem G5 (L:List Int):(ZX L).length=L.length:=by simp[ZX]
theorem G6 (L:List Int):∀ v∈ZX L,v.oneCell'=true:=by
 intro v hv
 obtain⟨x,_,rfl⟩:=List.mem_map.1 hv
 rfl
theorem Uh (L:List Int) (j:Nat) (h:j<L.length):(ZX L)[j]? = some (.int .u64 (L.getD j 0)):=by
 simp[ZX,h]
def Row (w:World) (c:Nat) (L:List Int):Prop:=w.heap[c]? = some (.cells (ZX L).toArray 39 (0,0))
theorem Row.cell {w:World} {c:Nat} {L:List Int} (h:Row w c L) {j:Nat} (hj:j<L.length):w.cell? ⟨c,j,none⟩=some (.int .u64 (L.getD j 0)):=by
 unfold Row at h
 simp only[World.cell?,h]
 simpa using Uh L j hj
structure Mem (t:TypeId) (w:World) (b c:Nat) (L:List Int):Prop where
 head:w.heap[b]? = some (.cells #[.slice (some ⟨c,0,none⟩) L.length L.length] t (0,0))
 row:Row w c L
 ne:b≠c
theorem Mem.cell {t:TypeId} {w:World} {b c:Nat} {L:List Int} (h:Mem t w b c L):w.cell? ⟨b,0,none⟩=some (.slice (some ⟨c,0,none⟩) L.length L.length):=by
 simp[World.cell?,h.head]
structure Upto (c:Nat) (w w':World):Prop where
 os:w'.os=w.os
 tape:w'.tape=w.tape
 output:w'.output=w.output
 size:w.heap.size<=w'.heap.size
 block:∀ k,k<w.heap.size->k≠c->w'.heap[k]? = w.heap[k]?
theorem Upto.trans {c:Nat} {a b d:World} (h:Upto c a b) (k:Upto c b d):Upto c a d:=
 ⟨k.os.trans h.os,k.tape.trans h.tape,k.output.trans h.output,Nat.le_trans h.size k.size,fun i hi hc=>(k.block i (Nat.lt_of_lt_of_le hi h.size) hc).trans (h.block i hi hc)⟩
def Told (w:World) (ao:Option Addr) (L:List Int):Prop:=L=[]\/∃ b o,ao=some ⟨b,o,none⟩/\b<w.heap.size/\∀ j,j<L.length->w.cell? ⟨b,o+j,none⟩=some (.int .u64 (L.getD j 0))
open Classical
def ZD (u:Un):Value:=.agg #[.int .u64 u.base,.int .i64 u.bits,.int .u64 u.used]
def XI (u:Un):Obj:=.cells #[.int .u64 u.base,.int .i64 u.bits,.int .u64 u.used] 70
theorem Jb (w:World) (o:Obj):Below w.heap.size w (w.alloc o):=(Below.refl _ _).alloc (Nat.le_refl _) _
theorem Below.then {B:Nat} {a b c:World} (h:Below B a b) (k:Below b.heap.size b c) (hB:B<=b.heap.size):Below B a c:=h.trans (k.mono hB)
theorem J0 (w:World) (o o':Obj):Below w.heap.size w ((w.alloc o).alloc o'):=((Below.refl _ _).alloc (Nat.le_refl _) _).alloc (by simp) _
def AtU (w:World) (q:Nat) (u:Un):Prop:=w.heap[q]? = some (XI u)
theorem AtU.lt {w:World} {q:Nat} {u:Un} (h:AtU w q u):q<w.heap.size:=(Array.getElem?_eq_some_iff.1 h).1
theorem AtU.new (w:World) (u:Un):AtU (w.alloc (XI u)) w.heap.size u:=blk_alloc_new _ _
theorem AtU.of_block {w w':World} {q:Nat} {u:Un} (h:AtU w q u) (e:w'.heap[q]? = w.heap[q]?):AtU w' q u:=e.trans h
theorem AtU.below {w w':World} {q:Nat} {u:Un} (h:AtU w q u) (b:Below w.heap.size w w'):AtU w' q u:=(b.block _ h.lt).trans h
theorem AtU.cells {w:World} {q:Nat} {u:Un} (h:AtU w q u):w.cell? ⟨q,0,none⟩=some (.int .u64 u.base)/\w.cell? ⟨q,1,none⟩=some (.int .i64 u.bits)/\w.cell? ⟨q,2,none⟩=some (.int .u64 u.used):=by
 unfold AtU XI at h
 refine⟨?_,?_,?_⟩<;>simp[World.cell?,h]
theorem AtU.frozen {w:World} {q:Nat} {u:Un} (h:AtU w q u) (j:Nat):w.frozen? ⟨q,j,none⟩=false:=by
 unfold AtU XI at h
 simp[World.frozen?,h]
def V1:List Int:=[0,0,0,0,4,20,2,1,8,5,0,0,2,0,0,2,0,0,6,0,0,6,0,0,6,0,0,0,0,0]
structure Tab (w:World):Prop where
 size:2 < w.heap.size
 cell:∀ i,i<30->w.cell? ⟨2,i,none⟩=some (.int .i64 (V1.getD i 0))
theorem Tab.below {w w':World} {B:Nat} (h:Tab w) (b:Below B w w') (hB:2 < B):Tab w':=
 ⟨Nat.lt_of_lt_of_le h.size b.size,fun i hi=>(b.cell (p:=⟨2,i,none⟩) hB).trans (h.cell i hi)⟩
theorem Js3 (w:World) (a b c:Int) :
  (Op.equalIn 10000 405 (.agg #[.int .i64 a,.int .i64 b,.int .i64 c]) (.agg #[.int .i64 0,.int .i64 0,.int .i64 0])).run Tryz.prog w
   = .ok (decide (a=0/\b=0/\c=0)) w:=by
 have u3:=Tryz.underlying3
 have a3:=Tryz.isAgg3
 have z3:=Tryz.sizeOf3
 have hS:Tryz.prog.underlying 405 = some (.struct (Tryz.prog.fieldsOf 405)):=by kernel_rfl
 have hp:Tryz.prog.stoodInHeld 405 = false:=by kernel_rfl
 rw[show(10000:Nat)=9999+1 from rfl,run_equalIn_agg w 9999 405 _ _ hS hp]
 simp only[Program.fieldsOf,Tryz.underlying405]
 go_simp
 by_cases h1:a=0<;>by_cases h2:b=0<;>by_cases h3:c=0<;>simp[h1,h2,h3]
theorem Js9:(Tryz.prog.info? 39).map (fun i=>(i.zero,i.size,i.bytes))=some (some (.int .u64 0),1,8):=by kernel_rfl
def Own (B:Nat) (w:World) (v:Value) (A:List Int):Prop:=w.ownsRow B 39 1 v A.length (ZX A)
theorem Own.told {B:Nat} {w:World} {v:Value} {A:List Int} (h:Own B w v A):∃ ao cap,v=.slice ao A.length cap/\Told w ao A/\∀ x,ao=some x->B<=x.block:=by
 obtain⟨_,⟨rfl,h0⟩|⟨g,cap,cur,rfl,hg,hh,hn,hc,hs,ht⟩⟩:=h
 ·obtain rfl:A=[]:=List.eq_nil_of_length_eq_zero h0
  exact⟨none,0,rfl,.inl rfl,fun x hx=>by cases hx⟩
 ·refine⟨some ⟨g,0,none⟩,cap,rfl,.inr ⟨g,0,rfl,(Array.getElem?_eq_some_iff.1 hh).1,fun j hj=>?_⟩,fun x hx=>by cases hx;exact hg⟩
  have e:=Uh A j hj
  rw[<- ht,List.getElem?_take,if_pos (by omega)] at e
  simpa [World.cell?,hh] using e
theorem FW (B:Nat) (w:World) (ty:TypeId) (v:Value) (A cs:List Int) (ad:Addr) (cap:Nat) (hown:Own B w v A) (ht:Told w (some ad) cs) (hl:A.length+cs.length<=1000000) (hB:B<=w.heap.size) :
  ∃ v' w',(Builtin.append_ #[228,228] ty #[v,.slice (some ad) cs.length cap]).run Tryz.prog w=.ok v' w'/\Own B w' v' (A++cs)/\w.grownBy w' v.ownBlock:=by
 obtain⟨i,hi,hz⟩:=Option.map_eq_some_iff.1 Js9
 simp only[Prod.mk.injEq] at hz
 obtain⟨v',w',h1,h2,h3,_⟩:=run_append_own (P:=Tryz.prog) w B 228 ty 39 i (.int .u64 0) 1 8 Tryz.underlying228 hi hz.1 hz.2.1 hz.2.2 rfl (by decide) v A.length (ZX A) hown ad cs.length cap (ZX cs) (by simp[ZX])
  (fun j u hju=>by
   have hj:j<cs.length:=by have:=(List.getElem?_eq_some_iff.1 hju).1;rwa [G5] at this
   rcases ht with rfl|⟨b,q,e,_,hc⟩
   ·simp at hj
   ·cases e
    rw[Uh cs j hj] at hju
    rw[show(⟨b,q,none⟩:Addr).add j=⟨b,q+j,none⟩ by unfold Addr.add;split<;>simp_all,hc j hj]
    exact hju) (G6 cs) (by unfold maxLen;omega) (by omega) hB
 refine⟨v',w',h1,?_,h3⟩
 unfold Own
 rw[List.length_append,show ZX (A++cs)=ZX A++ZX cs by simp[ZX]]
 exact h2
theorem US {w:World} {ops:Array Oper} {rest:List Oper} {o:Oper} {a:Act} {Q:Exit->Act->World->Prop} (hgd:o.guard=none) (s x:Operand)
  (ho:o.op=.call { callee:=.builtin .append,args:=#[s,x],argTypes:=#[228,228] }) (v y v':Value) (w':World) (hs:a.eval s=v) (hx:a.eval x=y)
  (hrun:(Builtin.append_ #[228,228] o.type #[v,y]).run Tryz.prog w=.ok v' w') (h:wpList Tryz.prog ops Q rest (a.put o.dst v') w'):wpList Tryz.prog ops Q (o::rest) a w:=by
 refine wpList_plain hgd fun K hK=>?_
 unfold Oper.wp
 simp[execOp,ho,resolve,invoke,builtin,hs,hx,hrun,Result.andThen]
 exact hK _ _ h
end Un
namespace Un
open Go.RowKit Go.Deep
theorem Jnt {u:Un} (h:¬ (0<=u.bits/\u.bits<=20)):EG u=1:=by
 unfold EG
 rw[if_neg]
 exact fun x=>h x.1
theorem Jjs {u:Un} (h:0<=u.bits/\u.bits<=20):EG u=if u.base % JT u.bits=0/\u.base<=1099511627776/\u.used<=JT u.bits then 0 else 1:=by
 unfold EG OU
 simp only[h,and_self,true_and]
theorem J9 (u:Un) (w:World) (hf:u.Fits) :
  Calls Tryz.prog 293 #[ZD u] w fun e w'=>e=.returned (.int .i64 (EG u))/\Below w.heap.size w w':=by
 simp only[ZD]
 by_cases hb:0<=u.bits/\u.bits<=20
 ·have H:Hid (EG u=if u.base % JT u.bits=0/\u.base<=1099511627776/\u.used<=JT u.bits then 0 else 1):=Jjs hb
  obtain⟨b0,b1⟩:=hb
  have hp:=IZ u.bits b0 b1
  have f1:=hf.base
  have f3:=hf.used
  have m0:0<=u.base % JT u.bits:=Int.emod_nonneg _ (by omega)
  clear hf
  generalize EG u=r at *
  obtain⟨B,b,U⟩:=u
  simp only at *
  go_enter Tryz.func293,Tryz.ntmps293
  go_wp2_with (go_at_call 296;refine(VO _ _ (by omega) (by omega)).mono ?_;rintro e w' ⟨rfl,rfl⟩)
  all_goals go_ret
  all_goals exact⟨Jm (by rw[H.out];split<;>first|rfl|omega),Jb _ _⟩
 ·have H:Hid (EG u=1):=Jnt hb
  obtain⟨B,b,U⟩:=u
  simp only at *
  go_enter Tryz.func293,Tryz.ntmps293
  go_wp2
  all_goals go_ret
  all_goals exact⟨Jm H.out.symm,Jb _ _⟩
theorem XO (k:Int) (w:World) (h:Tab w) :
  Calls Tryz.prog 348 #[.int .i64 k] w fun e w'=>e=.returned (.bool (decide (1<=k/\k<=8)))/\w'=w:=by
 by_cases hk:0<=k/\k<=9
 ·have:k=0\/k=1\/k=2\/k=3\/k=4\/k=5\/k=6\/k=7\/k=8\/k=9:=by omega
  have q:=Js3
  rcases this with rfl|rfl|rfl|rfl|rfl|rfl|rfl|rfl|rfl|rfl
  ·have c0:=h.cell 0 (by decide)
   have c1:=h.cell 1 (by decide)
   have c2:=h.cell 2 (by decide)
   simp[V1] at c0 c1 c2
   clear h hk
   go_enter Tryz.func348,Tryz.ntmps348
   go_wp2
   all_goals go_ret
   all_goals exact⟨rfl,rfl⟩
  ·have c0:=h.cell 3 (by decide)
   have c1:=h.cell 4 (by decide)
   have c2:=h.cell 5 (by decide)
   simp[V1] at c0 c1 c2
   clear h hk
   go_enter Tryz.func348,Tryz.ntmps348
   go_wp2
   all_goals go_ret
   all_goals exact⟨rfl,rfl⟩
  ·have c0:=h.cell 6 (by decide)
   have c1:=h.cell 7 (by decide)
   have c2:=h.cell 8 (by decide)
   simp[V1] at c0 c1 c2
   clear h hk
   go_enter Tryz.func348,Tryz.ntmps348
   go_wp2
   all_goals go_ret
   all_goals exact⟨rfl,rfl⟩
  ·have c0:=h.cell 9 (by decide)
   have c1:=h.cell 10 (by decide)
   have c2:=h.cell 11 (by decide)
   simp[V1] at c0 c1 c2
   clear h hk
   go_enter Tryz.func348,Tryz.ntmps348
   go_wp2
   all_goals go_ret
   all_goals exact⟨rfl,rfl⟩
  ·have c0:=h.cell 12 (by decide)
   have c1:=h.cell 13 (by decide)
   have c2:=h.cell 14 (by decide)
   simp[V1] at c0 c1 c2
   clear h hk
   go_enter Tryz.func348,Tryz.ntmps348
   go_wp2
   all_goals go_ret
   all_goals exact⟨rfl,rfl⟩
  ·have c0:=h.cell 15 (by decide)
   have c1:=h.cell 16 (by decide)
   have c2:=h.cell 17 (by decide)
   simp[V1] at c0 c1 c2
   clear h hk
   go_enter Tryz.func348,Tryz.ntmps348
   go_wp2
   all_goals go_ret
   all_goals exact⟨rfl,rfl⟩
  ·have c0:=h.cell 18 (by decide)
   have c1:=h.cell 19 (by decide)
   have c2:=h.cell 20 (by decide)
   simp[V1] at c0 c1 c2
   clear h hk
   go_enter Tryz.func348,Tryz.ntmps348
   go_wp2
   all_goals go_ret
   all_goals exact⟨rfl,rfl⟩
  ·have c0:=h.cell 21 (by decide)
   have c1:=h.cell 22 (by decide)
   have c2:=h.cell 23 (by decide)
   simp[V1] at c0 c1 c2
   clear h hk
   go_enter Tryz.func348,Tryz.ntmps348
   go_wp2
   all_goals go_ret
   all_goals exact⟨rfl,rfl⟩
  ·have c0:=h.cell 24 (by decide)
   have c1:=h.cell 25 (by decide)
   have c2:=h.cell 26 (by decide)
   simp[V1] at c0 c1 c2
   clear h hk
   go_enter Tryz.func348,Tryz.ntmps348
   go_wp2
   all_goals go_ret
   all_goals exact⟨rfl,rfl⟩
  ·have c0:=h.cell 27 (by decide)
   have c1:=h.cell 28 (by decide)
   have c2:=h.cell 29 (by decide)
   simp[V1] at c0 c1 c2
   clear h hk
   go_enter Tryz.func348,Tryz.ntmps348
   go_wp2
   all_goals go_ret
   all_goals exact⟨rfl,rfl⟩
 ·go_enter Tryz.func348,Tryz.ntmps348
  go_wp2
  all_goals go_ret
  all_goals exact⟨Js (by simp only[Bool.false_eq_true,Bool.and_eq_true,decide_eq_true_eq,false_iff];omega),rfl⟩
theorem Jhv (u:Un) (w:World) :
  Calls Tryz.prog 230 #[ZD u] w fun e w'=>e=.returned (ZD ⟨u.base,u.bits,0⟩)/\Below w.heap.size w w':=by
 obtain⟨B,b,U⟩:=u
 simp only[ZD]
 go_enter Tryz.func230,Tryz.ntmps230
 go_wp2
 refine bodyPost_ret (v:=ZD ⟨B,b,0⟩) ?_ rfl ⟨rfl,J0 _ _ _⟩
 simp[results,Tryz.f230,go_sem,ZD]
theorem J0g {k b:Int} (h:¬ (1<=k/\k<=8)):Vo k b=80/\ZB k b=0:=by
 have e:Vo k b=80:=by
  unfold Vo
  rw[if_neg (by omega),if_neg (by omega),if_neg (by omega)]
 exact⟨e,Jmq (by omega)⟩
theorem Vl (k b:Int) (w:World) (h:Tab w) (hb : -9223372036854775808<=b/\b<=9223372036854775807) :
  Calls Tryz.prog 294 #[.int .i64 k,.int .i64 b] w fun e w'=>e=.returned (.tuple #[.int .i64 (ZB k b),.int .i64 (Vo k b)])/\Below w.heap.size w w':=by
 have HT:Hid (Tab w):=h
 by_cases hk:1<=k/\k<=8
 ·have:k=1\/k=2\/k=3\/k=4\/k=5\/k=6\/k=7\/k=8:=by omega
  rcases this with rfl|rfl|rfl|rfl|rfl|rfl|rfl|rfl
  ·have c0:=h.cell 3 (by decide)
   have c1:=h.cell 4 (by decide)
   have c2:=h.cell 5 (by decide)
   simp[V1] at c0 c1 c2
   clear h hk
   go_enter Tryz.func294,Tryz.ntmps294
   go_wp2_with (go_at_call 348;refine(XO _ _ HT.out).mono ?_;rintro e w' ⟨rfl,rfl⟩)
   all_goals go_ret2
   all_goals exact⟨ZM (by simp[ZB,Vo]<;>omega) (by simp[Vo]<;>omega),Jb _ _⟩
  ·have c0:=h.cell 6 (by decide)
   have c1:=h.cell 7 (by decide)
   have c2:=h.cell 8 (by decide)
   simp[V1] at c0 c1 c2
   clear h hk
   go_enter Tryz.func294,Tryz.ntmps294
   go_wp2_with (go_at_call 348;refine(XO _ _ HT.out).mono ?_;rintro e w' ⟨rfl,rfl⟩)
   all_goals go_ret2
   all_goals exact⟨ZM (by simp[ZB,Vo]<;>omega) (by simp[Vo]<;>omega),Jb _ _⟩
  ·have c0:=h.cell 9 (by decide)
   have c1:=h.cell 10 (by decide)
   have c2:=h.cell 11 (by decide)
   simp[V1] at c0 c1 c2
   clear h hk
   go_enter Tryz.func294,Tryz.ntmps294
   go_wp2_with (go_at_call 348;refine(XO _ _ HT.out).mono ?_;rintro e w' ⟨rfl,rfl⟩)
   all_goals go_ret2
   all_goals exact⟨ZM (by simp[ZB,Vo]<;>omega) (by simp[Vo]<;>omega),Jb _ _⟩
  ·have c0:=h.cell 12 (by decide)
   have c1:=h.cell 13 (by decide)
   have c2:=h.cell 14 (by decide)
   simp[V1] at c0 c1 c2
   clear h hk
   go_enter Tryz.func294,Tryz.ntmps294
   go_wp2_with (go_at_call 348;refine(XO _ _ HT.out).mono ?_;rintro e w' ⟨rfl,rfl⟩)
   all_goals go_ret2
   all_goals exact⟨ZM (by simp[ZB,Vo]<;>omega) (by simp[Vo]<;>omega),Jb _ _⟩
  ·have c0:=h.cell 15 (by decide)
   have c1:=h.cell 16 (by decide)
   have c2:=h.cell 17 (by decide)
   simp[V1] at c0 c1 c2
   clear h hk
   go_enter Tryz.func294,Tryz.ntmps294
   go_wp2_with (go_at_call 348;refine(XO _ _ HT.out).mono ?_;rintro e w' ⟨rfl,rfl⟩)
   all_goals go_ret2
   all_goals exact⟨ZM (by simp[ZB,Vo]<;>omega) (by simp[Vo]<;>omega),Jb _ _⟩
  ·have c0:=h.cell 18 (by decide)
   have c1:=h.cell 19 (by decide)
   have c2:=h.cell 20 (by decide)
   simp[V1] at c0 c1 c2
   clear h hk
   go_enter Tryz.func294,Tryz.ntmps294
   go_wp2_with (go_at_call 348;refine(XO _ _ HT.out).mono ?_;rintro e w' ⟨rfl,rfl⟩)
   all_goals go_ret2
   all_goals exact⟨ZM (by simp[ZB,Vo]<;>omega) (by simp[Vo]<;>omega),Jb _ _⟩
  ·have c0:=h.cell 21 (by decide)
   have c1:=h.cell 22 (by decide)
   have c2:=h.cell 23 (by decide)
   simp[V1] at c0 c1 c2
   clear h hk
   go_enter Tryz.func294,Tryz.ntmps294
   go_wp2_with (go_at_call 348;refine(XO _ _ HT.out).mono ?_;rintro e w' ⟨rfl,rfl⟩)
   all_goals go_ret2
   all_goals exact⟨ZM (by simp[ZB,Vo]<;>omega) (by simp[Vo]<;>omega),Jb _ _⟩
  ·have c0:=h.cell 24 (by decide)
   have c1:=h.cell 25 (by decide)
   have c2:=h.cell 26 (by decide)
   simp[V1] at c0 c1 c2
   clear h hk
   go_enter Tryz.func294,Tryz.ntmps294
   go_wp2_with (go_at_call 348;refine(XO _ _ HT.out).mono ?_;rintro e w' ⟨rfl,rfl⟩)
   all_goals go_ret2
   all_goals exact⟨ZM (by simp[ZB,Vo]<;>omega) (by simp[Vo]<;>omega),Jb _ _⟩
 ·obtain⟨e1,e2⟩:=J0g (b:=b) hk
  have H1:Hid (Vo k b=80):=e1
  have H2:Hid (ZB k b=0):=e2
  have hd:decide (1<=k/\k<=8)=false:=decide_eq_false hk
  clear e1 e2 h
  go_enter Tryz.func294,Tryz.ntmps294
  go_wp2_with (go_at_call 348;refine(XO _ _ HT.out).mono ?_;rintro e w' ⟨rfl,rfl⟩)
  all_goals go_ret2
  all_goals exact⟨ZM H2.out.symm H1.out.symm,Below.refl _ _⟩
theorem Told.setOther {w:World} {ao:Option Addr} {L:List Int} (h:Told w ao L) {p:Addr} (hp:∀ x,ao=some x->x.block≠p.block) (v:Value):Told (w.setCell p v) ao L:=by
 rcases h with h|⟨b,o,e,hb,hc⟩
 ·exact .inl h
 ·refine .inr ⟨b,o,e,by rw[nblk_setCell];exact hb,fun j hj=>?_⟩
  have:=blk_setCell_other w p v b (hp _ e)
  have k:=hc j hj
  simp only[World.cell?] at k ⊢
  rw[this]
  exact k
theorem Jm0 (w:World) (x:Int):Told (w.alloc (.cells #[.int .u64 x] 39)) (some ⟨w.heap.size,0,none⟩) [x]:=by
 refine .inr ⟨w.heap.size,0,rfl,by simp,fun j hj=>?_⟩
 obtain rfl:j=0:=by simpa using hj
 have:=blk_alloc_new w (.cells #[.int .u64 x] 39)
 simp only[World.cell?,this]
 rfl
theorem XU (B:Nat) (w0 w:World) (ty:TypeId) (v:Value) (A:List Int) (x:Int) (hown:Own B w v A) (hb:Below B w0 w) (hl:A.length<=1000) (hB:B<=w.heap.size) :
  ∃ v' w',(Builtin.append_ #[228,228] ty #[v,.slice (some ⟨w.heap.size,0,none⟩) 1 1]).run Tryz.prog (w.alloc (.cells #[.int .u64 x] 39))=.ok v' w'/\Own B w' v' (A++[x])/\Below B w0 w':=by
 have o1:Own B (w.alloc (.cells #[.int .u64 x] 39)) v A:=World.ownsRow.alloc hown _
 obtain⟨v',w',r1,r2,r3⟩:=FW B _ ty v A [x] ⟨w.heap.size,0,none⟩ 1 o1 (Jm0 w x) (by simp;omega) (by simp;omega)
 exact⟨v',w',r1,r2,Below.grown (hb.alloc hB _) r3 (by simp;omega) fun k hk=>(World.ownsRow.lt o1 k hk).1⟩
theorem Jpk (a s:Int) (n:Nat) (w:World) (a0:0<=a) (s0:0<=s) (hn:n<=64) (he:a+(n:Int)*s<=9223372036854775807) :
  Calls Tryz.prog 297 #[.int .u64 a,.int .u64 s,.int .i64 n] w fun e w'=>∃ ao cap,e=.returned (.slice ao n cap)/\Told w' ao (Ig a s n)/\(∀ x,ao=some x->w.heap.size<=x.block)/\Below w.heap.size w w':=by
 go_enter Tryz.func297,Tryz.ntmps297
 go_wp2
 go_loopw [0,7,9] (fun x l i wr=>∃ k:Nat,k<=n/\i=.int .i64 k/\x=.int .u64 (a+(k:Int)*s)/\Own w.heap.size wr l (Ig a s k)/\Below w.heap.size w wr) (fun _ _ i _=>n - (intOf i).toNat)
 case atStart=>exact⟨0,Nat.zero_le _,rfl,by simp,⟨rfl,.inl ⟨rfl,rfl⟩⟩,Below.refl _ _⟩
 case round =>
  obtain⟨k,hk,rfl,rfl,ho,hb⟩:=hrel
  by_cases hlt:k<n
  ·have e1:a+((k+1:Nat):Int)*s=a+(k:Int)*s+s:=by
    have:((k+1:Nat):Int)=(k:Int)+1:=by omega
    rw[this,Int.add_mul]
    omega
   have m1:((k+1:Nat):Int)*s<=(n:Int)*s:=Int.mul_le_mul_of_nonneg_right (by omega) s0
   have m0:0<=(k:Int)*s:=Int.mul_nonneg (by omega) s0
   obtain⟨v',w',hrun,ho',hb'⟩:=XU w.heap.size w _ 228 _ (Ig a s k) (a+(k:Int)*s) ho hb (by rw[Ek];omega) hb.size
   rw[<- Jh1] at ho'
   have HRun:Hid _:=hrun
   have HD:Hid (a+((k+1:Nat):Int)*s=a+(k:Int)*s+s/\Own w.heap.size w' v' (Ig a s (k+1))/\Below w.heap.size w w'):=⟨e1,ho',hb'⟩
   have hx:a+(k:Int)*s+s<=9223372036854775807:=by omega
   have hx0:0<=a+(k:Int)*s:=by omega
   generalize a+(k:Int)*s=x at *
   clear hrun ho' hb' m1 m0 ho hb e1 he
   go_wp2_with (at_builtin;refine US rfl (.tmp 11) (.tmp 13) rfl _ _ v' w' rfl rfl (by exact HRun.out) ?_)
   go_roundw
   case rel=>exact⟨k+1,by omega,by go_num,by rw[HD.out.1],HD.out.2⟩
   case measure=>simp[intOf];omega
  ·obtain rfl:k=n:=by omega
   obtain⟨ao,cap,rfl,ht,hx⟩:=ho.told
   rw[Ek]
   go_wp2
   go_ret
   exact⟨ao,cap,rfl,ht,hx,hb⟩
theorem Ip (u:Un) (w:World) (hf:u.Fits) (h:OU u):Calls Tryz.prog 293 #[ZD u] w fun e w'=>e=.returned (.int .i64 0)/\Below w.heap.size w w':=by
 have:=J9 u w hf
 rwa [EG,if_pos h] at this
theorem Jf9 (u:Un) (w:World) (hf:u.Fits) (h:¬ OU u):Calls Tryz.prog 293 #[ZD u] w fun e w'=>e=.returned (.int .i64 1)/\Below w.heap.size w w':=by
 have:=J9 u w hf
 rwa [EG,if_neg h] at this
theorem Ep (k b:Int) (w:World) (h:Tab w) (hb : -9223372036854775808<=b/\b<=9223372036854775807) (hz:Vo k b=0) :
  Calls Tryz.prog 294 #[.int .i64 k,.int .i64 b] w fun e w'=>e=.returned (.tuple #[.int .i64 (ZB k b),.int .i64 0])/\Below w.heap.size w w':=by
 have:=Vl k b w h hb
 rwa [hz] at this
theorem Jpu (k b:Int) (w:World) (h:Tab w) (hb : -9223372036854775808<=b/\b<=9223372036854775807) (hz:Vo k b≠0) :
  Calls Tryz.prog 294 #[.int .i64 k,.int .i64 b] w fun e w'=>e=.returned (.tuple #[.int .i64 0,.int .i64 (Vo k b)])/\Below w.heap.size w w':=by
 have:=Vl k b w h hb
 rwa [Jmq hz] at this
theorem JH {B:Nat} {a w:World} (h:Below B a w) (n:Nat):Below B a (w.drewN n):=⟨h.os,h.tape,h.output,h.size,h.block⟩
theorem AtU.setUsed {w:World} {q:Nat} {u:Un} (h:AtU w q u) (v:Int):AtU (w.setCell ⟨q,2,none⟩ (.int .u64 v)) q ⟨u.base,u.bits,v⟩:=by
 unfold AtU XI at *
 simp only[World.setCell,Array.getElem?_modify,h,if_true,Option.map_some]
 rfl
theorem Jgg {q s:Nat} {ao:Option Addr} (h:q<s) (hx:∀ x,ao=some x->s<=x.block):∀ x,ao=some x->x.block≠q:=by
 intro x hx' e
 have:=hx x hx'
 omega
theorem Js5 {q s:Nat} {ao:Option Addr} (h:q+1<s) (hx:∀ x,ao=some x->s<=x.block):∀ x,ao=some x->q<=x.block:=by
 intro x hx'
 have:=hx x hx'
 omega
theorem Jii {w:World} {ao:Option Addr} {L:List Int} (h:Told w ao L) {q:Nat} (hp:∀ x,ao=some x->x.block≠q) (a b c:Value) :
  Told (((w.setCell ⟨q,0,none⟩ a).setCell ⟨q,1,none⟩ b).setCell ⟨q,2,none⟩ c) ao L:=
 Told.setOther (Told.setOther (Told.setOther h (p:=⟨q,0,none⟩) hp a) (p:=⟨q,1,none⟩) hp b) (p:=⟨q,2,none⟩) hp c
theorem V3 {B q:Nat} {w u:World} (h:Below B w u) (hq:B<=q) (a b c:Value) :
  Below B w (((u.setCell ⟨q,0,none⟩ a).setCell ⟨q,1,none⟩ b).setCell ⟨q,2,none⟩ c):=
 ((h.setCell (p:=⟨q,0,none⟩) hq a).setCell (p:=⟨q,1,none⟩) hq b).setCell (p:=⟨q,2,none⟩) hq c
theorem Jht (u:Un) (k b n:Int) (w:World) (hT:Tab w) (hf:u.Fits) (hb : -9223372036854775808<=b/\b<=9223372036854775807) (hn : -9223372036854775808<=n/\n<=9223372036854775807) (h1:¬ OU u) :
  Calls Tryz.prog 220 #[ZD u,.int .i64 k,.int .i64 b,.int .i64 n] w fun e w'=>e=.returned (.tuple #[.slice none 0 0,ZD Un.zero,.int .i64 1])/\Below w.heap.size w w':=by
 have X1:Hid (¬ OU u):=h1
 clear h1
 have HF:Hid u.Fits:=hf
 have b1:=J0 w (XI u) (XI Un.zero)
 have HT:Hid (Tab w):=hT
 have HB:Hid (-9223372036854775808<=b/\b<=9223372036854775807):=hb
 have HN:Hid (-9223372036854775808<=n/\n<=9223372036854775807):=hn
 have a1:=(AtU.new w u).below (Jb _ (XI Un.zero))
 have a2:=AtU.new (w.alloc (XI u)) Un.zero
 rw[World.size_alloc] at a2
 clear hf hT hb hn
 simp only[ZD,XI,Un.zero] at b1 a1 a2 ⊢
 go_enter Tryz.func220,Tryz.ntmps220
 go_wp2_with fail
 refine(Jf9 u _ HF.out X1.out).mono ?_
 rintro e w2 ⟨rfl,b2⟩
 have a3:=a1.below b2
 have a4:=a2.below b2
 have b3:=Below.then b1 b2 b1.size
 clear a1 a2 b1 b2
 have hr:w.heap.size+1<w2.heap.size:=a4.lt
 generalize hr0:w.heap.size=r at *
 have HR:Hid (w.heap.size=r):=hr0
 clear hr0
 obtain⟨c0,c1,c2⟩:=a3.cells
 obtain⟨d0,d1,d2⟩:=a4.cells
 have f3:=a3.frozen
 have f4:=a4.frozen
 have A3:Hid (AtU w2 r u):=a3
 have A4:Hid (AtU w2 (r+1) ⟨0,0,0⟩):=a4
 have B:Hid (Below r w w2):=b3
 clear a3 a4 b3
 go_wp2
 refine bodyPost_ret (v:=.tuple #[.slice none 0 0,ZD Un.zero,.int .i64 1]) ?_ rfl ⟨rfl,?_⟩
 ·simp[results,Tryz.f220,go_sem,ZD,Un.zero,d0,d1,d2]
 ·rw[HR.out];exact V3 B.out (by omega) _ _ _
theorem Jlp (u:Un) (k b n:Int) (w:World) (hT:Tab w) (hf:u.Fits) (hb : -9223372036854775808<=b/\b<=9223372036854775807) (hn : -9223372036854775808<=n/\n<=9223372036854775807) (h1:OU u) (h2:Vo k b≠0) :
  Calls Tryz.prog 220 #[ZD u,.int .i64 k,.int .i64 b,.int .i64 n] w fun e w'=>e=.returned (.tuple #[.slice none 0 0,ZD Un.zero,.int .i64 (Vo k b)])/\Below w.heap.size w w':=by
 have X1:Hid (OU u):=h1
 have X2:Hid (Vo k b≠0):=h2
 clear h1 h2
 have HF:Hid u.Fits:=hf
 have b1:=J0 w (XI u) (XI Un.zero)
 have HT:Hid (Tab w):=hT
 have HB:Hid (-9223372036854775808<=b/\b<=9223372036854775807):=hb
 have HN:Hid (-9223372036854775808<=n/\n<=9223372036854775807):=hn
 have a1:=(AtU.new w u).below (Jb _ (XI Un.zero))
 have a2:=AtU.new (w.alloc (XI u)) Un.zero
 rw[World.size_alloc] at a2
 clear hf hT hb hn
 simp only[ZD,XI,Un.zero] at b1 a1 a2 ⊢
 go_enter Tryz.func220,Tryz.ntmps220
 go_wp2_with fail
 refine(Ip u _ HF.out X1.out).mono ?_
 rintro e w2 ⟨rfl,b2⟩
 have a3:=a1.below b2
 have a4:=a2.below b2
 have b3:=Below.then b1 b2 b1.size
 clear a1 a2 b1 b2
 have hr:w.heap.size+1<w2.heap.size:=a4.lt
 generalize hr0:w.heap.size=r at *
 have HR:Hid (w.heap.size=r):=hr0
 clear hr0
 obtain⟨c0,c1,c2⟩:=a3.cells
 obtain⟨d0,d1,d2⟩:=a4.cells
 have f3:=a3.frozen
 have f4:=a4.frozen
 have A3:Hid (AtU w2 r u):=a3
 have A4:Hid (AtU w2 (r+1) ⟨0,0,0⟩):=a4
 have B:Hid (Below r w w2):=b3
 clear a3 a4 b3
 go_wp2_with fail
 refine(Jpu k b _ (HT.out.below B.out (by rw[<- HR.out];exact HT.out.size)) HB.out X2.out).mono ?_
 rintro e w3 ⟨rfl,b4⟩
 have B3:Hid (Below r w w3):=B.out.trans (b4.mono (by omega))
 have A5:Hid (AtU w3 r u):=A3.out.below b4
 have A6:Hid (AtU w3 (r+1) ⟨0,0,0⟩):=A4.out.below b4
 have hr2:r+1<w3.heap.size:=A6.out.lt
 clear b4 c0 c1 c2 d0 d1 d2 f3 f4 hr A3 A4 B
 obtain⟨c0,c1,c2⟩:=A5.out.cells
 obtain⟨d0,d1,d2⟩:=A6.out.cells
 have f3:=A5.out.frozen
 have f4:=A6.out.frozen
 have hne:(Vo k b != 0)=true:=by have:=X2.out;simpa using this
 go_wp2
 refine bodyPost_ret (v:=.tuple #[.slice none 0 0,ZD Un.zero,.int .i64 (Vo k b)]) ?_ rfl ⟨rfl,?_⟩
 ·simp[results,Tryz.f220,go_sem,ZD,Un.zero,d0,d1,d2]
 ·rw[HR.out];exact V3 B3.out (by omega) _ _ _
theorem Jo9 (u:Un) (k b n:Int) (w:World) (hT:Tab w) (hf:u.Fits) (hb : -9223372036854775808<=b/\b<=9223372036854775807) (hn : -9223372036854775808<=n/\n<=9223372036854775807) (h1:OU u) (h2:Vo k b=0) (h3:¬ (1<=n/\n<=64)) :
  Calls Tryz.prog 220 #[ZD u,.int .i64 k,.int .i64 b,.int .i64 n] w fun e w'=>e=.returned (.tuple #[.slice none 0 0,ZD Un.zero,.int .i64 1])/\Below w.heap.size w w':=by
 have X1:Hid (OU u):=h1
 have X2:Hid (Vo k b=0):=h2
 have X3:Hid (¬ (1<=n/\n<=64)):=h3
 clear h1 h2 h3
 have HF:Hid u.Fits:=hf
 have b1:=J0 w (XI u) (XI Un.zero)
 have HT:Hid (Tab w):=hT
 have HB:Hid (-9223372036854775808<=b/\b<=9223372036854775807):=hb
 have HN:Hid (-9223372036854775808<=n/\n<=9223372036854775807):=hn
 have a1:=(AtU.new w u).below (Jb _ (XI Un.zero))
 have a2:=AtU.new (w.alloc (XI u)) Un.zero
 rw[World.size_alloc] at a2
 clear hf hT hb hn
 simp only[ZD,XI,Un.zero] at b1 a1 a2 ⊢
 go_enter Tryz.func220,Tryz.ntmps220
 go_wp2_with fail
 refine(Ip u _ HF.out X1.out).mono ?_
 rintro e w2 ⟨rfl,b2⟩
 have a3:=a1.below b2
 have a4:=a2.below b2
 have b3:=Below.then b1 b2 b1.size
 clear a1 a2 b1 b2
 have hr:w.heap.size+1<w2.heap.size:=a4.lt
 generalize hr0:w.heap.size=r at *
 have HR:Hid (w.heap.size=r):=hr0
 clear hr0
 obtain⟨c0,c1,c2⟩:=a3.cells
 obtain⟨d0,d1,d2⟩:=a4.cells
 have f3:=a3.frozen
 have f4:=a4.frozen
 have A3:Hid (AtU w2 r u):=a3
 have A4:Hid (AtU w2 (r+1) ⟨0,0,0⟩):=a4
 have B:Hid (Below r w w2):=b3
 clear a3 a4 b3
 go_wp2_with fail
 refine(Ep k b _ (HT.out.below B.out (by rw[<- HR.out];exact HT.out.size)) HB.out X2.out).mono ?_
 rintro e w3 ⟨rfl,b4⟩
 have B3:Hid (Below r w w3):=B.out.trans (b4.mono (by omega))
 have A5:Hid (AtU w3 r u):=A3.out.below b4
 have A6:Hid (AtU w3 (r+1) ⟨0,0,0⟩):=A4.out.below b4
 have hr2:r+1<w3.heap.size:=A6.out.lt
 clear b4 c0 c1 c2 d0 d1 d2 f3 f4 hr A3 A4 B
 obtain⟨c0,c1,c2⟩:=A5.out.cells
 obtain⟨d0,d1,d2⟩:=A6.out.cells
 have f3:=A5.out.frozen
 have f4:=A6.out.frozen
 have hn:=X3.out
 go_wp2
 all_goals refine bodyPost_ret (v:=.tuple #[.slice none 0 0,ZD Un.zero,.int .i64 1]) ?_ rfl ⟨rfl,?_⟩
 any_goals (rw[HR.out];exact V3 B3.out (by omega) _ _ _)
 all_goals simp[results,Tryz.f220,go_sem,ZD,Un.zero,d0,d1,d2]
theorem Jd7 (u:Un) (k b n:Int) (w:World) (hT:Tab w) (hf:u.Fits) (hb : -9223372036854775808<=b/\b<=9223372036854775807) (hn : -9223372036854775808<=n/\n<=9223372036854775807) (h1:OU u) (h2:Vo k b=0) (h3:1<=n/\n<=64) (h4:¬ M9 u (ZB k b) n) :
  Calls Tryz.prog 220 #[ZD u,.int .i64 k,.int .i64 b,.int .i64 n] w fun e w'=>e=.returned (.tuple #[.slice none 0 0,ZD Un.zero,.int .i64 81])/\Below w.heap.size w w':=by
 have X1:Hid (OU u):=h1
 have X2:Hid (Vo k b=0):=h2
 have X3:Hid (1<=n/\n<=64):=h3
 have X4:Hid (¬ M9 u (ZB k b) n):=h4
 clear h1 h2 h3 h4
 have HF:Hid u.Fits:=hf
 have b1:=J0 w (XI u) (XI Un.zero)
 have HT:Hid (Tab w):=hT
 have HB:Hid (-9223372036854775808<=b/\b<=9223372036854775807):=hb
 have HN:Hid (-9223372036854775808<=n/\n<=9223372036854775807):=hn
 have a1:=(AtU.new w u).below (Jb _ (XI Un.zero))
 have a2:=AtU.new (w.alloc (XI u)) Un.zero
 rw[World.size_alloc] at a2
 clear hf hT hb hn
 simp only[ZD,XI,Un.zero] at b1 a1 a2 ⊢
 go_enter Tryz.func220,Tryz.ntmps220
 go_wp2_with fail
 refine(Ip u _ HF.out X1.out).mono ?_
 rintro e w2 ⟨rfl,b2⟩
 have a3:=a1.below b2
 have a4:=a2.below b2
 have b3:=Below.then b1 b2 b1.size
 clear a1 a2 b1 b2
 have hr:w.heap.size+1<w2.heap.size:=a4.lt
 generalize hr0:w.heap.size=r at *
 have HR:Hid (w.heap.size=r):=hr0
 clear hr0
 obtain⟨c0,c1,c2⟩:=a3.cells
 obtain⟨d0,d1,d2⟩:=a4.cells
 have f3:=a3.frozen
 have f4:=a4.frozen
 have A3:Hid (AtU w2 r u):=a3
 have A4:Hid (AtU w2 (r+1) ⟨0,0,0⟩):=a4
 have B:Hid (Below r w w2):=b3
 clear a3 a4 b3
 go_wp2_with fail
 refine(Ep k b _ (HT.out.below B.out (by rw[<- HR.out];exact HT.out.size)) HB.out X2.out).mono ?_
 rintro e w3 ⟨rfl,b4⟩
 have B3:Hid (Below r w w3):=B.out.trans (b4.mono (by omega))
 have A5:Hid (AtU w3 r u):=A3.out.below b4
 have A6:Hid (AtU w3 (r+1) ⟨0,0,0⟩):=A4.out.below b4
 have hr2:r+1<w3.heap.size:=A6.out.lt
 clear b4 c0 c1 c2 d0 d1 d2 f3 f4 hr A3 A4 B
 obtain⟨c0,c1,c2⟩:=A5.out.cells
 obtain⟨d0,d1,d2⟩:=A6.out.cells
 have f3:=A5.out.frozen
 have f4:=A6.out.frozen
 have N:=nums HF.out X1.out X2.out
 obtain⟨n0,n1⟩:=X3.out
 have F1:=HF.out.base
 have F3:=HF.out.used
 have hs:=N.sz
 have hP:=N.P1
 have hS:=N.S1
 have hB:=N.base
 have hU:=N.used
 have hF0:=N.F0
 have hF1:=N.F1
 have hbits:=N.bits
 have hup:u.base+u.used<=OC (Jr (ZB k b)):=by unfold OC;rw[FC];omega
 have HFi:Hid (Xb u (ZB k b)=upI (u.base+u.used) (ZB k b)):=rfl
 have hmul:n*JT (ZB k b)<=67108864:=by
  have e1:=Int.mul_le_mul_of_nonneg_right n1 (show 0<=JT (ZB k b) by omega)
  omega
 have hmul0:0<=n*JT (ZB k b):=Int.mul_nonneg (by omega) (by omega)
 have HM:Hid (u.base % JT u.bits=0):=N.mult
 clear N
 have hroom:=X4.out
 unfold M9 at hroom
 go_wp2_with fail
 refine(Jm8 _ _ _ (by omega) (by omega) (by omega) hup).mono ?_
 rintro e w' ⟨rfl,hw⟩
 obtain rfl:=hw.symm
 rw[show upI (u.base+u.used) (ZB k b)=Xb u (ZB k b) from rfl]
 generalize Xb u (ZB k b)=F at *
 go_wp2_with fail
 refine(VO _ _ (by omega) (by omega)).mono ?_
 rintro e w' ⟨rfl,hw⟩
 obtain rfl:=hw.symm
 go_wp2_with fail
 go_quiet ((go_at_call 296;exact Calls.quiet_of_same (VO _ _ (by omega) (by omega))))
 clear c0 c1 c2 d0 d1 d2 f3 f4 hr2
 have A7:Hid (AtU (w3.drewN nq) r u):=A5.out.of_block (by rfl)
 have A8:Hid (AtU (w3.drewN nq) (r+1) ⟨0,0,0⟩):=A6.out.of_block (by rfl)
 have B4:Hid (Below r w (w3.drewN nq)):=JH B3.out _
 clear A5 A6 B3
 generalize w3.drewN nq=w4 at *
 clear w3
 have hr2:r+1<w4.heap.size:=A8.out.lt
 obtain⟨c0,c1,c2⟩:=A7.out.cells
 obtain⟨d0,d1,d2⟩:=A8.out.cells
 have f3:=A7.out.frozen
 have f4:=A8.out.frozen
 go_wp2
 refine bodyPost_ret (v:=.tuple #[.slice none 0 0,ZD Un.zero,.int .i64 81]) ?_ rfl ⟨rfl,?_⟩
 ·simp[results,Tryz.f220,go_sem,ZD,Un.zero,d0,d1,d2]
 ·rw[HR.out];exact V3 B4.out (by omega) _ _ _
theorem Jhu (u:Un) (k b n:Int) (w:World) (hT:Tab w) (hf:u.Fits) (hb : -9223372036854775808<=b/\b<=9223372036854775807) (hn : -9223372036854775808<=n/\n<=9223372036854775807) (h1:OU u) (h2:Vo k b=0) (h3:1<=n/\n<=64) (h4:M9 u (ZB k b) n) :
  Calls Tryz.prog 220 #[ZD u,.int .i64 k,.int .i64 b,.int .i64 n] w fun e w'=>∃ ao cap,e=.returned (.tuple #[.slice ao n.toNat cap,ZD ⟨u.base,u.bits,Xb u (ZB k b)+n*JT (ZB k b) - u.base⟩,.int .i64 0])/\Told w' ao (Ig (Xb u (ZB k b)) (JT (ZB k b)) n.toNat)/\(∀ x,ao=some x->w.heap.size<=x.block)/\Below w.heap.size w w':=by
 have X1:Hid (OU u):=h1
 have X2:Hid (Vo k b=0):=h2
 have X3:Hid (1<=n/\n<=64):=h3
 have X4:Hid (M9 u (ZB k b) n):=h4
 clear h1 h2 h3 h4
 have HF:Hid u.Fits:=hf
 have b1:=J0 w (XI u) (XI Un.zero)
 have HT:Hid (Tab w):=hT
 have HB:Hid (-9223372036854775808<=b/\b<=9223372036854775807):=hb
 have HN:Hid (-9223372036854775808<=n/\n<=9223372036854775807):=hn
 have a1:=(AtU.new w u).below (Jb _ (XI Un.zero))
 have a2:=AtU.new (w.alloc (XI u)) Un.zero
 rw[World.size_alloc] at a2
 clear hf hT hb hn
 simp only[ZD,XI,Un.zero] at b1 a1 a2 ⊢
 go_enter Tryz.func220,Tryz.ntmps220
 go_wp2_with fail
 refine(Ip u _ HF.out X1.out).mono ?_
 rintro e w2 ⟨rfl,b2⟩
 have a3:=a1.below b2
 have a4:=a2.below b2
 have b3:=Below.then b1 b2 b1.size
 clear a1 a2 b1 b2
 have hr:w.heap.size+1<w2.heap.size:=a4.lt
 generalize hr0:w.heap.size=r at *
 have HR:Hid (w.heap.size=r):=hr0
 clear hr0
 obtain⟨c0,c1,c2⟩:=a3.cells
 obtain⟨d0,d1,d2⟩:=a4.cells
 have f3:=a3.frozen
 have f4:=a4.frozen
 have A3:Hid (AtU w2 r u):=a3
 have A4:Hid (AtU w2 (r+1) ⟨0,0,0⟩):=a4
 have B:Hid (Below r w w2):=b3
 clear a3 a4 b3
 go_wp2_with fail
 refine(Ep k b _ (HT.out.below B.out (by rw[<- HR.out];exact HT.out.size)) HB.out X2.out).mono ?_
 rintro e w3 ⟨rfl,b4⟩
 have B3:Hid (Below r w w3):=B.out.trans (b4.mono (by omega))
 have A5:Hid (AtU w3 r u):=A3.out.below b4
 have A6:Hid (AtU w3 (r+1) ⟨0,0,0⟩):=A4.out.below b4
 have hr2:r+1<w3.heap.size:=A6.out.lt
 clear b4 c0 c1 c2 d0 d1 d2 f3 f4 hr A3 A4 B
 obtain⟨c0,c1,c2⟩:=A5.out.cells
 obtain⟨d0,d1,d2⟩:=A6.out.cells
 have f3:=A5.out.frozen
 have f4:=A6.out.frozen
 have N:=nums HF.out X1.out X2.out
 obtain⟨n0,n1⟩:=X3.out
 have F1:=HF.out.base
 have F3:=HF.out.used
 have hs:=N.sz
 have hP:=N.P1
 have hS:=N.S1
 have hB:=N.base
 have hU:=N.used
 have hF0:=N.F0
 have hF1:=N.F1
 have hbits:=N.bits
 have hup:u.base+u.used<=OC (Jr (ZB k b)):=by unfold OC;rw[FC];omega
 have HFi:Hid (Xb u (ZB k b)=upI (u.base+u.used) (ZB k b)):=rfl
 have hmul:n*JT (ZB k b)<=67108864:=by
  have e1:=Int.mul_le_mul_of_nonneg_right n1 (show 0<=JT (ZB k b) by omega)
  omega
 have hmul0:0<=n*JT (ZB k b):=Int.mul_nonneg (by omega) (by omega)
 have HM:Hid (u.base % JT u.bits=0):=N.mult
 clear N
 have hroom:=X4.out
 unfold M9 at hroom
 go_wp2_with fail
 refine(Jm8 _ _ _ (by omega) (by omega) (by omega) hup).mono ?_
 rintro e w' ⟨rfl,hw⟩
 obtain rfl:=hw.symm
 rw[show upI (u.base+u.used) (ZB k b)=Xb u (ZB k b) from rfl]
 generalize Xb u (ZB k b)=F at *
 go_wp2_with fail
 refine(VO _ _ (by omega) (by omega)).mono ?_
 rintro e w' ⟨rfl,hw⟩
 obtain rfl:=hw.symm
 go_wp2_with fail
 go_quiet ((go_at_call 296;exact Calls.quiet_of_same (VO _ _ (by omega) (by omega))))
 clear c0 c1 c2 d0 d1 d2 f3 f4 hr2
 have A7:Hid (AtU (w3.drewN nq) r u):=A5.out.of_block (by rfl)
 have A8:Hid (AtU (w3.drewN nq) (r+1) ⟨0,0,0⟩):=A6.out.of_block (by rfl)
 have B4:Hid (Below r w (w3.drewN nq)):=JH B3.out _
 clear A5 A6 B3
 generalize w3.drewN nq=w4 at *
 clear w3
 have hr2:r+1<w4.heap.size:=A8.out.lt
 obtain⟨c0,c1,c2⟩:=A7.out.cells
 obtain⟨d0,d1,d2⟩:=A8.out.cells
 have f3:=A7.out.frozen
 have f4:=A8.out.frozen
 have hrow:∀ W,Calls Tryz.prog 297 #[.int .u64 F,.int .u64 (JT (ZB k b)),.int .i64 n] W fun e w'=>∃ ao cap,e=.returned (.slice ao n.toNat cap)/\Told w' ao (Ig F (JT (ZB k b)) n.toNat)/\(∀ x,ao=some x->W.heap.size<=x.block)/\Below W.heap.size W w':=fun W=>by
  have:=Jpk F (JT (ZB k b)) n.toNat W (by omega) (by omega) (by omega) (by rw[Int.toNat_of_nonneg (by omega)];omega)
  rwa [Int.toNat_of_nonneg (by omega)] at this
 have HRow:Hid _:=hrow
 clear hrow
 go_wp2_with fail
 have A9:Hid (AtU (w4.setCell ⟨r,2,none⟩ (.int .u64 (F+n*JT (ZB k b) - u.base))) r ⟨u.base,u.bits,F+n*JT (ZB k b) - u.base⟩):=A7.out.setUsed _
 have A10:Hid (AtU (w4.setCell ⟨r,2,none⟩ (.int .u64 (F+n*JT (ZB k b) - u.base))) (r+1) ⟨0,0,0⟩):=A8.out.of_block (blk_setCell_other _ _ _ _ (by simp))
 have B5:Hid (Below r w (w4.setCell ⟨r,2,none⟩ (.int .u64 (F+n*JT (ZB k b) - u.base)))):=B4.out.setCell (p:=⟨r,2,none⟩) (Nat.le_refl _) _
 clear c0 c1 c2 d0 d1 d2 f3 f4 A7 A8 B4 hr2
 generalize w4.setCell ⟨r,2,none⟩ (.int .u64 (F+n*JT (ZB k b) - u.base))=w5 at *
 have hr2:r+1<w5.heap.size:=A10.out.lt
 obtain⟨c0,c1,c2⟩:=A9.out.cells
 obtain⟨d0,d1,d2⟩:=A10.out.cells
 have f3:=A9.out.frozen
 have f4:=A10.out.frozen
 have hs2:0<=ZB k b/\ZB k b<=63:=by omega
 have HS2:Hid (0<=ZB k b/\ZB k b<=63):=hs2
 have hr3:Hid (r+1<w5.heap.size):=hr2
 clear hs2 hroom hF0 hF1 hmul hmul0 hup hP hS hB hU hbits hs F1 F3 n0 n1
 go_region_with (first|(go_at_call 296;refine(VO _ _ HS2.out.1 HS2.out.2).mono ?_;rintro e w' ⟨rfl,rfl⟩)|(go_at_call 297;refine(HRow.out _).mono ?_;rintro e w6 ⟨ao,cap,rfl,ht6,hx6,b6⟩;have A11:AtU w6 r ⟨u.base,u.bits,F+n*JT (ZB k b) - u.base⟩:=(AtU.of_block (w':=w5.drew) A9.out rfl).below b6;have A12:AtU w6 (r+1) ⟨0,0,0⟩:=(AtU.of_block (w':=w5.drew) A10.out rfl).below b6;obtain⟨g0,g1,g2⟩:=A11.cells;obtain⟨i0,i1,i2⟩:=A12.cells;have g3:=A11.frozen;have g4:=A12.frozen;have B6:Hid (Below r w w6):=B5.out.trans ((show Below w5.heap.size w5 w6 from ⟨b6.os,b6.tape,b6.output,b6.size,b6.block⟩).mono (by have:=hr3.out;omega));have T6:Hid (Told w6 ao (Ig F (JT (ZB k b)) n.toNat)):=ht6;have X6:Hid (∀ x,ao=some x->x.block≠r+1):=Jgg hr3.out hx6;have Y6:Hid (∀ x,ao=some x->r<=x.block):=Js5 hr3.out hx6;clear ht6 hx6 b6 A11 A12))
 all_goals go_wp2
 all_goals (have eF:=HFi.out;subst eF)
 all_goals refine bodyPost_ret (v:=.tuple #[.slice ao n.toNat cap,ZD ⟨u.base,u.bits,Xb u (ZB k b)+n*JT (ZB k b) - u.base⟩,.int .i64 0]) ?_ rfl ⟨ao,cap,rfl,Jii T6.out X6.out _ _ _,?_,?_⟩
 any_goals (rw[HR.out];exact Y6.out)
 any_goals (rw[HR.out];exact V3 B6.out (by omega) _ _ _)
 all_goals simp[results,Tryz.f220,go_sem,ZD,i0,i1,i2,Xb]
theorem X0 (u:Un) (k b n:Int) (w:World) (hT:Tab w) (hf:u.Fits) (hb : -9223372036854775808<=b/\b<=9223372036854775807) (hn : -9223372036854775808<=n/\n<=9223372036854775807) :
  Calls Tryz.prog 220 #[ZD u,.int .i64 k,.int .i64 b,.int .i64 n] w fun e w'=>∃ ao cap,e=.returned (.tuple #[.slice ao (GF u k b n).length cap,ZD (plU u k b n),.int .i64 (plE u k b n)])/\Told w' ao (GF u k b n)/\(∀ x,ao=some x->w.heap.size<=x.block)/\Below w.heap.size w w':=by
 have fin:∀ E:Int,plE u k b n=E->E≠0->(Calls Tryz.prog 220 #[ZD u,.int .i64 k,.int .i64 b,.int .i64 n] w fun e w'=>e=.returned (.tuple #[.slice none 0 0,ZD Un.zero,.int .i64 E])/\Below w.heap.size w w') ->
   Calls Tryz.prog 220 #[ZD u,.int .i64 k,.int .i64 b,.int .i64 n] w fun e w'=>∃ ao cap,e=.returned (.tuple #[.slice ao (GF u k b n).length cap,ZD (plU u k b n),.int .i64 (plE u k b n)])/\Told w' ao (GF u k b n)/\(∀ x,ao=some x->w.heap.size<=x.block)/\Below w.heap.size w w':=by
  intro E hE h0 h
  have e1:GF u k b n=[]:=by unfold GF;rw[if_neg (by omega)]
  have e2:plU u k b n=Un.zero:=by unfold plU;rw[if_neg (by omega)]
  rw[e1,e2,hE]
  refine h.mono ?_
  rintro e w' ⟨rfl,hb'⟩
  exact⟨none,0,rfl,.inl rfl,(fun _ h=>by cases h),hb'⟩
 by_cases h1:OU u
 ·by_cases h2:Vo k b=0
  ·by_cases h3:1<=n/\n<=64
   ·by_cases h4:M9 u (ZB k b) n
    ·have hF:=(XV u k b n).2 ⟨h1,h2,h3,h4⟩
     unfold GF plU
     rw[if_pos hF,if_pos hF,hF,Ek]
     exact Jhu u k b n w hT hf hb hn h1 h2 h3 h4
    ·exact fin 81 (by unfold plE;rw[if_neg (not_not_intro h1),if_neg (by simpa using h2),if_neg (by simpa using h3),if_neg h4]) (by decide) (Jd7 u k b n w hT hf hb hn h1 h2 h3 h4)
   ·exact fin 1 (by unfold plE;rw[if_neg (not_not_intro h1),if_neg (by simpa using h2),if_pos h3]) (by decide) (Jo9 u k b n w hT hf hb hn h1 h2 h3)
  ·exact fin _ (by unfold plE;rw[if_neg (not_not_intro h1),if_pos h2]) h2 (Jlp u k b n w hT hf hb hn h1 h2)
 ·exact fin 1 (by unfold plE;rw[if_pos h1]) (by decide) (Jht u k b n w hT hf hb hn h1)
end Un
end Go.Proofs.YtbfjjpdnoalojaaGreatDoor
