/-
  What stands below: KSay; no condition but what each says.
-/
import Derived.Test.YtilnjnblpeeigaaGreatDoorPb1
import Derived.Test.YtilnjnblpeeigaaGreatDoorPb32
import Derived.Deep.DeepHandedRow
import Derived.Deep.Slices
import Derived.LaidMore
import Derived.Laws.IdiomArrays
import Derived.Lib.SmallJoins
import Derived.OpenShut
import Derived.ProofKit
import Derived.WalkKit
import Derived.Test.YtilnjnblpeeigaaGreatDoorCards
import Derived.Test.YtilnjnblpeeigaaGreatDoorTie
import Derived.Lib.LaidTab
namespace Go.Proofs.YtilnjnblpeeigaaGreatDoor
open Go.ChangeShapes Go.WideShapes Go.ChangeAt Go.RowKit Go.Joins Go.Deep
section
variable {H:Type} {enc:TypeId×Value->H} {W:World} {r:Reach} {b0 base:Nat} {sp:Nat->Bool} {held:Bool} {v:Value} {d:DataW H} {p:List MemPlace}
set_option maxRecDepth 100000 in
theorem ext_cells {fuel:Nat} {cs:List Value} {x:DataW H×List MemPlace} {a b c:Int} (h:DataW.trod enc Tryz.prog W base sp held fuel 297 cs=some x) (hx1:x.1 = .agg [.lit (.int .i64 a),.lit (.int .i64 b),.lit (.int .i64 c)]):cs=[.int .i64 a,.int .i64 b,.int .i64 c]:=by
 obtain ⟨y,z⟩:=x
 obtain rfl:y=_:=hx1
 obtain ⟨xs,m,_,hx,hl,hlen,hf⟩:=DataW.trod_struct Tryz.underlying297 h
 have c3:Tryz.prog.cellsOf 297 = 3:=by kernel_rfl
 have ci:Tryz.prog.cellsOf 3 = 1:=by kernel_rfl
 rw [c3] at hl
 match cs,hl with
 | [e0,e1,e2],_ =>
  have h3:xs.length=3:=hlen
  match xs,h3 with
  | [x0,x1,x2],_ =>
   have t0:DataW.trod enc Tryz.prog W base sp held m 3 (([e0,e1,e2].drop 0).take (Tryz.prog.cellsOf 3))=some x0:=hf 0 _ rfl
   have t1:DataW.trod enc Tryz.prog W base sp held m 3 (([e0,e1,e2].drop 1).take (Tryz.prog.cellsOf 3))=some x1:=hf 1 _ rfl
   have t2:DataW.trod enc Tryz.prog W base sp held m 3 (([e0,e1,e2].drop 2).take (Tryz.prog.cellsOf 3))=some x2:=hf 2 _ rfl
   rw [ci] at t0 t1 t2
   obtain ⟨k0,q0,y0,_⟩:=DataW.trod_int Tryz.underlying3 (show DataW.trod enc Tryz.prog W base sp held m 3 [e0]=some x0 from t0)
   obtain ⟨k1,q1,y1,_⟩:=DataW.trod_int Tryz.underlying3 (show DataW.trod enc Tryz.prog W base sp held m 3 [e1]=some x1 from t1)
   obtain ⟨k2,q2,y2,_⟩:=DataW.trod_int Tryz.underlying3 (show DataW.trod enc Tryz.prog W base sp held m 3 [e2]=some x2 from t2)
   subst y0 y1 y2
   simp at hx q0 q1 q2
   rw [q0,q1,q2,hx.1.1,hx.1.2.1,hx.1.2.2]
set_option maxRecDepth 100000 in
theorem need_cells {fuel:Nat} {cs:List Value} {x:DataW H×List MemPlace} {a b c:Int} (h:DataW.trod enc Tryz.prog W base sp held fuel 154 cs=some x) (hx1:x.1 = .agg [.lit (.int .i64 a),.lit (.int .i64 b),.lit (.int .i64 c)]):cs=[.int .i64 a,.int .i64 b,.int .i64 c]:=by
 obtain ⟨y,z⟩:=x
 obtain rfl:y=_:=hx1
 obtain ⟨xs,m,_,hx,hl,hlen,hf⟩:=DataW.trod_struct Tryz.underlying154 h
 have c3:Tryz.prog.cellsOf 154 = 3:=by kernel_rfl
 have ci:Tryz.prog.cellsOf 3 = 1:=by kernel_rfl
 rw [c3] at hl
 match cs,hl with
 | [e0,e1,e2],_ =>
  have h3:xs.length=3:=hlen
  match xs,h3 with
  | [x0,x1,x2],_ =>
   have t0:DataW.trod enc Tryz.prog W base sp held m 3 (([e0,e1,e2].drop 0).take (Tryz.prog.cellsOf 3))=some x0:=hf 0 _ rfl
   have t1:DataW.trod enc Tryz.prog W base sp held m 3 (([e0,e1,e2].drop 1).take (Tryz.prog.cellsOf 3))=some x1:=hf 1 _ rfl
   have t2:DataW.trod enc Tryz.prog W base sp held m 3 (([e0,e1,e2].drop 2).take (Tryz.prog.cellsOf 3))=some x2:=hf 2 _ rfl
   rw [ci] at t0 t1 t2
   obtain ⟨k0,q0,y0,_⟩:=DataW.trod_int Tryz.underlying3 (show DataW.trod enc Tryz.prog W base sp held m 3 [e0]=some x0 from t0)
   obtain ⟨k1,q1,y1,_⟩:=DataW.trod_int Tryz.underlying3 (show DataW.trod enc Tryz.prog W base sp held m 3 [e1]=some x1 from t1)
   obtain ⟨k2,q2,y2,_⟩:=DataW.trod_int Tryz.underlying3 (show DataW.trod enc Tryz.prog W base sp held m 3 [e2]=some x2 from t2)
   subst y0 y1 y2
   simp at hx q0 q1 q2
   rw [q0,q1,q2,hx.1.1,hx.1.2.1,hx.1.2.2]
theorem take3 {cs l:List Value} {n:Nat} (h:(cs.drop n).take 3=l):cs.drop n=l++cs.drop (n+3):=by
 have:=List.take_append_drop 3 (cs.drop n)
 rw [h,List.drop_drop] at this
 exact this.symm
set_option maxRecDepth 100000 in
theorem sizes_cells {fuel:Nat} {cs:List Value} (h:DataW.trod enc Tryz.prog W base sp held fuel 298 cs=some (Rows.laid_buttress_untyped_sizes,p)):cs=Un.tabL.map (Value.int .i64):=by
 have hu:Tryz.prog.underlying 298 = some (.array 10 297):=Tryz.underlying298
 have c3:Tryz.prog.cellsOf 297 = 3:=by kernel_rfl
 have cN:Tryz.prog.cellsOf 298 = 30:=by kernel_rfl
 obtain ⟨xs,m,_,hx,hl,hlen,hf⟩:=DataW.trod_array hu h
 rw [cN] at hl
 match xs,hlen with
 | [x0,x1,x2,x3,x4,x5,x6,x7,x8,x9],_ =>
  simp only [Rows.laid_buttress_untyped_sizes,Prod.mk.injEq,DataW.agg.injEq,List.map_cons,List.map_nil,List.cons.injEq,and_true] at hx
  obtain ⟨⟨e0,e1,e2,e3,e4,e5,e6,e7,e8,e9⟩,-⟩:=hx
  have t0:=take3 (n:=0) (ext_cells (x:=x0) (a:=0) (b:=0) (c:=0) (by have:=hf 0 (by decide);rw [c3] at this;simpa using this) e0.symm)
  have t1:=take3 (n:=3) (ext_cells (x:=x1) (a:=0) (b:=4) (c:=20) (by have:=hf 1 (by decide);rw [c3] at this;simpa using this) e1.symm)
  have t2:=take3 (n:=6) (ext_cells (x:=x2) (a:=2) (b:=1) (c:=8) (by have:=hf 2 (by decide);rw [c3] at this;simpa using this) e2.symm)
  have t3:=take3 (n:=9) (ext_cells (x:=x3) (a:=5) (b:=0) (c:=0) (by have:=hf 3 (by decide);rw [c3] at this;simpa using this) e3.symm)
  have t4:=take3 (n:=12) (ext_cells (x:=x4) (a:=2) (b:=0) (c:=0) (by have:=hf 4 (by decide);rw [c3] at this;simpa using this) e4.symm)
  have t5:=take3 (n:=15) (ext_cells (x:=x5) (a:=2) (b:=0) (c:=0) (by have:=hf 5 (by decide);rw [c3] at this;simpa using this) e5.symm)
  have t6:=take3 (n:=18) (ext_cells (x:=x6) (a:=6) (b:=0) (c:=0) (by have:=hf 6 (by decide);rw [c3] at this;simpa using this) e6.symm)
  have t7:=take3 (n:=21) (ext_cells (x:=x7) (a:=6) (b:=0) (c:=0) (by have:=hf 7 (by decide);rw [c3] at this;simpa using this) e7.symm)
  have t8:=take3 (n:=24) (ext_cells (x:=x8) (a:=6) (b:=0) (c:=0) (by have:=hf 8 (by decide);rw [c3] at this;simpa using this) e8.symm)
  have t9:=take3 (n:=27) (ext_cells (x:=x9) (a:=0) (b:=0) (c:=0) (by have:=hf 9 (by decide);rw [c3] at this;simpa using this) e9.symm)
  have z:cs.drop 30=[]:=List.drop_eq_nil_of_le (by omega)
  rw [t1,t2,t3,t4,t5,t6,t7,t8,t9,z] at t0
  exact t0
set_option maxRecDepth 100000 in
theorem needs_cells {fuel:Nat} {cs:List Value} (h:DataW.trod enc Tryz.prog W base sp held fuel 155 cs=some (Rows.laid_buttress_kernel_needs,p)):cs=needL.map (Value.int .i64):=by
 have hu:Tryz.prog.underlying 155 = some (.array 18 154):=Tryz.underlying155
 have c3:Tryz.prog.cellsOf 154 = 3:=by kernel_rfl
 have cN:Tryz.prog.cellsOf 155 = 54:=by kernel_rfl
 obtain ⟨xs,m,_,hx,hl,hlen,hf⟩:=DataW.trod_array hu h
 rw [cN] at hl
 match xs,hlen with
 | [x0,x1,x2,x3,x4,x5,x6,x7,x8,x9,x10,x11,x12,x13,x14,x15,x16,x17],_ =>
  simp only [Rows.laid_buttress_kernel_needs,Prod.mk.injEq,DataW.agg.injEq,List.map_cons,List.map_nil,List.cons.injEq,and_true] at hx
  obtain ⟨⟨e0,e1,e2,e3,e4,e5,e6,e7,e8,e9,e10,e11,e12,e13,e14,e15,e16,e17⟩,-⟩:=hx
  have t0:=take3 (n:=0) (need_cells (x:=x0) (a:=1) (b:=0) (c:=0) (by have:=hf 0 (by decide);rw [c3] at this;simpa using this) e0.symm)
  have t1:=take3 (n:=3) (need_cells (x:=x1) (a:=0) (b:=0) (c:=0) (by have:=hf 1 (by decide);rw [c3] at this;simpa using this) e1.symm)
  have t2:=take3 (n:=6) (need_cells (x:=x2) (a:=0) (b:=0) (c:=0) (by have:=hf 2 (by decide);rw [c3] at this;simpa using this) e2.symm)
  have t3:=take3 (n:=9) (need_cells (x:=x3) (a:=0) (b:=0) (c:=0) (by have:=hf 3 (by decide);rw [c3] at this;simpa using this) e3.symm)
  have t4:=take3 (n:=12) (need_cells (x:=x4) (a:=0) (b:=0) (c:=0) (by have:=hf 4 (by decide);rw [c3] at this;simpa using this) e4.symm)
  have t5:=take3 (n:=15) (need_cells (x:=x5) (a:=3) (b:=0) (c:=0) (by have:=hf 5 (by decide);rw [c3] at this;simpa using this) e5.symm)
  have t6:=take3 (n:=18) (need_cells (x:=x6) (a:=3) (b:=0) (c:=0) (by have:=hf 6 (by decide);rw [c3] at this;simpa using this) e6.symm)
  have t7:=take3 (n:=21) (need_cells (x:=x7) (a:=3) (b:=0) (c:=0) (by have:=hf 7 (by decide);rw [c3] at this;simpa using this) e7.symm)
  have t8:=take3 (n:=24) (need_cells (x:=x8) (a:=4) (b:=2) (c:=0) (by have:=hf 8 (by decide);rw [c3] at this;simpa using this) e8.symm)
  have t9:=take3 (n:=27) (need_cells (x:=x9) (a:=4) (b:=1) (c:=0) (by have:=hf 9 (by decide);rw [c3] at this;simpa using this) e9.symm)
  have t10:=take3 (n:=30) (need_cells (x:=x10) (a:=5) (b:=2) (c:=0) (by have:=hf 10 (by decide);rw [c3] at this;simpa using this) e10.symm)
  have t11:=take3 (n:=33) (need_cells (x:=x11) (a:=5) (b:=1) (c:=0) (by have:=hf 11 (by decide);rw [c3] at this;simpa using this) e11.symm)
  have t12:=take3 (n:=36) (need_cells (x:=x12) (a:=7) (b:=0) (c:=8) (by have:=hf 12 (by decide);rw [c3] at this;simpa using this) e12.symm)
  have t13:=take3 (n:=39) (need_cells (x:=x13) (a:=6) (b:=0) (c:=8) (by have:=hf 13 (by decide);rw [c3] at this;simpa using this) e13.symm)
  have t14:=take3 (n:=42) (need_cells (x:=x14) (a:=8) (b:=0) (c:=0) (by have:=hf 14 (by decide);rw [c3] at this;simpa using this) e14.symm)
  have t15:=take3 (n:=45) (need_cells (x:=x15) (a:=9) (b:=0) (c:=5) (by have:=hf 15 (by decide);rw [c3] at this;simpa using this) e15.symm)
  have t16:=take3 (n:=48) (need_cells (x:=x16) (a:=9) (b:=0) (c:=0) (by have:=hf 16 (by decide);rw [c3] at this;simpa using this) e16.symm)
  have t17:=take3 (n:=51) (need_cells (x:=x17) (a:=0) (b:=0) (c:=0) (by have:=hf 17 (by decide);rw [c3] at this;simpa using this) e17.symm)
  have z:cs.drop 54=[]:=List.drop_eq_nil_of_le (by omega)
  rw [t1,t2,t3,t4,t5,t6,t7,t8,t9,t10,t11,t12,t13,t14,t15,t16,t17,z] at t0
  exact t0
end
theorem gH:Tryz.prog.globalNamed "buttress/words.halves" = some 1:=by kernel_rfl
theorem tH:(Tryz.prog.globals[1]?).map (·.type)=some 294:=by kernel_rfl
theorem cH:Tryz.prog.cellsOf 294 = 6:=by kernel_rfl
theorem cI1:Tryz.prog.cellsOf 254 = 1:=by kernel_rfl
theorem gU:Tryz.prog.globalNamed "buttress/untyped.sizes" = some 2:=by kernel_rfl
theorem tU:(Tryz.prog.globals[2]?).map (·.type)=some 298:=by kernel_rfl
theorem gN:Tryz.prog.globalNamed "buttress/kernel.needs" = some 0:=by kernel_rfl
theorem tN:(Tryz.prog.globals[0]?).map (·.type)=some 155:=by kernel_rfl
theorem table {W:World} (h:laidMetH Tryz.prog [("buttress/words.halves",Rows.laid_buttress_words_halves),("buttress/untyped.sizes",Rows.laid_buttress_untyped_sizes),("buttress/kernel.needs",Rows.laid_buttress_kernel_needs)] W):Lt W:=by
 have tt:Lib.TabIs Tryz.prog W "buttress/words.halves" .u64 [32,16,8,4,2,1]:=
  Lib.tabIs_of_head (rest:=[("buttress/untyped.sizes",Rows.laid_buttress_untyped_sizes),("buttress/kernel.needs",Rows.laid_buttress_kernel_needs)]) gH tH Tryz.underlying294 Tryz.underlying254 cI1 cH h
 have c:∀ k,k<6->W.cell? ⟨1,k,none⟩=some (.int .u64 (Th.half k:Nat)):=by
  intro k hk
  have:k=0\/k=1\/k=2\/k=3\/k=4\/k=5:=by omega
  rcases this with rfl | rfl | rfl | rfl | rfl | rfl
  ·exact tt.cell gH 0 (by decide)
  ·exact tt.cell gH 1 (by decide)
  ·exact tt.cell gH 2 (by decide)
  ·exact tt.cell gH 3 (by decide)
  ·exact tt.cell gH 4 (by decide)
  ·exact tt.cell gH 5 (by decide)
 have sz:=World.block_lt_of_cell? W _ (c 0 (by decide))
 have h':laidMet Tryz.prog [("buttress/words.halves",Rows.laid_buttress_words_halves),("buttress/untyped.sizes",Rows.laid_buttress_untyped_sizes),("buttress/kernel.needs",Rows.laid_buttress_kernel_needs)] W:=h
 clear h tt
 obtain ⟨ps,⟨g1,t1,cs1,f1,p1,q1,hg1,ht1,hv1,hd1,⟨g2,t2,cs2,f2,p2,q2,hg2,ht2,hv2,hd2,⟨g3,t3,cs3,f3,p3,q3,hg3,ht3,hv3,hd3,_,_⟩,_⟩,_⟩,_⟩:=h'
 obtain rfl:=Option.some.inj (gU.symm.trans hg2)
 obtain rfl:=Option.some.inj (tU.symm.trans ht2)
 obtain rfl:=Option.some.inj (gN.symm.trans hg3)
 obtain rfl:=Option.some.inj (tN.symm.trans ht3)
 have e2:cs2=(Un.tabL.map (Value.int .i64)).toArray:=by rw [<- Array.toArray_toList (xs:=cs2),sizes_cells hd2]
 have e3:cs3=(needL.map (Value.int .i64)).toArray:=by rw [<- Array.toArray_toList (xs:=cs3),needs_cells hd3]
 subst e2
 subst e3
 have cell2:∀ i,i<30->W.cell? ⟨2,i,none⟩=some (.int .i64 (Un.tabL.getD i 0)):=by
  intro i hi
  have:=World.var?_cell gU hv2 i
  rw [this]
  have hl:i<Un.tabL.length:=hi
  simp [hl]
 have cell3:∀ i,i<54->W.cell? ⟨0,i,none⟩=some (.int .i64 (needL.getD i 0)):=by
  intro i hi
  have:=World.var?_cell gN hv3 i
  rw [this]
  have hl:i<needL.length:=hi
  simp [hl]
 have s2:=World.block_lt_of_cell? W _ (cell2 0 (by decide))
 have s3:=World.block_lt_of_cell? W _ (cell3 0 (by decide))
 exact ⟨⟨by simp only at s2;omega,cell2⟩,⟨by simp only at s3;omega,cell3⟩,⟨by simp only at sz;omega,c⟩⟩
end Go.Proofs.YtilnjnblpeeigaaGreatDoor
