/- Below: KSay; no condition. -/
import Derived.Test.YtbfjjpdnoalojaaGreatDoorPa32
import Derived.Test.YtbfjjpdnoalojaaGreatDoorCards
import Derived.Test.YtbfjjpdnoalojaaGreatDoorTie
import Derived.Lib.LaidTab
set_option maxRecDepth 100000
namespace Go.Proofs.YtbfjjpdnoalojaaGreatDoor
section
open Go.ChangeShapes Go.WideShapes Go.ChangeAt Go.RowKit Go.Joins Go.Deep
section
variable {H:Type} {enc:TypeId×Value->H} {W:World} {r:Reach} {b0 base:Nat} {sp:Nat->Bool} {JX:Bool} {v:Value} {d:DataW H} {p:List MemPlace}
theorem ZT {fuel:Nat} {cs:List Value} {x:DataW H×List MemPlace} {a b c:Int} (h:DataW.trod enc Tryz.prog W base sp JX fuel 405 cs=some x) (hx1:x.1=.agg [.lit (.int .i64 a),.lit (.int .i64 b),.lit (.int .i64 c)]):cs=[.int .i64 a,.int .i64 b,.int .i64 c]:=by
 obtain⟨y,z⟩:=x
 obtain rfl:y=_:=hx1
 obtain⟨xs,m,_,hx,hl,hlen,hf⟩:=DataW.trod_struct Tryz.underlying405 h
 have c3:Tryz.prog.cellsOf 405 = 3:=by kernel_rfl
 have ci:Tryz.prog.cellsOf 3 = 1:=by kernel_rfl
 rw[c3] at hl
 match cs,hl with
 | [e0,e1,e2],_ =>
  have h3:xs.length=3:=hlen
  match xs,h3 with
  | [x0,x1,x2],_ =>
   have t0:DataW.trod enc Tryz.prog W base sp JX m 3 (([e0,e1,e2].drop 0).take (Tryz.prog.cellsOf 3))=some x0:=hf 0 _ rfl
   have t1:DataW.trod enc Tryz.prog W base sp JX m 3 (([e0,e1,e2].drop 1).take (Tryz.prog.cellsOf 3))=some x1:=hf 1 _ rfl
   have t2:DataW.trod enc Tryz.prog W base sp JX m 3 (([e0,e1,e2].drop 2).take (Tryz.prog.cellsOf 3))=some x2:=hf 2 _ rfl
   rw[ci] at t0 t1 t2
   obtain⟨k0,q0,y0,_⟩:=DataW.trod_int Tryz.underlying3 (show DataW.trod enc Tryz.prog W base sp JX m 3 [e0]=some x0 from t0)
   obtain⟨k1,q1,y1,_⟩:=DataW.trod_int Tryz.underlying3 (show DataW.trod enc Tryz.prog W base sp JX m 3 [e1]=some x1 from t1)
   obtain⟨k2,q2,y2,_⟩:=DataW.trod_int Tryz.underlying3 (show DataW.trod enc Tryz.prog W base sp JX m 3 [e2]=some x2 from t2)
   subst y0 y1 y2
   simp at hx q0 q1 q2
   rw[q0,q1,q2,hx.1.1,hx.1.2.1,hx.1.2.2]
theorem Ju {fuel:Nat} {cs:List Value} {x:DataW H×List MemPlace} {a b c:Int} (h:DataW.trod enc Tryz.prog W base sp JX fuel 237 cs=some x) (hx1:x.1=.agg [.lit (.int .i64 a),.lit (.int .i64 b),.lit (.int .i64 c)]):cs=[.int .i64 a,.int .i64 b,.int .i64 c]:=by
 obtain⟨y,z⟩:=x
 obtain rfl:y=_:=hx1
 obtain⟨xs,m,_,hx,hl,hlen,hf⟩:=DataW.trod_struct Tryz.underlying237 h
 have c3:Tryz.prog.cellsOf 237 = 3:=by kernel_rfl
 have ci:Tryz.prog.cellsOf 3 = 1:=by kernel_rfl
 rw[c3] at hl
 match cs,hl with
 | [e0,e1,e2],_ =>
  have h3:xs.length=3:=hlen
  match xs,h3 with
  | [x0,x1,x2],_ =>
   have t0:DataW.trod enc Tryz.prog W base sp JX m 3 (([e0,e1,e2].drop 0).take (Tryz.prog.cellsOf 3))=some x0:=hf 0 _ rfl
   have t1:DataW.trod enc Tryz.prog W base sp JX m 3 (([e0,e1,e2].drop 1).take (Tryz.prog.cellsOf 3))=some x1:=hf 1 _ rfl
   have t2:DataW.trod enc Tryz.prog W base sp JX m 3 (([e0,e1,e2].drop 2).take (Tryz.prog.cellsOf 3))=some x2:=hf 2 _ rfl
   rw[ci] at t0 t1 t2
   obtain⟨k0,q0,y0,_⟩:=DataW.trod_int Tryz.underlying3 (show DataW.trod enc Tryz.prog W base sp JX m 3 [e0]=some x0 from t0)
   obtain⟨k1,q1,y1,_⟩:=DataW.trod_int Tryz.underlying3 (show DataW.trod enc Tryz.prog W base sp JX m 3 [e1]=some x1 from t1)
   obtain⟨k2,q2,y2,_⟩:=DataW.trod_int Tryz.underlying3 (show DataW.trod enc Tryz.prog W base sp JX m 3 [e2]=some x2 from t2)
   subst y0 y1 y2
   simp at hx q0 q1 q2
   rw[q0,q1,q2,hx.1.1,hx.1.2.1,hx.1.2.2]
theorem Zz {cs l:List Value} {n:Nat} (h:(cs.drop n).take 3=l):cs.drop n=l++cs.drop (n+3):=by
 have:=Jqx 3 (cs.drop n)
 rw[h,List.drop_drop] at this
 exact this.symm
theorem Jb6 {fuel:Nat} {cs:List Value} (h:DataW.trod enc Tryz.prog W base sp JX fuel 406 cs=some (Rows.laid_buttress_untyped_sizes,p)):cs=Un.V1.map (Value.int .i64):=by
 have hu:Tryz.prog.underlying 406 = some (.array 10 405):=Tryz.underlying406
 have c3:Tryz.prog.cellsOf 405 = 3:=by kernel_rfl
 have cN:Tryz.prog.cellsOf 406 = 30:=by kernel_rfl
 obtain⟨xs,m,_,hx,hl,hlen,hf⟩:=DataW.trod_array hu h
 rw[cN] at hl
 match xs,hlen with
 | [x0,x1,x2,x3,x4,x5,x6,x7,x8,x9],_ =>
  simp only[Rows.laid_buttress_untyped_sizes,Prod.mk.injEq,DataW.agg.injEq,List.map_cons,List.map_nil,List.cons.injEq,and_true] at hx
  obtain⟨⟨e0,e1,e2,e3,e4,e5,e6,e7,e8,e9⟩,-⟩:=hx
  have t0:=Zz (n:=0) (ZT (x:=x0) (a:=0) (b:=0) (c:=0) (by have:=hf 0 (by decide);rw[c3] at this;simpa using this) e0.symm)
  have t1:=Zz (n:=3) (ZT (x:=x1) (a:=0) (b:=4) (c:=20) (by have:=hf 1 (by decide);rw[c3] at this;simpa using this) e1.symm)
  have t2:=Zz (n:=6) (ZT (x:=x2) (a:=2) (b:=1) (c:=8) (by have:=hf 2 (by decide);rw[c3] at this;simpa using this) e2.symm)
  have t3:=Zz (n:=9) (ZT (x:=x3) (a:=5) (b:=0) (c:=0) (by have:=hf 3 (by decide);rw[c3] at this;simpa using this) e3.symm)
  have t4:=Zz (n:=12) (ZT (x:=x4) (a:=2) (b:=0) (c:=0) (by have:=hf 4 (by decide);rw[c3] at this;simpa using this) e4.symm)
  have t5:=Zz (n:=15) (ZT (x:=x5) (a:=2) (b:=0) (c:=0) (by have:=hf 5 (by decide);rw[c3] at this;simpa using this) e5.symm)
  have t6:=Zz (n:=18) (ZT (x:=x6) (a:=6) (b:=0) (c:=0) (by have:=hf 6 (by decide);rw[c3] at this;simpa using this) e6.symm)
  have t7:=Zz (n:=21) (ZT (x:=x7) (a:=6) (b:=0) (c:=0) (by have:=hf 7 (by decide);rw[c3] at this;simpa using this) e7.symm)
  have t8:=Zz (n:=24) (ZT (x:=x8) (a:=6) (b:=0) (c:=0) (by have:=hf 8 (by decide);rw[c3] at this;simpa using this) e8.symm)
  have t9:=Zz (n:=27) (ZT (x:=x9) (a:=0) (b:=0) (c:=0) (by have:=hf 9 (by decide);rw[c3] at this;simpa using this) e9.symm)
  have z:cs.drop 30=[]:=List.drop_eq_nil_of_le (by omega)
  rw[t1,t2,t3,t4,t5,t6,t7,t8,t9,z] at t0
  exact t0
theorem Jbo {fuel:Nat} {cs:List Value} (h:DataW.trod enc Tryz.prog W base sp JX fuel 238 cs=some (Rows.laid_buttress_kernel_needs,p)):cs=IL.map (Value.int .i64):=by
 have hu:Tryz.prog.underlying 238 = some (.array 18 237):=Tryz.underlying238
 have c3:Tryz.prog.cellsOf 237 = 3:=by kernel_rfl
 have cN:Tryz.prog.cellsOf 238 = 54:=by kernel_rfl
 obtain⟨xs,m,_,hx,hl,hlen,hf⟩:=DataW.trod_array hu h
 rw[cN] at hl
 match xs,hlen with
 | [x0,x1,x2,x3,x4,x5,x6,x7,x8,x9,x10,x11,x12,x13,x14,x15,x16,x17],_ =>
  simp only[Rows.laid_buttress_kernel_needs,Prod.mk.injEq,DataW.agg.injEq,List.map_cons,List.map_nil,List.cons.injEq,and_true] at hx
  obtain⟨⟨e0,e1,e2,e3,e4,e5,e6,e7,e8,e9,e10,e11,e12,e13,e14,e15,e16,e17⟩,-⟩:=hx
  have t0:=Zz (n:=0) (Ju (x:=x0) (a:=1) (b:=0) (c:=0) (by have:=hf 0 (by decide);rw[c3] at this;simpa using this) e0.symm)
  have t1:=Zz (n:=3) (Ju (x:=x1) (a:=0) (b:=0) (c:=0) (by have:=hf 1 (by decide);rw[c3] at this;simpa using this) e1.symm)
  have t2:=Zz (n:=6) (Ju (x:=x2) (a:=0) (b:=0) (c:=0) (by have:=hf 2 (by decide);rw[c3] at this;simpa using this) e2.symm)
  have t3:=Zz (n:=9) (Ju (x:=x3) (a:=0) (b:=0) (c:=0) (by have:=hf 3 (by decide);rw[c3] at this;simpa using this) e3.symm)
  have t4:=Zz (n:=12) (Ju (x:=x4) (a:=0) (b:=0) (c:=0) (by have:=hf 4 (by decide);rw[c3] at this;simpa using this) e4.symm)
  have t5:=Zz (n:=15) (Ju (x:=x5) (a:=3) (b:=0) (c:=0) (by have:=hf 5 (by decide);rw[c3] at this;simpa using this) e5.symm)
  have t6:=Zz (n:=18) (Ju (x:=x6) (a:=3) (b:=0) (c:=0) (by have:=hf 6 (by decide);rw[c3] at this;simpa using this) e6.symm)
  have t7:=Zz (n:=21) (Ju (x:=x7) (a:=3) (b:=0) (c:=0) (by have:=hf 7 (by decide);rw[c3] at this;simpa using this) e7.symm)
  have t8:=Zz (n:=24) (Ju (x:=x8) (a:=4) (b:=2) (c:=0) (by have:=hf 8 (by decide);rw[c3] at this;simpa using this) e8.symm)
  have t9:=Zz (n:=27) (Ju (x:=x9) (a:=4) (b:=1) (c:=0) (by have:=hf 9 (by decide);rw[c3] at this;simpa using this) e9.symm)
  have t10:=Zz (n:=30) (Ju (x:=x10) (a:=5) (b:=2) (c:=0) (by have:=hf 10 (by decide);rw[c3] at this;simpa using this) e10.symm)
  have t11:=Zz (n:=33) (Ju (x:=x11) (a:=5) (b:=1) (c:=0) (by have:=hf 11 (by decide);rw[c3] at this;simpa using this) e11.symm)
  have t12:=Zz (n:=36) (Ju (x:=x12) (a:=7) (b:=0) (c:=8) (by have:=hf 12 (by decide);rw[c3] at this;simpa using this) e12.symm)
  have t13:=Zz (n:=39) (Ju (x:=x13) (a:=6) (b:=0) (c:=8) (by have:=hf 13 (by decide);rw[c3] at this;simpa using this) e13.symm)
  have t14:=Zz (n:=42) (Ju (x:=x14) (a:=8) (b:=0) (c:=0) (by have:=hf 14 (by decide);rw[c3] at this;simpa using this) e14.symm)
  have t15:=Zz (n:=45) (Ju (x:=x15) (a:=9) (b:=0) (c:=5) (by have:=hf 15 (by decide);rw[c3] at this;simpa using this) e15.symm)
  have t16:=Zz (n:=48) (Ju (x:=x16) (a:=9) (b:=0) (c:=0) (by have:=hf 16 (by decide);rw[c3] at this;simpa using this) e16.symm)
  have t17:=Zz (n:=51) (Ju (x:=x17) (a:=0) (b:=0) (c:=0) (by have:=hf 17 (by decide);rw[c3] at this;simpa using this) e17.symm)
  have z:cs.drop 54=[]:=List.drop_eq_nil_of_le (by omega)
  rw[t1,t2,t3,t4,t5,t6,t7,t8,t9,t10,t11,t12,t13,t14,t15,t16,t17,z] at t0
  exact t0
end
theorem gH:Tryz.prog.globalNamed "buttress/words.halves" = some 1:=by kernel_rfl
theorem tH:(Tryz.prog.globals[1]?).map (·.type)=some 402:=by kernel_rfl
theorem cH:Tryz.prog.cellsOf 402 = 6:=by kernel_rfl
theorem cI1:Tryz.prog.cellsOf 348 = 1:=by kernel_rfl
theorem gU:Tryz.prog.globalNamed "buttress/untyped.sizes" = some 2:=by kernel_rfl
theorem tU:(Tryz.prog.globals[2]?).map (·.type)=some 406:=by kernel_rfl
theorem gN:Tryz.prog.globalNamed "buttress/kernel.needs" = some 0:=by kernel_rfl
theorem tN:(Tryz.prog.globals[0]?).map (·.type)=some 238:=by kernel_rfl
theorem J08 {W:World} (h:laidMetH Tryz.prog [("buttress/words.halves",Rows.laid_buttress_words_halves),("buttress/untyped.sizes",Rows.laid_buttress_untyped_sizes),("buttress/kernel.needs",Rows.laid_buttress_kernel_needs)] W):Lt W:=by
 have tt:Lib.TabIs Tryz.prog W "buttress/words.halves" .u64 [32,16,8,4,2,1]:=
  Lib.tabIs_of_head (rest:=[("buttress/untyped.sizes",Rows.laid_buttress_untyped_sizes),("buttress/kernel.needs",Rows.laid_buttress_kernel_needs)]) gH tH Tryz.underlying402 Tryz.underlying348 cI1 cH h
 have c:∀ k,k<6->W.cell? ⟨1,k,none⟩=some (.int .u64 (Th.Uo k:Nat)):=by
  intro k hk
  have:k=0\/k=1\/k=2\/k=3\/k=4\/k=5:=by omega
  rcases this with rfl|rfl|rfl|rfl|rfl|rfl
  ·exact tt.cell gH 0 (by decide)
  ·exact tt.cell gH 1 (by decide)
  ·exact tt.cell gH 2 (by decide)
  ·exact tt.cell gH 3 (by decide)
  ·exact tt.cell gH 4 (by decide)
  ·exact tt.cell gH 5 (by decide)
 have sz:=World.block_lt_of_cell? W _ (c 0 (by decide))
 have h':laidMet Tryz.prog [("buttress/words.halves",Rows.laid_buttress_words_halves),("buttress/untyped.sizes",Rows.laid_buttress_untyped_sizes),("buttress/kernel.needs",Rows.laid_buttress_kernel_needs)] W:=h
 clear h tt
 obtain⟨ps,⟨g1,t1,cs1,f1,p1,q1,hg1,ht1,hv1,hd1,⟨g2,t2,cs2,f2,p2,q2,hg2,ht2,hv2,hd2,⟨g3,t3,cs3,f3,p3,q3,hg3,ht3,hv3,hd3,_,_⟩,_⟩,_⟩,_⟩:=h'
 obtain rfl:=Jqz (gU.symm.trans hg2)
 obtain rfl:=Jqz (tU.symm.trans ht2)
 obtain rfl:=Jqz (gN.symm.trans hg3)
 obtain rfl:=Jqz (tN.symm.trans ht3)
 have e2:cs2=(Un.V1.map (Value.int .i64)).toArray:=by rw[<- Array.toArray_toList (xs:=cs2),Jb6 hd2]
 have e3:cs3=(IL.map (Value.int .i64)).toArray:=by rw[<- Array.toArray_toList (xs:=cs3),Jbo hd3]
 subst e2
 subst e3
 have cell2:∀ i,i<30->W.cell? ⟨2,i,none⟩=some (.int .i64 (Un.V1.getD i 0)):=by
  intro i hi
  have:=World.var?_cell gU hv2 i
  rw[this]
  have hl:i<Un.V1.length:=hi
  simp[hl]
 have cell3:∀ i,i<54->W.cell? ⟨0,i,none⟩=some (.int .i64 (IL.getD i 0)):=by
  intro i hi
  have:=World.var?_cell gN hv3 i
  rw[this]
  have hl:i<IL.length:=hi
  simp[hl]
 have s2:=World.block_lt_of_cell? W _ (cell2 0 (by decide))
 have s3:=World.block_lt_of_cell? W _ (cell3 0 (by decide))
 exact⟨⟨by simp only at s2;omega,cell2⟩,⟨by simp only at s3;omega,cell3⟩,⟨by simp only at sz;omega,c⟩⟩
end
end Go.Proofs.YtbfjjpdnoalojaaGreatDoor
