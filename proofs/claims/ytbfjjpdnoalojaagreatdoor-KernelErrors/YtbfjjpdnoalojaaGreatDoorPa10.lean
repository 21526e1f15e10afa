/- Below: KIr; no condition. -/
import Derived.Test.YtbfjjpdnoalojaaGreatDoorPa4
set_option maxRecDepth 100000
namespace Go.Proofs.YtbfjjpdnoalojaaGreatDoor
namespace Ir
open Go.RowKit Go.Deep Go.Shelf
structure HoH {α:Type} (E:El α) (ty:TypeId) (p:Nat) (v:Value) (L:List α) (w:World):Prop where
 head:w.heap[p]? = some (.cells #[v] ty (0,0))
 row:Row E w v L
 ne:v.ownBlock≠some p
def hoT {α:Type} (E:El α) (ty:TypeId) (p:Nat) (v:Value) (L:List α):Th where
 F:=fun x=>x=p\/v.ownBlock=some x
 H:=HoH E ty p v L
 lt:=fun w h x hx=>by
  rcases hx with rfl|hx
  ·exact(Jqf.1 h.head).1
  ·exact h.row.lt hx
 keep:=fun _ _ h k=>⟨(k p (.inl rfl)).trans h.head,h.row.keep fun x hx=>k x (.inr hx),h.ne⟩
section
variable {α:Type} {E:El α} {ty:TypeId} {w0 w w':World} {r p:Nat} {v:Value} {L:List α} {R:List Th}
theorem HoH.cell (h:HoH E ty p v L w):w.cell? ⟨p,0,none⟩=some v:=by
 have:=h.head
 simp[World.cell?,this]
theorem _root_.Go.Proofs.YtbfjjpdnoalojaaGreatDoor.Sep.ho (ty:TypeId) (h:Sep w0 r w (Jv E v L::R)):Sep w0 r (w.alloc (.cells #[v] ty)) (hoT E ty w.heap.size v L::R):=by
 have h1:=h.box (.cells #[v] ty)
 have row:Row E (w.alloc (.cells #[v] ty)) v L:=(h1.each (Jv E v L) (by simp)).1
 obtain⟨a1,a2⟩:=Jqq.1 h1.apart
 obtain⟨a3,a4⟩:=Jqq.1 a2
 refine⟨h1.low,h1.size,fun t ht=>?_,Jqq.2 ⟨fun b hb x hx hy=>?_,a4⟩⟩
 ·rcases List.mem_cons.1 ht with rfl|ht
  ·refine⟨⟨h1.head,row,fun e=>a1 (Jv E v L) (by simp) _ rfl e⟩,fun x hx=>?_⟩
   rcases hx with rfl|hx
   ·exact h.size
   ·exact(h1.each (Jv E v L) (by simp)).2 x hx
  ·exact h1.each t (by simp[ht])
 ·rcases hx with rfl|hx
  ·exact a1 b (by simp[hb]) _ rfl hy
  ·exact a3 b hb x hx hy
theorem Jb2 (ok:El.Ok E) {zs:Array Value} (hz:∃ i,Tryz.prog.info? E.e=some i/\i.zero=some (.agg zs)/\i.size=E.k/\i.bytes=E.by') (n:Nat) (hn:n<=1000) (W:World) :
  (Instr.makeSlice E.sl (.int .i64 (n:Int)) (.int .i64 (n:Int))).run Tryz.prog W=.ok (.slice (some ⟨W.heap.size,0,none⟩) n n) (W.alloc (.cells (madeCells zs (n*E.k)) E.e)):=by
 obtain⟨i,hi,h1,h2,h3⟩:=hz
 have hs:=ok.small
 have hb:E.by'*n<=1000*1000:=Nat.mul_le_mul hs hn
 have hb':(E.by':Int)*(n:Int)<=281474976710656:=by
  have h:((E.by'*n:Nat):Int)<=1000000:=by omega
  rw[Int.natCast_mul] at h
  omega
 have h:=run_make (P:=Tryz.prog) W E.sl E.e i _ ok.hu hi h1 .i64 .i64 (n:Int) (n:Int) (by omega) (Int.le_refl _) (by rw[h3];exact hb') (by omega)
 rw[h2] at h
 simpa [Value.cells] using h
theorem Jg5 (ok:El.Ok E) {zs:Array Value} {z:α} (hz:zs.toList=E.enc z) (n:Nat):(madeCells zs (n*E.k)).toList=Jc E.enc (List.replicate n z):=by
 have hs:zs.size=E.k:=by rw[<- Array.length_toList,hz,ok.len]
 have hl:(Jc E.enc (List.replicate n z)).length=n*E.k:=by rw[Jj ok.len,List.length_replicate]
 have hp:=ok.pos
 apply List.ext_getElem?
 intro m
 by_cases hm:m<n*E.k
 ·have hq:m / E.k<n:=(Nat.div_lt_iff_lt_mul hp).2 hm
  have hr:m % E.k<E.k:=Nat.mod_lt _ hp
  have e:m=m / E.k*E.k+m % E.k:=by have:=Nat.div_add_mod m E.k;rw[Nat.mul_comm] at this;omega
  have key:=Mm ok.len (S:=List.replicate n z) (i:=m / E.k) (x:=z) (by simp[hq]) hr
  rw[<- e] at key
  rw[key,<- hz]
  have hr':m % zs.size<zs.size:=by rw[hs];exact hr
  simp[madeCells,hm,hs,hr]
 ·rw[List.getElem?_eq_none (by simpa [size_madeCells] using hm),List.getElem?_eq_none (by omega)]
theorem _root_.Go.Proofs.YtbfjjpdnoalojaaGreatDoor.Sep.madeN (ok:El.Ok E) {zs:Array Value} {z:α} (hz:zs.toList=E.enc z) (h:Sep w0 r w R) (n:Nat) (hn:n<=1000):Sep w0 r (w.alloc (.cells (madeCells zs (n*E.k)) E.e)) (Jv E (.slice (some ⟨w.heap.size,0,none⟩) n n) (List.replicate n z)::R):=by
 have:=Sep.lit ok h (List.replicate n z) (by simpa using hn) _ (Jg5 ok hz n)
 simpa using this
end
def cP (x:Ln):List Value:=[.int .i64 (num x.s),.int .i64 x.a,.int .u64 x.g]
def elP:El Ln:=⟨271,282,3,24,cP⟩
theorem Je8:(Tryz.prog.info? 271).map (fun i=>(i.zero,i.size,i.bytes))=some (some (.agg #[.int .i64 0,.int .i64 0,.int .u64 0]),3,24):=by kernel_rfl
theorem okP:El.Ok elP:=⟨Tryz.underlying282,ZA Je8 rfl,by decide,by decide,fun _=>rfl,by simp[elP,cP,Value.oneCell']⟩
abbrev lnT (p:Nat) (v:Value) (S:List Ln):Th:=hoT elP 285 p v S
theorem Jtp (n:Nat) (hn:n<=1000) (W:World):(Instr.makeSlice 282 (.int .i64 (n:Int)) (.int .i64 (n:Int))).run Tryz.prog W=.ok (.slice (some ⟨W.heap.size,0,none⟩) n n) (W.alloc (.cells (madeCells #[.int .i64 0,.int .i64 0,.int .u64 0] (n*3)) 271)):=by
 obtain⟨i,hi,e⟩:=Jqt.1 Je8
 simp only[Prod.mk.injEq] at e
 exact Jb2 okP ⟨i,hi,e.1,e.2.1,e.2.2⟩ n hn W
section
variable {w0 w:World} {r p:Nat} {v:Value} {S:List Ln} {R:List Th}
theorem V8 (s:Sep w0 r w R) (n:Nat) (h1:1<=n) (h64:n<=64):Calls Tryz.prog 99 #[.int .i64 (n:Int)] w fun e w'=>∃ p v,e=.returned (.tuple #[Je p,.int .i64 0])/\Sep w0 r w' (lnT p v (List.replicate n ln0)::R):=by
 have hmk:=Jtp n (by omega)
 have s1:=Sep.ho 285 (Sep.madeN (E:=elP) okP (zs:=#[.int .i64 0,.int .i64 0,.int .u64 0]) (z:=ln0) rfl s n (by omega))
 have h9:∀ o,(w.alloc o).heap.size=w.heap.size+1:=fun o=>by simp
 rw[h9] at s1
 have S1:=Ja s1
 clear s s1 h9
 have hn0:¬ (n:Int)<1:=by omega
 have hn1:¬ 64<(n:Int):=by omega
 go_enter Tryz.func99,Tryz.ntmps99
 go_wp2
 go_ret2
 exact⟨_,rfl,_,S1.out⟩
end
end Ir
end Go.Proofs.YtbfjjpdnoalojaaGreatDoor
