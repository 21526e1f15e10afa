/- Below: KTr; no condition. -/
import Derived.Test.YtbfjjpdnoalojaaGreatDoorPa1
import Derived.Test.YtbfjjpdnoalojaaGreatDoorPa2
import Derived.Lib.AppendZerosOnto
import Derived.Lib.Overlaps
set_option maxHeartbeats 16000000
set_option maxRecDepth 100000
set_option linter.unusedSectionVars false
namespace Go.Proofs.YtbfjjpdnoalojaaGreatDoor
namespace Tr
variable [DecidableEq Sl]
open Go.RowKit Go.Deep
def Jh (s:Sl):Value:=.agg #[.int .i64 s.n,.int .i64 s.i]
def cS (s:Sl):List Value:=[.int .i64 s.n,.int .i64 s.i]
def Jo (s:Sl):Obj:=.cells #[.int .i64 s.n,.int .i64 s.i] 80
def cE (e:En):List Value:=[.int .i64 e.s.n,.int .i64 e.s.i,.int .i64 e.d]
def VG (e:En):Obj:=.cells #[.int .i64 e.s.n,.int .i64 e.s.i,.int .i64 e.d] 207
theorem Xq (s:En):(cE s).length=3:=rfl
theorem Jr8 (s:Sl):∀ v∈cS s,v.oneCell'=true:=by simp[cS,Value.oneCell']
theorem U1 (s:En):∀ v∈cE s,v.oneCell'=true:=by simp[cE,Value.oneCell']
def RowE (w:World) (v:Value) (S:St):Prop:=w.ownsRow 0 207 3 v S.length (Jc cE S)
def RowS (w:World) (v:Value) (A:List Sl):Prop:=w.ownsRow 0 80 2 v A.length (Jc cS A)
theorem RowE.slice {w:World} {v:Value} {S:St} (h:RowE w v S):∃ ao cap,v=.slice ao S.length cap/\S.length<=cap/\cap<=9223372036854775807/\(∀ i,i<S.length->∃ g,ao=some ⟨g,0,none⟩):=by
 rcases h.2 with ⟨rfl,h0⟩|⟨g,cap,cur,rfl,_,_,h1,h2,_⟩
 ·exact⟨none,0,by rw[h0],by omega,by omega,fun i hi=>by omega⟩
 ·exact⟨some ⟨g,0,none⟩,cap,rfl,h1,by unfold maxLen at h2;omega,fun _ _=>⟨g,rfl⟩⟩
theorem RowE.cells {w:World} {g cap n:Nat} {S:St} (h:RowE w (.slice (some ⟨g,0,none⟩) n cap) S) {i:Nat} (hi:i<S.length):w.cell? ⟨g,i*3,none⟩=some (.int .i64 (VB S i).n)/\w.cell? ⟨g,i*3+1,none⟩=some (.int .i64 (VB S i).i)/\w.cell? ⟨g,i*3+2,none⟩=some (.int .i64 (Zl S i)):=by
 have hc:=World.ownsRow.cells h (g:=g) rfl
 have e:=fun j hj=>Mm Xq (Vd hi) (j:=j) hj
 have e0:=hc (i*3+0) _ (e 0 (by omega))
 have e1:=hc (i*3+1) _ (e 1 (by omega))
 have e2:=hc (i*3+2) _ (e 2 (by omega))
 rw[JG] at e0 e1 e2
 simp only[Nat.zero_add,Nat.add_zero] at e0 e1 e2
 exact⟨e0,e1,e2⟩
theorem RowE.frozen {w:World} {g cap n:Nat} {S:St} (h:RowE w (.slice (some ⟨g,0,none⟩) n cap) S) (j:Nat):w.frozen? ⟨g,j,none⟩=false:=by
 rcases h.2 with ⟨e,_⟩|⟨g',cap',cur,e,_,hg,_⟩
 ·cases e
 ·cases e
  simp[World.frozen?,hg]
theorem RowE.lt {w:World} {v:Value} {S:St} (h:RowE w v S) {x:Nat} (hx:v.ownBlock=some x):x<w.heap.size:=(World.ownsRow.lt h x hx).2
theorem RowS.slice {w:World} {v:Value} {A:List Sl} (h:RowS w v A):∃ ao cap,v=.slice ao A.length cap/\(∀ i,i<A.length->∃ g,ao=some ⟨g,0,none⟩):=by
 rcases h.2 with ⟨rfl,h0⟩|⟨g,cap,cur,rfl,_⟩
 ·exact⟨none,0,by rw[h0],fun i hi=>by omega⟩
 ·exact⟨some ⟨g,0,none⟩,cap,rfl,fun _ _=>⟨g,rfl⟩⟩
def Joq (v:Value) (A:List Sl):Th where
 F:=fun x=>v.ownBlock=some x
 H:=fun w=>RowS w v A
 lt:=fun _ h x hx=>(World.ownsRow.lt h x hx).2
 keep:=fun _ _ h k=>Jw h fun g hg=>k g hg
structure TrH (p:Nat) (v:Value) (S:St) (w:World):Prop where
 head:w.heap[p]? = some (.cells #[v] 205 (0,0))
 row:RowE w v S
 ne:v.ownBlock≠some p
 good:Good S
def fpT (p:Nat) (v:Value):Nat->Prop:=fun x=>x=p\/v.ownBlock=some x
def trT (p:Nat) (v:Value) (S:St):Th where
 F:=fpT p v
 H:=TrH p v S
 lt:=fun _ h x hx=>hx.elim (fun e=>by rw[e];exact(Jqf.1 h.head).1) fun e=>h.row.lt e
 keep:=fun _ _ h k=>⟨(k p (.inl rfl)).trans h.head,Jw h.row fun g hg=>k g (.inr hg),h.ne,h.good⟩
theorem TrH.cell {p:Nat} {v:Value} {S:St} {w:World} (h:TrH p v S w):w.cell? ⟨p,0,none⟩=some v:=by simp[World.cell?,h.head]
theorem TrH.below {p:Nat} {v:Value} {S:St} {w w':World} (h:TrH p v S w) (b:Below w.heap.size w w'):TrH p v S w':=(trT p v S).below h b
theorem TrH.lt {p:Nat} {v:Value} {S:St} {w:World} (h:TrH p v S w):p<w.heap.size:=(Jqf.1 h.head).1
def Goes (w:World) (p:Nat) (v:Value) (T:St) (w':World):Prop:=∃ v',TrH p v' T w'/\Turn (fpT p v) w w'/\Out (fpT p v) (fpT p v') w
theorem Goes.same {w w':World} {p:Nat} {v:Value} {S:St} (h:TrH p v S w) (b:Below w.heap.size w w'):Goes w p v S w':=⟨v,h.below b,Turn.of b _,Out.refl _ _⟩
theorem Goes.from {w0 w w':World} {p:Nat} {v:Value} {S:St} (b:Below w0.heap.size w0 w) (h:Goes w p v S w'):Goes w0 p v S w':=by
 obtain⟨v',h1,h2,h3⟩:=h
 exact⟨v',h1,(Turn.of b _).trans h2 fun x hx=>.inl hx,fun x hx=>(h3 x hx).imp id fun e=>Jql b.size e⟩
theorem _root_.Go.Proofs.YtbfjjpdnoalojaaGreatDoor.Sep.goes {w0:World} {r:Nat} {w w':World} {p:Nat} {v:Value} {S T:St} {R:List Th} (h:Sep w0 r w (trT p v S::R)) (g:Goes w p v T w'):∃ v',Sep w0 r w' (trT p v' T::R):=by
 obtain⟨v',h1,h2,h3⟩:=g
 exact⟨v',h.turn (t':=trT p v' T) h1 h2 h3⟩
def AtS (w:World) (q:Nat) (s:Sl):Prop:=w.heap[q]? = some (Jo s)
theorem AtS.lt {w:World} {q:Nat} {s:Sl} (h:AtS w q s):q<w.heap.size:=(Jqf.1 h).1
theorem AtS.new (w:World) (s:Sl):AtS (w.alloc (Jo s)) w.heap.size s:=blk_alloc_new _ _
theorem AtS.below {w w':World} {q:Nat} {s:Sl} (h:AtS w q s) (u:Below w.heap.size w w'):AtS w' q s:=(u.block _ h.lt).trans h
theorem AtS.cells {w:World} {q:Nat} {s:Sl} (h:AtS w q s):w.cell? ⟨q,0,none⟩=some (.int .i64 s.n)/\w.cell? ⟨q,1,none⟩=some (.int .i64 s.i):=by
 unfold AtS Jo at h
 constructor<;>simp[World.cell?,h]
theorem J0 (w:World) (o o':Obj):Below w.heap.size w ((w.alloc o).alloc o'):=Below.then (Jb w o) (Jb _ o') (by simp)
theorem O3 (w:World) (o o':Obj):((w.alloc o).alloc o').heap[w.heap.size]? = some o/\((w.alloc o).alloc o').heap[w.heap.size+1]? = some o'/\((w.alloc o).alloc o').heap.size=w.heap.size+2/\Below w.heap.size w ((w.alloc o).alloc o'):=by
 refine⟨?_,?_,by simp,J0 w o o'⟩
 ·rw[blk_alloc_lt _ _ _ (by simp)]
  exact blk_alloc_new _ _
 ·have:=blk_alloc_new (w.alloc o) o'
  simpa using this
open Go.Shelf
def SeeE (w:World) (ao:Option Addr) (Z:St):Prop:=∀ j,j<Z.length->∃ b o,ao=some ⟨b,o,none⟩/\b<w.heap.size/\w.cell? ⟨b,o+j*3,none⟩=some (.int .i64 (VB Z j).n)/\w.cell? ⟨b,o+j*3+1,none⟩=some (.int .i64 (VB Z j).i)/\w.cell? ⟨b,o+j*3+2,none⟩=some (.int .i64 (Zl Z j))
theorem SeeE.below {w w':World} {ao:Option Addr} {Z:St} (h:SeeE w ao Z) (u:Below w.heap.size w w'):SeeE w' ao Z:=fun j hj=>by
 obtain⟨b,o,e,hb,h0,h1,h2⟩:=h j hj
 exact⟨b,o,e,Jrb hb u.size,(u.cell (p:=⟨b,o+j*3,none⟩) hb).trans h0,(u.cell (p:=⟨b,o+j*3+1,none⟩) hb).trans h1,(u.cell (p:=⟨b,o+j*3+2,none⟩) hb).trans h2⟩
theorem RowE.see {w:World} {ao:Option Addr} {n cap:Nat} {S:St} (h:RowE w (.slice ao n cap) S):SeeE w ao S:=fun j hj=>by
 obtain⟨ao',cap',e,_,_,hg⟩:=h.slice
 cases e
 obtain⟨g,rfl⟩:=hg j hj
 obtain⟨h0,h1,h2⟩:=h.cells hj
 exact⟨g,0,rfl,h.lt rfl,by simpa using h0,by simpa using h1,by simpa using h2⟩
def Gl (p:En->Bool) (Z:St):Int:=if Z.findIdx p<Z.length then ((Z.findIdx p:Nat):Int) else -1
theorem Gm {p:En->Bool} {Z:St} {k:Nat} (hk:k<Z.length) (h:p (Xo Z k)=true) (ha:∀ j,j<k->p (Xo Z j)=false):Gl p Z=(k:Int):=by
 have e:Z.findIdx p=k:=by
  rw[List.findIdx_eq hk]
  have ek:Xo Z k=Z[k]:=MG (Jqc hk)
  rw[<- ek]
  refine⟨h,fun j hj=>?_⟩
  have ej:Xo Z j=Z[j]:=MG (Jqc (by omega))
  rw[<- ej]
  exact ha j hj
 unfold Gl
 rw[e,if_pos hk]
theorem AS {p:En->Bool} {Z:St} (ha:∀ j,j<Z.length->p (Xo Z j)=false):Gl p Z = -1:=by
 unfold Gl
 rw[if_neg]
 rw[List.findIdx_lt_length]
 rintro⟨e,he,hp⟩
 obtain⟨i,hi,h⟩:=List.mem_iff_getElem.1 he
 have ei:Xo Z i=Z[i]:=MG (Jqc hi)
 have:=ha i hi
 rw[ei,h,hp] at this
 cases this
theorem XW (g:Nat) (lb:Array Value) (p:En->Bool) (ao:Option Addr) (c:Nat) (Z:St) (w:World) (eg:∀ args w,(callFunc g args).run Tryz.prog w=.ok (.enter g args) w)
  (hp:∀ W x,Below w.heap.size w W->Calls Tryz.prog g (#[.agg #[.int .i64 x.s.n,.int .i64 x.s.i,.int .i64 x.d]]++lb) W fun e w'=>e=.returned (.bool (p x))/\Below W.heap.size W w') (hl:Z.length<=1000) (hz:SeeE w ao Z) :
  Calls Tryz.prog 284 #[.slice ao Z.length c,.func (.func g) #[] lb] w fun e w'=>e=.returned (.int .i64 (Gl p Z))/\Below w.heap.size w w':=by
 have HZ:Hid (SeeE w ao Z):=hz
 have HP:Hid (∀ W x,Below w.heap.size w W->Calls Tryz.prog g (#[.agg #[.int .i64 x.s.n,.int .i64 x.s.i,.int .i64 x.d]]++lb) W fun e w'=>e=.returned (.bool (p x))/\Below W.heap.size W w'):=hp
 clear hz hp
 go_enter Tryz.func284,Tryz.ntmps284
 go_wp2
 go_loopw [5,8] (fun _ s8 wr=>∃ kk:Nat,kk<=Z.length/\s8=.int .i64 kk/\Below w.heap.size w wr/\Hid (∀ j,j<kk->p (Xo Z j)=false)) (fun _ s8 _=>Z.length - (intOf s8).toNat)
 case atStart=>exact⟨0,Jqp _,rfl,Below.refl _ w,fun j hj=>absurd hj (Nat.not_lt_zero _)⟩
 case round =>
  obtain⟨kk,hkk,rfl,BW,A⟩:=hrel
  have HB:Hid (Below w.heap.size w wr):=BW
  by_cases hlt:kk<Z.length
  ·have hltz:(kk:Int)<(Z.length:Int):=by omega
   obtain⟨b,o,rfl,hb,c0,c1,c2⟩:=HZ.out.below BW kk hlt
   have HL:Hid (kk<Z.length):=hlt
   have hcall:=HP.out wr (Xo Z kk) BW
   have HY:Hid (p (Xo Z kk)=p (Xo Z kk)):=rfl
   clear hlt BW hb
   unfold VB at c0 c1
   unfold Zl at c2
   generalize hy:Xo Z kk=y at c0 c1 c2 hcall
   have B:Hid (Xo Z kk=y):=hy
   clear hy HY
   generalize hN:Z.length=N at *
   have HN:Hid (Z.length=N):=hN
   clear hN
   cases hq:p y with
   | true =>
    rw[hq] at hcall
    go_wp2_with (go_at_fn g;refine hcall.mono ?_;rintro e w' ⟨rfl,hb'⟩)
    go_ret
    refine⟨?_,Below.then HB.out hb' HB.out.size⟩
    rw[Gm (k:=kk) (by rw[HN.out];exact HL.out) (by rw[B.out];exact hq) A.out]
    rfl
   | false =>
    rw[hq] at hcall
    go_wp2_with (go_at_fn g;refine hcall.mono ?_;rintro e w' ⟨rfl,hb'⟩)
    go_roundw
    case rel =>
     refine⟨kk+1,by have:=HL.out;omega,by go_num,Below.then HB.out hb' HB.out.size,fun j hj=>?_⟩
     by_cases e:j=kk
     ·subst e
      rw[B.out];exact hq
     ·exact A.out j (by omega)
    case measure=>simp[intOf];have:=HL.out;omega
  ·have hltz:¬ (kk:Int)<(Z.length:Int):=by omega
   have e:kk=Z.length:=by omega
   have HE:Hid (Gl p Z = -1):=AS (by rw[<- e];exact A.out)
   clear e hlt hkk A
   generalize Z.length=N at *
   go_wp2
   go_ret
   exact⟨by rw[HE.out];rfl,HB.out⟩
theorem Jjx (w:World) (a c:Sl) :
  (Op.equalIn 10000 80 (.agg #[.int .i64 a.n,.int .i64 a.i]) (.agg #[.int .i64 c.n,.int .i64 c.i])).run Tryz.prog w=.ok (decide (a=c)) w:=by
 have u3:=Tryz.underlying3
 have a3:=Tryz.isAgg3
 have z3:=Tryz.sizeOf3
 have hS:Tryz.prog.underlying 80 = some (.struct (Tryz.prog.fieldsOf 80)):=by kernel_rfl
 have hp:Tryz.prog.stoodInHeld 80 = false:=by kernel_rfl
 rw[show(10000:Nat)=9999+1 from rfl,run_equalIn_agg w 9999 80 _ _ hS hp]
 simp only[Program.fieldsOf,Tryz.underlying80]
 go_simp
 obtain⟨n,i⟩:=a
 obtain⟨n',i'⟩:=c
 by_cases h1:n=n'<;>by_cases h2:i=i'<;>simp[h1,h2]
def AtE (w:World) (q:Nat) (x:En):Prop:=w.heap[q]? = some (VG x)
theorem AtE.new (w:World) (x:En):AtE (w.alloc (VG x)) w.heap.size x:=blk_alloc_new _ _
theorem AtE.cells {w:World} {q:Nat} {x:En} (h:AtE w q x):w.cell? ⟨q,0,none⟩=some (.int .i64 x.s.n)/\w.cell? ⟨q,1,none⟩=some (.int .i64 x.s.i)/\w.cell? ⟨q,2,none⟩=some (.int .i64 x.d):=by
 unfold AtE VG at h
 refine⟨?_,?_,?_⟩<;>simp[World.cell?,h]
theorem Jof (q:Nat) (s:Sl) (x:En) (w:World) (h:AtS w q s) :
  Calls Tryz.prog 285 #[.agg #[.int .i64 x.s.n,.int .i64 x.s.i,.int .i64 x.d],.pointer (some ⟨q,0,none⟩)] w fun e w'=>e=.returned (.bool (isP s x))/\Below w.heap.size w w':=by
 have b1:=Jb w (VG x)
 obtain⟨s0,s1⟩:=(h.below b1).cells
 obtain⟨c0,c1,-⟩:=(AtE.new w x).cells
 have B:Hid (Below w.heap.size w (w.alloc (VG x))):=b1
 have hq:=fun W=>Jjx W x.s s
 clear b1 h
 unfold isP
 generalize decide (x.s=s)=β at *
 simp only[VG] at *
 go_enter Tryz.func285,Tryz.ntmps285
 go_wp2
 go_ret
 exact⟨rfl,B.out⟩
def plI (S:St) (s:Sl):Int:=if Jl S s then ((pl S s:Nat):Int) else -1
theorem Js8 (S:St) (s:Sl):Gl (isP s) S=plI S s:=by
 unfold Gl plI Jl pl
 simp only[decide_eq_true_eq]
theorem X0 (p:Nat) (v:Value) (S:St) (s:Sl) (w:World) (h:TrH p v S w) (hl:S.length<=1000) :
  Calls Tryz.prog 206 #[.pointer (some ⟨p,0,none⟩),Jh s] w fun e w'=>e=.returned (.tuple #[.int .i64 (plI S s),.bool (Jl S s)])/\Below w.heap.size w w':=by
 have b1:=Jb w (Jo s)
 have h1:=h.below b1
 have a1:=AtS.new w s
 obtain⟨ao,cap,rfl,-,-,-⟩:=h.row.slice
 have c0:=h1.cell
 have B:Hid (Below w.heap.size w (w.alloc (Jo s))):=b1
 have HI:=XW 285 #[.pointer (some ⟨w.heap.size,0,none⟩)] (isP s) ao cap S (w.alloc (Jo s)) (enters_of Tryz.func285 (by kernel_rfl) rfl) (fun W x hW=>Jof w.heap.size s x W (a1.below hW)) hl h1.row.see
 rw[Js8] at HI
 have hI:Hid _:=HI
 have HX:Hid (plI S s=(if Jl S s then ((pl S s:Nat):Int) else -1)):=rfl
 clear HI b1 h1 a1 h
 simp only[Jh,Jo] at *
 go_enter Tryz.func206,Tryz.ntmps206
 go_wp2_with (go_at_call 284;refine Jqa hI.out ?_;rintro e w' ⟨rfl,b2⟩)
 have B2:Hid (Below w.heap.size w w'):=Below.then B.out b2 B.out.size
 clear B hI c0 b2
 generalize plI S s=z at *
 cases hh:Jl S s with
 | true =>
  rw[hh,if_pos rfl] at HX
  obtain rfl:=HX.out
  clear HX
  go_wp2
  go_ret2
  exact⟨rfl,B2.out⟩
 | false =>
  rw[hh] at HX
  obtain rfl:z = -1:=HX.out
  clear HX
  go_wp2
  go_ret2
  exact⟨rfl,B2.out⟩
theorem IF (p:Nat) (v:Value) (S:St) (s:Sl) (w:World) (h:TrH p v S w) (hl:S.length<=1000) :
  Calls Tryz.prog 106 #[.pointer (some ⟨p,0,none⟩),Jh s] w fun e w'=>e=.returned (.bool (Jl S s))/\Below w.heap.size w w':=by
 have b1:=Jb w (Jo s)
 have HP:=X0 p v S s (w.alloc (Jo s)) (h.below b1) hl
 obtain⟨s0,s1⟩:=(AtS.new w s).cells
 have B:Hid (Below w.heap.size w (w.alloc (Jo s))):=b1
 have hI:Hid _:=HP
 clear HP b1 h
 simp only[Jh,Jo] at *
 go_enter Tryz.func106,Tryz.ntmps106
 go_wp2_with (go_at_call 206;refine Jqa hI.out ?_;rintro e w' ⟨rfl,b2⟩)
 have B2:Hid (Below w.heap.size w w'):=Below.then B.out b2 B.out.size
 clear B hI b2
 go_ret
 exact⟨rfl,B2.out⟩
def ZH (L:List Value) (o:Nat) (cs:List Value):List Value:=L.take o++cs++L.drop (o+cs.length)
theorem IR (L:List Value) (o:Nat) (cs:List Value) (h:o+cs.length<=L.length):(ZH L o cs).length=L.length:=by
 unfold ZH
 simp
 omega
theorem VH (A Z cs:List Value) (o:Nat) (h:A.length=o):ZH (A++Z) o cs=A++cs++Z.drop cs.length:=by
 subst h
 unfold ZH
 rw[List.take_left,List.drop_append]
 have e1:A.length+cs.length - A.length=cs.length:=by omega
 have e2:List.drop (A.length+cs.length) A=[]:=List.drop_of_length_le (by omega)
 rw[e1,e2,List.nil_append]
theorem Ja5:(Tryz.prog.info? 207).map (fun i=>(i.zero,i.size,i.bytes))=some (some (.agg #[.int .i64 0,.int .i64 0,.int .i64 0]),3,24):=by kernel_rfl
theorem Iq (w:World) (ty:TypeId) (g o dLen dCap:Nat) (a:Addr) (sLen sCap:Nat) (cur:Array Value) (cs:List Value)
  (hg:w.heap[g]? = some (.cells cur 207 (0,0))) (hn:cs.length=Nat.min sLen dLen*3)
  (hsrc:∀ j v,cs[j]? = some v->w.cell? (a.add j)=some v) (hfit:o+cs.length<=cur.size) (h1:∀ v∈cs,v.oneCell'=true) :
  (Builtin.copy_ #[203,203] ty #[.slice (some ⟨g,o,none⟩) dLen dCap,.slice (some a) sLen sCap]).run Tryz.prog w =
   .ok (goInt (Nat.min sLen dLen)) (w.setRow g (ZH cur.toList o cs).toArray):=by
 have hl:=run_loadCells_list (P:=Tryz.prog) w a cs hsrc
 have hst:=run_storeCells_at Tryz.prog g o 207 cs 0 cur w hg (by simpa using hfit) h1
 obtain⟨i,hi,hz⟩:=Jqt.1 Ja5
 simp only[Prod.mk.injEq] at hz
 have h3:=hz.2.1
 unfold ZH
 simp[Builtin.copy_,run_underlying Tryz.underlying203,Builtin.lenOf,Builtin.firstCells,sizeOf,typeInfo,hi,h3,<- hn,hl,hst]
def Ai (w:World) (v:Value) (T:St) (e:Ending) (w':World):Prop:=∃ v',e=.returned v'/\RowE w' v' T/\w.grownBy w' v.ownBlock/\(v'.ownBlock=v.ownBlock\/∃ g,v'.ownBlock=some g/\w.heap.size<=g)
theorem Oj (S:St) (i:Nat) (x:En):Jc cE (Me S i x)=Jc cE (S.take i)++cE x++Jc cE (S.drop i):=by
 unfold Me
 rw[Jt,JE,List.append_assoc]
theorem UH {w:World} {q:Nat} {x:En} (h:AtE w q x):∀ j v,(cE x)[j]? = some v->w.cell? ((⟨q,0,none⟩:Addr).add j)=some v:=by
 intro j v hj
 rw[JG]
 unfold AtE VG at h
 simp only[World.cell?,h,Nat.zero_add]
 simpa [cE] using hj
theorem Jdk (v:Value) (S:St) (x:En) (q:Nat) (w:World) (h:RowE w v S) (hq:AtE w q x) (hl:S.length<=1000) :
  Calls Tryz.prog 350 #[v,.int .i64 (S.length:Nat),.slice (some ⟨q,0,none⟩) 1 1] w fun e w'=>Ai w v (Me S S.length x) e w':=by
 obtain⟨i,hi,hz⟩:=Jqt.1 Ja5
 simp only[Prod.mk.injEq] at hz
 obtain⟨v',w',r1,r2,r3,_,r5⟩:=run_append_own_at (P:=Tryz.prog) w 0 203 203 207 i _ 3 24 Tryz.underlying203 hi hz.1 hz.2.1 hz.2.2 rfl (by decide) v S.length (Jc cE S) h ⟨q,0,none⟩ 1 1 (cE x) rfl
  (UH hq) (U1 x) (by unfold maxLen;omega) (by omega) (by omega)
 have HK:Hid (Ai w v (Me S S.length x) (.returned v') w'):=by
  refine⟨v',rfl,?_,r3,r5.imp id fun e=>⟨_,e,Jqd _⟩⟩
  unfold RowE
  rw[Vj,Oj,List.take_length,List.drop_length]
  simpa [Jc] using r2
 obtain⟨ao,cap,rfl,hc1,hc2,-⟩:=h.slice
 have hRun:Hid _:=r1
 clear r1 r2 r3 r5 h hq hi hz
 generalize S.length=n at *
 by_cases hcn:cap=n
 ·subst hcn
  go_enter Tryz.func350,Tryz.ntmps350
  go_wp2_with (at_builtin;refine Jd rfl _ _ _ _ rfl _ _ _ _ rfl rfl hRun.out ?_)
  go_ret
  exact HK.out
 ·go_enter Tryz.func350,Tryz.ntmps350
  go_wp2_with (at_builtin;refine Jd rfl _ _ _ _ rfl _ _ _ _ rfl rfl hRun.out ?_)
  go_ret
  exact HK.out
theorem X5 {w:World} {g cap n:Nat} {S:St} (h:RowE w (.slice (some ⟨g,0,none⟩) n cap) S):∃ Z:List Value,w.heap[g]? = some (.cells (Jc cE S++Z).toArray 207 (0,0))/\Z.length=(cap - S.length)*3/\n=S.length:=by
 obtain⟨h0,⟨e,_⟩|⟨g',cap',cur,e,_,hg,h1,h2,h3,h4⟩⟩:=h
 ·cases e
 ·cases e
  refine⟨cur.toList.drop (S.length*3),?_,?_,rfl⟩
  ·rw[<- h4,List.take_append_drop,Array.toArray_toList]
   exact hg
  ·rw[List.length_drop,Array.length_toList,h3,Nat.sub_mul]
theorem Mv {w:World} {g cap:Nat} {T:St} {Z:List Value} (hg:w.heap[g]? = some (.cells (Jc cE T++Z).toArray 207 (0,0))) (hz:Z.length=(cap - T.length)*3) (hc:T.length<=cap) (hm:cap<=9223372036854775807):RowE w (.slice (some ⟨g,0,none⟩) T.length cap) T:=by
 have hl:=Jj Xq T
 refine⟨hl,.inr ⟨g,cap,_,rfl,Jqp _,hg,hc,by unfold maxLen;omega,?_,?_⟩⟩
 ·rw[List.size_toArray,List.length_append,hl,hz,Nat.sub_mul]
  have:=Nat.mul_le_mul_right 3 hc
  omega
 ·show List.take (T.length*3) (Jc cE T++Z)=Jc cE T
  rw[<- hl,List.take_left]
theorem Mk {w:World} {g:Nat} {A B Z:List Value} {o:Nat} (hg:w.heap[g]? = some (.cells (A++(B++Z)).toArray 207 (0,0))) (ho:A.length=o):∀ j v,B[j]? = some v->w.cell? ((⟨g,o,none⟩:Addr).add j)=some v:=by
 intro j v hj
 subst ho
 have hl:=(Jqb.1 hj).1
 rw[JG]
 simp only[World.cell?,hg,List.getElem?_toArray]
 rw[List.getElem?_append_right (by omega),List.getElem?_append_left (by omega),Nat.add_sub_cancel_left]
 exact hj
theorem Gn (g cap:Nat) (S:St) (i:Nat) (x:En) (q:Nat) (w:World) (h:RowE w (.slice (some ⟨g,0,none⟩) S.length cap) S) (hq:AtE w q x) (hqg:q≠g) (hi:i<S.length) (hl:S.length<=1000) (hroom:S.length+1<=cap) :
  Calls Tryz.prog 350 #[.slice (some ⟨g,0,none⟩) S.length cap,.int .i64 i,.slice (some ⟨q,0,none⟩) 1 1] w fun e w'=>Ai w (.slice (some ⟨g,0,none⟩) S.length cap) (Me S i x) e w':=by
 obtain⟨_,_,e0,-,hc63,-⟩:=h.slice
 cases e0
 obtain⟨Z,hg,hzl,-⟩:=X5 h
 have fl:=Jj Xq S
 have flt:(Jc cE (S.take i)).length=i*3:=by rw[Jj Xq,List.length_take];congr 1;omega
 have fld:(Jc cE (S.drop i)).length=(S.length - i)*3:=by rw[Jj Xq,List.length_drop]
 have fsp:Jc cE S=Jc cE (S.take i)++Jc cE (S.drop i):=by rw[<- Jt,List.take_append_drop]
 have hzl3:3<=Z.length:=by omega
 have hcells:∀ j v,(Jc cE (S.drop i))[j]? = some v->w.cell? ((⟨g,i*3,none⟩:Addr).add j)=some v:=Mk (A:=Jc cE (S.take i)) (Z:=Z) (by rw[fsp,List.append_assoc] at hg;exact hg) flt
 -- behind the first copy
 obtain⟨L1,hL1⟩:∃ L1,L1=ZH (Jc cE S++Z) ((i+1)*3) (Jc cE (S.drop i)):=⟨_,rfl⟩
 have l1:L1.length=S.length*3+Z.length:=by rw[hL1,IR _ _ _ (by rw[List.length_append,fl,fld];omega),List.length_append,fl]
 have run1:Hid (∀ ty dc sc,(Builtin.copy_ #[203,203] ty #[.slice (some ⟨g,(i+1)*3,none⟩) (S.length - i) dc,.slice (some ⟨g,i*3,none⟩) (S.length+1 - i) sc]).run Tryz.prog w.drew=.ok (goInt (Nat.min (S.length+1 - i) (S.length - i))) (w.drew.setRow g L1.toArray)):=fun ty dc sc=>by
  rw[hL1]
  exact Iq w.drew ty g ((i+1)*3) _ dc ⟨g,i*3,none⟩ _ sc (Jc cE S++Z).toArray (Jc cE (S.drop i)) hg (by rw[fld];congr 1;simp only[Nat.min_def];split<;>omega) hcells (by rw[List.size_toArray,List.length_append,fl,fld];omega) (VL U1 _)
 -- behind the second
 have run2:Hid (∀ ty dc,(Builtin.copy_ #[203,203] ty #[.slice (some ⟨g,i*3,none⟩) (S.length+1 - i) dc,.slice (some ⟨q,0,none⟩) 1 1]).run Tryz.prog (w.drew.setRow g L1.toArray)=.ok (goInt (Nat.min 1 (S.length+1 - i))) ((w.drew.setRow g L1.toArray).setRow g (ZH L1 (i*3) (cE x)).toArray)):=fun ty dc=>by
  refine Iq (w.drew.setRow g L1.toArray) ty g (i*3) _ dc ⟨q,0,none⟩ 1 1 L1.toArray (cE x) (setRow_heap w.drew g _ _ _ _ hg) (by simp only[Nat.min_def];split<;>simp[cE]<;>omega) (fun j v hj=>?_) (by rw[List.size_toArray,l1];simp[cE];omega) (U1 x)
  have:=UH hq j v hj
  rw[JG] at this ⊢
  rw[cell_setRow_other _ _ _ _ (by simpa using hqg)]
  exact this
 have fin:ZH L1 (i*3) (cE x)=Jc cE (Me S i x)++(Z.drop 3):=by
  have e1:L1=(Jc cE (S.take i)++(Jc cE (S.drop i)++Z).take 3)++(Jc cE (S.drop i)++Z.drop 3):=by
   have e2:Jc cE S++Z=(Jc cE (S.take i)++(Jc cE (S.drop i)++Z).take 3)++(Jc cE (S.drop i)++Z).drop 3:=by
    rw[List.append_assoc,List.take_append_drop,fsp,List.append_assoc]
   have e3:(Jc cE (S.take i)++(Jc cE (S.drop i)++Z).take 3).length=(i+1)*3:=by
    rw[List.length_append,flt,List.length_take,List.length_append,fld]
    omega
   rw[hL1,e2,VH _ _ _ _ e3]
   rw[List.drop_drop,List.append_assoc]
   congr 2
   rw[List.drop_append,List.drop_of_length_le (by omega),List.nil_append]
   congr 1
   omega
  rw[e1,List.append_assoc,VH _ _ _ _ flt,Oj,List.append_assoc,List.append_assoc,List.append_assoc]
  congr 2
  have e4:((Jc cE (S.drop i)++Z).take 3).length=(cE x).length:=by
   rw[List.length_take,List.length_append,fld]
   simp[cE]
   omega
  rw[<- e4,List.drop_left]
 have HK:Hid (Ai w (.slice (some ⟨g,0,none⟩) S.length cap) (Me S i x) (.returned (.slice (some ⟨g,0,none⟩) (S.length+1) cap)) ((w.drew.setRow g L1.toArray).setRow g (ZH L1 (i*3) (cE x)).toArray)):=by
  have hh:((w.drew.setRow g L1.toArray).setRow g (ZH L1 (i*3) (cE x)).toArray).heap[g]? = _:=setRow_heap _ g _ _ _ _ (setRow_heap w.drew g _ _ _ _ hg)
  refine⟨_,rfl,?_,⟨rfl,rfl,rfl,by simp,fun k _ hk=>?_⟩,.inl rfl⟩
  ·rw[fin] at hh
   have:=Mv (cap:=cap) hh (by rw[List.length_drop,hzl,Vj];omega) (by rw[Vj];exact hroom) hc63
   rw[Vj] at this
   rw[fin]
   exact this
  ·have hne:k≠g:=fun e=>hk (by rw[e];rfl)
   rw[setRow_other _ _ _ _ hne,setRow_other _ _ _ _ hne]
   rfl
 have hov:∀ lb cb,(callFunc 369 #[.slice (some ⟨q,0,none⟩) 1 1,.slice (some ⟨g,(i+1)*3,none⟩) lb cb]).run Tryz.prog w=.ok (.value (.bool false)) w:=fun lb cb=>by
  rw[run_callFunc_extern Tryz.func369 (by kernel_rfl) (by kernel_rfl) (by kernel_rfl) (e:=Extern.SlicesOverlaps.overlaps #[203,203] #[4]) (by kernel_rfl),
   Lib.run_overlaps_apart w 203 4 207 Tryz.underlying203 3 Tryz.sizeOf207 ⟨q,0,none⟩ ⟨g,(i+1)*3,none⟩ 1 1 lb cb hqg 207 207 3 (Jc cE S++Z).toArray.size (by unfold AtE VG at hq;simp[World.shape?,hq]) (by simp[World.shape?,hg]) (by rw[List.size_toArray,List.length_append,fl];omega) (by unfold AtE VG at hq;simp[World.frozen?,hq]) (by unfold AtE VG at hq;simp[World.frozen?,hq])]
  rfl
 have mixed:Tryz.prog.follows Departure.mixedOrders=true:=by kernel_rfl
 have hw1:IntKind.i64.wrap ((i:Int)+1)=(i:Int)+1:=by rw[IntKind.wrap_i64];omega
 have hb1:(0:Int)<=(i:Int)+1:=by omega
 have htn:((i:Int)+1).toNat=i+1:=by omega
 have hin:i<=S.length:=by omega
 have hb2:¬ (cap=i+1):=by omega
 have hb3:(i:Int)<=(S.length:Int)+1:=by omega
 have hb4:¬ (cap=i):=by omega
 have hz2:¬ ((i:Int)=(S.length:Int)):=by omega
 clear fin hL1 l1 hcells fsp fld flt fl hzl hzl3 hg h hq
 generalize ZH L1 (i*3) (cE x)=L2 at *
 generalize S.length=n at *
 go_enter Tryz.func350,Tryz.ntmps350
 go_wp2_with (simp only[hov])
 have run1':=run1.out
 go_region
 clear run1'
 have run2':=run2.out
 go_wp2
 go_ret
 exact HK.out
theorem Ja6 (g cap:Nat) (S:St) (i:Nat) (x:En) (q:Nat) (w:World) (h:RowE w (.slice (some ⟨g,0,none⟩) S.length cap) S) (hq:AtE w q x) (hi:i<S.length) (hl:S.length<=1000) (hroom:cap<S.length+1) :
  Calls Tryz.prog 350 #[.slice (some ⟨g,0,none⟩) S.length cap,.int .i64 i,.slice (some ⟨q,0,none⟩) 1 1] w fun e w'=>Ai w (.slice (some ⟨g,0,none⟩) S.length cap) (Me S i x) e w':=by
 obtain⟨_,_,e0,hcn,-,-⟩:=h.slice
 cases e0
 obtain⟨Z,hg,-,-⟩:=X5 h
 have hgl:g<w.heap.size:=(Jqf.1 hg).1
 have hql:q<w.heap.size:=(Jqf.1 hq).1
 have flt:(Jc cE (S.take i)).length=i*3:=by rw[Jj Xq,List.length_take];congr 1;omega
 have fld:(Jc cE (S.drop i)).length=(S.length - i)*3:=by rw[Jj Xq,List.length_drop]
 have fsp:Jc cE S=Jc cE (S.take i)++Jc cE (S.drop i):=by rw[<- Jt,List.take_append_drop]
 have hcells:∀ j v,(Jc cE (S.drop i))[j]? = some v->w.cell? ((⟨g,i*3,none⟩:Addr).add j)=some v:=Mk (A:=Jc cE (S.take i)) (Z:=Z) (by rw[fsp,List.append_assoc] at hg;exact hg) flt
 have hcell0:∀ j v,(Jc cE (S.take i))[j]? = some v->w.cell? ((⟨g,0,none⟩:Addr).add j)=some v:=Mk (A:=[]) (Z:=Jc cE (S.drop i)++Z) (by rw[fsp,List.append_assoc] at hg;simpa using hg) rfl
 obtain⟨ti,hti,hz⟩:=Jqt.1 Ja5
 simp only[Prod.mk.injEq] at hz
 obtain⟨hz0,hz3,hzb⟩:=hz
 have hold:(Builtin.firstCells ti.size i (.slice (some ⟨g,0,none⟩) i cap)).run Tryz.prog w.drew=.ok (Jc cE (S.take i)).toArray w.drew:=by
  rw[hz3]
  exact run_firstCells_some w.drew 3 i ⟨g,0,none⟩ i cap (Jc cE (S.take i)) flt hcell0
 obtain⟨G,hG⟩:∃ G,G=grownCap w (S.length+1) cap 207:=⟨_,rfl⟩
 have hGn:S.length+1<=G:=by rw[hG];exact grownCap_ge w _ _ _
 have hG63:G<=9223372036854775807:=by
  have:=grownCap_le_maxLen w (S.length+1) cap 207 (by unfold maxLen;omega)
  rw[<- hG] at this
  unfold maxLen at this
  omega
 obtain⟨Y,hY,hYl⟩:∃ Y:List Value,(Jc cE (S.take i)).toArray++Builtin.zeroCells (Value.agg #[.int .i64 0,.int .i64 0,.int .i64 0]).cells (S.length+1 - i)++Builtin.zeroCells (Value.agg #[.int .i64 0,.int .i64 0,.int .i64 0]).cells (G - (S.length+1))=(Jc cE (S.take i)++Y).toArray/\Y.length=(G - i)*3:=by
  refine⟨(Builtin.zeroCells (Value.agg #[.int .i64 0,.int .i64 0,.int .i64 0]).cells (S.length+1 - i)).toList++(Builtin.zeroCells (Value.agg #[.int .i64 0,.int .i64 0,.int .i64 0]).cells (G - (S.length+1))).toList,?_,?_⟩
  ·apply Array.ext'
   simp
  ·simp[Builtin.zeroCells,Value.cells]
   omega
 have hrz:Hid (∀ ty,(Builtin.append_ #[203,3] ty #[.slice (some ⟨g,0,none⟩) i cap,.int .i64 ((S.length:Int)+1 - (i:Int))]).run Tryz.prog w =
   .ok (.slice (some ⟨w.heap.size,0,none⟩) (S.length+1) G) (w.drew.alloc (.cells (Jc cE (S.take i)++Y).toArray 207))):=fun ty=>by
  have hik:i+(S.length+1 - i)=S.length+1:=by omega
  have hkk:(S.length:Int)+1 - (i:Int)=((S.length+1 - i:Nat):Int):=by omega
  have h:=Lib.run_append_grow_zeros w 203 3 ty 207 ti _ .i64 .i64 Tryz.underlying203 Tryz.underlying3 hti hz0 (some ⟨g,0,none⟩) i cap (Jc cE (S.take i)) hold (S.length+1 - i) (by omega) (by omega) (by omega) (by omega) (by rw[hzb];omega) (by rw[hzb,hik];exact growslice_fits hroom (by omega))
  rw[hik,<- hG,hY] at h
  rw[hkk]
  exact h
 obtain⟨W1,hW1⟩:∃ W1,W1=w.drew.alloc (.cells (Jc cE (S.take i)++Y).toArray 207):=⟨_,rfl⟩
 have hN:W1.heap[w.heap.size]? = some (.cells (Jc cE (S.take i)++Y).toArray 207 (0,0)):=by rw[hW1];exact blk_alloc_new w.drew _
 have hbel:Below w.heap.size w W1:=by rw[hW1];exact(Below.refl _ w).drew.alloc (Jqd _) _
 have hs1:W1.heap.size=w.heap.size+1:=by rw[hW1];simp
 obtain⟨L1,hL1⟩:∃ L1,L1=ZH (Jc cE (S.take i)++Y) (i*3) (cE x):=⟨_,rfl⟩
 have fin1:L1=(Jc cE (S.take i)++cE x)++Y.drop 3:=by rw[hL1,VH _ _ _ _ flt];rfl
 have fx:(Jc cE (S.take i)++cE x).length=(i+1)*3:=by rw[List.length_append,flt];simp[cE];omega
 have run1:Hid (∀ ty dc,(Builtin.copy_ #[203,203] ty #[.slice (some ⟨w.heap.size,i*3,none⟩) (S.length+1 - i) dc,.slice (some ⟨q,0,none⟩) 1 1]).run Tryz.prog W1=.ok (goInt (Nat.min 1 (S.length+1 - i))) (W1.setRow w.heap.size L1.toArray)):=fun ty dc=>by
  rw[hL1]
  refine Iq W1 ty w.heap.size (i*3) _ dc ⟨q,0,none⟩ 1 1 (Jc cE (S.take i)++Y).toArray (cE x) hN (by simp only[Nat.min_def];split<;>simp[cE]<;>omega) (fun j v hj=>?_) (by rw[List.size_toArray,List.length_append,flt,hYl];simp[cE];omega) (U1 x)
  have:=UH hq j v hj
  rw[JG] at this ⊢
  rw[hbel.cell (p:=⟨q,0+j,none⟩) hql]
  exact this
 have hN2:(W1.setRow w.heap.size L1.toArray).heap[w.heap.size]? = some (.cells L1.toArray 207 (0,0)):=setRow_heap W1 _ _ _ _ _ hN
 have l1:L1.length=G*3:=by rw[fin1,List.length_append,fx,List.length_drop,hYl];omega
 have run2:Hid (∀ ty dc sc,(Builtin.copy_ #[203,203] ty #[.slice (some ⟨w.heap.size,(i+1)*3,none⟩) (S.length - i) dc,.slice (some ⟨g,i*3,none⟩) (S.length - i) sc]).run Tryz.prog (W1.setRow w.heap.size L1.toArray).drew=.ok (goInt (Nat.min (S.length - i) (S.length - i))) ((W1.setRow w.heap.size L1.toArray).drew.setRow w.heap.size (ZH L1 ((i+1)*3) (Jc cE (S.drop i))).toArray)):=fun ty dc sc=>by
  refine Iq (W1.setRow w.heap.size L1.toArray).drew ty w.heap.size ((i+1)*3) _ dc ⟨g,i*3,none⟩ _ sc L1.toArray (Jc cE (S.drop i)) hN2 (by rw[fld,show Nat.min (S.length - i) (S.length - i)=S.length - i from Nat.min_self _]) (fun j v hj=>?_) (by rw[List.size_toArray,l1,fld];omega) (VL U1 _)
  have:=hcells j v hj
  rw[JG] at this ⊢
  have hne:(⟨g,i*3+j,none⟩:Addr).block≠w.heap.size:=by simp only;omega
  show(W1.setRow w.heap.size L1.toArray).cell? _=_
  rw[cell_setRow_other _ _ _ _ hne,hbel.cell (p:=⟨g,i*3+j,none⟩) hgl]
  exact this
 have fin2:ZH L1 ((i+1)*3) (Jc cE (S.drop i))=Jc cE (Me S i x)++(Y.drop 3).drop (Jc cE (S.drop i)).length:=by
  rw[fin1,VH _ _ _ _ fx,Oj]
 have HK:Hid (Ai w (.slice (some ⟨g,0,none⟩) S.length cap) (Me S i x) (.returned (.slice (some ⟨w.heap.size,0,none⟩) (S.length+1) G)) ((W1.setRow w.heap.size L1.toArray).drew.setRow w.heap.size (ZH L1 ((i+1)*3) (Jc cE (S.drop i))).toArray)):=by
  have hh:((W1.setRow w.heap.size L1.toArray).drew.setRow w.heap.size (ZH L1 ((i+1)*3) (Jc cE (S.drop i))).toArray).heap[w.heap.size]? = _:=setRow_heap _ _ _ _ _ _ hN2
  refine⟨_,rfl,?_,⟨hbel.os,hbel.tape,hbel.output,?_,fun k hk _=>?_⟩,.inr ⟨_,rfl,Jqd _⟩⟩
  ·rw[fin2] at hh
   have:=Mv (cap:=G) hh (by rw[List.length_drop,List.length_drop,hYl,fld,Vj];omega) (by rw[Vj];exact hGn) hG63
   rw[Vj] at this
   rw[fin2]
   exact this
  ·show w.heap.size<=((W1.setRow w.heap.size L1.toArray).setRow w.heap.size _).heap.size
   rw[setRow_size,setRow_size,hs1]
   omega
  ·have hne:k≠w.heap.size:=by omega
   rw[setRow_other _ _ _ _ hne]
   show(W1.setRow w.heap.size L1.toArray).heap[k]? = _
   rw[setRow_other _ _ _ _ hne]
   exact hbel.block k hk
 have mixed:Tryz.prog.follows Departure.mixedOrders=true:=by kernel_rfl
 have hw1:IntKind.i64.wrap ((i:Int)+1)=(i:Int)+1:=by rw[IntKind.wrap_i64];omega
 have hb1:(0:Int)<=(i:Int)+1:=by omega
 have htn:((i:Int)+1).toNat=i+1:=by omega
 have hin:i<=S.length:=by omega
 have hb2:¬ (G=i+1):=by omega
 have hb5:¬ (G=i):=by omega
 have hb3:(i:Int)<=(S.length:Int)+1:=by omega
 have hb4:¬ (cap=i):=by omega
 have hz2:¬ ((i:Int)=(S.length:Int)):=by omega
 rw[<- hW1] at hrz
 clear hW1 hN hbel hs1 fin1 fin2 hL1 fx hN2 l1 hold hY hYl hcells hcell0 fsp fld flt hg h hq hG hti hz0 hz3 hzb
 generalize ZH L1 ((i+1)*3) (Jc cE (S.drop i))=L2 at *
 generalize hn:S.length=n at *
 generalize w.heap.size=r at *
 go_enter Tryz.func350,Tryz.ntmps350
 have run1':=run1.out
 go_wp2_with (at_builtin;refine Jd rfl _ _ _ _ rfl _ _ _ _ rfl rfl (hrz.out _) ?_)
 clear run1'
 have run2':=run2.out
 go_region
 go_wp2
 go_ret
 exact HK.out
theorem Jdj (v:Value) (S:St) (i:Nat) (x:En) (q:Nat) (w:World) (h:RowE w v S) (hq:AtE w q x) (hqv:v.ownBlock≠some q) (hi:i<=S.length) (hl:S.length<=1000) :
  Calls Tryz.prog 350 #[v,.int .i64 i,.slice (some ⟨q,0,none⟩) 1 1] w fun e w'=>Ai w v (Me S i x) e w':=by
 by_cases hin:i=S.length
 ·subst hin
  exact Jdk v S x q w h hq hl
 ·obtain⟨ao,cap,rfl,_,_,hg⟩:=h.slice
  obtain⟨g,rfl⟩:=hg i (by omega)
  have hqg:q≠g:=fun e=>hqv (by rw[e];rfl)
  rcases Nat.lt_or_ge cap (S.length+1) with hc|hc
  ·exact Ja6 g cap S i x q w h hq (by omega) hl hc
  ·exact Gn g cap S i x q w h hq hqg (by omega) hl hc
def z3:List Value:=[.int .i64 0,.int .i64 0,.int .i64 0]
theorem Oc (w:World) (ty:TypeId) (g o c:Nat) (cur:Array Value) (hg:w.heap[g]? = some (.cells cur 207 (0,0))) (hfit:o+3<=cur.size) :
  (Builtin.clear_ #[203] ty #[.slice (some ⟨g,o,none⟩) 1 c]).run Tryz.prog w=.ok (.tuple #[]) (w.setRow g (ZH cur.toList o z3).toArray):=by
 have hst:=run_storeCells_at Tryz.prog g o 207 z3 0 cur w hg (by simp[z3];omega) (by simp[z3,Value.oneCell'])
 simp only[Nat.add_zero] at hst
 have hzc:(Builtin.zeroCells (Value.agg #[.int .i64 0,.int .i64 0,.int .i64 0]).cells 1).toList=z3:=by
  simp[Builtin.zeroCells,Value.cells,z3]
  rfl
 have hv:=Tryz.zeroValue207
 unfold ZH
 simp[Builtin.clear_,run_underlying Tryz.underlying203,hv,hzc,hst]
theorem U4 (g cap:Nat) (S:St) (i:Nat) (w:World) (h:RowE w (.slice (some ⟨g,0,none⟩) S.length cap) S) (hi:i<S.length) (hl:S.length<=1000) :
  Calls Tryz.prog 351 #[.slice (some ⟨g,0,none⟩) S.length cap,.int .i64 i,.int .i64 ((i:Int)+1)] w fun e w'=>e=.returned (.slice (some ⟨g,0,none⟩) (S.length - 1) cap)/\RowE w' (.slice (some ⟨g,0,none⟩) (S.length - 1) cap) (S.eraseIdx i)/\w.grownBy w' (some g):=by
 obtain⟨_,_,e0,hcn,hc63,-⟩:=h.slice
 cases e0
 obtain⟨Z,hg,hzl,-⟩:=X5 h
 have fl:=Jj Xq S
 have flt:(Jc cE (S.take i)).length=i*3:=by rw[Jj Xq,List.length_take];congr 1;omega
 have flt1:(Jc cE (S.take (i+1))).length=(i+1)*3:=by rw[Jj Xq,List.length_take];congr 1;omega
 have fld:(Jc cE (S.drop (i+1))).length=(S.length - (i+1))*3:=by rw[Jj Xq,List.length_drop]
 have fsp:Jc cE S=Jc cE (S.take (i+1))++Jc cE (S.drop (i+1)):=by rw[<- Jt,List.take_append_drop]
 have fsp0:Jc cE S=Jc cE (S.take i)++Jc cE (S.drop i):=by rw[<- Jt,List.take_append_drop]
 have hcells:∀ j v,(Jc cE (S.drop (i+1)))[j]? = some v->w.cell? ((⟨g,(i+1)*3,none⟩:Addr).add j)=some v:=Mk (A:=Jc cE (S.take (i+1))) (Z:=Z) (by rw[fsp,List.append_assoc] at hg;exact hg) flt1
 obtain⟨ti,hti,hz⟩:=Jqt.1 Ja5
 simp only[Prod.mk.injEq] at hz
 obtain⟨L1,hL1⟩:∃ L1,L1=ZH (Jc cE S++Z) (i*3) (Jc cE (S.drop (i+1))):=⟨_,rfl⟩
 obtain⟨ad,had,hsrc⟩:∃ A:Addr,(if cap=i+1 then some (⟨g,0,none⟩:Addr) else some ⟨g,(i+1)*3,none⟩)=some A/\(∀ t u,(Jc cE (S.drop (i+1)))[t]? = some u->w.drew.cell? (A.add t)=some u):=by
  by_cases hc:cap=i+1
  ·refine⟨⟨g,0,none⟩,by simp[hc],fun t u hu=>?_⟩
   have h0:(Jc cE (S.drop (i+1))).length=0:=by rw[fld];omega
   rw[List.length_eq_zero_iff.1 h0] at hu
   simp at hu
  ·exact⟨⟨g,(i+1)*3,none⟩,by simp[hc],hcells⟩
 have run1:Hid (∀ ty sc,(Builtin.append_ #[203,203] ty #[.slice (some ⟨g,0,none⟩) i cap,.slice (some ad) (S.length - (i+1)) sc]).run Tryz.prog w.drew=.ok (.slice (some ⟨g,0,none⟩) (i+(S.length - (i+1))) cap) (w.drew.setRow g L1.toArray)):=fun ty sc=>by
  have r:=run_append_room (P:=Tryz.prog) w.drew 203 ty 207 ti Tryz.underlying203 hti g i cap (Jc cE S++Z).toArray hg ad (S.length - (i+1)) sc (Jc cE (S.drop (i+1))) (by rw[hz.2.1,fld]) hsrc (VL U1 _) (by omega) (by rw[hz.2.1,List.size_toArray,List.length_append,fl,fld];omega)
  rw[hz.2.1] at r
  rw[hL1]
  exact r
 have e1:i+(S.length - (i+1))=S.length - 1:=by omega
 rw[e1] at run1
 have l1:L1.length=S.length*3+Z.length:=by rw[hL1,IR _ _ _ (by rw[List.length_append,fl,fld];omega),List.length_append,fl]
 have hg1:(w.drew.setRow g L1.toArray).heap[g]? = some (.cells L1.toArray 207 (0,0)):=setRow_heap w.drew g _ _ _ _ hg
 have run2:Hid (∀ ty c,(Builtin.clear_ #[203] ty #[.slice (some ⟨g,(S.length - 1)*3,none⟩) 1 c]).run Tryz.prog (w.drew.setRow g L1.toArray)=.ok (.tuple #[]) ((w.drew.setRow g L1.toArray).setRow g (ZH L1 ((S.length - 1)*3) z3).toArray)):=fun ty c =>
  Oc _ ty g _ c L1.toArray hg1 (by rw[List.size_toArray,l1];omega)
 have fin:ZH L1 ((S.length - 1)*3) z3=Jc cE (S.eraseIdx i)++(z3++((Jc cE (S.drop i)++Z).drop (Jc cE (S.drop (i+1))).length).drop z3.length):=by
  have e2:L1=Jc cE (S.eraseIdx i)++(Jc cE (S.drop i)++Z).drop (Jc cE (S.drop (i+1))).length:=by
   rw[hL1,fsp0,List.append_assoc,VH _ _ _ _ flt,List.eraseIdx_eq_take_drop_succ,Jt]
  have e3:(Jc cE (S.eraseIdx i)).length=(S.length - 1)*3:=by rw[Jj Xq,List.length_eraseIdx,if_pos hi]
  rw[e2,VH _ _ _ _ e3,List.append_assoc]
 have HK:Hid (RowE ((w.drew.setRow g L1.toArray).setRow g (ZH L1 ((S.length - 1)*3) z3).toArray) (.slice (some ⟨g,0,none⟩) (S.length - 1) cap) (S.eraseIdx i)/\w.grownBy ((w.drew.setRow g L1.toArray).setRow g (ZH L1 ((S.length - 1)*3) z3).toArray) (some g)):=by
  have hh:=setRow_heap _ g _ (ZH L1 ((S.length - 1)*3) z3).toArray _ _ hg1
  refine⟨?_,⟨rfl,rfl,rfl,by simp,fun k _ hk=>?_⟩⟩
  ·have el:(S.eraseIdx i).length=S.length - 1:=by rw[List.length_eraseIdx,if_pos hi]
   rw[fin] at hh
   have:=Mv (cap:=cap) hh (by
    rw[List.length_append,List.length_drop,List.length_drop,List.length_append,fld,Jj Xq,List.length_drop,hzl,el]
    simp only[z3,List.length_cons,List.length_nil]
    omega) (by rw[el];omega) hc63
   rw[el] at this
   rw[fin]
   exact this
  ·have hne:k≠g:=fun e=>hk (by rw[e])
   rw[setRow_other _ _ _ _ hne,setRow_other _ _ _ _ hne]
   rfl
 have mixed:Tryz.prog.follows Departure.mixedOrders=true:=by kernel_rfl
 have hb1:(i:Int)<=(i:Int)+1:=by omega
 have hb2:(i:Int)+1<=(S.length:Int):=by omega
 have htn:((i:Int)+1).toNat=i+1:=by omega
 have hb3:¬ (cap=S.length - 1):=by omega
 have hb6:S.length - (S.length - 1)=1:=by omega
 have hb7:¬ ((i:Int)=(i:Int)+1):=by omega
 have hb8:(0:Int)<=(i:Int)+1:=by omega
 have hb9:i<=cap:=by omega
 have hb10:i+1<=cap:=by omega
 clear fin hL1 l1 hcells fsp fsp0 fld flt flt1 fl hzl hg h hg1 hsrc hti hz e1
 generalize ZH L1 ((S.length - 1)*3) z3=L2 at *
 generalize hn:S.length=n at *
 generalize hm:n - 1=m at *
 go_enter Tryz.func351,Tryz.ntmps351
 go_wp2_with fail
 go_region_law_o (refine Jy rfl (.tmp 22) (.tmp 25) 203 203 rfl (.slice (some ⟨g,0,none⟩) i cap) (.slice (some ad) (n - (i+1)) (cap - (i+1))) _ _ (by simp[Act.eval,Act.put]) (by simp[Act.eval,Act.put]) (run1.out _ _) ?_)
 have run2':=run2.out
 go_wp2
 go_ret
 exact⟨rfl,HK.out⟩
theorem Joe (p g cap:Nat) (S:St) (i q q2:Nat) (x:En) (w:World) (h:TrH p (.slice (some ⟨g,0,none⟩) S.length cap) S w) (hi:i<S.length) (ht:w.heap[q]? = some (.cells #[.pointer (some ⟨p,0,none⟩)] 89)) (hj:w.heap[q2]? = some (.cells #[.int .i64 (i:Int)] 3)) :
  Calls Tryz.prog 356 #[.agg #[.int .i64 x.s.n,.int .i64 x.s.i,.int .i64 x.d],.pointer (some ⟨q,0,none⟩),.pointer (some ⟨q2,0,none⟩)] w fun e w'=>e=.returned (.bool (GP (Zl S i) x))/\Below w.heap.size w w':=by
 have b1:=Jb w (VG x)
 have h1:=h.below b1
 obtain⟨-,-,c2⟩:=(AtE.new w x).cells
 obtain⟨-,-,d2⟩:=h1.row.cells hi
 have l1:(w.alloc (VG x)).cell? ⟨q,0,none⟩=some (.pointer (some ⟨p,0,none⟩)):=by
  have:=(b1.block q (Jqf.1 ht).1).trans ht
  simp[World.cell?,this]
 have l2:(w.alloc (VG x)).cell? ⟨q2,0,none⟩=some (.int .i64 (i:Int)):=by
  have:=(b1.block q2 (Jqf.1 hj).1).trans hj
  simp[World.cell?,this]
 have l3:=h1.cell
 have B:Hid (Below w.heap.size w (w.alloc (VG x))):=b1
 have hi1:(i:Int)<(S.length:Int):=by omega
 have HD:Hid (GP (Zl S i) x=decide (x.d<=Zl S i)):=rfl
 generalize GP (Zl S i) x=β at *
 generalize Zl S i=di at *
 clear b1 h h1 ht hj hi
 generalize S.length=n at *
 simp only[VG] at *
 go_enter Tryz.func356,Tryz.ntmps356
 go_wp2
 generalize w.alloc (Obj.cells _ _)=w1 at *
 generalize hr0:w.heap.size=r at *
 have HR:Hid (w.heap.size=r):=hr0
 clear hr0
 go_quiet (fail)
 go_wp2
 go_ret
 exact⟨by rw[HD.out];rfl,by rw[HR.out];exact JH B.out _⟩
theorem Jgw (S:St) (i:Nat):Gl (GP (Zl S i)) (S.drop (i+1))=if (Jz S i).length<(S.drop (i+1)).length then (((Jz S i).length:Nat):Int) else -1:=by
 have:(Jz S i).length=(S.drop (i+1)).findIdx (GP (Zl S i)):=by
  unfold Jz
  have:(S.drop (i+1)).findIdx (GP (Zl S i))<=(S.drop (i+1)).length:=List.findIdx_le_length
  rw[List.length_take]
  omega
 unfold Gl
 rw[this]
theorem FR (p g cap:Nat) (S:St) (i:Nat) (w:World) (h:TrH p (.slice (some ⟨g,0,none⟩) S.length cap) S w) (hi:i<S.length) (hl:S.length<=1000) :
  Calls Tryz.prog 314 #[.pointer (some ⟨p,0,none⟩),.int .i64 (i:Int)] w fun e w'=>∃ ad c,e=.returned (.slice (some ad) (Jz S i).length c)/\(0<(Jz S i).length->ad=⟨g,(i+1)*3,none⟩)/\Below w.heap.size w w':=by
 obtain⟨x1,x2,x3,x4⟩:=O3 w (.cells #[.pointer (some ⟨p,0,none⟩)] 89) (.cells #[.int .i64 (i:Int)] 3)
 have h1:=h.below x4
 obtain⟨_,_,e0,hcn,hc63,-⟩:=h.row.slice
 cases e0
 obtain⟨W,hW⟩:∃ W,(w.alloc (.cells #[.pointer (some ⟨p,0,none⟩)] 89)).alloc (.cells #[.int .i64 (i:Int)] 3)=W:=⟨_,rfl⟩
 rw[hW] at x1 x2 x3 x4 h1
 have l1:W.cell? ⟨w.heap.size,0,none⟩=some (.pointer (some ⟨p,0,none⟩)):=by simp[World.cell?,x1]
 have l2:W.cell? ⟨w.heap.size+1,0,none⟩=some (.int .i64 (i:Int)):=by simp[World.cell?,x2]
 have l3:=h1.cell
 have B:Hid (Below w.heap.size w W):=x4
 obtain⟨ad,had⟩:∃ ad:Addr,(if cap=i+1 then some (⟨g,0,none⟩:Addr) else some ⟨g,(i+1)*3,none⟩)=some ad:=by split<;>exact⟨_,rfl⟩
 have hlen:(S.drop (i+1)).length=S.length - (i+1):=Jrd
 have hul:(Jz S i).length<=S.length - (i+1):=by unfold Jz;rw[List.length_take,hlen];omega
 have HA:Hid (0<(Jz S i).length->ad=⟨g,(i+1)*3,none⟩):=fun hp=>by
  rw[if_neg (by omega)] at had
  exact(Jqz had).symm
 have hsee:∀ nq,SeeE (W.drewN nq) (some ad) (S.drop (i+1)):=fun nq j hj=>by
  rw[hlen] at hj
  rw[if_neg (by omega)] at had
  cases had
  obtain⟨d0,d1,d2⟩:=h1.row.cells (i:=i+1+j) (by omega)
  refine⟨g,(i+1)*3,rfl,h1.row.lt rfl,?_,?_,?_⟩
  ·rw[show(i+1)*3+j*3=(i+1+j)*3 by omega]
   unfold VB at d0 ⊢
   rw[XK]
   exact d0
  ·rw[show(i+1)*3+j*3=(i+1+j)*3 by omega]
   unfold VB at d1 ⊢
   rw[XK]
   exact d1
  ·rw[show(i+1)*3+j*3=(i+1+j)*3 by omega]
   unfold Zl at d2 ⊢
   rw[XK]
   exact d2
 have HI:Hid (∀ nq c,Calls Tryz.prog 284 #[.slice (some ad) (S.length - (i+1)) c,.func (.func 356) #[] #[.pointer (some ⟨w.heap.size,0,none⟩),.pointer (some ⟨w.heap.size+1,0,none⟩)]] (W.drewN nq) fun e w'=>e=.returned (.int .i64 (if (Jz S i).length<S.length - (i+1) then (((Jz S i).length:Nat):Int) else -1))/\Below w.heap.size w w'):=fun nq c=>by
  have k:=XW 356 #[.pointer (some ⟨w.heap.size,0,none⟩),.pointer (some ⟨w.heap.size+1,0,none⟩)] (GP (Zl S i)) (some ad) c (S.drop (i+1)) (W.drewN nq) (enters_of Tryz.func356 (by kernel_rfl) rfl) (fun V x hV=>by
   have hV':Below W.heap.size W V:=⟨hV.os,hV.tape,hV.output,hV.size,hV.block⟩
   exact Joe p g cap S i _ _ x V (h1.below hV') hi ((hV'.block _ (Jqf.1 x1).1).trans x1) ((hV'.block _ (Jqf.1 x2).1).trans x2)) (by rw[hlen];omega) (hsee nq)
  rw[Jgw,hlen] at k
  refine Jqa k ?_
  rintro e w' ⟨rfl,b⟩
  exact⟨rfl,Below.then B.out ⟨b.os,b.tape,b.output,b.size,b.block⟩ B.out.size⟩
 have hw1:IntKind.i64.wrap ((i:Int)+1)=(i:Int)+1:=by rw[IntKind.wrap_i64];omega
 have hb1:(0:Int)<=(i:Int)+1:=by omega
 have htn:((i:Int)+1).toNat=i+1:=by omega
 have hkc:(Jz S i).length<=cap - (i+1):=by omega
 have hin:i+1<=S.length:=by omega
 have hin':(i:Int)+1<=(S.length:Int):=by omega
 clear h h1 x1 x2 x3 x4 hsee hlen hcn hi
 generalize hu:(Jz S i).length=k at *
 clear hu
 generalize S.length=n at *
 by_cases hk:k<n - (i+1)
 ·simp only[if_pos hk] at HI
  go_enter Tryz.func314,Tryz.ntmps314
  go_wp2
  clear hW
  generalize hr0:w.heap.size=r at *
  have HR:Hid (w.heap.size=r):=hr0
  clear hr0
  go_quiet (fail)
  go_wp2_with (go_at_call 284;refine Jqa (HI.out _ _) ?_;rintro e w' ⟨rfl,b2⟩)
  go_ret
  exact⟨_,_,rfl,HA.out,by rw[HR.out];exact b2⟩
 ·have:k=n - (i+1):=by omega
  subst this
  simp only[if_neg hk] at HI
  go_enter Tryz.func314,Tryz.ntmps314
  go_wp2
  clear hW
  generalize hr0:w.heap.size=r at *
  have HR:Hid (w.heap.size=r):=hr0
  clear hr0
  go_quiet (fail)
  go_wp2_with (go_at_call 284;refine Jqa (HI.out _ _) ?_;rintro e w' ⟨rfl,b2⟩)
  go_ret
  exact⟨_,_,rfl,HA.out,by rw[HR.out];exact b2⟩
def OwnS (B:Nat) (w:World) (v:Value) (A:List Sl):Prop:=w.ownsRow B 80 2 v A.length (Jc cS A)
theorem OwnS.row {B:Nat} {w:World} {v:Value} {A:List Sl} (h:OwnS B w v A):RowS w v A:=GE h
theorem OwnS.new {B:Nat} {w:World} {v:Value} {A:List Sl} (h:OwnS B w v A):∀ x,(Joq v A).F x->B<=x:=fun x hx=>(World.ownsRow.lt h x hx).1
theorem Jy1:(Tryz.prog.info? 80).map (fun i=>(i.zero,i.size,i.bytes))=some (some (.agg #[.int .i64 0,.int .i64 0]),2,16):=by kernel_rfl
theorem GS (B:Nat) (w:World) (ty:TypeId) (v:Value) (A:List Sl) (x:Sl) (hown:OwnS B w v A) (hl:A.length<=1000000) (hB:B<=w.heap.size) :
  ∃ v' w',(Builtin.append_ #[67,67] ty #[v,.slice (some ⟨w.heap.size,0,none⟩) 1 1]).run Tryz.prog (w.alloc (Jo x))=.ok v' w'/\OwnS B w' v' (A++[x])/\w.grownBy w' v.ownBlock/\(v'.ownBlock=v.ownBlock\/v'.ownBlock=some (w.heap.size+1)):=by
 obtain⟨i,hi,hz⟩:=Jqt.1 Jy1
 simp only[Prod.mk.injEq] at hz
 have h1:(w.alloc (Jo x)).ownsRow B 80 2 v A.length (Jc cS A):=World.ownsRow.alloc hown _
 obtain⟨v',w',r1,r2,r3,_,r5⟩:=run_append_own_at (P:=Tryz.prog) (w.alloc (Jo x)) B 67 ty 80 i _ 2 16 Tryz.underlying67 hi hz.1 hz.2.1 hz.2.2 rfl (by decide) v A.length (Jc cS A) h1 ⟨w.heap.size,0,none⟩ 1 1 (cS x) rfl
  (fun j u hju=>by
   rw[JG]
   have e:=blk_alloc_new w (Jo x)
   unfold Jo at e ⊢
   simp only[World.cell?,e,Nat.zero_add]
   simpa [cS] using hju) (Jr8 x) (by unfold maxLen;omega) (by omega) (by simp;omega)
 refine⟨v',w',r1,?_,(World.grownBy_alloc w _ _).trans r3,by simpa using r5⟩
 unfold OwnS
 rw[List.length_append,Jt,JE]
 simpa [Jc] using r2
theorem Ji8 {Z:St} {k:Nat} (h:k<Z.length):JA (Z.take (k+1))=JA (Z.take k)++[VB Z k]:=by
 unfold JA
 rw[List.take_add_one,Vd h,List.map_append]
 rfl
theorem Uz (ao:Option Addr) (c:Nat) (Z:St) (w:World) (hz:SeeE w ao Z) (hl:Z.length<=1000) :
  Calls Tryz.prog 191 #[.slice ao Z.length c] w fun e w'=>∃ v,e=.returned v/\OwnS w.heap.size w' v (JA Z)/\Below w.heap.size w w':=by
 have HZ:Hid (SeeE w ao Z):=hz
 clear hz
 go_enter Tryz.func191,Tryz.ntmps191
 go_wp2
 go_loopw [3,8] (fun l s8 wr=>∃ kk:Nat,kk<=Z.length/\s8=.int .i64 kk/\OwnS w.heap.size wr l (JA (Z.take kk))/\Below w.heap.size w wr) (fun _ s8 _=>Z.length - (intOf s8).toNat)
 case atStart=>exact⟨0,Jqp _,rfl,World.ownsRow_nil _ _ _ _,Below.refl _ w⟩
 case round =>
  obtain⟨kk,hkk,rfl,hown,BW⟩:=hrel
  by_cases hlt:kk<Z.length
  ·have hltz:(kk:Int)<(Z.length:Int):=by omega
   obtain⟨b,o,rfl,hb,c0,c1,c2⟩:=HZ.out.below BW kk hlt
   have B1:Below w.heap.size w (wr.alloc (VG (Xo Z kk))):=Below.then BW (Jb _ _) BW.size
   have hlen:(JA (Z.take kk)).length<=1000000:=by unfold JA;simp;omega
   obtain⟨v',w5,hrun,own5,g5,-⟩:=GS w.heap.size (wr.alloc (VG (Xo Z kk))) 67 u3 (JA (Z.take kk)) (VB Z kk) (World.ownsRow.alloc hown _) hlen B1.size
   rw[<- Ji8 hlt] at own5
   obtain⟨d0,d1,-⟩:=(AtE.new wr (Xo Z kk)).cells
   have HD:Hid (OwnS w.heap.size w5 v' (JA (Z.take (kk+1)))/\Below w.heap.size w w5/\kk<Z.length):=⟨own5,B1.grown g5 B1.size fun q hq=>(World.ownsRow.lt hown q hq).1,hlt⟩
   have HRun:Hid _:=hrun
   clear hlt BW hb own5 g5 hrun hown hlen B1
   unfold VB at c0 c1 HRun
   unfold Zl at c2
   generalize Xo Z kk=y at *
   generalize hN:Z.length=N at *
   have HN:Hid (Z.length=N):=hN
   clear hN
   rw[World.size_alloc] at HRun
   simp only[VG,Jo] at *
   go_wp2_with (at_builtin;refine Jd rfl _ _ _ _ rfl _ _ _ _ rfl rfl HRun.out ?_)
   go_roundw
   case rel=>exact⟨kk+1,by have:=HD.out.2.2;omega,by go_num,HD.out.1,HD.out.2.1⟩
   case measure=>simp[intOf];have:=HD.out.2.2;omega
  ·have hltz:¬ (kk:Int)<(Z.length:Int):=by omega
   have e:kk=Z.length:=by omega
   rw[e,List.take_length] at hown
   have HD:Hid (OwnS w.heap.size wr u3 (JA Z)/\Below w.heap.size w wr):=⟨hown,BW⟩
   clear e hlt hkk hown BW
   generalize Z.length=N at *
   go_wp2
   go_ret
   exact⟨_,rfl,HD.out⟩
theorem IM (w:World):Calls Tryz.prog 97 #[] w fun e w'=>e=.returned (.pointer (some ⟨w.heap.size,0,none⟩))/\w'=w.alloc (.cells #[.slice none 0 0] 205):=by
 go_enter Tryz.func97,Tryz.ntmps97
 go_wp2
 go_ret
 exact⟨rfl,rfl⟩
theorem FU (w:World) (ty:TypeId) (v:Value) (S:St) (x:En) (hown:RowE w v S) (hl:S.length<=1000000) :
  ∃ v' w',(Builtin.append_ #[203,203] ty #[v,.slice (some ⟨w.heap.size,0,none⟩) 1 1]).run Tryz.prog (w.alloc (VG x))=.ok v' w'/\RowE w' v' (S++[x])/\w.grownBy w' v.ownBlock/\(v'.ownBlock=v.ownBlock\/v'.ownBlock=some (w.heap.size+1)):=by
 obtain⟨i,hi,hz⟩:=Jqt.1 Ja5
 simp only[Prod.mk.injEq] at hz
 have h1:(w.alloc (VG x)).ownsRow 0 207 3 v S.length (Jc cE S):=World.ownsRow.alloc hown _
 obtain⟨v',w',r1,r2,r3,_,r5⟩:=run_append_own_at (P:=Tryz.prog) (w.alloc (VG x)) 0 203 ty 207 i _ 3 24 Tryz.underlying203 hi hz.1 hz.2.1 hz.2.2 rfl (by decide) v S.length (Jc cE S) h1 ⟨w.heap.size,0,none⟩ 1 1 (cE x) rfl
  (UH (AtE.new w x)) (U1 x) (by unfold maxLen;omega) (by omega) (by omega)
 refine⟨v',w',r1,?_,(World.grownBy_alloc w _ _).trans r3,by simpa using r5⟩
 unfold RowE
 rw[List.length_append,Jt,JE]
 simpa [Jc] using r2
theorem TrH.hang {p:Nat} {v v':Value} {S T:St} {w w5:World} (h:TrH p v S w) (row:RowE w5 v' T) (g5:w.grownBy w5 v.ownBlock) (loc:v'.ownBlock=v.ownBlock\/∃ g,v'.ownBlock=some g/\w.heap.size<=g) (good:Good T):Goes w p v T (w5.setCell ⟨p,0,none⟩ v'):=by
 have hpv:some p≠v.ownBlock:=fun e=>h.ne e.symm
 have hne:v'.ownBlock≠some p:=fun e=>by
  rcases loc with l|⟨g,l,hg⟩
  ·exact h.ne (l ▸ e)
  ·rw[l] at e
   cases e
   have:=h.lt
   omega
 have h5:w5.heap[p]? = some (.cells #[v] 205 (0,0)):=(g5.block p h.lt hpv).trans h.head
 refine⟨v',⟨?_,Jw row fun g hg=>blk_setCell_other _ _ _ _ fun e=>hne (by rw[hg,e]),hne,good⟩,?_,fun x hx=>?_⟩
 ·simp only[World.setCell,Array.getElem?_modify,h5,Option.map_some]
  simp
 ·exact(Turn.grown (F:=fpT p v) g5 fun k hk=>.inl (.inr hk)).trans (Turn.setCell (fpT p v) w5 ⟨p,0,none⟩ v' (.inl rfl)) fun x hx=>.inl hx
 ·rcases hx with rfl|hx
  ·exact .inl (.inl rfl)
  ·rcases loc with l|⟨g,l,hg⟩
   ·exact .inl (.inr (l ▸ hx))
   ·rw[l] at hx
    cases hx
    exact .inr hg
theorem Jl0 (p:Nat) (v:Value) (S:St) (s:Sl) (w:World) (h:TrH p v S w) (hl:S.length<=1000) :
  Calls Tryz.prog 41 #[.pointer (some ⟨p,0,none⟩),Jh s] w fun e w'=>e=.returned (.int .i64 (Jb0 S s))/\Goes w p v (rootS S s) w':=by
 have b1:=Jb w (Jo s)
 have HP:=IF p v S s (w.alloc (Jo s)) (h.below b1) hl
 obtain⟨s0,s1⟩:=(AtS.new w s).cells
 have A1:Hid (AtS (w.alloc (Jo s)) w.heap.size s):=AtS.new w s
 have B:Hid (Below w.heap.size w (w.alloc (Jo s))):=b1
 have hI:Hid _:=HP
 have H:Hid (TrH p v S w):=h
 have HE:Hid (Jb0 S s=(if Jl S s then 70 else 0)/\rootS S s=if Jl S s then S else S++[⟨s,0⟩]):=⟨rfl,rfl⟩
 generalize Jb0 S s=re at *
 generalize rootS S s=rs at *
 clear HP b1 h
 simp only[Jh,Jo] at *
 go_enter Tryz.func41,Tryz.ntmps41
 cases hh:Jl S s with
 | true =>
  rw[hh] at HE hI
  obtain⟨rfl,rfl⟩:=HE.out
  go_wp2_with (go_at_call 106;refine Jqa hI.out ?_;rintro e w' ⟨rfl,b2⟩)
  go_ret
  exact⟨rfl,Goes.same H.out (Below.then B.out b2 B.out.size)⟩
 | false =>
  rw[hh] at HE hI
  obtain⟨e1,e2⟩:=HE.out
  have HG:Hid (Jl S s=false):=hh
  go_wp2_with fail
  refine Jqa hI.out ?_
  rintro e w1 ⟨rfl,b2⟩
  have a1:=A1.out.below b2
  have B2:Below w.heap.size w w1:=Below.then B.out b2 B.out.size
  have h1:=H.out.below B2
  obtain⟨v',w5,hrun,row5,g5,loc⟩:=FU w1.drew 203 v S ⟨s,0⟩ h1.row (by omega)
  have hr5:=h1.hang row5 ⟨g5.os,g5.tape,g5.output,g5.size,g5.block⟩ (loc.imp id fun e=>⟨_,e,Nat.le_succ _⟩) (H.out.good.root HG.out)
  have HK:Hid (Goes w p v (S++[⟨s,0⟩]) (w5.setCell ⟨p,0,none⟩ v')):=Goes.from B2 hr5
  have h5:w5.heap[p]? = some (.cells #[v] 205 (0,0)):=(g5.block p h1.lt fun e=>h1.ne e.symm).trans h1.head
  have c5:w5.cell? ⟨p,0,none⟩=some v:=by simp[World.cell?,h5]
  have f5:w5.frozen? ⟨p,0,none⟩=false:=by simp[World.frozen?,h5]
  have c0:=h1.cell
  obtain⟨s0,s1⟩:=a1.cells
  obtain⟨ao,cap,rfl,-,-,-⟩:=h1.row.slice
  obtain⟨ao',cap',rfl,-,-,-⟩:=row5.slice
  have c0':=fun o=>Jx c0 o
  have s0':=fun o=>Jx s0 o
  have s1':=fun o=>Jx s1 o
  obtain⟨n',HN'⟩:∃ n',Hid ((S++[(⟨s,0⟩:En)]).length=n'):=⟨_,rfl⟩
  rw[HN'.out] at hrun HK
  have HRun:Hid _:=hrun
  have mixed:Tryz.prog.follows Departure.mixedOrders=true:=by kernel_rfl
  obtain⟨r1,HR1⟩:∃ r1,Hid (w1.heap.size=r1):=⟨_,rfl⟩
  rw[show w1.drew.heap.size=w1.heap.size from rfl,HR1.out] at HRun
  subst e1 e2
  clear hrun row5 g5 loc hr5 h5 a1 b2 h1 B2 B A1 hI HE hh HG H
  simp only[VG] at *
  generalize hr:w.heap.size=r at *
  clear hr
  go_wp2
  go_region_law_o (refine Jy rfl (.tmp 12) (.tmp 15) 203 203 rfl (.slice ao S.length cap) (.slice (some ⟨r1,0,none⟩) 1 1) _ _ (by simp[Act.eval]) (by simp[Act.eval];exact HR1.out) HRun.out ?_)
  all_goals go_wp2
  all_goals go_ret
  all_goals exact⟨rfl,HK.out⟩
theorem E9 {S:St} {i:Nat} (hi:i<S.length) (e:En):Jc cE (S.set i e)=(((Jc cE S).set (i*3) (.int .i64 e.s.n)).set (i*3+1) (.int .i64 e.s.i)).set (i*3+2) (.int .i64 e.d):=by
 have fl:=Jj Xq S
 rw[Jgj Xq hi]
 have h1:((Jc cE S).take (i*3)).length=i*3:=by rw[List.length_take,fl];omega
 have h2:(cE e).length=3:=rfl
 apply List.ext_getElem?
 intro t
 simp only[List.getElem?_append,List.length_append,h1,h2,List.getElem?_set,List.length_set,fl,List.getElem?_take,List.getElem?_drop]
 by_cases c1:t<i*3
 ·rw[if_pos (by omega),if_pos c1,if_pos c1,if_neg (by omega),if_neg (by omega),if_neg (by omega)]
 ·rcases Nat.lt_or_ge t (i*3+3) with c2|c2
  ·rw[if_pos c2,if_neg c1]
   have:t=i*3\/t=i*3+1\/t=i*3+2:=by omega
   rcases this with rfl|rfl|rfl
   ·rw[if_neg (by omega),if_neg (by omega),if_pos rfl,if_pos (by omega),Nat.sub_self]
    rfl
   ·rw[if_neg (by omega),if_pos rfl,if_pos (by omega),Nat.add_sub_cancel_left]
    rfl
   ·rw[if_pos rfl,if_pos (by omega),Nat.add_sub_cancel_left]
    rfl
  ·rw[if_neg (by omega),if_neg (by omega),if_neg (by omega),if_neg (by omega)]
   congr 1
   omega
theorem Em {L:List Value} {j:Nat} {v:Value} (h:L[j]? = some v):L.set j v=L:=by
 obtain⟨hj,e⟩:=Jqb.1 h
 rw[<- e]
 exact List.set_getElem_self hj
theorem Gb {S:St} {i:Nat} (hi:i<S.length):(Jc cE S)[i*3]? = some (.int .i64 (VB S i).n)/\(Jc cE S)[i*3+1]? = some (.int .i64 (VB S i).i)/\(Jc cE S)[i*3+2]? = some (.int .i64 (Zl S i)):=by
 have e:=fun j hj=>Mm Xq (Vd hi) (j:=j) hj
 have e0:=e 0 (by omega)
 exact⟨e0,e 1 (by omega),e 2 (by omega)⟩
theorem RowE.slot {w:World} {g n cap:Nat} {S:St} (h:RowE w (.slice (some ⟨g,0,none⟩) n cap) S) {i:Nat} (hi:i<S.length) (b:Sl):RowE ((w.setCell ⟨g,i*3,none⟩ (.int .i64 b.n)).setCell ⟨g,i*3+1,none⟩ (.int .i64 b.i)) (.slice (some ⟨g,0,none⟩) n cap) (S.set i ⟨b,Zl S i⟩):=by
 obtain⟨Z,_,_,rfl⟩:=X5 h
 have h1:=(World.ownsRow.stored h (i*3) (.int .i64 b.n)).1
 have h2:=(World.ownsRow.stored h1 (i*3+1) (.int .i64 b.i)).1
 unfold RowE
 rw[List.length_set,E9 hi]
 have e:(((Jc cE S).set (i*3) (.int .i64 b.n)).set (i*3+1) (.int .i64 b.i))[i*3+2]? = some (.int .i64 (Zl S i)):=by
  rw[List.getElem?_set,if_neg (by omega),List.getElem?_set,if_neg (by omega)]
  exact(Gb hi).2.2
 rw[Em e]
 exact h2
theorem RowE.depth {w:World} {g n cap:Nat} {S:St} (h:RowE w (.slice (some ⟨g,0,none⟩) n cap) S) {i:Nat} (hi:i<S.length) (d:Int):RowE (w.setCell ⟨g,i*3+2,none⟩ (.int .i64 d)) (.slice (some ⟨g,0,none⟩) n cap) (S.set i ⟨VB S i,d⟩):=by
 obtain⟨Z,_,_,rfl⟩:=X5 h
 have h1:=(World.ownsRow.stored h (i*3+2) (.int .i64 d)).1
 unfold RowE
 rw[List.length_set,E9 hi]
 rw[Em (Gb hi).1,Em (Gb hi).2.1]
 exact h1
theorem TrH.turned {p:Nat} {v:Value} {S T:St} {w w':World} (h:TrH p v S w) (row:RowE w' v T) (t:Turn (fun x=>v.ownBlock=some x) w w') (good:Good T):Goes w p v T w':=
 ⟨v,⟨(t.block p h.lt h.ne).trans h.head,row,h.ne,good⟩,⟨t.os,t.tape,t.output,t.size,fun k hk hn=>t.block k hk fun e=>hn (.inr e)⟩,Out.refl _ _⟩
theorem Jy8 (p:Nat) (v:Value) (S:St) (a b:Sl) (w:World) (h:TrH p v S w) (hl:S.length<=1000) :
  Calls Tryz.prog 227 #[.pointer (some ⟨p,0,none⟩),Jh a,Jh b] w fun e w'=>e=.returned (.int .i64 (AZ S a b))/\Goes w p v (moveS S a b) w':=by
 obtain⟨x1,x2,x3,x4⟩:=O3 w (Jo a) (Jo b)
 have H:Hid (TrH p v S w):=h
 have HL:Hid (S.length<=1000):=hl
 have HE:Hid (AZ S a b=(if Jl S a then if Jl S b then 70 else 0 else 71)/\moveS S a b=if Jl S a/\¬ Jl S b then S.set (pl S a) ⟨b,Zl S (pl S a)⟩ else S):=⟨rfl,rfl⟩
 generalize AZ S a b=me at *
 generalize moveS S a b=ms at *
 obtain⟨s0,s1⟩:=AtS.cells (show AtS _ _ a from x1)
 clear h hl
 have HP:=X0 p v S a _ (H.out.below x4) HL.out
 have hI:Hid _:=HP
 have HX:Hid (plI S a=if Jl S a then ((pl S a:Nat):Int) else -1):=rfl
 generalize plI S a=z at *
 clear HP
 simp only[Jh,Jo] at *
 go_enter Tryz.func227,Tryz.ntmps227
 cases ha:Jl S a with
 | false =>
  rw[ha] at HE hI
  obtain⟨rfl,e2⟩:=HE.out
  rw[if_neg (by simp)] at e2
  subst e2
  go_wp2_with (go_at_call 206;refine Jqa hI.out ?_;rintro e w' ⟨rfl,b2⟩)
  go_ret
  exact⟨rfl,Goes.same H.out (Below.then x4 b2 x4.size)⟩
 | true =>
  rw[ha] at HE HX hI
  obtain rfl:z=((pl S a:Nat):Int):=HX.out
  go_wp2_with fail
  refine Jqa hI.out ?_
  rintro e w3 ⟨rfl,b3⟩
  have B3:Hid (Below w.heap.size w w3):=Below.then x4 b3 x4.size
  have a2:AtS w3 (w.heap.size+1) b:=(b3.block _ (by rw[x3];omega)).trans x2
  have A2:Hid (AtS w3 (w.heap.size+1) b):=a2
  have HP:=IF p v S b w3 (H.out.below B3.out) HL.out
  clear hI s0 s1 x1 x2 x3 x4 b3
  have hI:Hid _:=HP
  obtain⟨s0,s1⟩:=a2.cells
  clear HP a2
  simp only[Jh] at *
  cases hb:Jl S b with
  | true =>
   rw[hb] at HE hI
   obtain⟨rfl,e2⟩:=HE.out
   rw[if_neg (by simp)] at e2
   subst e2
   go_wp2_with (go_at_call 106;refine Jqa hI.out ?_;rintro e w' ⟨rfl,b2⟩)
   go_ret
   exact⟨rfl,Goes.same H.out (Below.then B3.out b2 B3.out.size)⟩
  | false =>
   rw[hb] at HE hI
   obtain⟨rfl,e2⟩:=HE.out
   rw[if_pos (by simp)] at e2
   subst e2
   go_wp2_with fail
   refine Jqa hI.out ?_
   rintro e w4 ⟨rfl,b4⟩
   have B4:Below w.heap.size w w4:=Below.then B3.out b4 B3.out.size
   obtain⟨t0,t1⟩:=(A2.out.below b4).cells
   have h4:=H.out.below B4
   obtain⟨hp1,hp2⟩:=MZ ha
   obtain⟨ao,cap,rfl,-,-,hg⟩:=h4.row.slice
   obtain⟨g,rfl⟩:=hg _ hp1
   obtain⟨d0,d1,-⟩:=h4.row.cells hp1
   have fz:=h4.row.frozen
   have c0:=h4.cell
   have HK:Hid (Goes w p (.slice (some ⟨g,0,none⟩) S.length cap) (S.set (pl S a) ⟨b,Zl S (pl S a)⟩) ((w4.drew.setCell ⟨g,pl S a*3,none⟩ (.int .i64 b.n)).setCell ⟨g,pl S a*3+1,none⟩ (.int .i64 b.i))):=by
    refine Goes.from B4 (h4.turned (RowE.slot (w:=w4.drew) h4.row hp1 b) ?_ (H.out.good.moved hb hp1))
    have t1:Turn (fun x=>(Value.slice (some ⟨g,0,none⟩) S.length cap).ownBlock=some x) w4 w4.drew:=(Turn.refl _ _).drew
    have t2:=t1.trans (Turn.setCell (fun x=>(Value.slice (some ⟨g,0,none⟩) S.length cap).ownBlock=some x) w4.drew ⟨g,pl S a*3,none⟩ (.int .i64 b.n) rfl) fun x hx=>.inl hx
    exact t2.trans (Turn.setCell (fun x=>(Value.slice (some ⟨g,0,none⟩) S.length cap).ownBlock=some x) _ ⟨g,pl S a*3+1,none⟩ (.int .i64 b.i) rfl) fun x hx=>.inl hx
   have hp3:((pl S a:Nat):Int)<(S.length:Int):=by omega
   clear hI s0 s1 B3 A2 b4 B4 h4 hp2 ha hb HE HX H HL hg
   go_wp2
   go_region
   all_goals go_wp2
   all_goals go_ret
   all_goals exact⟨rfl,HK.out⟩
theorem OwnS.mono {B B':Nat} {w:World} {v:Value} {A:List Sl} (h:OwnS B w v A) (hb:B'<=B):OwnS B' w v A:=⟨h.1,h.2.imp id fun ⟨g,cap,cur,h1,h2,h3⟩=>⟨g,cap,cur,h1,Jql hb h2,h3⟩⟩
theorem Jh2 {w:World} {g cap:Nat} {S:St} (h:RowE w (.slice (some ⟨g,0,none⟩) S.length cap) S) {i:Nat} (hi:i<S.length) {ad:Addr} (hd:0<(Jz S i).length->ad=⟨g,(i+1)*3,none⟩):SeeE w (some ad) (Jz S i):=fun j hj=>by
 obtain rfl:=hd (by omega)
 have he:=UK hi
 have hul:=V4 hi
 obtain⟨d0,d1,d2⟩:=h.cells (i:=i+1+j) (by omega)
 have e:Xo (Jz S i) j=Xo S (i+1+j):=by rw[Jim,Io (by omega),XK]
 refine⟨g,(i+1)*3,rfl,h.lt rfl,?_,?_,?_⟩
 ·rw[show(i+1)*3+j*3=(i+1+j)*3 by omega]
  unfold VB at d0 ⊢
  rw[e]
  exact d0
 ·rw[show(i+1)*3+j*3=(i+1+j)*3 by omega]
  unfold VB at d1 ⊢
  rw[e]
  exact d1
 ·rw[show(i+1)*3+j*3=(i+1+j)*3 by omega]
  unfold Zl at d2 ⊢
  rw[e]
  exact d2
theorem Jen (p:Nat) (v:Value) (S:St) (s:Sl) (w:World) (h:TrH p v S w) (hl:S.length<=1000) :
  Calls Tryz.prog 229 #[.pointer (some ⟨p,0,none⟩),Jh s] w fun e w'=>∃ v,e=.returned v/\OwnS w.heap.size w' v (Zo S s)/\Below w.heap.size w w':=by
 have b1:=Jb w (Jo s)
 have HP:=X0 p v S s (w.alloc (Jo s)) (h.below b1) hl
 obtain⟨s0,s1⟩:=(AtS.new w s).cells
 have B:Hid (Below w.heap.size w (w.alloc (Jo s))):=b1
 have hI:Hid _:=HP
 have H:Hid (TrH p v S w/\S.length<=1000):=⟨h,hl⟩
 have HX:Hid (plI S s=if Jl S s then ((pl S s:Nat):Int) else -1):=rfl
 generalize plI S s=z at *
 have HU:Hid (Zo S s=if Jl S s then JA (Jz S (pl S s)) else []):=rfl
 generalize Zo S s=us at *
 clear HP b1 h hl
 simp only[Jh,Jo] at *
 go_enter Tryz.func229,Tryz.ntmps229
 cases hh:Jl S s with
 | false =>
  rw[hh] at HU hI
  obtain rfl:=HU.out
  go_wp2_with (go_at_call 206;refine Jqa hI.out ?_;rintro e w' ⟨rfl,b2⟩)
  go_ret
  exact⟨_,rfl,World.ownsRow_nil _ _ _ _,Below.then B.out b2 B.out.size⟩
 | true =>
  rw[hh] at HU HX hI
  obtain rfl:z=((pl S s:Nat):Int):=HX.out
  obtain rfl:=HU.out
  obtain⟨hp1,-⟩:=MZ hh
  go_wp2_with fail
  refine Jqa hI.out ?_
  rintro e w2 ⟨rfl,b2⟩
  have B2:Hid (Below w.heap.size w w2):=Below.then B.out b2 B.out.size
  obtain⟨ao,cap,rfl,-,-,hg⟩:=H.out.1.row.slice
  obtain⟨g,rfl⟩:=hg _ hp1
  have HP1:Hid (pl S s<S.length):=hp1
  clear hI s0 s1 B b2 hg hh HX HU hp1
  go_wp2_with fail
  refine Jqa (FR p g cap S (pl S s) w2 (H.out.1.below B2.out) HP1.out H.out.2) ?_
  rintro e w3 ⟨ad,c,rfl,hd,b3⟩
  have B3:Hid (Below w.heap.size w w3):=Below.then B2.out b3 B2.out.size
  have he:=UK HP1.out
  have hul:=V4 HP1.out
  have HI:Hid _:=Uz (some ad) c (Jz S (pl S s)) w3 (Jh2 (H.out.1.below B3.out).row HP1.out hd) (by have:=H.out.2;omega)
  clear he hul hd b3
  go_wp2_with (go_at_call 191;refine Jqa HI.out ?_;rintro e w' ⟨v,rfl,o,b⟩)
  go_ret
  exact⟨_,rfl,OwnS.mono o B3.out.size,Below.then B3.out b B3.out.size⟩
theorem Jnk (p:Nat) (v:Value) (S:St) (a s:Sl) (w:World) (h:TrH p v S w) (hl:S.length<=1000) :
  Calls Tryz.prog 300 #[.pointer (some ⟨p,0,none⟩),Jh a,Jh s] w fun e w'=>e=.returned (.int .i64 (Ji1 S a s))/\Goes w p v (addS S a s) w':=by
 obtain⟨x1,x2,x3,x4⟩:=O3 w (Jo a) (Jo s)
 have H:Hid (TrH p v S w):=h
 have HL:Hid (S.length<=1000):=hl
 have HE:Hid (Ji1 S a s=(if Jl S a then if Jl S s then 70 else 0 else 71)/\addS S a s=if Jl S a/\¬ Jl S s then Me S (pl S a+1) ⟨s,Zl S (pl S a)+1⟩ else S):=⟨rfl,rfl⟩
 generalize Ji1 S a s=me at *
 generalize addS S a s=ms at *
 obtain⟨s0,s1⟩:=AtS.cells (show AtS _ _ a from x1)
 clear h hl
 have HP:=X0 p v S a _ (H.out.below x4) HL.out
 have hI:Hid _:=HP
 have HX:Hid (plI S a=if Jl S a then ((pl S a:Nat):Int) else -1):=rfl
 generalize plI S a=z at *
 clear HP
 simp only[Jh,Jo] at *
 go_enter Tryz.func300,Tryz.ntmps300
 cases ha:Jl S a with
 | false =>
  rw[ha] at HE hI
  obtain⟨rfl,e2⟩:=HE.out
  rw[if_neg (by simp)] at e2
  subst e2
  go_wp2_with (go_at_call 206;refine Jqa hI.out ?_;rintro e w' ⟨rfl,b2⟩)
  go_ret
  exact⟨rfl,Goes.same H.out (Below.then x4 b2 x4.size)⟩
 | true =>
  rw[ha] at HE HX hI
  obtain rfl:z=((pl S a:Nat):Int):=HX.out
  go_wp2_with fail
  refine Jqa hI.out ?_
  rintro e w3 ⟨rfl,b3⟩
  have B3:Hid (Below w.heap.size w w3):=Below.then x4 b3 x4.size
  have a2:AtS w3 (w.heap.size+1) s:=(b3.block _ (by rw[x3];omega)).trans x2
  have A2:Hid (AtS w3 (w.heap.size+1) s):=a2
  have HP:=IF p v S s w3 (H.out.below B3.out) HL.out
  clear hI s0 s1 x1 x2 x3 x4 b3
  have hI:Hid _:=HP
  obtain⟨s0,s1⟩:=a2.cells
  clear HP a2
  simp only[Jh] at *
  cases hb:Jl S s with
  | true =>
   rw[hb] at HE hI
   obtain⟨rfl,e2⟩:=HE.out
   rw[if_neg (by simp)] at e2
   subst e2
   go_wp2_with (go_at_call 106;refine Jqa hI.out ?_;rintro e w' ⟨rfl,b2⟩)
   go_ret
   exact⟨rfl,Goes.same H.out (Below.then B3.out b2 B3.out.size)⟩
  | false =>
   rw[hb] at HE hI
   obtain⟨rfl,e2⟩:=HE.out
   rw[if_pos (by simp)] at e2
   go_wp2_with fail
   refine Jqa hI.out ?_
   rintro e w4 ⟨rfl,b4⟩
   have B4:Below w.heap.size w w4:=Below.then B3.out b4 B3.out.size
   obtain⟨t0,t1⟩:=(A2.out.below b4).cells
   have h4:=H.out.below B4
   obtain⟨hp1,hp2⟩:=MZ ha
   obtain⟨ao,cap,rfl,-,-,hg⟩:=h4.row.slice
   obtain⟨g,rfl⟩:=hg _ hp1
   obtain⟨-,-,d2⟩:=h4.row.cells hp1
   have c0:=h4.cell
   have hb0:0<=Zl S (pl S a)/\Zl S (pl S a)<=1000:=by
    have:=H.out.good.pos _ hp1
    have:=H.out.good.le _ hp1
    have:=HL.out
    omega
   have HI:Hid (Calls Tryz.prog 350 #[.slice (some ⟨g,0,none⟩) S.length cap,.int .i64 (((pl S a:Nat):Int)+1),.slice (some ⟨w4.heap.size,0,none⟩) 1 1] (w4.drew.alloc (.cells #[.int .i64 s.n,.int .i64 s.i,.int .i64 (Zl S (pl S a)+1)] 207)) fun e w' =>
     ∃ ao' n' cap',e=.returned (.slice ao' n' cap')/\w'.cell? ⟨p,0,none⟩=some (.slice (some ⟨g,0,none⟩) S.length cap)/\w'.frozen? ⟨p,0,none⟩=false/\Goes w p (.slice (some ⟨g,0,none⟩) S.length cap) ms (w'.setCell ⟨p,0,none⟩ (.slice ao' n' cap'))):=by
    have b5:Below w4.heap.size w4 (w4.drew.alloc (VG ⟨s,Zl S (pl S a)+1⟩)):=(Below.refl _ w4).drew.alloc (Jqd _) _
    have h5:=h4.below b5
    refine Jqa (Jdj (.slice (some ⟨g,0,none⟩) S.length cap) S (pl S a+1) ⟨s,Zl S (pl S a)+1⟩ w4.heap.size (w4.drew.alloc (VG ⟨s,Zl S (pl S a)+1⟩)) h5.row (AtE.new w4.drew _) (fun e=>by have:=h4.row.lt e;omega) (by omega) HL.out) ?_
    rintro e w' ⟨v',rfl,r1,r2,r3⟩
    obtain⟨ao',cap',rfl,-,-,-⟩:=r1.slice
    have h6:w'.heap[p]? = some (.cells #[.slice (some ⟨g,0,none⟩) S.length cap] 205 (0,0)):=(r2.block p h5.lt fun e=>h5.ne e.symm).trans h5.head
    refine⟨ao',_,cap',rfl,by simp[World.cell?,h6],by simp[World.frozen?,h6],?_⟩
    rw[e2]
    exact Goes.from (Below.then B4 b5 B4.size) (h5.hang r1 r2 r3 (H.out.good.put hb hp1))
   have hw1:IntKind.i64.wrap (((pl S a:Nat):Int)+1)=((pl S a:Nat):Int)+1:=by rw[IntKind.wrap_i64];have:=HL.out;omega
   have hw2:IntKind.i64.wrap (Zl S (pl S a)+1)=Zl S (pl S a)+1:=by rw[IntKind.wrap_i64];omega
   have hp3:((pl S a:Nat):Int)<(S.length:Int):=by omega
   have c0':=fun o=>Jx c0 o
   clear hI s0 s1 B3 A2 b4 B4 h4 hp2 ha hb HE HX H HL hg e2 hb0
   generalize pl S a=i at *
   generalize Zl S i=di at *
   generalize w.heap.size=r at *
   go_wp2
   go_region_with (go_at_call 350;refine Jqa HI.out ?_;rintro e w5 ⟨ao',n',cap',rfl,c5,f5,gg⟩)
   all_goals go_wp2
   all_goals go_ret
   all_goals exact⟨rfl,gg⟩
theorem Jdn (S:St) (i:Nat):Z8 S i 0=S:=by
 unfold Z8
 simp[List.take_append_drop]
theorem Jdm {S:St} {i k:Nat} (h:i+1+k<S.length):(Z8 S i k).set (i+1+k) ⟨VB (Z8 S i k) (i+1+k),Zl (Z8 S i k) (i+1+k) - 1⟩=Z8 S i (k+1):=by
 have l1:=VN (S:=S) (i:=i) (k:=k) (by omega)
 have l2:=VN (S:=S) (i:=i) (k:=k+1) (by omega)
 have e0:Xo (Z8 S i k) (i+1+k)=Xo S (i+1+k):=by rw[VK (by omega) (by omega),if_neg (by omega)]
 refine Jt6 (by rw[List.length_set,l1,l2]) fun j hj=>?_
 rw[List.length_set,l1] at hj
 rw[FX,VK (by omega) hj,VK (by omega) hj]
 unfold VB Zl
 rw[e0]
 by_cases e:i+1+k=j
 ·subst e
  rw[if_pos ⟨rfl,by omega⟩,if_pos (by omega)]
  rfl
 ·rw[if_neg (by omega)]
  by_cases c:i<j/\j<i+1+k
  ·rw[if_pos c,if_pos (by omega)]
  ·rw[if_neg c,if_neg (by omega)]
theorem EY {S:St} {i k:Nat} (h:i+1+k<S.length):Zl (Z8 S i k) (i+1+k)=Zl S (i+1+k):=by
 unfold Zl
 rw[VK (by omega) (by omega),if_neg (by omega)]
structure Mid (p:Nat) (v:Value) (T:St) (w w':World):Prop where
 head:w'.heap[p]? = some (.cells #[v] 205 (0,0))
 row:RowE w' v T
 turn:Turn (fpT p v) w w'
theorem Mid.cell {p:Nat} {v:Value} {T:St} {w w':World} (h:Mid p v T w w'):w'.cell? ⟨p,0,none⟩=some v:=by simp[World.cell?,h.head]
theorem Mid.lower {p g cap:Nat} {S:St} {i k:Nat} {w w':World} (h:Mid p (.slice (some ⟨g,0,none⟩) S.length cap) (Z8 S i k) w w') (hp:g≠p) (hk:i+1+k<S.length):Mid p (.slice (some ⟨g,0,none⟩) S.length cap) (Z8 S i (k+1)) w (w'.setCell ⟨g,(i+1+k)*3+2,none⟩ (.int .i64 (Zl S (i+1+k) - 1))):=by
 have l1:=VN (S:=S) (i:=i) (k:=k) (by omega)
 refine⟨(blk_setCell_other _ _ _ _ (Ne.symm hp)).trans h.head,?_,h.turn.trans (Turn.setCell (fpT p (.slice (some ⟨g,0,none⟩) S.length cap)) w' ⟨g,(i+1+k)*3+2,none⟩ _ (.inr rfl)) fun x hx=>.inl hx⟩
 have:=h.row.depth (i:=i+1+k) (by omega) (Zl S (i+1+k) - 1)
 rw[<- EY hk] at this ⊢
 rw[Jdm hk] at this
 exact this
theorem UC (p:Nat) (v:Value) (S:St) (s:Sl) (w:World) (h:TrH p v S w) (hl:S.length<=1000) :
  Calls Tryz.prog 307 #[.pointer (some ⟨p,0,none⟩),Jh s] w fun e w'=>e=.returned (.int .i64 (ZS S s))/\Goes w p v (takeS S s) w':=by
 have b1:=Jb w (Jo s)
 have HP:=X0 p v S s (w.alloc (Jo s)) (h.below b1) hl
 obtain⟨s0,s1⟩:=(AtS.new w s).cells
 have B:Hid (Below w.heap.size w (w.alloc (Jo s))):=b1
 have hI:Hid _:=HP
 have H:Hid (TrH p v S w/\S.length<=1000):=⟨h,hl⟩
 have HX:Hid (plI S s=if Jl S s then ((pl S s:Nat):Int) else -1):=rfl
 generalize plI S s=z at *
 have HE:Hid (ZS S s=(if Jl S s then 0 else 71)/\takeS S s=if Jl S s then UB S (pl S s) else S):=⟨rfl,rfl⟩
 generalize ZS S s=te at *
 generalize takeS S s=ts at *
 clear HP b1 h hl
 simp only[Jh,Jo] at *
 go_enter Tryz.func307,Tryz.ntmps307
 cases hh:Jl S s with
 | false =>
  rw[hh] at HE hI
  obtain⟨e1,e2⟩:=HE.out
  obtain rfl:te=71:=e1
  obtain rfl:ts=S:=e2
  go_wp2_with (go_at_call 206;refine Jqa hI.out ?_;rintro e w' ⟨rfl,b2⟩)
  go_ret
  exact⟨rfl,Goes.same H.out.1 (Below.then B.out b2 B.out.size)⟩
 | true =>
  rw[hh] at HE HX hI
  obtain rfl:z=((pl S s:Nat):Int):=HX.out
  obtain⟨e1,e2⟩:=HE.out
  obtain rfl:te=0:=e1
  have HT:Hid (ts=UB S (pl S s)):=e2
  obtain⟨hp1,-⟩:=MZ hh
  go_wp2_with fail
  refine Jqa hI.out ?_
  rintro e w2 ⟨rfl,b2⟩
  have B2:Hid (Below w.heap.size w w2):=Below.then B.out b2 B.out.size
  obtain⟨ao,cap,rfl,-,-,hg⟩:=H.out.1.row.slice
  obtain⟨g,rfl⟩:=hg _ hp1
  have HP1:Hid (pl S s<S.length):=hp1
  clear hI s0 s1 B b2 hg hh HX HE hp1 e2
  go_wp2_with fail
  refine Jqa (FR p g cap S (pl S s) w2 (H.out.1.below B2.out) HP1.out H.out.2) ?_
  rintro e w3 ⟨ad,c,rfl,hd,b3⟩
  have B3:Hid (Below w.heap.size w w3):=Below.then B2.out b3 B2.out.size
  have HD:Hid (0<(Jz S (pl S s)).length->ad=⟨g,(pl S s+1)*3,none⟩):=hd
  have HU:Hid ((Jz S (pl S s)).length+(pl S s+1)<=S.length):=by
   have he:=UK HP1.out
   have hul:=V4 HP1.out
   show _<=_
   omega
  have hul:((Jz S (pl S s)).length:Int)<=1000:=by have:=HU.out;have:=H.out.2;omega
  have HKN:Hid (ts=(Z8 S (pl S s) (Jz S (pl S s)).length).eraseIdx (pl S s)):=HT.out
  have HG:Hid (Good ts):=by
   rw[HT.out]
   exact H.out.1.good.took HP1.out
  have M3:Hid (Mid p (.slice (some ⟨g,0,none⟩) S.length cap) (Z8 S (pl S s) 0) w w3):=by
   have h3:=H.out.1.below B3.out
   refine⟨h3.head,?_,Turn.of B3.out _⟩
   rw[Jdn]
   exact h3.row
  have hgp:Hid (g≠p):=fun e=>H.out.1.ne (by rw[e];rfl)
  clear hd b3 B3 B2 HT
  generalize hi:pl S s=i at *
  generalize hk:(Jz S i).length=k at *
  clear hi hk
  go_wp2
  go_loopw [8,22] (fun _ s22 wr=>∃ j:Nat,j<=k/\s22=.int .i64 j/\Mid p (.slice (some ⟨g,0,none⟩) S.length cap) (Z8 S i j) w wr) (fun _ s22 _=>k - (intOf s22).toNat)
  case atStart=>exact⟨0,Jqp _,rfl,M3.out⟩
  case round =>
   obtain⟨j,hj,rfl,hm⟩:=hrel
   clear M3
   have HM:Hid (Mid p (.slice (some ⟨g,0,none⟩) S.length cap) (Z8 S i j) w wr):=hm
   by_cases hlt:j<k
   ·obtain rfl:=HD.out (by omega)
    have hjl:i+1+j<S.length:=by have:=HU.out;omega
    obtain⟨-,-,d2⟩:=hm.row.cells (i:=i+1+j) (by rw[VN (by omega)];exact hjl)
    rw[EY hjl] at d2
    have fz:=hm.row.frozen
    have hb0:0<=Zl S (i+1+j)/\Zl S (i+1+j)<=1000:=by
     have:=H.out.1.good.pos _ hjl
     have:=H.out.1.good.le _ hjl
     have:=H.out.2
     omega
    have hw2:IntKind.i64.wrap (Zl S (i+1+j) - 1)=Zl S (i+1+j) - 1:=by rw[IntKind.wrap_i64];omega
    have hm':Hid _:=hm.lower hgp.out hjl
    rw[show(i+1+j)*3=(i+1)*3+j*3 by omega] at d2 hm'
    have hltz:(j:Int)<(k:Int):=by omega
    have HJ:Hid (j<k):=hlt
    clear hm hlt hjl hb0 hj
    generalize Zl S (i+1+j)=dj at *
    go_wp2
    go_roundw
    case rel=>exact⟨j+1,by have:=HJ.out;omega,by go_num,hm'.out⟩
    case measure=>simp[intOf];have:=HJ.out;omega
   ·have hltz:¬ (j:Int)<(k:Int):=by omega
    obtain rfl:j=k:=by omega
    have hll:(Z8 S i j).length=S.length:=VN (by have:=HU.out;omega)
    have c0:=hm.cell
    have HI:Hid (Calls Tryz.prog 351 #[.slice (some ⟨g,0,none⟩) S.length cap,.int .i64 (i:Int),.int .i64 ((i:Int)+1)] wr fun e w'=>e=.returned (.slice (some ⟨g,0,none⟩) (S.length - 1) cap)/\w'.cell? ⟨p,0,none⟩=some (.slice (some ⟨g,0,none⟩) S.length cap)/\w'.frozen? ⟨p,0,none⟩=false/\Goes w p (.slice (some ⟨g,0,none⟩) S.length cap) ts (w'.setCell ⟨p,0,none⟩ (.slice (some ⟨g,0,none⟩) (S.length - 1) cap))):=by
     have k1:=U4 g cap (Z8 S i j) i wr (by rw[hll];exact hm.row) (by rw[hll];exact HP1.out) (by rw[hll];exact H.out.2)
     rw[hll] at k1
     refine Jqa k1 ?_
     rintro e w' ⟨rfl,r1,r2⟩
     have h6:w'.heap[p]? = some (.cells #[.slice (some ⟨g,0,none⟩) S.length cap] 205 (0,0)):=(r2.block p (Jqf.1 hm.head).1 fun e=>hgp.out (Jqz e).symm).trans hm.head
     refine⟨rfl,by simp[World.cell?,h6],by simp[World.frozen?,h6],.slice (some ⟨g,0,none⟩) (S.length - 1) cap,⟨?_,?_,fun e=>hgp.out (by simpa [Value.ownBlock] using e),?_⟩,?_,fun x hx=>.inl hx⟩
     ·simp only[World.setCell,Array.getElem?_modify,h6,Option.map_some]
      simp
     ·rw[HKN.out]
      exact Jw r1 fun q hq=>blk_setCell_other _ _ _ _ fun e=>hgp.out (by
       have:g=q:=by simpa [Value.ownBlock] using hq
       rw[this,e])
     ·exact HG.out
     ·have t1:=hm.turn.trans (Turn.grown (F:=fpT p (.slice (some ⟨g,0,none⟩) S.length cap)) r2 fun x hx=>.inl (.inr hx)) fun x hx=>.inl hx
      exact t1.trans (Turn.setCell (fpT p (.slice (some ⟨g,0,none⟩) S.length cap)) w' ⟨p,0,none⟩ _ (.inl rfl)) fun x hx=>.inl hx
    have hw1:IntKind.i64.wrap ((i:Int)+1)=(i:Int)+1:=by rw[IntKind.wrap_i64];have:=HP1.out;have:=H.out.2;omega
    clear hm hll hj hlt
    go_wp2_with (go_at_call 351;refine Jqa HI.out ?_;rintro e w' ⟨rfl,c5,f5,gg⟩)
    go_ret
    exact⟨rfl,gg⟩
section
variable {w0:World} {r:Nat} {w:World} {p:Nat} {v:Value} {S:St} {R:List Th}
theorem Jl2 (s:Sl) (h:Sep w0 r w (trT p v S::R)) (hl:S.length<=1000) :
  Calls Tryz.prog 41 #[.pointer (some ⟨p,0,none⟩),Jh s] w fun e w'=>e=.returned (.int .i64 (Jb0 S s))/\∃ v',Sep w0 r w' (trT p v' (rootS S s)::R):=
 (Jl0 p v S s w h.head hl).mono fun _ _ ⟨he,g⟩=>⟨he,h.goes g⟩
theorem Jnl (a s:Sl) (h:Sep w0 r w (trT p v S::R)) (hl:S.length<=1000) :
  Calls Tryz.prog 300 #[.pointer (some ⟨p,0,none⟩),Jh a,Jh s] w fun e w'=>e=.returned (.int .i64 (Ji1 S a s))/\∃ v',Sep w0 r w' (trT p v' (addS S a s)::R):=
 (Jnk p v S a s w h.head hl).mono fun _ _ ⟨he,g⟩=>⟨he,h.goes g⟩
theorem Jmw (s:Sl) (h:Sep w0 r w (trT p v S::R)) (hl:S.length<=1000) :
  Calls Tryz.prog 307 #[.pointer (some ⟨p,0,none⟩),Jh s] w fun e w'=>e=.returned (.int .i64 (ZS S s))/\∃ v',Sep w0 r w' (trT p v' (takeS S s)::R):=
 (UC p v S s w h.head hl).mono fun _ _ ⟨he,g⟩=>⟨he,h.goes g⟩
theorem OwnS.slice {B:Nat} {w:World} {u:Value} {A:List Sl} (o:OwnS B w u A):∃ ao cap,u=.slice ao A.length cap:=by
 obtain⟨ao,cap,e,_⟩:=o.row.slice
 exact⟨ao,cap,e⟩
theorem Jio (s:Sl) (h:Sep w0 r w (trT p v S::R)) (hl:S.length<=1000) :
  Calls Tryz.prog 229 #[.pointer (some ⟨p,0,none⟩),Jh s] w fun e w'=>∃ ao cap,e=.returned (.slice ao (Zo S s).length cap)/\Sep w0 r w' (trT p v S::Joq (.slice ao (Zo S s).length cap) (Zo S s)::R):=
 (Jen p v S s w h.head hl).mono fun _ _ ⟨u,he,o,b⟩=>by
  obtain⟨ao,cap,rfl⟩:=o.slice
  exact⟨ao,cap,he,h.told (u:=Joq (.slice ao (Zo S s).length cap) (Zo S s)) o.row b o.new⟩
end
end Tr
end Go.Proofs.YtbfjjpdnoalojaaGreatDoor
