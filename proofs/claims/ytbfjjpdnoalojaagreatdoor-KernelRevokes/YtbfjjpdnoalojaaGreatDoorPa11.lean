/- Below: KEn; no condition. -/
import Derived.Test.YtbfjjpdnoalojaaGreatDoorPa1
import Derived.Test.YtbfjjpdnoalojaaGreatDoorPa3
set_option maxHeartbeats 16000000
set_option maxRecDepth 100000
namespace Go.Proofs.YtbfjjpdnoalojaaGreatDoor
namespace En
open Go.RowKit Go.Deep Go.Shelf
def cI (n:Int):List Value:=[.int .i64 n]
def Ui:El Int:=⟨3,22,1,8,cI⟩
theorem OP:(Tryz.prog.info? 3).map (fun i=>(i.zero,i.size,i.bytes))=some (some (.int .i64 0),1,8):=by kernel_rfl
theorem okI:El.Ok Ui:=⟨Tryz.underlying22,ZA OP rfl,by decide,by decide,fun _=>rfl,by simp[Ui,cI,Value.oneCell']⟩
abbrev Xa (v:Value) (L:List Int):Th:=Jv Ui v L
abbrev RowI (w:World) (v:Value) (L:List Int):Prop:=Row Ui w v L
theorem RowI.cell {w:World} {g cap n:Nat} {L:List Int} (h:RowI w (.slice (some ⟨g,0,none⟩) n cap) L) {i:Nat} {x:Int} (hi:L[i]? = some x):w.cell? ⟨g,i,none⟩=some (.int .i64 x):=by
 have:=Row.cell okI h hi (j:=0) (c:=.int .i64 x) rfl
 simpa [Ui] using this
def cM (m:Ms):List Value:=[.int .i64 m.l,.int .u64 m.a,.int .u64 m.b,.int .u64 m.c,.int .u64 m.d,.int .u64 m.g,.bool m.q]
def Jx3 (m:Ms):Value:=.agg #[.int .i64 m.l,.int .u64 m.a,.int .u64 m.b,.int .u64 m.c,.int .u64 m.d,.int .u64 m.g,.bool m.q]
def Jd1 (m:Ms):Obj:=.cells #[.int .i64 m.l,.int .u64 m.a,.int .u64 m.b,.int .u64 m.c,.int .u64 m.d,.int .u64 m.g,.bool m.q] 224
def cW (x:Wt):List Value:=[.int .i64 x.n,.bool x.s,.int .i64 x.m.l,.int .u64 x.m.a,.int .u64 x.m.b,.int .u64 x.m.c,.int .u64 x.m.d,.int .u64 x.m.g,.bool x.m.q]
def Od (x:Wt):Value:=.agg #[.int .i64 x.n,.bool x.s,.int .i64 x.m.l,.int .u64 x.m.a,.int .u64 x.m.b,.int .u64 x.m.c,.int .u64 x.m.d,.int .u64 x.m.g,.bool x.m.q]
def ZR (x:Wt):Obj:=.cells #[.int .i64 x.n,.bool x.s,.int .i64 x.m.l,.int .u64 x.m.a,.int .u64 x.m.b,.int .u64 x.m.c,.int .u64 x.m.d,.int .u64 x.m.g,.bool x.m.q] 289
def wt0:Wt:=⟨0,false,EM⟩
def cT (x:Mt):List Value:=[.bool x.i,.int .i64 x.f,.int .i64 x.t,.int .i64 x.m.l,.int .u64 x.m.a,.int .u64 x.m.b,.int .u64 x.m.c,.int .u64 x.m.d,.int .u64 x.m.g,.bool x.m.q]
def MO (x:Mt):Value:=.agg #[.bool x.i,.int .i64 x.f,.int .i64 x.t,.int .i64 x.m.l,.int .u64 x.m.a,.int .u64 x.m.b,.int .u64 x.m.c,.int .u64 x.m.d,.int .u64 x.m.g,.bool x.m.q]
def Zn (x:Mt):Obj:=.cells #[.bool x.i,.int .i64 x.f,.int .i64 x.t,.int .i64 x.m.l,.int .u64 x.m.a,.int .u64 x.m.b,.int .u64 x.m.c,.int .u64 x.m.d,.int .u64 x.m.g,.bool x.m.q] 258
def elW:El Wt:=⟨289,286,9,72,cW⟩
theorem Jkh:(Tryz.prog.info? 289).map (fun i=>(i.zero,i.size,i.bytes))=some (some (.agg #[.int .i64 0,.bool false,.int .i64 0,.int .u64 0,.int .u64 0,.int .u64 0,.int .u64 0,.int .u64 0,.bool false]),9,72):=by kernel_rfl
theorem okW:El.Ok elW:=⟨Tryz.underlying286,ZA Jkh rfl,by decide,by decide,fun _=>rfl,by simp[elW,cW,Value.oneCell']⟩
abbrev Jdo (v:Value) (L:St):Th:=Jv elW v L
abbrev RowW (w:World) (v:Value) (L:St):Prop:=Row elW w v L
def AtW (w:World) (g o:Nat) (x:Wt):Prop:=∀ j c,(cW x)[j]? = some c->w.cell? ⟨g,o+j,none⟩=some c
theorem AtW.cells {w:World} {g o:Nat} {x:Wt} (h:AtW w g o x):w.cell? ⟨g,o,none⟩=some (.int .i64 x.n)/\w.cell? ⟨g,o+1,none⟩=some (.bool x.s)/\w.cell? ⟨g,o+2,none⟩=some (.int .i64 x.m.l)/\w.cell? ⟨g,o+3,none⟩=some (.int .u64 x.m.a)/\w.cell? ⟨g,o+4,none⟩=some (.int .u64 x.m.b)/\w.cell? ⟨g,o+5,none⟩=some (.int .u64 x.m.c)/\w.cell? ⟨g,o+6,none⟩=some (.int .u64 x.m.d)/\w.cell? ⟨g,o+7,none⟩=some (.int .u64 x.m.g)/\w.cell? ⟨g,o+8,none⟩=some (.bool x.m.q):=
 ⟨h 0 _ rfl,h 1 _ rfl,h 2 _ rfl,h 3 _ rfl,h 4 _ rfl,h 5 _ rfl,h 6 _ rfl,h 7 _ rfl,h 8 _ rfl⟩
theorem RowW.at {w:World} {g cap n:Nat} {S:St} (h:RowW w (.slice (some ⟨g,0,none⟩) n cap) S) {i:Nat} {x:Wt} (hi:S[i]? = some x):AtW w g (i*9) x:=fun _ _ hj=>Row.cell okW h hi hj
theorem Ug {w:World} {q:Nat} {x:Wt} (h:w.heap[q]? = some (ZR x)):AtW w q 0 x:=fun j c hj=>by
 simp only[World.cell?]
 rw[h,Nat.zero_add]
 simpa [cW,ZR] using hj
def AtM (w:World) (q:Nat) (m:Ms):Prop:=∀ j c,(cM m)[j]? = some c->w.cell? ⟨q,j,none⟩=some c
theorem AtM.cells {w:World} {q:Nat} {m:Ms} (h:AtM w q m):w.cell? ⟨q,0,none⟩=some (.int .i64 m.l)/\w.cell? ⟨q,1,none⟩=some (.int .u64 m.a)/\w.cell? ⟨q,2,none⟩=some (.int .u64 m.b)/\w.cell? ⟨q,3,none⟩=some (.int .u64 m.c)/\w.cell? ⟨q,4,none⟩=some (.int .u64 m.d)/\w.cell? ⟨q,5,none⟩=some (.int .u64 m.g)/\w.cell? ⟨q,6,none⟩=some (.bool m.q):=
 ⟨h 0 _ rfl,h 1 _ rfl,h 2 _ rfl,h 3 _ rfl,h 4 _ rfl,h 5 _ rfl,h 6 _ rfl⟩
theorem Jjf {w:World} {q:Nat} {m:Ms} (h:w.heap[q]? = some (Jd1 m)):AtM w q m:=fun j c hj=>by
 simp only[World.cell?]
 rw[h]
 simpa [cM,Jd1] using hj
def AtT (w:World) (q:Nat) (x:Mt):Prop:=∀ j c,(cT x)[j]? = some c->w.cell? ⟨q,j,none⟩=some c
theorem AtT.cells {w:World} {q:Nat} {x:Mt} (h:AtT w q x):w.cell? ⟨q,0,none⟩=some (.bool x.i)/\w.cell? ⟨q,1,none⟩=some (.int .i64 x.f)/\w.cell? ⟨q,2,none⟩=some (.int .i64 x.t)/\w.cell? ⟨q,3,none⟩=some (.int .i64 x.m.l)/\w.cell? ⟨q,4,none⟩=some (.int .u64 x.m.a)/\w.cell? ⟨q,5,none⟩=some (.int .u64 x.m.b)/\w.cell? ⟨q,6,none⟩=some (.int .u64 x.m.c)/\w.cell? ⟨q,7,none⟩=some (.int .u64 x.m.d)/\w.cell? ⟨q,8,none⟩=some (.int .u64 x.m.g)/\w.cell? ⟨q,9,none⟩=some (.bool x.m.q):=
 ⟨h 0 _ rfl,h 1 _ rfl,h 2 _ rfl,h 3 _ rfl,h 4 _ rfl,h 5 _ rfl,h 6 _ rfl,h 7 _ rfl,h 8 _ rfl,h 9 _ rfl⟩
theorem Uf {w:World} {q:Nat} {x:Mt} (h:w.heap[q]? = some (Zn x)):AtT w q x:=fun j c hj=>by
 simp only[World.cell?]
 rw[h]
 simpa [cT,Zn] using hj
theorem frozenT {w:World} {q:Nat} {x:Mt} (h:w.heap[q]? = some (Zn x)) (j:Nat):w.frozen? ⟨q,j,none⟩=false:=by
 unfold Zn at h
 simp[World.frozen?,h]
structure EpH (p:Nat) (v:Value) (S:St) (w:World):Prop where
 head:w.heap[p]? = some (.cells #[v] 291 (0,0))
 row:RowW w v S
 ne:v.ownBlock≠some p
 goodEn:Good S
def VE (p:Nat) (v:Value) (S:St):Th where
 F:=fun x=>x=p\/v.ownBlock=some x
 H:=EpH p v S
 lt:=fun w h x hx=>by
  rcases hx with rfl|hx
  ·exact(Jqf.1 h.head).1
  ·exact h.row.lt hx
 keep:=fun _ _ h k=>⟨(k p (.inl rfl)).trans h.head,h.row.keep fun x hx=>k x (.inr hx),h.ne,h.goodEn⟩
section
variable {w0 w w':World} {r p:Nat} {v:Value} {S:St} {R:List Th}
theorem EpH.cell (h:EpH p v S w):w.cell? ⟨p,0,none⟩=some v:=by
 simp[World.cell?,h.head]
theorem EpH.frozen (h:EpH p v S w):w.frozen? ⟨p,0,none⟩=false:=by
 simp[World.frozen?,h.head]
theorem EpH.below (h:EpH p v S w) (k:Below w.heap.size w w'):EpH p v S w':=(VE p v S).below h k
theorem _root_.Go.Proofs.YtbfjjpdnoalojaaGreatDoor.Sep.goodEn (h:Sep w0 r w (VE p v S::R)):Good S:=EpH.goodEn h.head
theorem _root_.Go.Proofs.YtbfjjpdnoalojaaGreatDoor.Sep.hang {v':Value} {T:St} (h:Sep w0 r w (Jdo v' T::VE p v S::R)) (g:Good T):Sep w0 r (w.setCell ⟨p,0,none⟩ v') (VE p v' T::R):=by
 obtain⟨a1,a2⟩:=Jqq.1 h.apart
 obtain⟨a3,a4⟩:=Jqq.1 a2
 have e1:RowW w v' T:=h.head
 have e2:=h.each (VE p v S) (by simp)
 have h2:EpH p v S w:=e2.1
 have ne:v'.ownBlock≠some p:=fun e=>a1 (VE p v S) (by simp) p e (.inl rfl)
 have k:Turn (fun x=>x=p) w (w.setCell ⟨p,0,none⟩ v'):=Turn.setCell _ w ⟨p,0,none⟩ v' rfl
 refine⟨k.below h.low (fun x hx=>by rw[hx];exact e2.2 p (.inl rfl)) h.size,Jql h.size k.size,fun t ht=>?_,Jqq.2 ⟨fun b hb x hx hy=>?_,a4⟩⟩
 ·rcases List.mem_cons.1 ht with rfl|ht
  ·refine⟨⟨by have:=setBlock (j:=0) h2.head v';simpa using this,e1.keep fun x hx=>blk_setCell_other _ _ _ _ fun e=>ne (by rw[hx];exact congrArg some e),ne,g⟩,fun x hx=>?_⟩
   rcases hx with rfl|hx
   ·exact e2.2 _ (.inl rfl)
   ·exact(h.each (Jdo v' T) (by simp)).2 x hx
  ·have h1:=h.each t (by simp[ht])
   exact⟨t.turn h1.1 k fun x hx e=>a3 t ht p (.inl rfl) (by rw[<- e];exact hx),h1.2⟩
 ·rcases hx with rfl|hx
  ·exact a3 b hb _ (.inl rfl) hy
  ·exact a1 b (by simp[hb]) x hx hy
theorem _root_.Go.Proofs.YtbfjjpdnoalojaaGreatDoor.Sep.regrowEn {v':Value} {T:St} (h:Sep w0 r w (VE p v S::R)) (g5:w.grownBy w' v.ownBlock) (row:RowW w' v' T) (loc:v'.ownBlock=v.ownBlock\/∀ x,v'.ownBlock=some x->w.heap.size<=x) (g:Good T):Sep w0 r (w'.setCell ⟨p,0,none⟩ v') (VE p v' T::R):=by
 have h2:EpH p v S w:=h.head
 have own':∀ x,v'.ownBlock=some x->v.ownBlock=some x\/w.heap.size<=x:=fun x hx=>loc.elim (fun l=>.inl (l ▸ hx)) fun l=>.inr (l x hx)
 have hp:p<w.heap.size:=(Jqf.1 h2.head).1
 have ne:v'.ownBlock≠some p:=fun e=>(own' p e).elim h2.ne fun h1=>by omega
 have hd:w'.heap[p]? = some (.cells #[v] 291 (0,0)):=(g5.block p hp fun e=>h2.ne e.symm).trans h2.head
 refine h.turn (t':=VE p v' T) ⟨by have:=setBlock (j:=0) hd v';simpa using this,row.keep fun x hx=>blk_setCell_other _ _ _ _ fun e=>ne (by rw[hx];exact congrArg some e),ne,g⟩ ((Turn.grown (F:=(VE p v S).F) g5 fun k hk=>.inl (.inr hk)).trans (Turn.setCell (VE p v S).F w' ⟨p,0,none⟩ v' (.inl rfl)) fun x hx=>.inl hx) fun x hx=>?_
 rcases hx with rfl|hx
 ·exact .inl (.inl rfl)
 ·exact(own' x hx).imp .inr id
theorem _root_.Go.Proofs.YtbfjjpdnoalojaaGreatDoor.Sep.cellP (h:Sep w0 r w (VE p v S::R)):w.cell? ⟨p,0,none⟩=some v:=EpH.cell h.head
theorem _root_.Go.Proofs.YtbfjjpdnoalojaaGreatDoor.Sep.slicePEn (h:Sep w0 r w (VE p v S::R)):∃ ao cap,v=.slice ao S.length cap/\∀ i,i<S.length->∃ g,ao=some ⟨g,0,none⟩:=by
 obtain⟨ao,cap,e,_,_,hg,_⟩:=(EpH.row h.head).slice
 exact⟨ao,cap,e,hg⟩
end
def Clo (w:World) (c:Value) (p:Wt->Bool):Prop:=∃ g lb,c=.func (.func g) #[] lb/\(∀ args w,(callFunc g args).run Tryz.prog w=.ok (.enter g args) w)/\∀ W x,Below w.heap.size w W->Calls Tryz.prog g (#[Od x]++lb) W fun e w'=>e=.returned (.bool (p x))/\Below W.heap.size W w'
theorem Clo.form {w:World} {c:Value} {p:Wt->Bool} (h:Clo w c p):∃ g lb,c=.func (.func g) #[] lb:=by
 obtain⟨g,lb,e1,_⟩:=h
 exact⟨g,lb,e1⟩
theorem Jog (q:Nat) (n:Int) (x:Wt) (w:World) (h:Var w q (.int .i64 n)) :
  Calls Tryz.prog 371 #[Od x,Je q] w fun e w'=>e=.returned (.bool (EL n x))/\Below w.heap.size w w':=by
 have b1:=Jb w (ZR x)
 have c1:=(h.below b1).2
 obtain⟨d0,-⟩:=(Ug (blk_alloc_new w (ZR x))).cells
 have B:=Ja b1
 clear b1 h
 unfold EL
 by_cases e:x.n=n
 ·have he:(x.n == n)=true:=by simpa using e
  have hd:decide (x.n=n)=true:=by simpa using e
  rw[hd]
  clear e hd
  simp only[ZR,Od] at *
  go_enter Tryz.func371,Tryz.ntmps371
  go_wp2
  go_ret
  exact⟨rfl,B.out⟩
 ·have he:(x.n == n)=false:=by simpa using e
  have hd:decide (x.n=n)=false:=by simpa using e
  rw[hd]
  clear e hd
  simp only[ZR,Od] at *
  go_enter Tryz.func371,Tryz.ntmps371
  go_wp2
  go_ret
  exact⟨rfl,B.out⟩
theorem Mr (n:Int) (w:World):Calls Tryz.prog 358 #[.int .i64 n] w fun e w'=>∃ c,e=.returned c/\Clo w' c (EL n)/\Below w.heap.size w w':=by
 have hmf:=Jhm
 have HV:=Ja (And.intro (Jb w (.cells #[.int .i64 n] 3)) (Var.new w (.int .i64 n) 3))
 go_enter Tryz.func358,Tryz.ntmps358
 go_wp2
 go_ret
 exact⟨_,rfl,⟨_,_,rfl,enters_of Tryz.func371 (by kernel_rfl) rfl,fun W x k=>Jog w.heap.size n x W (HV.out.2.below k)⟩,HV.out.1⟩
def Gl (p:Wt->Bool) (Z:St):Int:=if Z.findIdx p<Z.length then ((Z.findIdx p:Nat):Int) else -1
theorem Gm {p:Wt->Bool} {Z:St} {k:Nat} {x:Wt} (hk:Z[k]? = some x) (h:p x=true) (ha:∀ j y,j<k->Z[j]? = some y->p y=false):Gl p Z=(k:Int):=by
 obtain⟨hl,e⟩:=Jqb.1 hk
 have:Z.findIdx p=k:=by
  rw[List.findIdx_eq hl]
  exact⟨by rw[e];exact h,fun j hj=>ha j _ hj (Jqc (by omega))⟩
 unfold Gl
 rw[this,if_pos hl]
theorem AS {p:Wt->Bool} {Z:St} (ha:∀ (j:Nat) (y:Wt),Z[j]? = some y->p y=false):Gl p Z = -1:=by
 unfold Gl
 rw[if_neg]
 rw[List.findIdx_lt_length]
 rintro⟨x,hx,hn⟩
 obtain⟨j,hj,e⟩:=List.mem_iff_getElem.1 hx
 have:=ha j x (by rw[List.getElem?_eq_getElem hj,e])
 rw[hn] at this
 cases this
theorem Job (p:Wt->Bool) (Z:St):decide (0<=Gl p Z)=Z.any p:=by
 unfold Gl
 by_cases h:Z.findIdx p<Z.length
 ·rw[if_pos h]
  obtain⟨x,hx,e⟩:=List.findIdx_lt_length.1 h
  have:Z.any p=true:=List.any_eq_true.2 ⟨x,hx,e⟩
  rw[this]
  simp
 ·rw[if_neg h]
  have:Z.any p=false:=by
   cases hz:Z.any p
   ·rfl
   ·obtain⟨x,hx,e⟩:=List.any_eq_true.1 hz
    exact absurd (List.findIdx_lt_length.2 ⟨x,hx,e⟩) h
  rw[this]
  simp
theorem XW (c:Value) (p:Wt->Bool) (v:Value) (Z:St) (w:World) (hp:Clo w c p) (hz:RowW w v Z) (hl:Z.length<=1000) :
  Calls Tryz.prog 372 #[v,c] w fun e w'=>e=.returned (.int .i64 (Gl p Z))/\Below w.heap.size w w':=by
 obtain⟨g,lb,rfl,eg,hc⟩:=hp
 obtain⟨ao,cap,rfl,-,-,hg,-⟩:=hz.slice
 have HZ:=Ja hz
 have HP:=Ja hc
 have HG:=Ja hg
 clear hz hc hg
 generalize hN:Z.length=N at *
 have HN:=Ja hN
 clear hN
 go_enter Tryz.func372,Tryz.ntmps372
 go_wp2
 go_loopw [5,8] (fun _ s8 wr=>∃ kk:Nat,kk<=N/\s8=.int .i64 kk/\Below w.heap.size w wr/\Hid (∀ j y,j<kk->Z[j]? = some y->p y=false)) (fun _ s8 _=>N - (intOf s8).toNat)
 case atStart=>exact⟨0,Jqp _,rfl,Below.refl _ w,fun j y hj=>absurd hj (Nat.not_lt_zero _)⟩
 case round =>
  obtain⟨kk,hkk,rfl,BW,A⟩:=hrel
  have HB:=Ja BW
  by_cases hlt:kk<N
  ·have hltz:(kk:Int)<(N:Int):=by omega
   obtain⟨b,rfl⟩:=HG.out kk hlt
   have hk1:kk<Z.length:=by have:=HN.out;omega
   have HX:=Ja (Jqc hk1)
   obtain⟨c0,c1,c2,c3,c4,c5,c6,c7,c8⟩:=(RowW.at (HZ.out.below BW) HX.out).cells
   have hcall:=HP.out wr Z[kk] BW
   have HL:=Ja hlt
   clear hlt BW
   generalize Z[kk]=y at *
   clear hk1
   simp only[Od] at hcall
   cases hq:p y with
   | true =>
    rw[hq] at hcall
    have HR:=Ja (Gm HX.out hq A.out)
    go_wp2_with (go_at_fn g;refine hcall.mono ?_;rintro e w' ⟨rfl,hb'⟩)
    go_ret
    exact⟨Jm HR.out.symm,Below.then HB.out hb' HB.out.size⟩
   | false =>
    rw[hq] at hcall
    have HQ:=Ja hq
    clear hq
    go_wp2_with (go_at_fn g;refine hcall.mono ?_;rintro e w' ⟨rfl,hb'⟩)
    go_roundw
    case rel =>
     refine⟨kk+1,by have:=HL.out;omega,by go_num,Below.then HB.out hb' HB.out.size,fun j z hj hz=>?_⟩
     by_cases e:j=kk
     ·subst e
      rw[HX.out] at hz
      cases hz
      exact HQ.out
     ·exact A.out j z (by omega) hz
    case measure=>simp[intOf];have:=HL.out;omega
  ·have hltz:¬ (kk:Int)<(N:Int):=by omega
   have HE:=Ja (AS (p:=p) (Z:=Z) fun j y hj=>A.out j y (by have:=(Jqb.1 hj).1;have:=HN.out;omega) hj)
   clear hlt hkk A BW
   go_wp2
   go_ret
   exact⟨Jm HE.out.symm,HB.out⟩
theorem MK (c:Value) (p:Wt->Bool) (v:Value) (Z:St) (w:World) (hp:Clo w c p) (hz:RowW w v Z) (hl:Z.length<=1000) :
  Calls Tryz.prog 361 #[v,c] w fun e w'=>e=.returned (.bool (Z.any p))/\Below w.heap.size w w':=by
 have HI:=Ja (XW c p v Z w hp hz hl)
 have hd:=Job p Z
 obtain⟨ao,cap,rfl,-,-,-,-⟩:=hz.slice
 obtain⟨g,lb,rfl⟩:=hp.form
 clear hp hz
 generalize Z.length=N at *
 generalize Gl p Z=z at *
 generalize Z.any p=b at *
 go_enter Tryz.func361,Tryz.ntmps361
 go_wp2_with (go_at_call 372;refine Jqa HI.out ?_;rintro e w' ⟨rfl,hb⟩)
 go_ret
 exact⟨rfl,hb⟩
theorem IF (p:Nat) (v:Value) (S:St) (b:Bool) (w:World) (h:EpH p v S w) :
  Calls Tryz.prog 214 #[Je p,.bool b] w fun e w'=>e=.returned (.bool (Jl S b))/\w'=w:=by
 have c0:=h.cell
 obtain⟨ao,cap,rfl,-,-,hg,-⟩:=h.row.slice
 rcases S with _|⟨x,S⟩
 ·clear h hg
  simp only[List.length_nil,Jl] at *
  go_enter Tryz.func214,Tryz.ntmps214
  go_wp2
  go_ret
  exact⟨rfl,rfl⟩
 ·obtain⟨g,rfl⟩:=hg 0 (by simp)
  obtain⟨-,d1,-⟩:=(RowW.at h.row (i:=0) (x:=x) rfl).cells
  simp only[Nat.zero_mul,Nat.zero_add] at d1
  clear h hg
  simp only[Jl] at *
  generalize hn:(x::S).length=n at *
  have hn0:0<n:=by rw[<- hn];simp
  have hnz:(0:Int)<(n:Int):=by omega
  clear hn
  go_enter Tryz.func214,Tryz.ntmps214
  go_wp2
  go_ret
  exact⟨rfl,rfl⟩
theorem JN (p:Nat) (v:Value) (S:St) (n:Int) (w:World) (h:EpH p v S w) (hl:S.length<=1000) :
  Calls Tryz.prog 317 #[Je p,.int .i64 n] w fun e w'=>e=.returned (.bool (Ik S n))/\Below w.heap.size w w':=by
 have HE:=Ja (h.below (JH (Below.refl w.heap.size w) 1))
 have hE:w.drewN 1=w.drew:=rfl
 rw[hE] at HE
 have c0:=h.cell
 obtain⟨ao,cap,rfl,-,-,-,-⟩:=h.row.slice
 have HL:=Ja hl
 clear h hl hE
 unfold Ik
 generalize hN:S.length=N at *
 go_enter Tryz.func317,Tryz.ntmps317
 go_wp2_with fail
 go_region_with (first
  | (go_at_call 358;refine Jqa (Mr _ _) ?_;rintro e w1 ⟨c,rfl,k1,b1⟩;obtain⟨g1,l1,rfl⟩:=k1.form;have K1:=Ja k1;have E1:=Ja (HE.out.below b1);have B1:=Ja b1;have c1:=E1.out.cell;clear k1 b1)
  | (go_at_call 361;refine Jqa (MK _ _ _ _ _ K1.out E1.out.row (by rw[hN];exact HL.out)) ?_;rintro e w2 ⟨rfl,b2⟩))
 all_goals
  go_wp2
  go_ret
  exact⟨rfl,Below.then ⟨B1.out.os,B1.out.tape,B1.out.output,B1.out.size,B1.out.block⟩ b2 B1.out.size⟩
section
variable {w0 w:World} {r p:Nat} {v:Value} {S:St} {R:List Th}
theorem FD (q:Wt->Bool) {S:St} {k:Nat} {x:Wt} (h:S[k]? = some x):OD q (S.take (k+1))=if q x=true then OD q (S.take k)++[x.n] else OD q (S.take k):=by
 have e:S.take (k+1)=S.take k++[x]:=by
  rw[List.take_add_one,h]
  rfl
 unfold OD
 rw[e,List.filter_append,List.map_append]
 cases hq:q x<;>simp[hq]
theorem FG (q:Wt->Bool) {S:St} {k:Nat} {x:Wt} (h:S[k]? = some x):Ud q (S.take (k+1))=if q x=true then Ud q (S.take k) else Ud q (S.take k)++[x]:=by
 have e:S.take (k+1)=S.take k++[x]:=by
  rw[List.take_add_one,h]
  rfl
 unfold Ud
 rw[e,List.filter_append]
 cases hq:q x<;>simp[hq]
theorem O0 (s:Sep w0 r w (VE p v S::R)) (c:Value) (q:Wt->Bool) (hc:Clo w c q) (hl:S.length<=1000) :
  Calls Tryz.prog 357 #[Je p,c] w fun e w'=>∃ u v',e=.returned u/\Sep w0 r w' (VE p v' (Ud q S)::Xa u (OD q S)::R):=by
 obtain⟨g,lb,rfl,eg,hc⟩:=hc
 have c0:=s.cellP
 obtain⟨ao,cap,rfl,hg⟩:=s.slicePEn
 have HS:=Ja s
 have HP:=Ja hc
 have HG:=Ja hg
 have HL:=Ja hl
 clear s hc hg
 generalize hN:S.length=N at *
 have HN:=Ja hN
 clear hN
 go_enter Tryz.func357,Tryz.ntmps357
 go_wp2
 go_loopw [5,6,14] (fun s5 s6 s14 wr=>∃ k:Nat,k<=N/\s14=.int .i64 k/\Sep w w.heap.size wr [Xa s5 (OD q (S.take k)),Jdo s6 (Ud q (S.take k))]) (fun _ _ s14 _=>N - (intOf s14).toNat)
 case atStart=>exact⟨0,Jqp _,rfl,(GL w).nil.nil⟩
 case round =>
  obtain⟨k,hk,rfl,s1⟩:=hrel
  have S1:=Ja s1
  clear c0
  by_cases hlt:k<N
  ·have hltz:(k:Int)<(N:Int):=by omega
   obtain⟨b,rfl⟩:=HG.out k hlt
   have hk1:k<S.length:=by have:=HN.out;omega
   have HX:=Ja (Jqc hk1)
   obtain⟨c0,c1,c2,c3,c4,c5,c6,c7,c8⟩:=(RowW.at (EpH.row (EpH.below HS.out.head s1.low)) HX.out).cells
   have S2:=Ja (s1.box (ZR S[k]))
   have hcall:=HP.out (wr.alloc (ZR S[k])) S[k] S2.out.low
   have HL1:=Ja hlt
   clear hlt s1 S1
   generalize S[k]=y at *
   clear hk1
   have hA:=Jbu q (S.take k)
   have hB:=Jo7 q (S.take k)
   have hT:(S.take k).length<=1000:=by
    rw[List.length_take]
    have:=HL.out
    omega
   have HAB:Hid ((OD q (S.take k)).length<=1000/\(Ud q (S.take k)).length<=1000):=⟨by omega,by omega⟩
   clear hA hB hT
   simp only[Od,ZR] at *
   cases hq:q y with
   | true =>
    rw[hq] at hcall
    have HA:=Ja ((FD q HX.out).trans (if_pos hq))
    have HB:=Ja ((FG q HX.out).trans (if_pos hq))
    clear hq
    go_wp2_with (first
     | (at_builtin;refine Jd rfl _ _ _ _ rfl _ _ _ _ rfl rfl R3.out ?_)
     | (go_at_fn g;refine hcall.mono ?_;rintro e w2 ⟨rfl,b2⟩;have s2:=S2.out.below b2;obtain⟨d0,-⟩:=(Ug (x:=y) s2.head).cells;obtain⟨v3,w3,r3,s3⟩:=s2.drop.more okI 22 y.n (C:=#[.int .i64 y.n]) rfl (by have:=HAB.out;omega);simp only[Ui] at r3;have R3:=Ja r3;have S3:=Ja s3;clear s2 s3 r3 b2))
    go_roundw
    case rel=>exact⟨k+1,by have:=HL1.out;omega,by go_num,by rw[HA.out,HB.out];exact S3.out⟩
    case measure=>simp[intOf];have:=HL1.out;omega
   | false =>
    rw[hq] at hcall
    have HA:=Ja ((FD q HX.out).trans (if_neg (by rw[hq];decide)))
    have HB:=Ja ((FG q HX.out).trans (if_neg (by rw[hq];decide)))
    clear hq
    go_wp2_with (first
     | (at_builtin;refine Jd rfl _ _ _ _ rfl _ _ _ _ rfl rfl R3.out ?_)
     | (go_at_fn g;refine hcall.mono ?_;rintro e w2 ⟨rfl,b2⟩;have s2:=S2.out.below b2;obtain⟨d0,d1,d2,d3,d4,d5,d6,d7,d8⟩:=(Ug (x:=y) s2.head).cells;obtain⟨v3,w3,r3,s3⟩:=s2.drop.swap.more okW 286 y (C:=(cW y).toArray) rfl (by have:=HAB.out;omega);simp only[elW,cW] at r3;have R3:=Ja r3;have S3:=Ja s3.swap;clear s2 s3 r3 b2))
    go_roundw
    case rel=>exact⟨k+1,by have:=HL1.out;omega,by go_num,by rw[HA.out,HB.out];exact S3.out⟩
    case measure=>simp[intOf];have:=HL1.out;omega
  ·have hltz:¬ (k:Int)<(N:Int):=by omega
   have hkS:S.take k=S:=List.take_of_length_le (by have:=HN.out;omega)
   rw[hkS] at s1
   obtain⟨a6,c6,rfl⟩:=s1.listIs (E:=elW) (v:=u6) (A:=Ud q S) (by simp)
   have s2:=HS.out.join s1
   generalize hm:(Ud q S).length=m at *
   clear hm
   have c0:=EpH.cell (s2.each (VE p (.slice ao N cap) S) (by simp)).1
   have f0:=EpH.frozen (s2.each (VE p (.slice ao N cap) S) (by simp)).1
   have S2:=Ja (Sep.hang (s2.third) (Jav HS.out.goodEn q))
   clear s1 s2 S1 hlt hkS hk
   go_wp2
   go_ret
   exact⟨_,rfl,_,S2.out⟩
end
def Jd8 (w:World) (q:Nat) (x:Wt):World:=(((((((((w.setCell ⟨q,0,none⟩ (.int .i64 x.n)).setCell ⟨q,1,none⟩ (.bool x.s)).setCell ⟨q,2,none⟩ (.int .i64 x.m.l)).setCell ⟨q,3,none⟩ (.int .u64 x.m.a)).setCell ⟨q,4,none⟩ (.int .u64 x.m.b)).setCell ⟨q,5,none⟩ (.int .u64 x.m.c)).setCell ⟨q,6,none⟩ (.int .u64 x.m.d)).setCell ⟨q,7,none⟩ (.int .u64 x.m.g)).setCell ⟨q,8,none⟩ (.bool x.m.q))
theorem Jik (F:Nat->Prop) (w:World) (q:Nat) (x:Wt) (h:F q):Turn F w (Jd8 w q x):=by
 unfold Jd8
 have st:∀ {a b:World} (k:Turn F a b) (o:Nat) (v:Value),Turn F a (b.setCell ⟨q,o,none⟩ v):=fun k o v=>k.trans (Turn.setCell F _ ⟨q,o,none⟩ v h) fun x hx=>.inl hx
 exact st (st (st (st (st (st (st (st (st (Turn.refl F w) _ _) _ _) _ _) _ _) _ _) _ _) _ _) _ _) _ _
theorem Jpb {w:World} {q:Nat} {y:Wt} (h:w.heap[q]? = some (ZR y)) (x:Wt):(Jd8 w q x).heap[q]? = some (ZR x):=by
 unfold Jd8
 unfold ZR at *
 rw[setBlock (setBlock (setBlock (setBlock (setBlock (setBlock (setBlock (setBlock (setBlock h _) _) _) _) _) _) _) _) _]
 simp
theorem Je3 {w:World} {q:Nat} {x:Wt} (h:w.heap[q]? = some (ZR x)) (j:Nat):w.frozen? ⟨q,j,none⟩=false:=by
 unfold ZR at h
 simp[World.frozen?,h]
def Mu (S:St) (b:Bool):Wt:=match S with
 | []=>wt0
 | x::_=>if x.s == b then x else wt0
def IN (S:St) (b:Bool):St:=if Jl S b=true then S.tail else S
section
variable {w0 w:World} {r p:Nat} {v:Value} {S:St} {R:List Th}
theorem _root_.Go.Proofs.YtbfjjpdnoalojaaGreatDoor.Sep.putW {q:Nat} {y:Wt} (h:Sep w0 r w (blk q (ZR y)::R)) (x:Wt):Sep w0 r (Jd8 w q x) (blk q (ZR x)::R):=
 h.turn (t':=blk q (ZR x)) (Jpb h.head x) (Jik _ _ _ _ rfl) fun _ hx=>.inl hx
theorem Ac (s:Sep w0 r w (VE p v S::R)) (b:Bool):Calls Tryz.prog 214 #[Je p,.bool b] w fun e w'=>e=.returned (.bool (Jl S b))/\w'=w:=IF p v S b w s.head
theorem FP (s:Sep w0 r w (VE p v S::R)) (n:Int) (hl:S.length<=1000):Calls Tryz.prog 317 #[Je p,.int .i64 n] w fun e w'=>e=.returned (.bool (Ik S n))/\Sep w0 r w' (VE p v S::R):=
 (JN p v S n w s.head hl).mono fun _ _ ⟨he,b⟩=>⟨he,s.below b⟩
theorem Uv (s:Sep w0 r w (VE p v S::R)) (b:Bool) (hl:S.length<=1000) :
  Calls Tryz.prog 318 #[Je p,.bool b] w fun e w'=>e=.returned (.tuple #[Od (Mu S b),.bool (Jl S b)])/\∃ v',Sep w0 r w' (VE p v' (IN S b)::R):=by
 have S1:=Ja (s.box (ZR wt0)).swap
 have HL:=Ja hl
 have hobj:ZR wt0=.cells #[.int .i64 0,.bool false,.int .i64 0,.int .u64 0,.int .u64 0,.int .u64 0,.int .u64 0,.int .u64 0,.bool false] 289:=rfl
 cases hb:Jl S b with
 | false =>
  have HR:Hid (Mu S b=wt0/\IN S b=S):=by
   refine⟨?_,by simp[IN,hb]⟩
   match S,hb with
   | [],_=>rfl
   | x::T,hb =>
    have:(x.s == b)=false:=hb
    simp[Mu,this]
  have HC:=Ja (Ac S1.out b)
  rw[hb] at HC
  clear s hl hb
  rw[hobj] at HC
  go_enter Tryz.func318,Tryz.ntmps318
  go_wp2_with fail
  refine Jqa HC.out ?_
  rintro e w1 ⟨rfl,rfl⟩
  rw[<- hobj]
  have Z:=S1.out.swap.head
  obtain⟨z0,z1,z2,z3,z4,z5,z6,z7,z8⟩:=(Ug (x:=wt0) Z).cells
  have zf:=Je3 (x:=wt0) Z
  have S2:=Ja (S1.out.swap.putW wt0)
  clear Z HC S1
  unfold Jd8 at S2
  simp only[Nat.zero_add] at *
  generalize w.alloc (ZR wt0)=w1 at *
  simp only[wt0,EM] at z0 z1 z2 z3 z4 z5 z6 z7 z8 S2
  generalize w.heap.size=q at *
  go_wp2
  refine bodyPost_ret (v:=.tuple #[.agg #[.int .i64 0,.bool false,.int .i64 0,.int .u64 0,.int .u64 0,.int .u64 0,.int .u64 0,.int .u64 0,.bool false],.bool false]) ?_ rfl ⟨by rw[HR.out.1];rfl,v,by rw[HR.out.2];exact S2.out.drop⟩
  simp[results,Tryz.f318,go_sem,z0,z1,z2,z3,z4,z5,z6,z7,z8]
 | true =>
  rcases S with _|⟨x,T⟩
  ·cases hb
  ·have hx:(x.s == b)=true:=hb
   have HR:Hid (Mu (x::T) b=x/\IN (x::T) b=T):=⟨by simp[Mu,hx],by simp[IN,hb]⟩
   have HO:=Ja (Jhr s.goodEn)
   have HC:=Ja (Ac S1.out b)
   rw[hb] at HC
   obtain⟨ao,cap,rfl,hg⟩:=S1.out.slicePEn
   obtain⟨g,rfl⟩:=hg 0 (by simp)
   have c0:=S1.out.cellP
   obtain⟨d0,d1,d2,d3,d4,d5,d6,d7,d8⟩:=(RowW.at (EpH.row S1.out.head) (i:=0) (x:=x) rfl).cells
   have S2:=Ja ((S1.out.box (ZR x)).third.swap)
   have hn0:0<(x::T).length:=by simp
   clear s hl hb hg hx
   rw[hobj] at HC
   simp only[Nat.zero_mul,Nat.zero_add] at d0 d1 d2 d3 d4 d5 d6 d7 d8
   generalize hn:(x::T).length=n at *
   have hnz:(0:Int)<(n:Int):=by omega
   go_enter Tryz.func318,Tryz.ntmps318
   go_wp2_with fail
   refine Jqa HC.out ?_
   rintro e w1 ⟨rfl,rfl⟩
   rw[<- hobj]
   clear HC S1
   generalize hw1:w.alloc (ZR wt0)=w1 at *
   have e1:w1.heap.size=w.heap.size+1:=by rw[<- hw1];simp
   clear hw1
   go_wp2_with fail
   refine Jqa (Mr _ _) ?_
   rintro e w2 ⟨c,rfl,k2,b2⟩
   obtain⟨gc,lc,rfl⟩:=k2.form
   have S3:=Ja (S2.out.swap.below b2)
   have K2:=Ja k2
   clear S2 k2 b2
   go_wp2_with fail
   refine Jqa (O0 S3.out _ _ K2.out (by rw[hn];exact HL.out)) ?_
   rintro e w3 ⟨u,v3,rfl,s3⟩
   rw[HO.out] at s3
   obtain⟨e0,e1',e2,e3,e4,e5,e6,e7,e8⟩:=(Ug (x:=x) (s3.each (blk w1.heap.size (ZR x)) (by simp)).1).cells
   have Z:=(s3.each (blk w.heap.size (ZR wt0)) (by simp)).1
   obtain⟨z0,z1,z2,z3,z4,z5,z6,z7,z8⟩:=(Ug (x:=wt0) Z).cells
   have zf:=Je3 (x:=wt0) Z
   have S4:=Ja ((s3.drop2.swap.putW x).drop.drop2)
   clear Z S3 K2 s3 HO hobj c0 d0 d1 d2 d3 d4 d5 d6 d7 d8
   unfold Jd8 at S4
   rw[e1] at e0 e1' e2 e3 e4 e5 e6 e7 e8
   clear e1
   simp only[Nat.zero_add] at *
   simp only[wt0,EM] at z0 z1 z2 z3 z4 z5 z6 z7 z8
   generalize hq:w.heap.size=q at *
   clear hq
   go_wp2
   refine bodyPost_ret (v:=.tuple #[Od x,.bool true]) ?_ rfl ⟨by rw[HR.out.1],v3,by rw[HR.out.2];exact S4.out⟩
   simp[results,Tryz.f318,go_sem,Od,z0,z1,z2,z3,z4,z5,z6,z7,z8]
theorem _root_.Go.Proofs.YtbfjjpdnoalojaaGreatDoor.Sep.ep (h:Sep w0 r w (Jdo v S::R)) (g:Good S):Sep w0 r (w.alloc (.cells #[v] 291)) (VE w.heap.size v S::R):=by
 have h1:=(h.box (.cells #[v] 291))
 have row:RowW (w.alloc (.cells #[v] 291)) v S:=(h1.each (Jdo v S) (by simp)).1
 obtain⟨a1,a2⟩:=Jqq.1 h1.apart
 obtain⟨a3,a4⟩:=Jqq.1 a2
 refine⟨h1.low,h1.size,fun t ht=>?_,Jqq.2 ⟨fun b hb x hx hy=>?_,a4⟩⟩
 ·rcases List.mem_cons.1 ht with rfl|ht
  ·refine⟨⟨h1.head,row,fun e=>a1 (Jdo v S) (by simp) _ rfl e,g⟩,fun x hx=>?_⟩
   rcases hx with rfl|hx
   ·exact h.size
   ·exact(h1.each (Jdo v S) (by simp)).2 x hx
  ·exact h1.each t (by simp[ht])
 ·rcases hx with rfl|hx
  ·exact a1 b (by simp[hb]) _ rfl hy
  ·exact a3 b hb x hx hy
theorem V8 (s:Sep w0 r w R):Calls Tryz.prog 302 #[] w fun e w'=>∃ p v,e=.returned (Je p)/\Sep w0 r w' (VE p v []::R):=by
 have S1:=Ja (Sep.ep (s.nil (E:=elW)) Vg)
 clear s
 go_enter Tryz.func302,Tryz.ntmps302
 go_wp2
 go_ret
 exact⟨_,_,rfl,S1.out⟩
theorem U3 (s:Sep w0 r w (VE p v S::R)) (n:Int) (hl:S.length<=1000) :
  Calls Tryz.prog 315 #[Je p,.int .i64 n] w fun e w'=>e=.returned (.bool (Ik S n))/\∃ v',Sep w0 r w' (VE p v' (Ud (EL n) S)::R):=by
 have S1:=Ja s
 have HL:=Ja hl
 have hd:=Ob S n
 have hm:=Jbu (EL n) S
 clear s
 generalize hB:Ik S n=β at *
 clear hB
 go_enter Tryz.func315,Tryz.ntmps315
 go_wp2_with fail
 refine Jqa (Mr _ _) ?_
 rintro e w2 ⟨c,rfl,k2,b2⟩
 obtain⟨gc,lc,rfl⟩:=k2.form
 have S2:=Ja (S1.out.below b2)
 have K2:=Ja k2
 clear k2 b2 S1
 go_wp2_with fail
 refine Jqa (O0 S2.out _ _ K2.out HL.out) ?_
 rintro e w3 ⟨u,v3,rfl,s3⟩
 obtain⟨ao,cap,rfl⟩:=s3.listIs (E:=Ui) (v:=u) (A:=OD (EL n) S) (by simp)
 have S3:=Ja s3.drop2
 clear s3 S2 K2
 generalize(OD (EL n) S).length=m at *
 go_wp2
 go_ret
 exact⟨rfl,_,S3.out⟩
end
def Mw (w:World) (q:Nat) (x:Mt):World:=((((((((((w.setCell ⟨q,0,none⟩ (.bool x.i)).setCell ⟨q,1,none⟩ (.int .i64 x.f)).setCell ⟨q,2,none⟩ (.int .i64 x.t)).setCell ⟨q,3,none⟩ (.int .i64 x.m.l)).setCell ⟨q,4,none⟩ (.int .u64 x.m.a)).setCell ⟨q,5,none⟩ (.int .u64 x.m.b)).setCell ⟨q,6,none⟩ (.int .u64 x.m.c)).setCell ⟨q,7,none⟩ (.int .u64 x.m.d)).setCell ⟨q,8,none⟩ (.int .u64 x.m.g)).setCell ⟨q,9,none⟩ (.bool x.m.q))
theorem Jel (F:Nat->Prop) (w:World) (q:Nat) (x:Mt) (h:F q):Turn F w (Mw w q x):=by
 unfold Mw
 have st:∀ {a b:World} (k:Turn F a b) (o:Nat) (v:Value),Turn F a (b.setCell ⟨q,o,none⟩ v):=fun k o v=>k.trans (Turn.setCell F _ ⟨q,o,none⟩ v h) fun x hx=>.inl hx
 exact st (st (st (st (st (st (st (st (st (st (Turn.refl F w) _ _) _ _) _ _) _ _) _ _) _ _) _ _) _ _) _ _) _ _
theorem Jlu {w:World} {q:Nat} {y:Mt} (h:w.heap[q]? = some (Zn y)) (x:Mt):(Mw w q x).heap[q]? = some (Zn x):=by
 unfold Mw
 unfold Zn at *
 rw[setBlock (setBlock (setBlock (setBlock (setBlock (setBlock (setBlock (setBlock (setBlock (setBlock h _) _) _) _) _) _) _) _) _) _]
 simp
theorem Fz {S:St} {b:Bool} (h:Jl S b=true):∃ x T,S=x::T/\x.s=b/\Mu S b=x/\IN S b=T:=by
 match S,h with
 | x::T,h =>
  have hx:(x.s == b)=true:=h
  exact⟨x,T,rfl,by simpa using hx,by simp[Mu,hx],by simp[IN,h]⟩
theorem Jbp {S:St} {b:Bool} (h:Jl S b=false):Mu S b=wt0/\IN S b=S:=by
 refine⟨?_,by simp[IN,h]⟩
 match S,h with
 | [],_=>rfl
 | x::T,hb =>
  have:(x.s == b)=false:=hb
  simp[Mu,this]
section
variable {w0 w:World} {r p:Nat} {v:Value} {S:St} {R:List Th}
theorem _root_.Go.Proofs.YtbfjjpdnoalojaaGreatDoor.Sep.putT {q:Nat} {y:Mt} (h:Sep w0 r w (blk q (Zn y)::R)) (x:Mt):Sep w0 r (Mw w q x) (blk q (Zn x)::R):=
 h.turn (t':=blk q (Zn x)) (Jlu h.head x) (Jel _ _ _ _ rfl) fun _ hx=>.inl hx
theorem _root_.Go.Proofs.YtbfjjpdnoalojaaGreatDoor.Sep.moreW (s:Sep w0 r w (VE p v S::R)) (x:Wt) (g:Good (S++[x])) (hl:S.length<=1000) {C:Array Value} (hC:C.toList=cW x) :
  ∃ a n c w',(Builtin.append_ #[286,286] 286 #[v,.slice (some ⟨w.heap.size,0,none⟩) 1 1]).run Tryz.prog (w.alloc (.cells C 289))=.ok (.slice a n c) w'/\w'.cell? ⟨p,0,none⟩=some v/\w'.frozen? ⟨p,0,none⟩=false/\Sep w0 r (w'.setCell ⟨p,0,none⟩ (.slice a n c)) (VE p (.slice a n c) (S++[x])::R):=by
 have s1:=s.below (Jb w (.cells C 289))
 obtain⟨v',w',r1,r2,r3,r4⟩:=XU (E:=elW) okW 286 x w.heap.size (EpH.row s1.head) (fun j c hj=>by
  have:=blk_alloc_new w (.cells C 289)
  simp only[World.cell?]
  rw[this]
  have hj':(cW x)[j]? = some c:=hj
  rw[<- hC] at hj'
  simpa using hj') (by omega)
 obtain⟨a,c,rfl,-⟩:=r2.slice
 have h1:EpH p v S (w.alloc (.cells C 289)):=s1.head
 have hb:=r3.block p (Jqf.1 h1.head).1 fun e=>h1.ne e.symm
 refine⟨a,_,c,w',r1,?_,?_,s1.regrowEn r3 r2 ?_ g⟩
 ·simp only[World.cell?,hb,h1.head]
  rfl
 ·simp only[World.frozen?,hb,h1.head]
  rfl
 ·rcases r4 with e|e
  ·exact .inl e
  ·refine .inr fun x hx=>?_
   have:some (w.alloc (.cells C 289)).heap.size=some x:=e.symm.trans hx
   cases this
   exact Jqd _
theorem Jlw (s:Sep w0 r w (VE p v S::R)) (n:Int) (z:Bool) (hl:S.length<=1000) :
  Calls Tryz.prog 236 #[Je p,.int .i64 n,.bool z] w fun e w'=>e=.returned (.tuple #[MO (Zi S n),.int .i64 (J8 S n)])/\∃ v',Sep w0 r w' (VE p v' (XD S n z)::R):=by
 have HL:=Ja hl
 have HG:=Ja s.goodEn
 have S1:=Ja (s.box (Zn Vn)).swap
 clear s hl
 have hobj:Zn Vn=.cells #[.bool false,.int .i64 0,.int .i64 0,.int .i64 0,.int .u64 0,.int .u64 0,.int .u64 0,.int .u64 0,.int .u64 0,.bool false] 258:=rfl
 have HC1:=Ja (FP S1.out n HL.out)
 rw[hobj] at HC1
 go_enter Tryz.func236,Tryz.ntmps236
 go_wp2_with fail
 refine Jqa HC1.out ?_
 rintro e w1 ⟨rfl,s1⟩
 rw[<- hobj] at s1
 have S2:=Ja s1
 clear s1 S1 HC1
 generalize w.heap.size=q at *
 cases ht:Ik S n with
 | true =>
  have HR:Hid (Zi S n=Vn/\J8 S n=110/\XD S n z=S):=⟨by simp[Zi,ht],by simp[J8,ht],by simp[XD,ht]⟩
  have Z:=(S2.out.each (blk (q) (Zn Vn)) (by simp)).1
  obtain⟨z0,z1,z2,z3,z4,z5,z6,z7,z8,z9⟩:=(Uf (x:=Vn) Z).cells
  have zf:=frozenT (x:=Vn) Z
  have S3:=Ja ((S2.out.swap.putT Vn).drop)
  clear Z S2 ht
  unfold Mw at S3
  simp only[Vn,EM] at z0 z1 z2 z3 z4 z5 z6 z7 z8 z9 S3
  go_wp2
  refine bodyPost_ret (v:=.tuple #[.agg #[.bool false,.int .i64 0,.int .i64 0,.int .i64 0,.int .u64 0,.int .u64 0,.int .u64 0,.int .u64 0,.int .u64 0,.bool false],.int .i64 110]) ?_ rfl ⟨by rw[HR.out.1,HR.out.2.1];rfl,v,by rw[HR.out.2.2];exact S3.out⟩
  simp[results,Tryz.f236,go_sem,z0,z1,z2,z3,z4,z5,z6,z7,z8,z9]
 | false =>
  have HT:=Ja ht
  clear ht
  go_wp2_with fail
  refine Jqa (Uv S2.out true HL.out) ?_
  rintro e w2 ⟨rfl,v2,s2⟩
  have S3:=Ja (s2.box (ZR (Mu S true))).swap
  clear s2 S2
  cases hb:Jl S true with
  | true =>
   obtain⟨x,T,hS,hxs,hX,hT⟩:=Fz hb
   have HR:Hid (Zi S n=⟨true,x.n,n,x.m⟩/\J8 S n=0/\XD S n z=T):=by
    have ht:=HT.out
    refine⟨?_,by simp[J8,ht],?_⟩
    ·subst hS
     simp[Zi,ht,hxs]
    ·subst hS
     simp[XD,ht,hb]
   rw[hX,hT] at S3
   rw[hX]
   clear hb hS hxs hX hT HT
   obtain⟨d0,d1,d2,d3,d4,d5,d6,d7,d8⟩:=(Ug (x:=x) (S3.out.each (blk w2.heap.size (ZR x)) (by simp)).1).cells
   have Z:=(S3.out.each (blk (q) (Zn Vn)) (by simp)).1
   obtain⟨z0,z1,z2,z3,z4,z5,z6,z7,z8,z9⟩:=(Uf (x:=Vn) Z).cells
   have zf:=frozenT (x:=Vn) Z
   have S4:=Ja ((S3.out.third.swap.putT ⟨true,x.n,n,x.m⟩).drop.drop)
   clear Z S3
   unfold Mw at S4
   simp only[Vn,EM] at z0 z1 z2 z3 z4 z5 z6 z7 z8 z9
   simp only[Nat.zero_add] at *
   have hobW:ZR x=.cells #[.int .i64 x.n,.bool x.s,.int .i64 x.m.l,.int .u64 x.m.a,.int .u64 x.m.b,.int .u64 x.m.c,.int .u64 x.m.d,.int .u64 x.m.g,.bool x.m.q] 289:=rfl
   generalize hw3:w2.alloc (ZR x)=w3 at *
   rw[hobW] at hw3
   unfold Od
   go_wp2_with (rw[hw3];generalize w2.heap.size=q2 at *;clear hw3)
   refine bodyPost_ret (v:=.tuple #[MO ⟨true,x.n,n,x.m⟩,.int .i64 0]) ?_ rfl ⟨by rw[HR.out.1,HR.out.2.1],v2,by rw[HR.out.2.2];exact S4.out⟩
   simp[results,Tryz.f236,go_sem,MO,z0,z1,z2,z3,z4,z5,z6,z7,z8,z9]
  | false =>
   obtain⟨-,hT⟩:=Jbp hb
   rw[hT] at S3
   clear hT
   generalize Mu S true=x at *
   have HR:Hid (Zi S n=Vn/\J8 S n=0):=by
    have ht:=HT.out
    refine⟨?_,by simp[J8,ht]⟩
    rcases S with _|⟨x,T⟩
    ·simp[Zi]
    ·have hx:(x.s == true)=false:=hb
     have hx':x.s = !true:=by cases h:x.s<;>rw[h] at hx<;>simp_all
     simp[Zi,hx']
   have hobW:ZR x=.cells #[.int .i64 x.n,.bool x.s,.int .i64 x.m.l,.int .u64 x.m.a,.int .u64 x.m.b,.int .u64 x.m.c,.int .u64 x.m.d,.int .u64 x.m.g,.bool x.m.q] 289:=rfl
   unfold Od
   cases z with
   | true =>
    have HS:=Ja (show XD S n true=S++[⟨n,false,EM⟩] by simp[XD,HT.out,hb])
    have HA:=Ja (VS HG.out ⟨n,false,EM⟩ HT.out hb (by simp))
    clear HT hb HG
    generalize hw3:w2.alloc (ZR x)=w3 at *
    rw[hobW] at hw3
    obtain⟨a,k,c,w4,r4,c4,f4,s4⟩:=S3.out.moreW ⟨n,false,EM⟩ HA.out HL.out (C:=#[.int .i64 n,.bool false,.int .i64 0,.int .u64 0,.int .u64 0,.int .u64 0,.int .u64 0,.int .u64 0,.bool false]) rfl
    have R4:=Ja r4
    have c3:=S3.out.cellP
    have Z:=(s4.each (blk (q) (Zn Vn)) (by simp)).1
    obtain⟨z0,z1,z2,z3,z4,z5,z6,z7,z8,z9⟩:=(Uf (x:=Vn) Z).cells
    have zf:=frozenT (x:=Vn) Z
    have S5:=Ja ((s4.third.swap.putT Vn).drop.drop)
    obtain⟨av,cv,rfl,-⟩:=S3.out.slicePEn
    generalize S.length=nS at *
    generalize hw5:w4.setCell ⟨p,0,none⟩ (.slice a k c)=w5 at *
    clear Z S3 s4 r4 HA
    unfold Mw at S5
    simp only[Vn,EM] at z0 z1 z2 z3 z4 z5 z6 z7 z8 z9 S5
    go_wp2_with (first|(at_builtin;refine Jd rfl _ _ _ _ rfl _ _ _ _ rfl rfl R4.out ?_)|(rw[hw3];generalize w2.heap.size=q2 at *;clear hw3)|(rw[hw5];clear hw5))
    refine bodyPost_ret (v:=.tuple #[.agg #[.bool false,.int .i64 0,.int .i64 0,.int .i64 0,.int .u64 0,.int .u64 0,.int .u64 0,.int .u64 0,.int .u64 0,.bool false],.int .i64 0]) ?_ rfl ⟨by rw[HR.out.1,HR.out.2];rfl,_,by rw[HS.out];exact S5.out⟩
    simp[results,Tryz.f236,go_sem,z0,z1,z2,z3,z4,z5,z6,z7,z8,z9]
   | false =>
    have HS:=Ja (show XD S n false=S by simp[XD,HT.out,hb])
    have Z:=(S3.out.each (blk (q) (Zn Vn)) (by simp)).1
    obtain⟨z0,z1,z2,z3,z4,z5,z6,z7,z8,z9⟩:=(Uf (x:=Vn) Z).cells
    have zf:=frozenT (x:=Vn) Z
    have S5:=Ja ((S3.out.third.swap.putT Vn).drop.drop)
    clear Z S3 HT hb HG
    unfold Mw at S5
    generalize hw3:w2.alloc (ZR x)=w3 at *
    rw[hobW] at hw3
    simp only[Vn,EM] at z0 z1 z2 z3 z4 z5 z6 z7 z8 z9 S5
    go_wp2_with (rw[hw3];generalize w2.heap.size=q2 at *;clear hw3)
    refine bodyPost_ret (v:=.tuple #[.agg #[.bool false,.int .i64 0,.int .i64 0,.int .i64 0,.int .u64 0,.int .u64 0,.int .u64 0,.int .u64 0,.int .u64 0,.bool false],.int .i64 0]) ?_ rfl ⟨by rw[HR.out.1,HR.out.2];rfl,_,by rw[HS.out];exact S5.out⟩
    simp[results,Tryz.f236,go_sem,z0,z1,z2,z3,z4,z5,z6,z7,z8,z9]
theorem Jl8 (s:Sep w0 r w (VE p v S::R)) (n:Int) (m:Ms) (z:Bool) (hl:S.length<=1000) :
  Calls Tryz.prog 234 #[Je p,.int .i64 n,Jx3 m,.bool z] w fun e w'=>e=.returned (.tuple #[MO (Zj S n m),.int .i64 (J8 S n)])/\∃ v',Sep w0 r w' (VE p v' (XG S n m z)::R):=by
 have HL:=Ja hl
 have HG:=Ja s.goodEn
 have s1:=((s.box (Jd1 m)).box (Zn Vn)).third.swap
 have e9:(w.alloc (Jd1 m)).heap.size=w.heap.size+1:=by simp
 rw[e9] at s1
 have S1:=Ja s1
 clear s1 e9 s hl
 have hobM:Jd1 m=.cells #[.int .i64 m.l,.int .u64 m.a,.int .u64 m.b,.int .u64 m.c,.int .u64 m.d,.int .u64 m.g,.bool m.q] 224:=rfl
 have hobj:Zn Vn=.cells #[.bool false,.int .i64 0,.int .i64 0,.int .i64 0,.int .u64 0,.int .u64 0,.int .u64 0,.int .u64 0,.int .u64 0,.bool false] 258:=rfl
 have HC1:=Ja (FP S1.out n HL.out)
 rw[hobj] at HC1
 rw[hobM] at HC1
 unfold Jx3
 go_enter Tryz.func234,Tryz.ntmps234
 go_wp2_with fail
 refine Jqa HC1.out ?_
 rintro e w1 ⟨rfl,s1⟩
 rw[<- hobj] at s1
 rw[<- hobM] at s1
 have S2:=Ja s1
 clear s1 S1 HC1
 generalize w.heap.size=q at *
 cases ht:Ik S n with
 | true =>
  have HR:Hid (Zj S n m=Vn/\J8 S n=110/\XG S n m z=S):=⟨by simp[Zj,ht],by simp[J8,ht],by simp[XG,ht]⟩
  have Z:=(S2.out.each (blk (q+1) (Zn Vn)) (by simp)).1
  obtain⟨z0,z1,z2,z3,z4,z5,z6,z7,z8,z9⟩:=(Uf (x:=Vn) Z).cells
  have zf:=frozenT (x:=Vn) Z
  have S3:=Ja ((S2.out.third.third.putT Vn).drop.drop2)
  clear Z S2 ht
  unfold Mw at S3
  simp only[Vn,EM] at z0 z1 z2 z3 z4 z5 z6 z7 z8 z9 S3
  go_wp2
  refine bodyPost_ret (v:=.tuple #[.agg #[.bool false,.int .i64 0,.int .i64 0,.int .i64 0,.int .u64 0,.int .u64 0,.int .u64 0,.int .u64 0,.int .u64 0,.bool false],.int .i64 110]) ?_ rfl ⟨by rw[HR.out.1,HR.out.2.1];rfl,v,by rw[HR.out.2.2];exact S3.out⟩
  simp[results,Tryz.f234,go_sem,z0,z1,z2,z3,z4,z5,z6,z7,z8,z9]
 | false =>
  have HT:=Ja ht
  clear ht
  go_wp2_with fail
  refine Jqa (Uv S2.out false HL.out) ?_
  rintro e w2 ⟨rfl,v2,s2⟩
  have S3:=Ja (s2.box (ZR (Mu S false))).swap
  clear s2 S2
  cases hb:Jl S false with
  | true =>
   obtain⟨x,T,hS,hxs,hX,hT⟩:=Fz hb
   have HR:Hid (Zj S n m=⟨true,n,x.n,m⟩/\J8 S n=0/\XG S n m z=T):=by
    have ht:=HT.out
    refine⟨?_,by simp[J8,ht],?_⟩
    ·subst hS
     simp[Zj,ht,hxs]
    ·subst hS
     simp[XG,ht,hb]
   rw[hX,hT] at S3
   rw[hX]
   clear hb hS hxs hX hT HT
   obtain⟨d0,d1,d2,d3,d4,d5,d6,d7,d8⟩:=(Ug (x:=x) (S3.out.each (blk w2.heap.size (ZR x)) (by simp)).1).cells
   obtain⟨g0,g1,g2,g3,g4,g5,g6⟩:=(Jjf (m:=m) (S3.out.each (blk q (Jd1 m)) (by simp)).1).cells
   have Z:=(S3.out.each (blk (q+1) (Zn Vn)) (by simp)).1
   obtain⟨z0,z1,z2,z3,z4,z5,z6,z7,z8,z9⟩:=(Uf (x:=Vn) Z).cells
   have zf:=frozenT (x:=Vn) Z
   have S4:=Ja ((S3.out.fourth.putT ⟨true,n,x.n,m⟩).drop.drop2.drop2)
   clear Z S3
   unfold Mw at S4
   simp only[Vn,EM] at z0 z1 z2 z3 z4 z5 z6 z7 z8 z9
   simp only[Nat.zero_add] at *
   have hobW:ZR x=.cells #[.int .i64 x.n,.bool x.s,.int .i64 x.m.l,.int .u64 x.m.a,.int .u64 x.m.b,.int .u64 x.m.c,.int .u64 x.m.d,.int .u64 x.m.g,.bool x.m.q] 289:=rfl
   generalize hw3:w2.alloc (ZR x)=w3 at *
   rw[hobW] at hw3
   unfold Od
   go_wp2_with (rw[hw3];generalize w2.heap.size=q2 at *;clear hw3)
   refine bodyPost_ret (v:=.tuple #[MO ⟨true,n,x.n,m⟩,.int .i64 0]) ?_ rfl ⟨by rw[HR.out.1,HR.out.2.1],v2,by rw[HR.out.2.2];exact S4.out⟩
   simp[results,Tryz.f234,go_sem,MO,z0,z1,z2,z3,z4,z5,z6,z7,z8,z9]
  | false =>
   obtain⟨-,hT⟩:=Jbp hb
   rw[hT] at S3
   clear hT
   generalize Mu S false=x at *
   have HR:Hid (Zj S n m=Vn/\J8 S n=0):=by
    have ht:=HT.out
    refine⟨?_,by simp[J8,ht]⟩
    rcases S with _|⟨x,T⟩
    ·simp[Zj]
    ·have hx:(x.s == false)=false:=hb
     have hx':x.s = !false:=by cases h:x.s<;>rw[h] at hx<;>simp_all
     simp[Zj,hx']
   have hobW:ZR x=.cells #[.int .i64 x.n,.bool x.s,.int .i64 x.m.l,.int .u64 x.m.a,.int .u64 x.m.b,.int .u64 x.m.c,.int .u64 x.m.d,.int .u64 x.m.g,.bool x.m.q] 289:=rfl
   unfold Od
   cases z with
   | true =>
    have HS:=Ja (show XG S n m true=S++[⟨n,true,m⟩] by simp[XG,HT.out,hb])
    have HA:=Ja (VS HG.out ⟨n,true,m⟩ HT.out hb (by simp))
    clear HT hb HG
    generalize hw3:w2.alloc (ZR x)=w3 at *
    rw[hobW] at hw3
    have s5:=S3.out.drew
    obtain⟨a,k,c,w4,r4,c4,f4,s4⟩:=s5.moreW ⟨n,true,m⟩ HA.out HL.out (C:=#[.int .i64 n,.bool true,.int .i64 m.l,.int .u64 m.a,.int .u64 m.b,.int .u64 m.c,.int .u64 m.d,.int .u64 m.g,.bool m.q]) rfl
    have e8:w3.drew.heap.size=w3.heap.size:=rfl
    rw[e8] at r4
    have R4:=Ja r4
    have c3:=S3.out.cellP
    have c3a:=Jx (S3.out.cellP) (.cells #[.int .i64 n,.bool true,.int .i64 m.l,.int .u64 m.a,.int .u64 m.b,.int .u64 m.c,.int .u64 m.d,.int .u64 m.g,.bool m.q] 289)
    obtain⟨g0,g1,g2,g3,g4,g5,g6⟩:=(Jjf (m:=m) (S3.out.each (blk q (Jd1 m)) (by simp)).1).cells
    have Z:=(s4.each (blk (q+1) (Zn Vn)) (by simp)).1
    obtain⟨z0,z1,z2,z3,z4,z5,z6,z7,z8,z9⟩:=(Uf (x:=Vn) Z).cells
    have zf:=frozenT (x:=Vn) Z
    have S5:=Ja ((s4.fourth.putT Vn).drop.drop2.drop2)
    obtain⟨av,cv,rfl,-⟩:=S3.out.slicePEn
    generalize S.length=nS at *
    generalize hw5:w4.setCell ⟨p,0,none⟩ (.slice a k c)=w5 at *
    clear Z S3 s4 s5 r4 e8 HA
    unfold Mw at S5
    simp only[Vn,EM] at z0 z1 z2 z3 z4 z5 z6 z7 z8 z9 S5
    go_wp2_with (rw[hw3];generalize w2.heap.size=q2 at *;clear hw3)
    go_region_law (refine Jy rfl (.tmp 32) (.tmp 36) 286 286 rfl (.slice av nS cv) (.slice (some ⟨w3.heap.size,0,none⟩) 1 1) _ _ (by simp[Act.eval]) (by simp[Act.eval]) R4.out ?_)
    all_goals
     (try rw[hw5])
     clear hw5
     go_wp2
     refine bodyPost_ret (v:=.tuple #[.agg #[.bool false,.int .i64 0,.int .i64 0,.int .i64 0,.int .u64 0,.int .u64 0,.int .u64 0,.int .u64 0,.int .u64 0,.bool false],.int .i64 0]) ?_ rfl ⟨by rw[HR.out.1,HR.out.2];rfl,_,by rw[HS.out];exact S5.out⟩
     simp[results,Tryz.f234,go_sem,z0,z1,z2,z3,z4,z5,z6,z7,z8,z9]
   | false =>
    have HS:=Ja (show XG S n m false=S by simp[XG,HT.out,hb])
    have Z:=(S3.out.each (blk (q+1) (Zn Vn)) (by simp)).1
    obtain⟨z0,z1,z2,z3,z4,z5,z6,z7,z8,z9⟩:=(Uf (x:=Vn) Z).cells
    have zf:=frozenT (x:=Vn) Z
    have S5:=Ja ((S3.out.fourth.putT Vn).drop.drop2.drop2)
    clear Z S3 HT hb HG
    unfold Mw at S5
    generalize hw3:w2.alloc (ZR x)=w3 at *
    rw[hobW] at hw3
    simp only[Vn,EM] at z0 z1 z2 z3 z4 z5 z6 z7 z8 z9 S5
    go_wp2_with (rw[hw3];generalize w2.heap.size=q2 at *;clear hw3)
    refine bodyPost_ret (v:=.tuple #[.agg #[.bool false,.int .i64 0,.int .i64 0,.int .i64 0,.int .u64 0,.int .u64 0,.int .u64 0,.int .u64 0,.int .u64 0,.bool false],.int .i64 0]) ?_ rfl ⟨by rw[HR.out.1,HR.out.2];rfl,_,by rw[HS.out];exact S5.out⟩
    simp[results,Tryz.f234,go_sem,z0,z1,z2,z3,z4,z5,z6,z7,z8,z9]
theorem Jpp (s:Sep w0 r w (VE p v S::R)) (n:Int) (m:Ms) (z:Bool) (hl:S.length<=1000) {x:Mt} {e0:Int} {T:St} (hx:Zj S n m=x) (he:J8 S n=e0) (hT:XG S n m z=T) :
  Calls Tryz.prog 234 #[Je p,.int .i64 n,.agg #[.int .i64 m.l,.int .u64 m.a,.int .u64 m.b,.int .u64 m.c,.int .u64 m.d,.int .u64 m.g,.bool m.q],.bool z] w fun e w'=>e=.returned (.tuple #[.agg #[.bool x.i,.int .i64 x.f,.int .i64 x.t,.int .i64 x.m.l,.int .u64 x.m.a,.int .u64 x.m.b,.int .u64 x.m.c,.int .u64 x.m.d,.int .u64 x.m.g,.bool x.m.q],.int .i64 e0])/\∃ v',Sep w0 r w' (VE p v' T::R):=by
 subst hx he hT
 exact Jl8 s n m z hl
theorem Jpe (s:Sep w0 r w (VE p v S::R)) (n:Int) (z:Bool) (hl:S.length<=1000) {x:Mt} {e0:Int} {T:St} (hx:Zi S n=x) (he:J8 S n=e0) (hT:XD S n z=T) :
  Calls Tryz.prog 236 #[Je p,.int .i64 n,.bool z] w fun e w'=>e=.returned (.tuple #[.agg #[.bool x.i,.int .i64 x.f,.int .i64 x.t,.int .i64 x.m.l,.int .u64 x.m.a,.int .u64 x.m.b,.int .u64 x.m.c,.int .u64 x.m.d,.int .u64 x.m.g,.bool x.m.q],.int .i64 e0])/\∃ v',Sep w0 r w' (VE p v' T::R):=by
 subst hx he hT
 exact Jlw s n z hl
theorem Jcu (s:Sep w0 r w (VE p v S::R)) (n:Int) (hl:S.length<=1000) {b:Bool} {T:St} (hb:Ik S n=b) (hT:Ud (EL n) S=T) :
  Calls Tryz.prog 315 #[Je p,.int .i64 n] w fun e w'=>e=.returned (.bool b)/\∃ v',Sep w0 r w' (VE p v' T::R):=by
 subst hb hT
 exact U3 s n hl
end
end En
end Go.Proofs.YtbfjjpdnoalojaaGreatDoor
