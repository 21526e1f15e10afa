/- Below: KNo; no condition. -/
import Derived.Test.YtbfjjpdnoalojaaGreatDoorPa1
import Derived.Test.YtbfjjpdnoalojaaGreatDoorPa3
set_option maxHeartbeats 16000000
set_option maxRecDepth 100000
namespace Go.Proofs.YtbfjjpdnoalojaaGreatDoor
namespace No
open Go.RowKit Go.Deep Go.Shelf
def cI (n:Int):List Value:=[.int .i64 n]
def Ui:El Int:=⟨3,22,1,8,cI⟩
theorem OP:(Tryz.prog.info? 3).map (fun i=>(i.zero,i.size,i.bytes))=some (some (.int .i64 0),1,8):=by kernel_rfl
theorem okI:El.Ok Ui:=⟨Tryz.underlying22,ZA OP rfl,by decide,by decide,fun _=>rfl,by simp[Ui,cI,Value.oneCell']⟩
abbrev Xa (v:Value) (L:List Int):Th:=Jv Ui v L
abbrev RowI (w:World) (v:Value) (L:List Int):Prop:=Row Ui w v L
theorem RowI.cell {w:World} {g cap n:Nat} {L:List Int} (h:RowI w (.slice (some ⟨g,0,none⟩) n cap) L) {i:Nat} {x:Int} (hi:L[i]? = some x):w.cell? ⟨g,i,none⟩=some (.int .i64 x):=by
 have:=Row.cell okI h hi (j:=0) (c:=.int .i64 x) rfl
 simpa [Ui] using this
def Ee (S:Ns) (v:Value):Obj:=.cells #[.bool S.b,.int .u64 S.w,v] 293 (0,0)
structure NtH (p:Nat) (v:Value) (S:Ns) (w:World):Prop where
 head:w.heap[p]? = some (Ee S v)
 row:RowI w v S.l
 ne:v.ownBlock≠some p
 goodNo:Good S
def Ed (p:Nat) (v:Value) (S:Ns):Th where
 F:=fun x=>x=p\/v.ownBlock=some x
 H:=NtH p v S
 lt:=fun w h x hx=>by
  rcases hx with rfl|hx
  ·exact(Jqf.1 h.head).1
  ·exact h.row.lt hx
 keep:=fun _ _ h k=>⟨(k p (.inl rfl)).trans h.head,h.row.keep fun x hx=>k x (.inr hx),h.ne,h.goodNo⟩
section
variable {w0 w w':World} {r p:Nat} {v:Value} {S:Ns} {R:List Th}
theorem NtH.cells (h:NtH p v S w):w.cell? ⟨p,0,none⟩=some (.bool S.b)/\w.cell? ⟨p,1,none⟩=some (.int .u64 S.w)/\w.cell? ⟨p,2,none⟩=some v:=by
 have:=h.head
 unfold Ee at this
 refine⟨?_,?_,?_⟩<;>simp[World.cell?,this]
theorem _root_.Go.Proofs.YtbfjjpdnoalojaaGreatDoor.Sep.goodNo (h:Sep w0 r w (Ed p v S::R)):Good S:=NtH.goodNo h.head
theorem _root_.Go.Proofs.YtbfjjpdnoalojaaGreatDoor.Sep.cellsP (h:Sep w0 r w (Ed p v S::R)):w.cell? ⟨p,0,none⟩=some (.bool S.b)/\w.cell? ⟨p,1,none⟩=some (.int .u64 S.w)/\w.cell? ⟨p,2,none⟩=some v:=NtH.cells h.head
theorem _root_.Go.Proofs.YtbfjjpdnoalojaaGreatDoor.Sep.slicePNo (h:Sep w0 r w (Ed p v S::R)):∃ ao cap,v=.slice ao S.l.length cap/\∀ i,i<S.l.length->∃ g,ao=some ⟨g,0,none⟩:=by
 obtain⟨ao,cap,e,_,_,hg,_⟩:=(NtH.row h.head).slice
 exact⟨ao,cap,e,hg⟩
theorem _root_.Go.Proofs.YtbfjjpdnoalojaaGreatDoor.Sep.regrowNo {v':Value} {T:Ns} (h:Sep w0 r w (Ed p v S::R)) (g5:w.grownBy w' v.ownBlock) (row:RowI w' v' T.l) (loc:v'.ownBlock=v.ownBlock\/∀ x,v'.ownBlock=some x->w.heap.size<=x) (g:Good T) (eb:T.b=S.b) (ew:T.w=S.w):Sep w0 r (w'.setCell ⟨p,2,none⟩ v') (Ed p v' T::R):=by
 have h2:NtH p v S w:=h.head
 have own':∀ x,v'.ownBlock=some x->v.ownBlock=some x\/w.heap.size<=x:=fun x hx=>loc.elim (fun l=>.inl (l ▸ hx)) fun l=>.inr (l x hx)
 have hp:p<w.heap.size:=(Jqf.1 h2.head).1
 have ne:v'.ownBlock≠some p:=fun e=>(own' p e).elim h2.ne fun h1=>by omega
 have hd:w'.heap[p]? = some (Ee S v):=(g5.block p hp fun e=>h2.ne e.symm).trans h2.head
 unfold Ee at hd
 refine h.turn (t':=Ed p v' T) ⟨by rw[setBlock hd v'];simp[Ee,eb,ew],row.keep fun x hx=>blk_setCell_other _ _ _ _ fun e=>ne (by rw[hx];exact congrArg some e),ne,g⟩ ((Turn.grown (F:=(Ed p v S).F) g5 fun k hk=>.inl (.inr hk)).trans (Turn.setCell (Ed p v S).F w' ⟨p,2,none⟩ v' (.inl rfl)) fun x hx=>.inl hx) fun x hx=>?_
 rcases hx with rfl|hx
 ·exact .inl (.inl rfl)
 ·exact(own' x hx).imp .inr id
theorem _root_.Go.Proofs.YtbfjjpdnoalojaaGreatDoor.Sep.nt (h:Sep w0 r w (Xa v S.l::R)) (g:Good S):Sep w0 r (w.alloc (Ee S v)) (Ed w.heap.size v S::R):=by
 have h1:=h.box (Ee S v)
 have row:RowI (w.alloc (Ee S v)) v S.l:=(h1.each (Xa v S.l) (by simp)).1
 obtain⟨a1,a2⟩:=Jqq.1 h1.apart
 obtain⟨a3,a4⟩:=Jqq.1 a2
 refine⟨h1.low,h1.size,fun t ht=>?_,Jqq.2 ⟨fun b hb x hx hy=>?_,a4⟩⟩
 ·rcases List.mem_cons.1 ht with rfl|ht
  ·refine⟨⟨h1.head,row,fun e=>a1 (Xa v S.l) (by simp) _ rfl e,g⟩,fun x hx=>?_⟩
   rcases hx with rfl|hx
   ·exact h.size
   ·exact(h1.each (Xa v S.l) (by simp)).2 x hx
  ·exact h1.each t (by simp[ht])
 ·rcases hx with rfl|hx
  ·exact a1 b (by simp[hb]) _ rfl hy
  ·exact a3 b hb x hx hy
end
def EK (p:Int->Bool) (L:List Int):Int:=if L.findIdx p<L.length then ((L.findIdx p:Nat):Int) else -1
theorem Ja4 {p:Int->Bool} {L:List Int} {k:Nat} {x:Int} (hk:L[k]? = some x) (h:p x=true) (ha:∀ j y,j<k->L[j]? = some y->p y=false):EK p L=(k:Int):=by
 obtain⟨hl,e⟩:=Jqb.1 hk
 have:L.findIdx p=k:=by
  rw[List.findIdx_eq hl]
  exact⟨by rw[e];exact h,fun j hj=>ha j _ hj (Jqc (by omega))⟩
 unfold EK
 rw[this,if_pos hl]
theorem Fo {p:Int->Bool} {L:List Int} (ha:∀ (j:Nat) (y:Int),L[j]? = some y->p y=false):EK p L = -1:=by
 unfold EK
 rw[if_neg]
 rw[List.findIdx_lt_length]
 rintro⟨x,hx,hn⟩
 obtain⟨j,hj,e⟩:=List.mem_iff_getElem.1 hx
 have:=ha j x (by rw[List.getElem?_eq_getElem hj,e])
 rw[hn] at this
 cases this
theorem XW (v:Value) (L:List Int) (n:Int) (w:World) (h:RowI w v L) (hl:L.length<=1000) :
  Calls Tryz.prog 341 #[v,.int .i64 n] w fun e w'=>e=.returned (.int .i64 (EK (· == n) L))/\w'=w:=by
 obtain⟨ao,cap,rfl,-,-,hg,-⟩:=h.slice
 have HC:Hid (∀ k x,L[k]? = some x->∃ g,ao=some ⟨g,0,none⟩/\w.cell? ⟨g,k,none⟩=some (.int .i64 x)):=fun k x hx=>by
  obtain⟨g,rfl⟩:=hg k (Jqb.1 hx).1
  exact⟨g,rfl,RowI.cell h hx⟩
 clear h hg
 generalize hm:L.length=m at *
 go_enter Tryz.func341,Tryz.ntmps341
 go_wp2
 go_loop [5,8] (fun _ s8=>∃ k:Nat,k<=m/\s8=.int .i64 k/\Hid (∀ j y,j<k->L[j]? = some y->(y == n)=false)) (fun _ s8=>m - (intOf s8).toNat)
 case atStart=>exact⟨0,Jqp _,rfl,fun j y hj=>by omega⟩
 case round =>
  obtain⟨k,hk,rfl,HJ⟩:=hrel
  by_cases hlt:k<m
  ·have hkl:k<L.length:=by omega
   obtain⟨g,rfl,hx⟩:=HC.out k _ (Jqc hkl)
   have HX:=Ja (Jqc hkl)
   generalize L[k]=x at *
   have hltz:(k:Int)<(m:Int):=by omega
   by_cases hxn:n=x
   ·subst hxn
    have HR:=Ja (Ja4 (p:=(· == n)) HX.out (by simp) HJ.out)
    go_wp2
    go_ret
    exact⟨Jm HR.out.symm,rfl⟩
   ·have hne:(n == x)=false:=by simpa using hxn
    have HN:Hid ((x == n)=false):=by show(x == n)=false;simpa using fun e=>hxn e.symm
    clear hxn
    go_wp2
    go_round
    case rel =>
     refine⟨k+1,by omega,by go_num,fun j y hj hy=>?_⟩
     by_cases e:j=k
     ·subst e
      rw[HX.out] at hy
      cases hy
      exact HN.out
     ·exact HJ.out j y (by omega) hy
    case measure=>simp[intOf];omega
  ·have hltz:¬ (k:Int)<(m:Int):=by omega
   have HR:=Ja (Fo (p:=(· == n)) (L:=L) fun j y hy=>HJ.out j y (by have:=(Jqb.1 hy).1;omega) hy)
   clear hlt
   go_wp2
   go_ret
   exact⟨Jm HR.out.symm,rfl⟩
def Clo (F:Nat->Prop) (w:World) (c:Value) (p:Int->Bool):Prop:=∃ g lb,c=.func (.func g) #[] lb/\(∀ args w,(callFunc g args).run Tryz.prog w=.ok (.enter g args) w)/\∀ W x,Turn F w W->Calls Tryz.prog g (#[.int .i64 x]++lb) W fun e w'=>e=.returned (.bool (p x))/\w'=W
theorem Jte (q:Nat) (n x:Int) (w:World) (h:Var w q (.int .i64 n)) :
  Calls Tryz.prog 360 #[.int .i64 x,Je q] w fun e w'=>e=.returned (.bool (x == n))/\w'=w:=by
 have c0:=h.2
 clear h
 go_enter Tryz.func360,Tryz.ntmps360
 go_wp2
 go_ret
 exact⟨rfl,rfl⟩
theorem Jdg (F:Nat->Prop) (c:Value) (p:Int->Bool) (v:Value) (L:List Int) (w:World) (hp:Clo F w c p) (h:RowI w v L) (hl:L.length<=1000) :
  Calls Tryz.prog 193 #[v,c] w fun e w'=>e=.returned (.int .i64 (EK p L))/\w'=w:=by
 obtain⟨g,lb,rfl,eg,hc⟩:=hp
 obtain⟨ao,cap,rfl,-,-,hg,-⟩:=h.slice
 have HC:Hid (∀ k x,L[k]? = some x->∃ g,ao=some ⟨g,0,none⟩/\w.cell? ⟨g,k,none⟩=some (.int .i64 x)):=fun k x hx=>by
  obtain⟨g,rfl⟩:=hg k (Jqb.1 hx).1
  exact⟨g,rfl,RowI.cell h hx⟩
 have HP:=Ja hc
 clear h hg hc
 generalize hm:L.length=m at *
 go_enter Tryz.func193,Tryz.ntmps193
 go_wp2
 go_loop [5,8] (fun _ s8=>∃ k:Nat,k<=m/\s8=.int .i64 k/\Hid (∀ j y,j<k->L[j]? = some y->p y=false)) (fun _ s8=>m - (intOf s8).toNat)
 case atStart=>exact⟨0,Jqp _,rfl,fun j y hj=>by omega⟩
 case round =>
  obtain⟨k,hk,rfl,HJ⟩:=hrel
  by_cases hlt:k<m
  ·have hkl:k<L.length:=by omega
   obtain⟨b,rfl,hx⟩:=HC.out k _ (Jqc hkl)
   have HX:=Ja (Jqc hkl)
   generalize L[k]=x at *
   have hltz:(k:Int)<(m:Int):=by omega
   have hcall:=HP.out w x (Turn.refl _ _)
   cases hq:p x with
   | true =>
    rw[hq] at hcall
    have HR:=Ja (Ja4 HX.out hq HJ.out)
    clear hq
    go_wp2_with (go_at_fn g;refine hcall.mono ?_;rintro e w' ⟨rfl,rfl⟩)
    go_ret
    exact⟨Jm HR.out.symm,rfl⟩
   | false =>
    rw[hq] at hcall
    have HQ:=Ja hq
    clear hq
    go_wp2_with (go_at_fn g;refine hcall.mono ?_;rintro e w' ⟨rfl,rfl⟩)
    go_round
    case rel =>
     refine⟨k+1,by omega,by go_num,fun j y hj hy=>?_⟩
     by_cases e:j=k
     ·subst e
      rw[HX.out] at hy
      cases hy
      exact HQ.out
     ·exact HJ.out j y (by omega) hy
    case measure=>simp[intOf];omega
  ·have hltz:¬ (k:Int)<(m:Int):=by omega
   have HR:=Ja (Fo (p:=p) (L:=L) fun j y hy=>HJ.out j y (by have:=(Jqb.1 hy).1;omega) hy)
   clear hlt
   go_wp2
   go_ret
   exact⟨Jm HR.out.symm,rfl⟩
def zI (n:Nat):List Value:=List.replicate n (.int .i64 0)
theorem Jix (n:Nat):(Builtin.zeroCells (Value.int .i64 0).cells n).toList=zI n:=by
 rw[show(Value.int .i64 0).cells=#[Value.int .i64 0] from rfl]
 simp[Builtin.zeroCells,zI]
 apply List.ext_getElem
 ·simp
 ·intro i h1 h2
  simp[Nat.mod_one]
theorem Jcv {w:World} (ty:TypeId) {g cap i:Nat} {M:List Int} (c:Nat) (h:RowI w (.slice (some ⟨g,0,none⟩) M.length cap) M) (hi:i<M.length) :
  ∃ C:Array Value,(Builtin.clear_ #[22] ty #[.slice (some ⟨g,i,none⟩) (M.length - i) c]).run Tryz.prog w=.ok (.tuple #[]) (w.setRow g C)/\RowI (w.setRow g C) (.slice (some ⟨g,0,none⟩) i cap) (M.take i):=by
 obtain⟨h0,⟨e,_⟩|⟨g',cap',cur,e,_,hg,h1,h2,h3,h4⟩⟩:=h
 ·cases e
 ·cases e
  have k1:Ui.k=1:=rfl
  rw[k1,Nat.mul_one] at h3 h4 h0
  have hst:=run_storeCells_at Tryz.prog g i 3 (zI (M.length - i)) 0 cur w hg (by simp[zI];omega) (by simp[zI,Value.oneCell'])
  simp only[Nat.add_zero] at hst
  obtain⟨m,hm⟩:∃ m,M.length - i=m+1:=⟨M.length - i - 1,by omega⟩
  rw[hm] at hst ⊢
  have hzc:=Jix (m+1)
  have hv:=Tryz.zeroValue3
  refine⟨_,by simp[Builtin.clear_,run_underlying Tryz.underlying22,hv,hzc,hst];rfl,?_⟩
  have hh:=setRow_heap w g cur (cur.toList.take i++(zI (m+1)++cur.toList.drop (i+(zI (m+1)).length))).toArray _ _ hg
  have hzl:(zI (m+1)).length=m+1:=by simp[zI]
  have ht:(M.take i).length=i:=by rw[List.length_take];omega
  refine⟨by rw[ht];exact(Jj okI.len _).trans (by rw[ht]),.inr ⟨g,cap,_,by rw[ht],Jqp _,hh,by rw[ht];omega,h2,?_,?_⟩⟩
  ·rw[k1,Nat.mul_one,List.size_toArray,List.length_append,List.length_append,List.length_take,List.length_drop,hzl,Array.length_toList]
   omega
  ·rw[k1,Nat.mul_one,ht,AI okI.len,k1,Nat.mul_one,<- h4,List.take_take,Nat.min_eq_left (by omega)]
   show List.take i (cur.toList.take i++_)=_
   have hl:(cur.toList.take i).length=i:=by rw[List.length_take,Array.length_toList];omega
   rw[List.take_append_of_le_length (by omega),List.take_take,Nat.min_self]
theorem Jme {M:List Int} {i:Nat} (x:Int) (h:i<M.length):(M.set i x).take (i+1)=M.take i++[x]:=by
 rw[List.set_eq_take_append_cons_drop,if_pos h,List.take_append]
 have:(M.take i).length=i:=by rw[List.length_take];omega
 rw[this,List.take_of_length_le (by omega)]
 have e:i+1 - i=1:=by omega
 rw[e]
 rfl
theorem Jma {M:List Int} {i j:Nat} (x:Int) (h:i<j):(M.set i x).drop j=M.drop j:=by
 rw[List.drop_set,if_pos h]
structure Kept (p:Int->Bool) (L M:List Int) (i j:Nat):Prop where
 len:M.length=L.length
 lt:i<j
 le:j<=L.length
 head:M.take i=(L.take j).filter (fun x => !p x)
 rest:M.drop j=L.drop j
theorem Kept.first {p:Int->Bool} {L:List Int} {i:Nat} {x:Int} (hi:L[i]? = some x) (hx:p x=true) (ha:∀ j y,j<i->L[j]? = some y->p y=false):Kept p L L i (i+1):=by
 have hlt:=(Jqb.1 hi).1
 refine⟨rfl,by omega,by omega,?_,rfl⟩
 rw[List.take_add_one,hi,List.filter_append]
 simp[hx]
 symm
 rw[List.filter_eq_self]
 intro y hy
 obtain⟨j,hj,e⟩:=List.mem_iff_getElem.1 hy
 rw[List.length_take] at hj
 rw[List.getElem_take] at e
 have:=ha j y (by omega) (by rw[List.getElem?_eq_getElem (by omega),e])
 simp[this]
theorem Kept.at {p:Int->Bool} {L M:List Int} {i j:Nat} {x:Int} (h:Kept p L M i j) (hj:L[j]? = some x):M[j]? = some x:=by
 have e:=congrArg (fun l=>l[0]?) h.rest
 simp only[List.getElem?_drop,Nat.add_zero] at e
 rw[e,hj]
theorem Kept.skip {p:Int->Bool} {L M:List Int} {i j:Nat} {x:Int} (h:Kept p L M i j) (hj:L[j]? = some x) (hp:p x=true):Kept p L M i (j+1):=by
 have hl:=(Jqb.1 hj).1
 refine⟨h.len,by have:=h.lt;omega,by omega,?_,?_⟩
 ·rw[List.take_add_one,hj,List.filter_append,h.head]
  simp[hp]
 ·have:=congrArg (List.drop 1) h.rest
  simpa [List.drop_drop] using this
theorem Kept.put {p:Int->Bool} {L M:List Int} {i j:Nat} {x:Int} (h:Kept p L M i j) (hj:L[j]? = some x) (hp:p x=false):Kept p L (M.set i x) (i+1) (j+1):=by
 have hl:=(Jqb.1 hj).1
 have hlt:=h.lt
 have hlen:=h.len
 refine⟨by rw[List.length_set,hlen],by omega,by omega,?_,?_⟩
 ·rw[Jme _ (by omega),h.head,List.take_add_one,hj,List.filter_append]
  simp[hp]
 ·rw[Jma _ (by omega)]
  have:=congrArg (List.drop 1) h.rest
  simpa [List.drop_drop] using this
theorem Jdf (p:Int->Bool) (L:List Int):(EK p L = -1/\L.filter (fun x => !p x)=L)\/∃ i:Nat,EK p L=(i:Int)/\i<L.length/\Kept p L L i (i+1):=by
 by_cases h:L.findIdx p<L.length
 ·right
  refine⟨L.findIdx p,by unfold EK;rw[if_pos h],h,Kept.first (Jqc h) (List.findIdx_getElem (w:=h)) fun j y hj hy=>?_⟩
  have:=List.not_of_lt_findIdx hj
  obtain⟨hj2,e⟩:=Jqb.1 hy
  rw[e] at this
  simpa using this
 ·left
  refine⟨by unfold EK;rw[if_neg h],?_⟩
  rw[List.filter_eq_self]
  intro x hx
  rw[List.findIdx_lt_length] at h
  cases hp:p x
  ·rfl
  ·exact absurd ⟨x,hx,hp⟩ h
theorem Jde {w w':World} {g:Nat} (h:Turn (fun k=>k=g) w w'):w.grownBy w' (some g):=⟨h.os,h.tape,h.output,h.size,fun k hk hn=>h.block k hk fun e=>hn (by rw[e])⟩
theorem Jae (c:Value) (p:Int->Bool) (v:Value) (L:List Int) (w:World) (hp:Clo (fun k=>v.ownBlock=some k) w c p) (h:RowI w v L) (hl:L.length<=1000) :
  Calls Tryz.prog 359 #[v,c] w fun e w'=>∃ v',e=.returned v'/\RowI w' v' (L.filter fun x => !p x)/\w.grownBy w' v.ownBlock/\v'.ownBlock=v.ownBlock:=by
 have HI:=Ja (Jdg _ c p v L w hp h hl)
 obtain⟨g,lb,rfl,eg,hc⟩:=hp
 obtain⟨ao,cap,rfl,hcn,hc63,hg,-⟩:=h.slice
 rcases Jdf p L with ⟨e1,e2⟩|⟨i,e1,hi,kp⟩
 ·rw[e1] at HI
  rw[e2]
  have HR:=Ja h
  clear h hg hc e1 e2
  generalize L.length=n at *
  go_enter Tryz.func359,Tryz.ntmps359
  go_wp2_with (go_at_call 193;refine Jqa HI.out ?_;rintro e w' ⟨rfl,rfl⟩)
  go_ret
  exact⟨_,rfl,HR.out,⟨rfl,rfl,rfl,Jqd _,fun _ _ _=>rfl⟩,rfl⟩
 ·rw[e1] at HI
  obtain⟨b,rfl⟩:=hg i hi
  have HR:=Ja h
  have HP:=Ja hc
  have HK:=Ja kp
  have hi1:¬ ((i:Int) = -1):=by omega
  have hi2:((i:Int) == -1)=false:=by simp
  clear h hg hc e1 kp
  generalize hn:L.length=n at *
  have HN:=Ja hn
  clear hn
  go_enter Tryz.func359,Tryz.ntmps359
  go_wp2_with (go_at_call 193;refine Jqa HI.out ?_;rintro e w' ⟨rfl,hw⟩;obtain rfl:=hw.symm)
  go_loopw [5,6,7] (fun s5 s6 _ wr=>∃ (i j:Nat) (M:List Int),s5=.int .i64 i/\s6=.int .i64 j/\i<j/\j<=n/\Hid (Kept p L M i j/\RowI wr (.slice (some ⟨b,0,none⟩) n cap) M/\Turn (fun k=>k=b) w wr)) (fun _ s6 _ _=>n - (intOf s6).toNat)
  case atStart=>exact⟨i,i+1,L,rfl,by go_num,by omega,by omega,HK.out,HR.out,Turn.refl _ _⟩
  case round =>
   obtain⟨i,j,M,rfl,rfl,hij,hjn,HM⟩:=hrel
   clear HI HR HK hi hi1 hi2
   by_cases hlt:j<n
   ·have hltz:(j:Int)<(n:Int):=by omega
    have hjL:j<L.length:=by have:=HN.out;omega
    obtain⟨x,hx⟩:∃ x,L[j]? = some x:=⟨_,Jqc hjL⟩
    have HX:=Ja hx
    have c0:=RowI.cell HM.out.2.1 (HM.out.1.at hx)
    clear hjL hx
    have hin:i<n:=by omega
    have hinz:(i:Int)<(n:Int):=by omega
    have hiM:i<M.length:=by have:=HM.out.1.len;have:=HN.out;omega
    obtain⟨y,hy⟩:∃ y,M[i]? = some y:=⟨_,Jqc hiM⟩
    have c1:=RowI.cell HM.out.2.1 hy
    have f1:=Row.frozen HM.out.2.1 i
    have hcall:=HP.out wr x (HM.out.2.2.mono fun k hk=>by subst hk;rfl)
    have HY:=Ja hy
    clear hy hiM hlt
    cases hq:p x with
    | true =>
     have HQ:=Ja hq
     rw[hq] at hcall
     clear hq
     have HM2:=Ja (And.intro (HM.out.1.skip HX.out HQ.out) HM.out.2)
     go_wp2_with (go_at_fn g;refine hcall.mono ?_;rintro e w' ⟨rfl,rfl⟩)
     go_roundw
     case rel=>exact⟨i,j+1,M,rfl,by go_num,by omega,by omega,HM2.out⟩
     case measure=>simp[intOf];omega
    | false =>
     have HQ:=Ja hq
     rw[hq] at hcall
     clear hq
     have hrow:=Row.set okI HM.out.2.1 HY.out (j:=0) (c:=.int .i64 x) (y:=x) (by decide) rfl
     rw[show Ui.k=1 from rfl,Nat.mul_one,Nat.add_zero] at hrow
     have HM2:Hid (Kept p L (M.set i x) (i+1) (j+1)/\RowI (wr.setCell ⟨b,i,none⟩ (.int .i64 x)) (.slice (some ⟨b,0,none⟩) n cap) (M.set i x)/\Turn (fun k=>k=b) w (wr.setCell ⟨b,i,none⟩ (.int .i64 x))):=⟨HM.out.1.put HX.out HQ.out,hrow,HM.out.2.2.trans (Turn.setCell (fun k=>k=b) wr ⟨b,i,none⟩ _ rfl) fun x hx=>.inl hx⟩
     clear hrow
     go_wp2_with (go_at_fn g;refine hcall.mono ?_;rintro e w' ⟨rfl,rfl⟩)
     go_roundw
     case rel=>exact⟨i+1,j+1,_,by go_num,by go_num,by omega,by omega,HM2.out⟩
     case measure=>simp[intOf];omega
   ·have hltz:¬ (j:Int)<(n:Int):=by omega
    have hjL:j=L.length:=by have:=HN.out;have:=HM.out.1.le;omega
    have hlen:M.length=n:=by have:=HM.out.1.len;have:=HN.out;omega
    have hrow:=HM.out.2.1
    rw[<- hlen] at hrow
    have hcl:=fun ty c=>Jcv ty c hrow (i:=i) (by omega)
    have hd:=HM.out.1.head
    rw[hjL,List.take_length] at hd
    have HD:=Ja hd
    have hin:i<n:=by omega
    have hinz:(i:Int)<=(n:Int):=by omega
    have hic:i<=cap:=by omega
    have hic2:¬ (cap=i):=by omega
    rw[hlen] at hcl
    obtain⟨C,hrun,hr2⟩:=hcl 0 (cap - i)
    have HF:Hid (RowI (wr.setRow b C) (.slice (some ⟨b,0,none⟩) i cap) (M.take i)/\w.grownBy (wr.setRow b C) (some b)):=⟨hr2,Jde (HM.out.2.2.trans (Turn.setRow (fun k=>k=b) wr b C rfl) fun x hx=>.inl hx)⟩
    clear hr2 hcl hrow hd hjL hlen hlt
    go_wp2
    go_ret
    exact⟨_,rfl,by rw[<- HD.out];exact HF.out.1,HF.out.2,rfl⟩
section
variable {w0 w:World} {r p:Nat} {v:Value} {S:Ns} {R:List Th}
theorem V8 (s:Sep w0 r w R):Calls Tryz.prog 304 #[] w fun e w'=>∃ p v,e=.returned (Je p)/\Sep w0 r w' (Ed p v ns0::R):=by
 have S1:=Ja (Sep.nt (S:=ns0) (s.nil (E:=Ui)) Jdd)
 clear s
 unfold Ee at S1
 simp only[ns0] at S1
 go_enter Tryz.func304,Tryz.ntmps304
 go_wp2
 go_ret
 exact⟨_,_,rfl,S1.out⟩
theorem U3 (s:Sep w0 r w (Ed p v S::R)) (n:Int) (hl:S.l.length<=1000) :
  Calls Tryz.prog 316 #[Je p,.int .i64 n] w fun e w'=>e=.returned (.bool (Ik S n))/\∃ v',Sep w0 r w' (Ed p v' (G4 S n)::R):=by
 have hmf:=Jhm
 have b1:=Jb w (.cells #[.int .i64 n] 3)
 have s1:=s.below b1
 have HV:=Ja (Var.new w (.int .i64 n) 3)
 obtain⟨-,-,c2⟩:=s1.cellsP
 have hd:=Jlm S.l n
 have hne:v.ownBlock≠some w.heap.size:=fun e=>by
  have:=Row.lt (NtH.row s.head) e
  omega
 have HC:=Ja (Jae (.func (.func 360) #[] #[Je w.heap.size]) (· == n) v S.l _ ⟨_,_,rfl,enters_of Tryz.func360 (by kernel_rfl) rfl,fun W x k=>Jte w.heap.size n x W ⟨Jrb HV.out.1 k.size,by
  have:=k.block w.heap.size HV.out.1 hne
  have h2:=HV.out.2
  simp only[World.cell?] at *
  rw[this]
  exact h2⟩⟩ (NtH.row s1.head) hl)
 have S1:=Ja s1
 have HE:Hid ((S.l.filter fun x => !(x == n))=Jhq S.l n):=rfl
 have hth:Ik S n=S.l.contains n:=rfl
 obtain⟨ao,cap,rfl,-⟩:=s1.slicePNo
 rw[hth]
 clear s s1 hne HV b1 hth
 generalize S.l.contains n=β at *
 generalize hN:S.l.length=m at *
 clear hN
 go_enter Tryz.func316,Tryz.ntmps316
 go_wp2_with fail
 refine Jqa HC.out ?_
 rintro e w2 ⟨v2,rfl,row2,g2,o2⟩
 rw[HE.out] at row2
 obtain⟨a2,k2,rfl,-⟩:=Row.slice row2
 have f2:w2.frozen? ⟨p,2,none⟩=false:=by
  have h1:NtH p _ S _:=S1.out.head
  have hp:=(Jqf.1 h1.head).1
  have:=(g2.block p hp fun e=>h1.ne e.symm).trans h1.head
  unfold Ee at this
  simp[World.frozen?,this]
 have c3:w2.cell? ⟨p,2,none⟩=some (.slice ao m cap):=by
  have h1:NtH p _ S _:=S1.out.head
  have hp:=(Jqf.1 h1.head).1
  have:=(g2.block p hp fun e=>h1.ne e.symm).trans h1.head
  unfold Ee at this
  simp[World.cell?,this]
 have S2:=Ja (S1.out.regrowNo (T:=G4 S n) g2 row2 (.inl o2) (Jas S1.out.goodNo n) rfl rfl)
 clear row2 g2 o2 S1 HC c2
 generalize(Jhq S.l n).length=m2 at *
 go_wp2
 go_ret
 exact⟨rfl,_,S2.out⟩
theorem Ob (s:Sep w0 r w (Ed p v S::R)) (n:Int) (hl:S.l.length<=1000) {q:Bool} {T:Ns} (hq:Ik S n=q) (hT:G4 S n=T) :
  Calls Tryz.prog 316 #[Je p,.int .i64 n] w fun e w'=>e=.returned (.bool q)/\∃ v',Sep w0 r w' (Ed p v' T::R):=by
 subst hq hT
 exact U3 s n hl
end
end No
end Go.Proofs.YtbfjjpdnoalojaaGreatDoor
