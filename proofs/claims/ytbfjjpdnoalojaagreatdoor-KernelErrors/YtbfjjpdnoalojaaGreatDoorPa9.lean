/- Below: KThB; no condition. -/
import Derived.Test.YtbfjjpdnoalojaaGreatDoorPa8
set_option maxHeartbeats 16000000
set_option maxRecDepth 100000
namespace Go.Proofs.YtbfjjpdnoalojaaGreatDoor
namespace Th
open Go.RowKit Go.Deep Go.Shelf
def Jto {α:Type} (e:TypeId) (k:Nat) (enc:α->List Value) (v:Value) (L:List α):Th where
 F:=fun x=>v.ownBlock=some x
 H:=fun w=>w.ownsRow 0 e k v L.length (Jc enc L)
 lt:=fun _ h x hx=>(World.ownsRow.lt h x hx).2
 keep:=fun _ _ h k=>Jw h k
theorem Oz {α:Type} {e:TypeId} {k:Nat} {enc:α->List Value} (hk:∀ x,(enc x).length=k) {w:World} {g n cap:Nat} {L:List α} (h:(Jto e k enc (.slice (some ⟨g,0,none⟩) n cap) L).H w) {i:Nat} {x:α} (hi:L[i]? = some x) {j:Nat} {c:Value} (hj:(enc x)[j]? = some c):w.cell? ⟨g,i*k+j,none⟩=some c:=by
 have hjk:j<k:=by rw[<- hk x];exact(Jqb.1 hj).1
 have e1:=World.ownsRow.cells h (g:=g) rfl (i*k+j) c (by rw[Mm hk hi hjk];exact hj)
 rw[JG,Nat.zero_add] at e1
 exact e1
def rg (x:Td) (k:Nat):Int:=x.g.getD k 0
def cT (x:Td):List Value:=[.int .i64 x.st,.int .i64 x.p,.int .i64 x.c,.int .i64 x.l,.int .u64 (rg x 0),.int .u64 (rg x 1),.int .u64 (rg x 2),.int .u64 (rg x 3),.int .u64 (rg x 4),.int .u64 (rg x 5),.int .u64 (rg x 6),.int .u64 (rg x 7)]
def MO (x:Td):Value:=.agg #[.int .i64 x.st,.int .i64 x.p,.int .i64 x.c,.int .i64 x.l,.int .u64 (rg x 0),.int .u64 (rg x 1),.int .u64 (rg x 2),.int .u64 (rg x 3),.int .u64 (rg x 4),.int .u64 (rg x 5),.int .u64 (rg x 6),.int .u64 (rg x 7)]
def Zn (x:Td):Obj:=.cells #[.int .i64 x.st,.int .i64 x.p,.int .i64 x.c,.int .i64 x.l,.int .u64 (rg x 0),.int .u64 (rg x 1),.int .u64 (rg x 2),.int .u64 (rg x 3),.int .u64 (rg x 4),.int .u64 (rg x 5),.int .u64 (rg x 6),.int .u64 (rg x 7)] 132
theorem Jct (x:Td):(cT x).length=12:=rfl
theorem Jr9 (x:Td):∀ v∈cT x,v.oneCell'=true:=by simp[cT,Value.oneCell']
theorem Jy2:(Tryz.prog.info? 132).map (fun i=>(i.zero,i.size,i.bytes))=some (some (.agg #[.int .i64 0,.int .i64 0,.int .i64 0,.int .i64 0,.int .u64 0,.int .u64 0,.int .u64 0,.int .u64 0,.int .u64 0,.int .u64 0,.int .u64 0,.int .u64 0]),12,96):=by kernel_rfl
abbrev OA (v:Value) (L:List Td):Th:=Jto 132 12 cT v L
def cP (q:Nat):List Value:=[.pointer (some ⟨q,0,none⟩)]
theorem Jr6 (q:Nat):(cP q).length=1:=rfl
theorem Jr7 (q:Nat):∀ v∈cP q,v.oneCell'=true:=by simp[cP,Value.oneCell']
abbrev Gs (e:TypeId) (v:Value) (L:List Nat):Th:=Jto e 1 cP v L
structure Fam (R:Nat->Th) (n:Nat) (w:World):Prop where
 each:∀ i,i<n->(R i).H w
 apart:∀ i j,i<n->j<n->i≠j->∀ x,(R i).F x->¬ (R j).F x
def fpF (R:Nat->Th) (n:Nat):Nat->Prop:=fun x=>∃ i,i<n/\(R i).F x
section
variable {R R':Nat->Th} {n:Nat} {w w':World}
theorem Fam.lt (f:Fam R n w):∀ x,fpF R n x->x<w.heap.size:=by
 rintro x ⟨i,hi,hx⟩
 exact(R i).lt w (f.each i hi) x hx
theorem Fam.keep (f:Fam R n w) (k:∀ x,fpF R n x->w'.heap[x]? = w.heap[x]?):Fam R n w':=
 ⟨fun i hi=>(R i).keep w w' (f.each i hi) fun x hx=>k x ⟨i,hi,hx⟩,f.apart⟩
theorem Fam.below (f:Fam R n w) (k:Below w.heap.size w w'):Fam R n w':=f.keep fun x hx=>k.block x (f.lt x hx)
theorem Fam.turn (f:Fam R n w) {i:Nat} (hi:i<n) {t:Th} (e:R' i=t) (e':∀ j,j≠i->R' j=R j) (ht:t.H w') (k:Turn (R i).F w w') (o:Out (R i).F t.F w) :
  Fam R' n w'/\Turn (fpF R n) w w'/\Out (fpF R n) (fpF R' n) w:=by
 subst e
 refine⟨⟨fun j hj=>?_,fun a b ha hb hab x hx hy=>?_⟩,k.mono fun x hx=>⟨i,hi,hx⟩,?_⟩
 ·by_cases h:j=i
  ·rw[h]
   exact ht
  ·rw[e' j h]
   exact(R j).turn (f.each j hj) k fun x hx hx'=>f.apart j i hj hi h x hx hx'
 ·by_cases h1:a=i<;>by_cases h2:b=i
  ·exact hab (h1.trans h2.symm)
  ·rw[h1] at hx
   rw[e' b h2] at hy
   rcases o x hx with h3|h3
   ·exact f.apart i b hi hb (fun e=>h2 e.symm) x h3 hy
   ·have:=f.lt x ⟨b,hb,hy⟩
    omega
  ·rw[h2] at hy
   rw[e' a h1] at hx
   rcases o x hy with h3|h3
   ·exact f.apart a i ha hi h1 x hx h3
   ·have:=f.lt x ⟨a,ha,hx⟩
    omega
  ·rw[e' a h1] at hx
   rw[e' b h2] at hy
   exact f.apart a b ha hb hab x hx hy
 ·rintro x ⟨j,hj,hx⟩
  by_cases h:j=i
  ·rw[h] at hx
   exact(o x hx).imp (fun h1=>⟨i,hi,h1⟩) id
  ·rw[e' j h] at hx
   exact .inl ⟨j,hj,hx⟩
end
structure QK where
 α:Type
 th:Nat->α->St->Th
 ty:TypeId
 pt:TypeId
def Mx:QK:=⟨Nat->Prop,quT,234,235⟩
variable {K:QK}
def MV (K:QK) (p:Nat) (v u:Value) (qs:List Nat) (a:Nat->K.α) (h:Hs):Nat->Th
 | 0=>blk p (.cells #[v,u] K.ty (0,0))
 | 1=>OA v h.L
 | 2=>Gs K.pt u qs
 | c+3=>K.th (qs.getD c 0) (a c) (ZO h c)
structure ThI (K:QK) (p:Nat) (v u:Value) (qs:List Nat) (a:Nat->K.α) (h:Hs) (w:World):Prop where
 fam:Fam (MV K p v u qs a h) (3+h.Q.length) w
 len:qs.length=h.Q.length
abbrev fpT (K:QK) (p:Nat) (v u:Value) (qs:List Nat) (a:Nat->K.α) (h:Hs):Nat->Prop:=fpF (MV K p v u qs a h) (3+h.Q.length)
def ThH (K:QK) (p:Nat) (F:Nat->Prop) (h:Hs) (w:World):Prop:=∃ v u qs a,ThI K p v u qs a h w/\∀ x,F x↔fpT K p v u qs a h x
def thT (K:QK) (p:Nat) (F:Nat->Prop) (h:Hs):Th where
 F:=F
 H:=ThH K p F h
 lt:=fun _ ⟨_,_,_,_,t,e⟩ x hx=>t.fam.lt x ((e x).1 hx)
 keep:=fun _ _ ⟨v,u,qs,a,t,e⟩ k=>⟨v,u,qs,a,⟨t.fam.keep fun x hx=>k x ((e x).2 hx),t.len⟩,e⟩
def GoT (K:QK) (w:World) (p:Nat) (F:Nat->Prop) (h:Hs) (w':World):Prop:=∃ F',ThH K p F' h w'/\Turn F w w'/\Out F F' w
structure At (K:QK) (w0:World) (F:Nat->Prop) (p:Nat) (v u:Value) (qs:List Nat) (h:Hs) (w:World):Prop where
 ex:∃ a,ThI K p v u qs a h w/\Out F (fpT K p v u qs a h) w0
 turn:Turn F w0 w
section
variable {w0 w w':World} {F:Nat->Prop} {p:Nat} {v u:Value} {qs:List Nat} {h:Hs}
theorem ThH.at (t:ThH K p F h w):∃ v u qs,At K w F p v u qs h w:=by
 obtain⟨v,u,qs,a,t,e⟩:=t
 exact⟨v,u,qs,⟨a,t,fun x hx=>.inl ((e x).2 hx)⟩,Turn.refl _ _⟩
theorem At.goes (t:At K w0 F p v u qs h w):GoT K w0 p F h w:=by
 obtain⟨a,t1,o⟩:=t.ex
 exact⟨_,⟨v,u,qs,a,t1,fun _=>Iff.rfl⟩,t.turn,o⟩
theorem _root_.Go.Proofs.YtbfjjpdnoalojaaGreatDoor.Turn.thenBelow {G:Nat->Prop} {a b c:World} (k:Turn G a b) (l:Below b.heap.size b c):Turn G a c:=k.trans (Turn.of l (fun _=>False)) fun _ hx=>hx.elim
theorem At.below (t:At K w0 F p v u qs h w) (k:Below w.heap.size w w'):At K w0 F p v u qs h w':=by
 obtain⟨a,t1,o⟩:=t.ex
 exact⟨⟨a,⟨t1.fam.below k,t1.len⟩,o⟩,t.turn.thenBelow k⟩
theorem At.len (t:At K w0 F p v u qs h w):qs.length=h.Q.length:=by
 obtain⟨a,t1,_⟩:=t.ex
 exact t1.len
theorem At.block (t:At K w0 F p v u qs h w):w.heap[p]? = some (.cells #[v,u] K.ty (0,0)):=by
 obtain⟨a,t1,_⟩:=t.ex
 exact t1.fam.each 0 (by omega)
theorem At.cell0 (t:At K w0 F p v u qs h w):w.cell? ⟨p,0,none⟩=some v:=by
 simp[World.cell?,t.block]
theorem At.cell1 (t:At K w0 F p v u qs h w):w.cell? ⟨p,1,none⟩=some u:=by
 simp[World.cell?,t.block]
theorem At.lt (t:At K w0 F p v u qs h w):p<w.heap.size:=(Jqf.1 t.block).1
theorem At.row (t:At K w0 F p v u qs h w):(OA v h.L).H w:=by
 obtain⟨a,t1,_⟩:=t.ex
 exact t1.fam.each 1 (by omega)
theorem At.ptrs (t:At K w0 F p v u qs h w):(Gs K.pt u qs).H w:=by
 obtain⟨a,t1,_⟩:=t.ex
 exact t1.fam.each 2 (by omega)
theorem At.slice (t:At K w0 F p v u qs h w):∃ ao cap,v=.slice ao h.L.length cap/\∀ i,i<h.L.length->∃ g,ao=some ⟨g,0,none⟩:=XC t.row
theorem At.pslice (t:At K w0 F p v u qs h w) (hq:1<=h.Q.length):∃ g cap,u=.slice (some ⟨g,0,none⟩) h.Q.length cap:=by
 obtain⟨ao,cap,e,hg⟩:=XC t.ptrs
 rw[t.len] at e hg
 obtain⟨g,rfl⟩:=hg 0 (by omega)
 exact⟨g,cap,e⟩
theorem At.cellP {g cap n:Nat} (t:At K w0 F p v (.slice (some ⟨g,0,none⟩) n cap) qs h w) {c:Nat} (hc:c<h.Q.length):w.cell? ⟨g,c,none⟩=some (.pointer (some ⟨qs.getD c 0,0,none⟩)):=by
 have hl:=t.len
 have e:qs[c]? = some (qs.getD c 0):=by
  rw[List.getD_eq_getElem?_getD,List.getElem?_eq_getElem (by omega)]
  rfl
 have:=Oz Jr6 t.ptrs e (j:=0) (c:=.pointer (some ⟨qs.getD c 0,0,none⟩)) rfl
 simpa using this
theorem At.cellT {g cap n:Nat} (t:At K w0 F p (.slice (some ⟨g,0,none⟩) n cap) u qs h w) {i:Nat} (hi:i<h.L.length) {j:Nat} {c:Value} (hj:(cT (thr h i))[j]? = some c):w.cell? ⟨g,i*12+j,none⟩=some c:=
 Oz Jct t.row (M1 hi) hj
theorem At.frozenT {g cap n:Nat} (t:At K w0 F p (.slice (some ⟨g,0,none⟩) n cap) u qs h w) (j:Nat):w.frozen? ⟨g,j,none⟩=false:=by
 have r:=t.row
 obtain⟨ao,cap',e,_⟩:=XC r
 cases e
 exact Jd4 r j
theorem At.ltT {g cap n:Nat} (t:At K w0 F p (.slice (some ⟨g,0,none⟩) n cap) u qs h w):g<w.heap.size:=(OA (.slice (some ⟨g,0,none⟩) n cap) h.L).lt w t.row g rfl
theorem At.step {a a':Nat->K.α} (t1:ThI K p v u qs a h w) (o:Out F (fpT K p v u qs a h) w0) (tn:Turn F w0 w) {i:Nat} {h':Hs} (hl:h'.Q.length=h.Q.length) (hi:i<3+h.Q.length)
  (k1:(MV K p v u qs a' h' i).H w') (k2:Turn (MV K p v u qs a h i).F w w') (k3:Out (MV K p v u qs a h i).F (MV K p v u qs a' h' i).F w) (k4:∀ j,j≠i->MV K p v u qs a' h' j=MV K p v u qs a h j):At K w0 F p v u qs h' w':=by
 obtain⟨f1,f2,f3⟩:=t1.fam.turn hi rfl k4 k1 k2 k3
 refine⟨⟨a',⟨by rw[hl];exact f1,by rw[hl];exact t1.len⟩,fun x hx=>?_⟩,tn.trans f2 fun x hx=>o x hx⟩
 unfold fpT at hx
 rw[hl] at hx
 rcases f3 x hx with h1|h1
 ·exact o x h1
 ·exact .inr (Jql tn.size h1)
theorem At.set {g cap n:Nat} (t:At K w0 F p (.slice (some ⟨g,0,none⟩) n cap) u qs h w) {i:Nat} (hi:i<h.L.length) {j:Nat} {c:Value} {y:Td} (hj:j<12) (e:cT y=(cT (thr h i)).set j c) :
  At K w0 F p (.slice (some ⟨g,0,none⟩) n cap) u qs ⟨h.L.set i y,h.Q⟩ (w.setCell ⟨g,i*12+j,none⟩ c):=by
 obtain⟨a,t1,o⟩:=t.ex
 refine At.step (a':=a) (i:=1) t1 o t.turn rfl (by omega) ?_ (Turn.setCell _ _ _ _ rfl) (fun x hx=>.inl hx) fun j hj=>?_
 ·have r:w.ownsRow 0 132 12 (.slice (some ⟨g,0,none⟩) n cap) h.L.length (Jc cT h.L):=t1.fam.each 1 (by omega)
  obtain⟨ao,cap',ev,_⟩:=XC r
  cases ev
  show World.ownsRow _ 0 132 12 _ (h.L.set i y).length (Jc cT (h.L.set i y))
  rw[List.length_set,<- AJ Jct h.L i j _ y c (M1 hi) hj e]
  exact Jfl r c
 ·match j,hj with
  | 0,_=>rfl
  | 2,_=>rfl
  | c+3,_=>rfl
theorem At.qu (t:At K w0 F p v u qs h w) {c:Nat} (hc:c<h.Q.length):∃ a,(K.th (qs.getD c 0) a (ZO h c)).H w/\∀ T w',(∃ a',(K.th (qs.getD c 0) a' T).H w'/\Turn (K.th (qs.getD c 0) a (ZO h c)).F w w'/\Out (K.th (qs.getD c 0) a (ZO h c)).F (K.th (qs.getD c 0) a' T).F w)->At K w0 F p v u qs ⟨h.L,h.Q.set c T⟩ w':=by
 obtain⟨a,t1,o⟩:=t.ex
 refine⟨a c,t1.fam.each (c+3) (by omega),fun T w' ⟨a',k1,k2,k3⟩=>?_⟩
 have hT:ZO ⟨h.L,h.Q.set c T⟩ c=T:=by
  unfold ZO
  rw[Xt hc,if_pos rfl]
 have hm:MV K p v u qs (VJ a c a') ⟨h.L,h.Q.set c T⟩ (c+3)=K.th (qs.getD c 0) a' T:=by
  show K.th _ (VJ a c a' c) (ZO ⟨h.L,h.Q.set c T⟩ c)=_
  rw[hT,Zv]
 refine At.step (a':=VJ a c a') (i:=c+3) t1 o t.turn Jqr (by omega) (by rw[hm];exact k1) k2 (by rw[hm];exact k3) fun j hj=>?_
 match j,hj with
 | 0,_=>rfl
 | 1,_=>rfl
 | 2,_=>rfl
 | d+3,hj =>
  have hd:d≠c:=fun e=>hj (by rw[e])
  show K.th _ (VJ a c a' d) (ZO ⟨h.L,h.Q.set c T⟩ d)=K.th _ (a d) (ZO h d)
  rw[J1 _ _ hd]
  have:ZO ⟨h.L,h.Q.set c T⟩ d=ZO h d:=by
   unfold ZO
   rw[List.getD_eq_getElem?_getD,List.getElem?_set_ne (fun e=>hd e.symm),<- List.getD_eq_getElem?_getD]
  rw[this]
end
end Th
namespace Th
open Go.RowKit Go.Deep Go.Shelf
def Chk (w:World) (c:Value) (e:Int):Prop:=∃ g lb,c=.func (.func g) #[] lb/\(∀ args w,(callFunc g args).run Tryz.prog w=.ok (.enter g args) w)/\∀ W,Below w.heap.size w W->Calls Tryz.prog g lb W fun x w'=>x=.returned (.int .i64 e)/\Below W.heap.size W w'
theorem Chk.below {w w':World} {c:Value} {e:Int} (h:Chk w c e) (b:Below w.heap.size w w'):Chk w' c e:=by
 obtain⟨g,lb,e1,e2,h3⟩:=h
 exact⟨g,lb,e1,e2,fun W k=>h3 W (Below.then b k b.size)⟩
def J3:List Int->Int
 | []=>0
 | e::es=>if e=0 then J3 es else e
def Jnj (es:List Int) (k:Nat):Prop:=∀ j,j<k->es[j]? = some 0
theorem E2:∀ (es:List Int) (k:Nat) (e:Int),Jnj es k->es[k]? = some e->e≠0->J3 es=e
 | [],k,e,_,h,_=>by simp at h
 | x::es,0,e,_,h,h0=>by
  obtain rfl:x=e:=by simpa using h
  simp[J3,h0]
 | x::es,k+1,e,hf,h,h0=>by
  have hx:x=0:=by simpa using hf 0 (by omega)
  simp only[J3,hx,if_true]
  exact E2 es k e (fun j hj=>by have:=hf (j+1) (by omega);simpa using this) (by simpa using h) h0
theorem E3:∀ (es:List Int),Jnj es es.length->J3 es=0
 | [],_=>rfl
 | x::es,hf=>by
  have hx:x=0:=by simpa using hf 0 (by simp)
  simp only[J3,hx,if_true]
  exact E3 es fun j hj=>by have:=hf (j+1) (by simpa using hj);simpa using this
def inB (n m:Int):Bool:=decide (0<=n/\n<m)
def ER (b:Bool) (e:Int):Int:=if b=true then 0 else e
def II (n m e:Int):Int:=ER (inB n m) e
theorem ZZ {n m e:Int} (h:0<=n/\n<m):II n m e=0:=by simp[II,ER,inB,h]
theorem Xy {n m e:Int} (h:¬ (0<=n/\n<m)):II n m e=e:=by simp[II,ER,inB,h]
theorem M7 (n m:Int) (w:World):Calls Tryz.prog 121 #[.int .i64 n,.int .i64 m] w fun e w'=>e=.returned (.bool (inB n m))/\w'=w:=by
 unfold inB
 by_cases c:0<=n
 ·have e:decide (0<=n/\n<m)=decide (n<m):=by simp[c]
  rw[e]
  generalize hb:decide (n<m)=b at *
  go_enter Tryz.func121,Tryz.ntmps121
  go_wp2
  go_ret
  exact⟨rfl,rfl⟩
 ·have e:decide (0<=n/\n<m)=false:=by simp[c]
  have c3:decide (0<=n)=false:=by simpa using c
  rw[e]
  clear e
  go_enter Tryz.func121,Tryz.ntmps121
  go_wp2
  go_ret
  exact⟨rfl,rfl⟩
theorem M6 (b:Bool) (e0:Int) (w:World):Calls Tryz.prog 273 #[.bool b,.int .i64 e0] w fun e w'=>e=.returned (.int .i64 (ER b e0))/\w'=w:=by
 cases b
 ·go_enter Tryz.func273,Tryz.ntmps273
  go_wp2
  go_ret
  exact⟨rfl,rfl⟩
 ·go_enter Tryz.func273,Tryz.ntmps273
  go_wp2
  go_ret
  exact⟨rfl,rfl⟩
theorem U9 (g cap:Nat) (cs:List Value) (es:List Int) (w:World) (hl:cs.length=es.length) (hs:cs.length<=1000) (hb:g<w.heap.size) (hc:∀ k c,cs[k]? = some c->w.cell? ⟨g,k,none⟩=some c)
  (hp:∀ k c e,cs[k]? = some c->es[k]? = some e->Jnj es k->Chk w c e) :
  Calls Tryz.prog 195 #[.slice (some ⟨g,0,none⟩) cs.length cap] w fun e w'=>e=.returned (.int .i64 (J3 es))/\Below w.heap.size w w':=by
 have HC:=Ja hc
 have HP:=Ja hp
 have HB:=Ja hb
 have HL:=Ja hl
 clear hc hp hb hl
 generalize hn:cs.length=n at *
 go_enter Tryz.func195,Tryz.ntmps195
 go_wp2
 go_loopw [4,5,8] (fun _ _ s8 wr=>∃ k:Nat,k<=n/\s8=.int .i64 k/\Below w.heap.size w wr/\Hid (Jnj es k)) (fun _ _ s8 _=>n - (intOf s8).toNat)
 case atStart=>exact⟨0,Jqp _,rfl,Below.refl _ _,fun j hj=>by omega⟩
 case round =>
  obtain⟨k,hk,rfl,bel,HF⟩:=hrel
  have HW:=Ja bel
  by_cases hlt:k<n
  ·have hk1:k<cs.length:=by omega
   have hk2:k<es.length:=by have:=HL.out;omega
   have hcell:=(bel.cell (p:=⟨g,k,none⟩) HB.out).trans (HC.out k _ (Jqc hk1))
   obtain⟨f,lb,e1,e2,h3⟩:=(HP.out k _ _ (Jqc hk1) (Jqc hk2) HF.out)
   have HE:=Ja (Jqc hk2)
   rw[e1] at hcell
   have hcall:=h3 wr bel
   clear bel h3 e1
   generalize es[k]=e at *
   have hltz:(k:Int)<(n:Int):=by omega
   by_cases h0:e=0
   ·subst h0
    go_wp2_with (go_at_fn f;refine hcall.mono ?_;rintro e w' ⟨rfl,hb'⟩)
    go_roundw
    case rel =>
     refine⟨k+1,by omega,by go_num,Below.then HW.out hb' HW.out.size,fun j hj=>?_⟩
     by_cases ej:j=k
     ·rw[ej]
      exact HE.out
     ·exact HF.out j (by omega)
    case measure=>simp[intOf];omega
   ·have hne:(e == 0)=false:=by simpa using h0
    have hne2:(e != 0)=true:=by simpa using h0
    have HR:=Ja (E2 es k e HF.out HE.out h0)
    go_wp2_with (go_at_fn f;refine hcall.mono ?_;rintro e w' ⟨rfl,hb'⟩)
    go_ret
    exact⟨Jm HR.out.symm,Below.then HW.out hb' HW.out.size⟩
  ·obtain rfl:k=n:=by omega
   have HR:=Ja (E3 es (by rw[<- HL.out];exact HF.out))
   clear bel
   go_wp2
   go_ret
   exact⟨Jm HR.out.symm,HW.out⟩
theorem Jr5 (q1 q2:Nat) (n m:Int) (w:World) (h1:Var w q1 (.int .i64 n)) (h2:Var w q2 (.int .i64 m)) :
  Calls Tryz.prog 272 #[Je q1,Je q2] w fun e w'=>e=.returned (.int .i64 (II n m 1))/\Below w.heap.size w w':=by
 have c1:=h1.2
 have c2:=h2.2
 clear h1 h2
 go_enter Tryz.func272,Tryz.ntmps272
 go_wp2_with (first|(go_at_call 121;refine Jqa (M7 _ _ _) ?_;rintro e w' ⟨rfl,rfl⟩)|(go_at_call 273;refine Jqa (M6 _ _ _) ?_;rintro e w' ⟨rfl,rfl⟩))
 go_ret
 exact⟨rfl,Below.refl _ _⟩
theorem Ey (w:World) (v1 v2:Value) (t1 t2:TypeId):Below w.heap.size w ((w.alloc (.cells #[v1] t1)).alloc (.cells #[v2] t2))/\Var ((w.alloc (.cells #[v1] t1)).alloc (.cells #[v2] t2)) w.heap.size v1/\Var ((w.alloc (.cells #[v1] t1)).alloc (.cells #[v2] t2)) (w.heap.size+1) v2:=by
 refine⟨Below.then (Jb _ _) (Jb _ _) (by simp),(Var.new w v1 t1).below (Jb _ _),?_⟩
 have:=Var.new (w.alloc (.cells #[v1] t1)) v2 t2
 simpa using this
theorem UI (n m:Int) (w:World):Calls Tryz.prog 196 #[.int .i64 n,.int .i64 m] w fun e w'=>∃ c,e=.returned c/\Chk w' c (II n m 1)/\Below w.heap.size w w':=by
 have hmf:=Jhm
 have HV:=Ja (Ey w (.int .i64 n) (.int .i64 m) 3 3)
 go_enter Tryz.func196,Tryz.ntmps196
 go_wp2
 go_ret
 obtain⟨b,v1,v2⟩:=HV.out
 exact⟨_,rfl,⟨_,_,rfl,enters_of Tryz.func272 (by kernel_rfl) rfl,fun W k=>Jr5 _ _ n m W (v1.below k) (v2.below k)⟩,b⟩
theorem Ju0 (q1 q2 p:Nat) (i:Int) (ao:Option Addr) (n cap:Nat) (w:World) (h1:Var w q1 (.int .i64 i)) (h2:Var w q2 (Je p)) (h3:Var w p (.slice ao n cap)) :
  Calls Tryz.prog 275 #[Je q1,Je q2] w fun e w'=>e=.returned (.int .i64 (II i n 100))/\Below w.heap.size w w':=by
 have c1:=h1.2
 have c2:=h2.2
 have c3:=h3.2
 clear h1 h2 h3
 go_enter Tryz.func275,Tryz.ntmps275
 go_wp2_with fail
 go_quiet ((first|(go_at_call 121;exact Calls.quiet_of_same (M7 _ _ _))|(go_at_call 273;exact Calls.quiet_of_same (M6 _ _ _))))
 go_wp2
 go_ret
 exact⟨rfl,JH (Below.refl _ _) _⟩
theorem JN (p:Nat) (i:Int) (ao:Option Addr) (n cap:Nat) (w:World) (h3:Var w p (.slice ao n cap)):Calls Tryz.prog 198 #[Je p,.int .i64 i] w fun e w'=>∃ c,e=.returned c/\Chk w' c (II i n 100)/\Below w.heap.size w w':=by
 have hmf:=Jhm
 have HV:=Ja (Ey w (Je p) (.int .i64 i) 90 3)
 have H3:=Ja h3
 clear h3
 go_enter Tryz.func198,Tryz.ntmps198
 go_wp2
 go_ret
 obtain⟨b,v1,v2⟩:=HV.out
 exact⟨_,rfl,⟨_,_,rfl,enters_of Tryz.func275 (by kernel_rfl) rfl,fun W k=>Ju0 _ _ p i ao n cap W (v2.below k) (v1.below k) ((H3.out.below b).below k)⟩,b⟩
theorem Jz9 (q1 p:Nat) (ao:Option Addr) (n cap:Nat) (w:World) (h1:Var w q1 (Je p)) (h3:Var w p (.slice ao n cap)) :
  Calls Tryz.prog 274 #[Je q1] w fun e w'=>e=.returned (.int .i64 (II n 64 2))/\Below w.heap.size w w':=by
 have c1:=h1.2
 have c3:=h3.2
 have hb:decide ((n:Int)<64)=inB n 64:=by simp[inB]
 clear h1 h3
 unfold II
 generalize inB n 64=b at *
 go_enter Tryz.func274,Tryz.ntmps274
 go_wp2_with (go_at_call 273;refine Jqa (M6 _ _ _) ?_;rintro e w' ⟨rfl,rfl⟩)
 go_ret
 exact⟨rfl,Below.refl _ _⟩
theorem Jlz (p:Nat) (ao:Option Addr) (n cap:Nat) (w:World) (h3:Var w p (.slice ao n cap)):Calls Tryz.prog 197 #[Je p] w fun e w'=>∃ c,e=.returned c/\Chk w' c (II n 64 2)/\Below w.heap.size w w':=by
 have hmf:=Jhm
 have H3:=Ja h3
 have HV:=Ja (And.intro (Jb w (.cells #[Je p] 90)) (Var.new w (Je p) 90))
 clear h3
 go_enter Tryz.func197,Tryz.ntmps197
 go_wp2
 go_ret
 obtain⟨b,v1⟩:=HV.out
 exact⟨_,rfl,⟨_,_,rfl,enters_of Tryz.func274 (by kernel_rfl) rfl,fun W k=>Jz9 _ p ao n cap W (v1.below k) ((H3.out.below b).below k)⟩,b⟩
theorem Jj0 (w:World) (c1:Value) (e1:Int) (h1:Chk w c1 e1) :
  Calls Tryz.prog 195 #[.slice (some ⟨w.heap.size,0,none⟩) 1 1] (w.alloc (.cells #[c1] 304)) fun e w'=>e=.returned (.int .i64 (J3 [e1]))/\Below w.heap.size w w':=by
 have b:=Jb w (.cells #[c1] 304)
 have hb:=blk_alloc_new w (.cells #[c1] 304)
 refine Jqa (U9 w.heap.size 1 [c1] [e1] _ rfl (by simp) (by simp) (fun k c hk=>?_) (fun k c e hk he hf=>?_)) fun e w' ⟨he,k⟩=>⟨he,Below.then b k b.size⟩
 ·simp only[World.cell?,hb]
  simpa using hk
 ·match k,hk,he with
  | 0,hk,he =>
   obtain rfl:c1=c:=by simpa using hk
   obtain rfl:e1=e:=by simpa using he
   exact h1.below b
  | k+1,hk,_=>simp at hk
theorem Uk (w:World) (c1 c2:Value) (e1 e2:Int) (h1:Chk w c1 e1) (h2:e1=0->Chk w c2 e2) :
  Calls Tryz.prog 195 #[.slice (some ⟨w.heap.size,0,none⟩) 2 2] (w.alloc (.cells #[c1,c2] 304)) fun e w'=>e=.returned (.int .i64 (J3 [e1,e2]))/\Below w.heap.size w w':=by
 have b:=Jb w (.cells #[c1,c2] 304)
 have hb:=blk_alloc_new w (.cells #[c1,c2] 304)
 refine Jqa (U9 w.heap.size 2 [c1,c2] [e1,e2] _ rfl (by simp) (by simp) (fun k c hk=>?_) (fun k c e hk he hf=>?_)) fun e w' ⟨he,k⟩=>⟨he,Below.then b k b.size⟩
 ·simp only[World.cell?,hb]
  simpa using hk
 ·match k,hk,he with
  | 0,hk,he =>
   obtain rfl:c1=c:=by simpa using hk
   obtain rfl:e1=e:=by simpa using he
   exact h1.below b
  | 1,hk,he =>
   obtain rfl:c2=c:=by simpa using hk
   obtain rfl:e2=e:=by simpa using he
   exact(h2 (by simpa using hf 0 (by omega))).below b
  | k+2,hk,_=>simp at hk
theorem Js6 (w:World) (c1 c2 c3:Value) (e1 e2 e3:Int) (h1:Chk w c1 e1) (h2:Chk w c2 e2) (h3:Chk w c3 e3) :
  Calls Tryz.prog 195 #[.slice (some ⟨w.heap.size,0,none⟩) 3 3] (w.alloc (.cells #[c1,c2,c3] 304)) fun e w'=>e=.returned (.int .i64 (J3 [e1,e2,e3]))/\Below w.heap.size w w':=by
 have b:=Jb w (.cells #[c1,c2,c3] 304)
 have hb:=blk_alloc_new w (.cells #[c1,c2,c3] 304)
 refine Jqa (U9 w.heap.size 3 [c1,c2,c3] [e1,e2,e3] _ rfl (by simp) (by simp) (fun k c hk=>?_) (fun k c e hk he hf=>?_)) fun e w' ⟨he,k⟩=>⟨he,Below.then b k b.size⟩
 ·simp only[World.cell?,hb]
  simpa using hk
 ·match k,hk,he with
  | 0,hk,he =>
   obtain rfl:c1=c:=by simpa using hk
   obtain rfl:e1=e:=by simpa using he
   exact h1.below b
  | 1,hk,he =>
   obtain rfl:c2=c:=by simpa using hk
   obtain rfl:e2=e:=by simpa using he
   exact h2.below b
  | 2,hk,he =>
   obtain rfl:c3=c:=by simpa using hk
   obtain rfl:e3=e:=by simpa using he
   exact h3.below b
  | k+3,hk,_=>simp at hk
theorem Chk.form {w:World} {c:Value} {e:Int} (h:Chk w c e):∃ g lb,c=.func (.func g) #[] lb:=by
 obtain⟨g,lb,e1,_⟩:=h
 exact⟨g,lb,e1⟩
def Ja3 (L:List Int) (n:Int):Int:=if L.findIdx (· == n)<L.length then ((L.findIdx (· == n):Nat):Int) else -1
theorem Jkc {L:List Int} {n:Int} {k:Nat} (hk:L[k]? = some n) (ha:∀ j,j<k->L[j]? ≠ some n):Ja3 L n=(k:Int):=by
 obtain⟨hl,e⟩:=Jqb.1 hk
 have:L.findIdx (· == n)=k:=by
  rw[List.findIdx_eq hl]
  refine⟨by simpa using e,fun j hj=>?_⟩
  have:=ha j hj
  rw[List.getElem?_eq_getElem (by omega)] at this
  simpa using this
 unfold Ja3
 rw[this,if_pos hl]
theorem Jgv {L:List Int} {n:Int} (ha:∀ j,j<L.length->L[j]? ≠ some n):Ja3 L n = -1:=by
 unfold Ja3
 rw[if_neg]
 rw[List.findIdx_lt_length]
 rintro⟨x,hx,hn⟩
 obtain⟨j,hj,e⟩:=List.mem_iff_getElem.1 hx
 refine ha j hj ?_
 rw[List.getElem?_eq_getElem hj,e]
 simpa using hn
theorem Jkd (L:List Int) (n:Int):decide (0<=Ja3 L n)=L.contains n:=by
 unfold Ja3
 by_cases h:L.findIdx (· == n)<L.length
 ·rw[if_pos h]
  have:=List.findIdx_lt_length.1 h
  obtain⟨x,hx,e⟩:=this
  have e':x=n:=by simpa using e
  have:n∈L:=e' ▸ hx
  simp[this]
 ·rw[if_neg h]
  have:n ∉ L:=fun hm=>h (List.findIdx_lt_length.2 ⟨n,hm,by simp⟩)
  simp[this]
theorem Jdh (g cap:Nat) (L:List Int) (n:Int) (w:World) (hc:∀ k x,L[k]? = some x->w.cell? ⟨g,k,none⟩=some (.int .i64 x)) (hl:L.length<=1000) :
  Calls Tryz.prog 341 #[.slice (some ⟨g,0,none⟩) L.length cap,.int .i64 n] w fun e w'=>e=.returned (.int .i64 (Ja3 L n))/\w'=w:=by
 have HC:=Ja hc
 clear hc
 generalize hm:L.length=m at *
 go_enter Tryz.func341,Tryz.ntmps341
 go_wp2
 go_loop [5,8] (fun _ s8=>∃ k:Nat,k<=m/\s8=.int .i64 k/\Hid (∀ j,j<k->L[j]? ≠ some n)) (fun _ s8=>m - (intOf s8).toNat)
 case atStart=>exact⟨0,Jqp _,rfl,fun j hj=>by omega⟩
 case round =>
  obtain⟨k,hk,rfl,HJ⟩:=hrel
  by_cases hlt:k<m
  ·have hkl:k<L.length:=by omega
   have hx:=HC.out k _ (Jqc hkl)
   have HX:=Ja (Jqc hkl)
   generalize L[k]=x at *
   have hltz:(k:Int)<(m:Int):=by omega
   by_cases e:n=x
   ·subst e
    have HR:=Ja (Jkc HX.out HJ.out)
    go_wp2
    go_ret
    exact⟨Jm HR.out.symm,rfl⟩
   ·have hne:(n == x)=false:=by simpa using e
    have HN:=Ja e
    clear e
    go_wp2
    go_round
    case rel=>exact⟨k+1,by omega,by go_num,fun j hj hj2=>by
     by_cases ej:j=k
     ·subst ej
      rw[HX.out] at hj2
      exact HN.out (Jqz hj2).symm
     ·exact HJ.out j (by omega) hj2⟩
    case measure=>simp[intOf];omega
  ·obtain rfl:k=m:=by omega
   have HR:=Ja (Jgv (by rw[hm];exact HJ.out))
   go_wp2
   go_ret
   exact⟨Jm HR.out.symm,rfl⟩
theorem MK (g cap:Nat) (L:List Int) (n:Int) (w:World) (hc:∀ k x,L[k]? = some x->w.cell? ⟨g,k,none⟩=some (.int .i64 x)) (hl:L.length<=1000) :
  Calls Tryz.prog 277 #[.slice (some ⟨g,0,none⟩) L.length cap,.int .i64 n] w fun e w'=>e=.returned (.bool (L.contains n))/\w'=w:=by
 have HI:=Ja (Jdh g cap L n w hc hl)
 have hd:=Jkd L n
 clear hc
 generalize Ja3 L n=z at *
 generalize L.contains n=b at *
 go_enter Tryz.func277,Tryz.ntmps277
 go_wp2_with (go_at_call 341;refine Jqa HI.out ?_;rintro e w' ⟨rfl,rfl⟩)
 go_ret
 exact⟨rfl,rfl⟩
theorem Ev (w:World) (v1 v2 v3:Value) (t1 t2 t3:TypeId):Below w.heap.size w (((w.alloc (.cells #[v1] t1)).alloc (.cells #[v2] t2)).alloc (.cells #[v3] t3))/\Var (((w.alloc (.cells #[v1] t1)).alloc (.cells #[v2] t2)).alloc (.cells #[v3] t3)) w.heap.size v1/\Var (((w.alloc (.cells #[v1] t1)).alloc (.cells #[v2] t2)).alloc (.cells #[v3] t3)) (w.heap.size+1) v2/\Var (((w.alloc (.cells #[v1] t1)).alloc (.cells #[v2] t2)).alloc (.cells #[v3] t3)) (w.heap.size+1+1) v3:=by
 obtain⟨b,h1,h2⟩:=Ey w v1 v2 t1 t2
 refine⟨Below.then b (Jb _ _) b.size,h1.below (Jb _ _),h2.below (Jb _ _),?_⟩
 have:=Var.new ((w.alloc (.cells #[v1] t1)).alloc (.cells #[v2] t2)) v3 t3
 simpa using this
theorem Jr1 (q0 q1 q2 p g cap n gs i:Nat) (st:Int) (sts:List Int) (w:World) (h0:Var w q0 (.slice (some ⟨gs,0,none⟩) sts.length sts.length)) (h1:Var w q1 (Je p)) (h2:Var w q2 (.int .i64 i)) (h3:Var w p (.slice (some ⟨g,0,none⟩) n cap)) (hi:i<n)
  (h4:w.cell? ⟨g,i*12,none⟩=some (.int .i64 st)) (h5:∀ k x,sts[k]? = some x->w.cell? ⟨gs,k,none⟩=some (.int .i64 x)) (hl:sts.length<=1000) :
  Calls Tryz.prog 276 #[Je q0,Je q1,Je q2] w fun e w'=>e=.returned (.int .i64 (ER (sts.contains st) 101))/\Below w.heap.size w w':=by
 have c0:=h0.2
 have c1:=h1.2
 have c2:=h2.2
 have c3:=h3.2
 have H5:=Ja (fun (nq:Nat)=>MK gs sts.length sts st (w.drewN nq) h5 hl)
 have hiz:(i:Int)<(n:Int):=by omega
 clear h0 h1 h2 h3 h5
 generalize sts.contains st=b at *
 generalize sts.length=m at *
 go_enter Tryz.func276,Tryz.ntmps276
 go_wp2_with fail
 go_quiet ((first|(go_at_call 277;exact Calls.quiet_of_same (H5.out _))|(go_at_call 273;exact Calls.quiet_of_same (M6 _ _ _))))
 go_wp2
 go_ret
 exact⟨rfl,JH (Below.refl _ _) _⟩
theorem UG (p g cap n gs i:Nat) (st:Int) (sts:List Int) (w:World) (h3:Var w p (.slice (some ⟨g,0,none⟩) n cap)) (hi:i<n) (hg:g<w.heap.size) (hgs:gs<w.heap.size)
  (h4:w.cell? ⟨g,i*12,none⟩=some (.int .i64 st)) (h5:∀ k x,sts[k]? = some x->w.cell? ⟨gs,k,none⟩=some (.int .i64 x)) (hl:sts.length<=1000) :
  Calls Tryz.prog 199 #[Je p,.int .i64 i,.slice (some ⟨gs,0,none⟩) sts.length sts.length] w fun e w'=>∃ c,e=.returned c/\Chk w' c (ER (sts.contains st) 101)/\Below w.heap.size w w':=by
 have hmf:=Jhm
 have H3:=Ja h3
 have H4:=Ja h4
 have H5:=Ja h5
 have HG:=Ja (And.intro hg hgs)
 have HV:=Ja (Ev w (Je p) (.int .i64 i) (.slice (some ⟨gs,0,none⟩) sts.length sts.length) 90 3 22)
 clear h3 h4 h5 hg hgs
 go_enter Tryz.func199,Tryz.ntmps199
 go_wp2
 go_ret
 obtain⟨b,v1,v2,v3⟩:=HV.out
 refine⟨_,rfl,⟨_,_,rfl,enters_of Tryz.func276 (by kernel_rfl) rfl,fun W k=>?_⟩,b⟩
 have k2:=Below.then b k b.size
 exact Jr1 _ _ _ p g cap n gs i st sts W (v3.below k) (v1.below k) (v2.below k) (H3.out.below k2) hi ((k2.cell (p:=⟨g,i*12,none⟩) HG.out.1).trans H4.out) (fun j x hx=>(k2.cell (p:=⟨gs,j,none⟩) HG.out.2).trans (H5.out j x hx)) hl
theorem I9 (p:Nat) (i:Int) (ao:Option Addr) (n cap:Nat) (w:World):Calls Tryz.prog 199 #[Je p,.int .i64 i,.slice ao n cap] w fun e w'=>∃ g lb,e=.returned (.func (.func g) #[] lb)/\Below w.heap.size w w':=by
 have hmf:=Jhm
 have HV:=Ja (Ev w (Je p) (.int .i64 i) (.slice ao n cap) 90 3 22)
 go_enter Tryz.func199,Tryz.ntmps199
 go_wp2
 go_ret
 exact⟨_,_,rfl,HV.out.1⟩
section
variable {K:QK} {w0 w w':World} {F:Nat->Prop} {p:Nat} {v u:Value} {qs:List Nat} {h:Hs}
theorem At.four {g cap n:Nat} (t:At K w0 F p (.slice (some ⟨g,0,none⟩) n cap) u qs h w) {i:Nat} (hi:i<h.L.length) :
  w.cell? ⟨g,i*12,none⟩=some (.int .i64 (thr h i).st)/\w.cell? ⟨g,i*12+1,none⟩=some (.int .i64 (thr h i).p)/\w.cell? ⟨g,i*12+2,none⟩=some (.int .i64 (thr h i).c)/\w.cell? ⟨g,i*12+3,none⟩=some (.int .i64 (thr h i).l):=
 ⟨t.cellT hi (j:=0) rfl,t.cellT hi (j:=1) rfl,t.cellT hi (j:=2) rfl,t.cellT hi (j:=3) rfl⟩
theorem At.drew (t:At K w0 F p v u qs h w):At K w0 F p v u qs h w.drew:=t.below ((Below.refl _ _).drew)
theorem At.drewN (t:At K w0 F p v u qs h w) (n:Nat):At K w0 F p v u qs h (w.drewN n):=t.below (JH (Below.refl _ _) n)
theorem At.var0 (t:At K w0 F p v u qs h w):Var w p v:=⟨t.lt,t.cell0⟩
end
theorem Je7 {i:Nat} (h:i<=1000):VC (i:Int):=by unfold VC;omega
def J6 (h:Hs) (i:Nat):Hs:=⟨h.L,h.Q.set (thr h i).c (takeS (ZO h (thr h i).c) i)⟩
def Ie (h:Hs) (i:Nat):Hs:=⟨h.L.set i { thr h i with st:=1 },h.Q.set (thr h i).c (ZL (ZO h (thr h i).c) (thr h i).p i)⟩
theorem Jpy (S:St) (n:Int):(ZS S n == 0)=O8 S n:=by
 unfold ZS
 cases O8 S n<;>simp
section
variable {w0 w:World} {F:Nat->Prop} {p:Nat} {v u:Value} {qs:List Nat} {h:Hs}
theorem IK (t:At Mx w0 F p v u qs h w) {i:Nat} (hi:i<h.L.length) (hc:(thr h i).c<h.Q.length) (hl:(ZO h (thr h i).c).length<=1000) (hs:i<=1000) :
  Calls Tryz.prog 124 #[Je p,.int .i64 i] w fun e w'=>e=.returned (.bool (O8 (ZO h (thr h i).c) i))/\At Mx w0 F p v u qs (J6 h i) w':=by
 obtain⟨ao,cap,rfl,hg⟩:=t.slice
 obtain⟨g,rfl⟩:=hg i hi
 obtain⟨gq,capq,rfl⟩:=t.pslice (by omega)
 obtain⟨_,_,c2,_⟩:=t.four hi
 have c0:=t.cell0
 have c1:=t.cell1
 have cq:=t.cellP hc
 obtain⟨a,hq,hgo⟩:=t.drew.qu hc
 have HT:=Ja (UC _ a _ (i:Int) w.drew hq (Je7 hs) hl)
 have HG:=Ja hgo
 have he:=Jpy (ZO h (thr h i).c) i
 have hiz:(i:Int)<(h.L.length:Int):=by omega
 have hcz:((thr h i).c:Int)<(h.Q.length:Int):=by omega
 unfold J6
 clear t hq hgo hg hl
 generalize hT:takeS (ZO h (thr h i).c) i=T at *
 generalize O8 (ZO h (thr h i).c) i=b at *
 generalize ZS (ZO h (thr h i).c) i=te at *
 generalize(thr h i).c=c at *
 generalize qs.getD c 0=q at *
 generalize h.L.length=nL at *
 generalize h.Q.length=nQ at *
 go_enter Tryz.func124,Tryz.ntmps124
 go_wp2_with fail
 go_region_with (go_at_call 219;refine Jqa HT.out ?_;rintro e w2 ⟨rfl,G2⟩)
 all_goals go_wp2
 all_goals go_ret
 all_goals exact⟨rfl,HG.out _ _ G2⟩
theorem UN (t:At Mx w0 F p v u qs h w) {i:Nat} (hi:i<h.L.length) (hc:(thr h i).c<h.Q.length) (hl:(ZO h (thr h i).c).length<=1000) (hs:i<=1000) :
  Calls Tryz.prog 123 #[Je p,.int .i64 i] w fun e w'=>e=.returned (.tuple #[])/\At Mx w0 F p v u qs (Ie h i) w':=by
 obtain⟨ao,cap,rfl,hg⟩:=t.slice
 obtain⟨g,rfl⟩:=hg i hi
 obtain⟨gq,capq,rfl⟩:=t.pslice (by omega)
 have c0:=t.cell0
 obtain⟨d0,_,_,_⟩:=t.four hi
 have f0:=t.frozenT (i*12)
 have t1:=t.set hi (j:=0) (c:=.int .i64 1) (y:={ thr h i with st:=1 }) (by omega) rfl
 have hi1:i<(h.L.set i { thr h i with st:=1 }).length:=by rw[List.length_set];exact hi
 obtain⟨c0',c1',c2',_⟩:=t1.four (i:=i) hi1
 have hth:thr ⟨h.L.set i { thr h i with st:=1 },h.Q⟩ i={ thr h i with st:=1 }:=GN (by rw[List.getElem?_set_self hi])
 rw[hth] at c0' c1' c2'
 simp only at c0' c1' c2'
 have e0:=t1.cell0
 have e1:=t1.cell1
 have cq:=t1.cellP (c:=(thr h i).c) hc
 obtain⟨a,hq,hgo⟩:=t1.drew.qu (c:=(thr h i).c) hc
 have HT:=Ja (GH _ a _ ((thr h i).p:Int) (i:Int) _ hq (Je7 hs) hl)
 have HG:=Ja hgo
 have hiz:(i:Int)<(h.L.length:Int):=by omega
 have hcz:((thr h i).c:Int)<(h.Q.length:Int):=by omega
 unfold Ie
 have hq1:ZO ⟨h.L.set i { thr h i with st:=1 },h.Q⟩ (thr h i).c=ZO h (thr h i).c:=rfl
 rw[hq1] at HT
 simp only[Nat.add_zero] at *
 clear t t1 hq hgo hg hl hth hi1 hq1
 generalize hT:ZL (ZO h (thr h i).c) (thr h i).p i=T at *
 generalize VX (ZO h (thr h i).c) (thr h i).p i=te at *
 generalize(thr h i).c=c at *
 generalize(thr h i).p=pr at *
 generalize(thr h i).st=st at *
 generalize qs.getD c 0=q at *
 generalize h.L.length=nL at *
 generalize h.Q.length=nQ at *
 go_enter Tryz.func123,Tryz.ntmps123
 go_wp2_with fail
 go_region_with (go_at_call 218;refine Jqa HT.out ?_;rintro e w2 ⟨rfl,G2⟩)
 all_goals go_wp2
 all_goals exact bodyPost_end (v:=.tuple #[]) (by simp[results,Tryz.results123,go_sem]) rfl ⟨rfl,HG.out _ _ G2⟩
end
theorem Jjy (S:St) (h:S.Pairwise (fun x y=>x.n≠y.n)):∀ m:Nat,(∀ x∈S,∃ i:Nat,i<m/\x.n=(i:Int))->S.length<=m:=by
 intro m
 induction m generalizing S with
 | zero =>
  intro hm
  cases S with
  | nil=>simp
  | cons x S =>
   obtain⟨i,hi,_⟩:=hm x (by simp)
   omega
 | succ m ih =>
  intro hm
  have hf:(takeS S (m:Int)).length<=m:=by
   refine ih _ (h.sublist List.filter_sublist) fun x hx=>?_
   obtain⟨h1,h2⟩:=V2.1 hx
   obtain⟨i,hi,e⟩:=hm x h1
   exact⟨i,by omega,e⟩
  have:S.length<=(takeS S (m:Int)).length+1:=by
   clear ih hm hf
   induction S with
   | nil=>simp
   | cons x S ih =>
    obtain⟨h1,h2⟩:=Jqq.1 h
    unfold takeS
    by_cases e:x.n=(m:Int)
    ·rw[List.filter_cons_of_neg (by simpa using e),List.filter_eq_self.2]
     ·simp
     ·intro a ha
      have:=h1 a ha
      rw[e] at this
      simpa using fun q=>this q.symm
    ·rw[List.filter_cons_of_pos (by simpa using e)]
     have:=ih h2
     unfold takeS at this
     simp only[List.length_cons]
     omega
  omega
section
variable {h:Hs} {i:Nat}
theorem Inv.small (v:Inv h) {c:Nat} (hc:c<h.Q.length):(ZO h c).length<=64:=by
 have:=Jjy (ZO h c) (v.queue hc).one h.L.length fun x hx=>by
  obtain⟨i,y,e,rfl,_⟩:=(v.mem c hc x).1 hx
  exact⟨i,(Jqb.1 e).1,rfl⟩
 exact Jql this v.few
theorem Inv.stands (v:Inv h) (hi:i<h.L.length):O8 (ZO h (thr h i).c) i=decide ((thr h i).st=1):=by
 have hc:=(JL v hi).c
 by_cases e:(thr h i).st=1
 ·have hm:=(v.mem (thr h i).c hc ⟨(thr h i).p,(i:Int)⟩).2 ⟨i,thr h i,M1 hi,rfl,e,rfl⟩
  rw[(Jv0 (v.queue hc) hm).1]
  simp[e]
 ·rw[Jdz v hi e hc]
  simp[e]
theorem IU {L:List Td} {Q:List St} (hi:i<L.length) (x:Td):thr ⟨L.set i x,Q⟩ i=x:=GN (by rw[List.getElem?_set_self hi])
theorem AV (v:Inv h) (hi:i<h.L.length) (hs:(thr h i).st≠1):Ie h i=Xc h i { thr h i with st:=1 }:=by
 have ok:=JL v hi
 rw[Jaq v hi hs { thr h i with st:=1 } ok.c ok.p]
 rfl
theorem Ju9 (v:Inv h) (hi:i<h.L.length) (x:Td) (hx:x.c<h.Q.length) (hp:x.p<256) :
  Ie ⟨h.L.set i x,(J6 h i).Q⟩ i=Xc h i { x with st:=1 }:=by
 have ok:=JL v hi
 unfold Ie
 rw[IU hi]
 simp only
 unfold Xc Ge J6
 simp only[List.set_set,if_true]
 have hb:∀ y∈(h.Q.set (thr h i).c (takeS (ZO h (thr h i).c) i)).getD x.c [],y.n≠(i:Int):=by
  rw[Xt hx]
  intro y hy
  split at hy
  ·exact(V2.1 hy).2
  ·rename_i e
   intro hn
   exact e (v.nums hx (M1 hi) hy hn).2.2.symm
 have hw:O8 ((h.Q.set (thr h i).c (takeS (ZO h (thr h i).c) i)).getD x.c []) i=false:=by
  unfold O8
  rw[Jeo hb]
  rfl
 have:VX ((h.Q.set (thr h i).c (takeS (ZO h (thr h i).c) i)).getD x.c []) x.p i=0:=by
  unfold VX
  rw[if_pos (by omega),hw]
  rfl
 have h3:ZL ((h.Q.set (thr h i).c (takeS (ZO h (thr h i).c) i)).getD x.c []) x.p i=(h.Q.set (thr h i).c (takeS (ZO h (thr h i).c) i)).getD x.c []++[⟨x.p,(i:Int)⟩]:=by
  unfold ZL
  rw[if_pos this,Int.toNat_natCast]
 exact congrArg (fun T=>(⟨h.L.set i { x with st:=1 },(h.Q.set (thr h i).c (takeS (ZO h (thr h i).c) i)).set x.c T⟩:Hs)) h3
theorem Ag (x:Td) (hs:x.st≠1):(⟨(J6 h i).L.set i x,(J6 h i).Q⟩:Hs)=Xc h i x:=by
 rw[Jn1 x hs]
 rfl
theorem Jg2 (c:Nat) (hc:c<h.Q.length) (hl:∀ d,d<h.Q.length->(ZO h d).length<=64):((J6 h i).Q.getD c []).length<=64:=by
 unfold J6
 show(List.getD (h.Q.set _ _) c []).length<=64
 rw[Xt hc]
 split
 ·rename_i e
  rw[<- e]
  exact Jql (Jid _ _) (hl c hc)
 ·exact hl c hc
theorem Fd (hi:i<h.L.length) (y x:Td) (hy:y.c=(thr h i).c):Xc (M0 h i y) i x=Xc h i x:=by
 unfold Xc M0
 rw[IU hi,hy]
 simp only[List.set_set]
end
theorem Jjc (w:World) (v:Value) (L:List Td) (x:Td) (h:(OA v L).H w) (hl:L.length<=1000000) :
  ∃ v' w',(Builtin.append_ #[126,126] 126 #[v,.slice (some ⟨w.heap.size,0,none⟩) 1 1]).run Tryz.prog (w.alloc (Zn x))=.ok v' w'/\(OA v' (L++[x])).H w'/\w.grownBy w' v.ownBlock/\(∀ g,v'.ownBlock=some g->v.ownBlock=some g\/w.heap.size<=g):=by
 have h1:(w.alloc (Zn x)).ownsRow 0 132 12 v L.length (Jc cT L):=World.ownsRow.alloc h _
 obtain⟨i,hi,hz⟩:=Jqt.1 Jy2
 simp only[Prod.mk.injEq] at hz
 obtain⟨v',w',r1,r2,r3,_,r5⟩:=run_append_own_at (P:=Tryz.prog) (w:=w.alloc (Zn x)) 0 126 126 132 i _ 12 96 Tryz.underlying126 hi hz.1 hz.2.1 hz.2.2 rfl (by decide) v L.length (Jc cT L) h1 ⟨w.heap.size,0,none⟩ 1 1 (cT x) rfl
  (fun j c hj=>by
   rw[JG,Nat.zero_add]
   have:=blk_alloc_new w (Zn x)
   simp only[World.cell?]
   rw[this]
   simpa [cT,Zn] using hj) (Jr9 x) (by unfold maxLen;omega) (by omega) (by omega)
 refine⟨v',w',r1,?_,(World.grownBy_alloc w _ _).trans r3,fun g hg=>?_⟩
 rotate_left
 ·rcases r5 with e|e
  ·exact .inl (e.symm.trans hg)
  ·have:some (w.alloc (Zn x)).heap.size=some g:=e.symm.trans hg
   cases this
   exact .inr (by simp)
 show w'.ownsRow 0 132 12 v' (L++[x]).length (Jc cT (L++[x]))
 rw[List.length_append,Jt,JE]
 simpa [Jc] using r2
theorem Jjb (sl pt:TypeId) (hu:Tryz.prog.underlying sl=some (.slice pt)) (hinfo:(Tryz.prog.info? pt).map (fun i=>(i.zero,i.size,i.bytes))=some (some (.pointer none),1,8)) (w:World) (v:Value) (L:List Nat) (q:Nat) (h:(Gs pt v L).H w) (hl:L.length<=1000000) :
  ∃ v' w',(Builtin.append_ #[sl,sl] sl #[v,.slice (some ⟨w.heap.size,0,none⟩) 1 1]).run Tryz.prog (w.alloc (.cells #[.pointer (some ⟨q,0,none⟩)] pt))=.ok v' w'/\(Gs pt v' (L++[q])).H w'/\w.grownBy w' v.ownBlock/\(∀ g,v'.ownBlock=some g->v.ownBlock=some g\/w.heap.size<=g):=by
 have h1:(w.alloc (.cells #[.pointer (some ⟨q,0,none⟩)] pt)).ownsRow 0 pt 1 v L.length (Jc cP L):=World.ownsRow.alloc h _
 obtain⟨i,hi,hz⟩:=Jqt.1 hinfo
 simp only[Prod.mk.injEq] at hz
 obtain⟨v',w',r1,r2,r3,_,r5⟩:=run_append_own_at (P:=Tryz.prog) (w:=w.alloc (.cells #[.pointer (some ⟨q,0,none⟩)] pt)) 0 sl sl pt i _ 1 8 hu hi hz.1 hz.2.1 hz.2.2 rfl (by decide) v L.length (Jc cP L) h1 ⟨w.heap.size,0,none⟩ 1 1 (cP q) rfl
  (fun j c hj=>by
   rw[JG,Nat.zero_add]
   have:=blk_alloc_new w (.cells #[.pointer (some ⟨q,0,none⟩)] pt)
   simp only[World.cell?]
   rw[this]
   simpa [cP] using hj) (Jr7 q) (by unfold maxLen;omega) (by omega) (by omega)
 refine⟨v',w',r1,?_,(World.grownBy_alloc w _ _).trans r3,fun g hg=>?_⟩
 rotate_left
 ·rcases r5 with e|e
  ·exact .inl (e.symm.trans hg)
  ·have:some (w.alloc (.cells #[.pointer (some ⟨q,0,none⟩)] pt)).heap.size=some g:=e.symm.trans hg
   cases this
   exact .inr (by simp)
 show w'.ownsRow 0 pt 1 v' (L++[q]).length (Jc cP (L++[q]))
 rw[List.length_append,Jt,JE]
 simpa [Jc] using r2
section
variable {K:QK} {w0 w:World} {F:Nat->Prop} {p:Nat} {v u:Value} {qs:List Nat} {h:Hs}
theorem Fam.add {R R':Nat->Th} {n:Nat} {w:World} (f:Fam R n w) {t:Th} (ht:t.H w) (ha:∀ x,t.F x->¬ fpF R n x) (e:R' n=t) (e':∀ j,j<n->R' j=R j):Fam R' (n+1) w:=by
 subst e
 refine⟨fun i hi=>?_,fun i j hi hj hij x hx hy=>?_⟩
 ·by_cases h:i=n
  ·rw[h]
   exact ht
  ·rw[e' i (by omega)]
   exact f.each i (by omega)
 ·by_cases h1:i=n<;>by_cases h2:j=n
  ·omega
  ·rw[h1] at hx
   rw[e' j (by omega)] at hy
   exact ha x hx ⟨j,by omega,hy⟩
  ·rw[h2] at hy
   rw[e' i (by omega)] at hx
   exact ha x hy ⟨i,by omega,hx⟩
  ·rw[e' i (by omega)] at hx
   rw[e' j (by omega)] at hy
   exact f.apart i j (by omega) (by omega) hij x hx hy
theorem Jar {α:Type} {l:List α} {x d:α} {n c:Nat} (hn:l.length=n) (hc:c≠n):(l++[x]).getD c d=l.getD c d:=by
 rw[List.getD_eq_getElem?_getD,List.getD_eq_getElem?_getD]
 by_cases h:c<l.length
 ·rw[List.getElem?_append_left h]
 ·rw[List.getElem?_eq_none (by simp;omega),List.getElem?_eq_none (by omega)]
theorem At.more (t:At K w0 F p v u qs h w) (x:Td) (hl:h.L.length<=1000) :
  ∃ v' w',(Builtin.append_ #[126,126] 126 #[v,.slice (some ⟨w.heap.size,0,none⟩) 1 1]).run Tryz.prog (w.alloc (Zn x))=.ok v' w'/\(∃ ao cap,v'=.slice ao (h.L.length+1) cap)/\w'.cell? ⟨p,0,none⟩=some v/\w'.frozen? ⟨p,0,none⟩=false/\At K w0 F p v' u qs ⟨h.L++[x],h.Q⟩ (w'.setCell ⟨p,0,none⟩ v'):=by
 obtain⟨a,t1,o⟩:=t.ex
 have row:(OA v h.L).H w:=t1.fam.each 1 (by omega)
 obtain⟨v',w',r1,r2,r3,r4⟩:=Jjc w v h.L x row (by omega)
 obtain⟨f1,f2,f3⟩:=t1.fam.turn (i:=1) (R':=fun k=>if k=1 then OA v' (h.L++[x]) else MV K p v u qs a h k) (t:=OA v' (h.L++[x])) (by omega) rfl (fun j hj=>if_neg hj) r2 (Turn.grown r3 fun k hk=>.inl hk) fun g hg=>r4 g hg
 have hb:w'.heap[p]? = some (.cells #[v,u] K.ty (0,0)):=f1.each 0 (by omega)
 obtain⟨g1,g2,g3⟩:=f1.turn (i:=0) (R':=MV K p v' u qs a ⟨h.L++[x],h.Q⟩) (t:=blk p (.cells #[v',u] K.ty (0,0))) (w':=w'.setCell ⟨p,0,none⟩ v') (by omega) rfl (fun j hj=>by
  match j,hj with
  | 1,_=>rfl
  | 2,_=>rfl
  | c+3,_=>rfl) (setBlock hb v') (Turn.setCell _ _ _ _ rfl) fun y hy=>.inl hy
 obtain⟨ao,cap,ev,_⟩:=XC r2
 refine⟨v',w',r1,⟨ao,cap,by rw[ev,List.length_append];rfl⟩,by simp[World.cell?,hb],by simp[World.frozen?,hb],⟨a,⟨g1,t1.len⟩,fun y hy=>?_⟩,?_⟩
 ·rcases g3 y hy with h1|h1
  ·rcases f3 y h1 with h2|h2
   ·exact o y h2
   ·exact .inr (Jql t.turn.size h2)
  ·exact .inr (Jql (Jql t.turn.size f2.size) h1)
 ·refine(t.turn.trans f2 fun y hy=>o y hy).trans g2 fun y hy=>?_
  rcases f3 y hy with h2|h2
  ·exact o y h2
  ·exact .inr (Jql t.turn.size h2)
theorem At.queueMore (sl:TypeId) (hu:Tryz.prog.underlying sl=some (.slice K.pt)) (hinfo:(Tryz.prog.info? K.pt).map (fun i=>(i.zero,i.size,i.bytes))=some (some (.pointer none),1,8)) (t:At K w0 F p v u qs h w) {w1:World} {q:Nat} {α:K.α} {S:St} (hq:(K.th q α S).H w1) (b:Below w.heap.size w w1) (n:∀ x,(K.th q α S).F x->w.heap.size<=x) (hl:h.Q.length<=1000) :
  ∃ u' w',(Builtin.append_ #[sl,sl] sl #[u,.slice (some ⟨w1.heap.size,0,none⟩) 1 1]).run Tryz.prog (w1.alloc (.cells #[.pointer (some ⟨q,0,none⟩)] K.pt))=.ok u' w'/\(∃ ao cap,u'=.slice ao (h.Q.length+1) cap)/\w'.cell? ⟨p,1,none⟩=some u/\w'.frozen? ⟨p,1,none⟩=false/\At K w0 F p v u' (qs++[q]) ⟨h.L,h.Q++[S]⟩ (w'.setCell ⟨p,1,none⟩ u'):=by
 obtain⟨a,t0,o⟩:=t.ex
 have hlen:=t0.len
 have f0:=t0.fam.below b
 -- the new one beside the others
 have fa:Fam (fun k=>if k=3+h.Q.length then K.th q α S else MV K p v u qs a h k) (3+h.Q.length+1) w1:=f0.add hq (fun x hx hy=>by
  have h1:=n x hx
  have h2:=t0.fam.lt x hy
  omega) (if_pos rfl) fun j hj=>if_neg (by omega)
 have row:(Gs K.pt u qs).H w1:=f0.each 2 (by omega)
 obtain⟨u',w',r1,r2,r3,r4⟩:=Jjb sl K.pt hu hinfo w1 u qs q row (by omega)
 have hR2:(if (2:Nat)=3+h.Q.length then K.th q α S else MV K p v u qs a h 2)=Gs K.pt u qs:=if_neg (by omega)
 obtain⟨f1,f2,f3⟩:=fa.turn (i:=2) (R':=fun k=>if k=2 then Gs K.pt u' (qs++[q]) else if k=3+h.Q.length then K.th q α S else MV K p v u qs a h k) (t:=Gs K.pt u' (qs++[q])) (by omega) rfl (fun j hj=>if_neg hj) r2 (by rw[hR2];exact Turn.grown r3 fun k hk=>.inl hk) (by rw[hR2];exact fun g hg=>r4 g hg)
 have hb:w'.heap[p]? = some (.cells #[v,u] K.ty (0,0)):=by
  have:=f1.each 0 (by omega)
  rw[if_neg (by omega),if_neg (by omega)] at this
  exact this
 have hR0:(if (0:Nat)=2 then Gs K.pt u' (qs++[q]) else if (0:Nat)=3+h.Q.length then K.th q α S else MV K p v u qs a h 0)=blk p (.cells #[v,u] K.ty (0,0)):=by
  rw[if_neg (by omega),if_neg (by omega)]
  rfl
 have hm:∀ c,MV K p v u' (qs++[q]) (VJ a h.Q.length α) ⟨h.L,h.Q++[S]⟩ (c+3)=if c+3=3+h.Q.length then K.th q α S else MV K p v u qs a h (c+3):=fun c=>by
  show K.th ((qs++[q]).getD c 0) (VJ a h.Q.length α c) ((h.Q++[S]).getD c [])=_
  by_cases e:c=h.Q.length
  ·have e1:(qs++[q]).getD c 0=q:=by
    rw[e,<- hlen,List.getD_eq_getElem?_getD,List.getElem?_append_right (Nat.le_refl _),Nat.sub_self]
    rfl
   have e2:(h.Q++[S]).getD c []=S:=by
    rw[e,List.getD_eq_getElem?_getD,List.getElem?_append_right (Nat.le_refl _),Nat.sub_self]
    rfl
   rw[if_pos (by omega),e1,e2,e,Zv]
  ·rw[if_neg (by omega),J1 _ _ e,Jar hlen e,Jar rfl e]
   rfl
 obtain⟨g1,g2,g3⟩:=f1.turn (i:=0) (R':=MV K p v u' (qs++[q]) (VJ a h.Q.length α) ⟨h.L,h.Q++[S]⟩) (t:=blk p (.cells #[v,u'] K.ty (0,0))) (w':=w'.setCell ⟨p,1,none⟩ u') (by omega) rfl (fun j hj=>by
  match j,hj with
  | 1,_=>rw[if_neg (by omega),if_neg (by omega)];rfl
  | 2,_=>rw[if_pos rfl];rfl
  | c+3,_=>rw[if_neg (by omega)];exact hm c) (setBlock hb u') (by rw[hR0];exact Turn.setCell _ _ _ _ rfl) (by rw[hR0];exact fun y hy=>.inl hy)
 have hfa:∀ y,fpF (fun k=>if k=3+h.Q.length then K.th q α S else MV K p v u qs a h k) (3+h.Q.length+1) y->F y\/w0.heap.size<=y:=by
  rintro y ⟨j,hj,hy⟩
  by_cases e:j=3+h.Q.length
  ·simp only[e,if_true] at hy
   exact .inr (Jql t.turn.size (n y hy))
  ·simp only[e,if_false] at hy
   exact o y ⟨j,by omega,hy⟩
 have hl1:(h.Q++[S]).length=h.Q.length+1:=by simp
 have hsz:w0.heap.size<=w1.heap.size:=Jql t.turn.size b.size
 obtain⟨ao,cap,ev,_⟩:=XC r2
 refine⟨u',w',r1,⟨ao,cap,by rw[ev,List.length_append,hlen];rfl⟩,by simp[World.cell?,hb],by simp[World.frozen?,hb],⟨VJ a h.Q.length α,⟨by rw[hl1];exact g1,by rw[hl1,List.length_append,hlen];rfl⟩,fun y hy=>?_⟩,?_⟩
 ·unfold fpT at hy
  rw[hl1] at hy
  rcases g3 y hy with h1|h1
  ·rcases f3 y h1 with h2|h2
   ·exact hfa y h2
   ·exact .inr (Jql hsz h2)
  ·exact .inr (Jql (Jql hsz f2.size) h1)
 ·refine((t.turn.thenBelow b).trans f2 fun y hy=>hfa y hy).trans g2 fun y hy=>?_
  rcases f3 y hy with h2|h2
  ·exact hfa y h2
  ·exact .inr (Jql hsz h2)
end
def Jbr:Nat->Prop:=fun _=>False
theorem Jek {w w':World} (h:Turn Jbr w w'):Below w.heap.size w w':=⟨h.os,h.tape,h.output,h.size,fun k hk=>h.block k hk id⟩
section
variable {K:QK} {w0 w:World} {p:Nat} {v u:Value} {qs:List Nat} {h:Hs}
theorem At.all_new (t:At K w0 Jbr p v u qs h w):∃ F,ThH K p F h w/\Below w0.heap.size w0 w/\∀ x,F x->w0.heap.size<=x:=by
 obtain⟨F',h1,h2,h3⟩:=t.goes
 exact⟨F',h1,Jek h2,fun x hx=>(h3 x hx).elim (fun e=>e.elim) id⟩
theorem Jjh (w:World) {w1:World} (b:Below w.heap.size w w1) {v:Value} {L:List Td} (hv:(OA v L).H w1) (hn:∀ x,v.ownBlock=some x->w.heap.size<=x) (α:Nat->K.α) :
  At K w Jbr w1.heap.size v (.slice none 0 0) [] ⟨L,[]⟩ (w1.alloc (.cells #[v,.slice none 0 0] K.ty)):=by
 have hb:=blk_alloc_new w1 (.cells #[v,.slice none 0 0] K.ty)
 refine⟨⟨α,⟨⟨fun i hi=>?_,fun i j hi hj hij x hx hy=>?_⟩,rfl⟩,?_⟩,?_⟩
 ·match i,hi with
  | 0,_=>exact hb
  | 1,_=>exact(OA v L).below hv (Jb _ _)
  | 2,_=>exact⟨rfl,.inl ⟨rfl,rfl⟩⟩
  | c+3,hi=>exact absurd hi (by simp only[List.length_nil];omega)
 ·have hlt:∀ x,v.ownBlock=some x->x<w1.heap.size:=fun x hx=>(OA v L).lt w1 hv x hx
  match i,j,hi,hj,hij,hx,hy with
  | 0,1,_,_,_,hx,hy =>
   have h1:x=w1.heap.size:=hx
   have:=hlt x hy
   omega
  | 1,0,_,_,_,hx,hy =>
   have h1:x=w1.heap.size:=hy
   have:=hlt x hx
   omega
  | 2,_,_,_,_,hx,_=>cases hx
  | _,2,_,_,_,_,hy=>cases hy
  | c+3,_,hi,_,_,_,_=>exact absurd hi (by simp only[List.length_nil];omega)
  | _,c+3,_,hj,_,_,_=>exact absurd hj (by simp only[List.length_nil];omega)
 ·rintro x ⟨i,hi,hx⟩
  match i,hi,hx with
  | 0,_,hx =>
   have h1:x=w1.heap.size:=hx
   exact .inr (by rw[h1];exact b.size)
  | 1,_,hx=>exact .inr (hn x hx)
  | 2,_,hx=>cases hx
  | c+3,hi,_=>exact absurd hi (by simp only[List.length_nil];omega)
 ·exact(Turn.of b Jbr).thenBelow (Jb _ _)
end
theorem uP:Tryz.prog.underlying 232 = some (.slice Mx.pt):=Tryz.underlying232
theorem Je8:(Tryz.prog.info? Mx.pt).map (fun i=>(i.zero,i.size,i.bytes))=some (some (.pointer none),1,8):=by kernel_rfl
theorem Jz1 (w:World):Calls Tryz.prog 194 #[] w fun e w'=>∃ q F,e=.returned (Je q)/\(Mx.th q F []).H w'/\Below w.heap.size w w'/\∀ x,(Mx.th q F []).F x->w.heap.size<=x:=by
 refine Jqa (IM w) ?_
 rintro e w' ⟨F,rfl,h1,b,n⟩
 exact⟨_,F,rfl,h1,b,n⟩
theorem Jlb (n:Nat) (w:World) (h1:1<=n) (h8:n<=8) :
  Calls Tryz.prog 98 #[.int .i64 n] w fun e w'=>∃ p F,e=.returned (.tuple #[Je p,.int .i64 0])/\ThH Mx p F (Vu n) w'/\Below w.heap.size w w'/\∀ x,F x->w.heap.size<=x:=by
 have hz1:¬ ((n:Int)<1):=by omega
 have hz2:¬ ((8:Int)<(n:Int)):=by omega
 have A0:=Ja (Jjh (K:=Mx) w (w1:=w) (Below.refl _ _) (v:=.slice none 0 0) (L:=[]) ⟨rfl,.inl ⟨rfl,rfl⟩⟩ (fun x hx=>by cases hx) (fun _ _=>False))
 have hty:Mx.ty=234:=rfl
 rw[hty] at A0
 clear hty
 go_enter Tryz.func98,Tryz.ntmps98
 go_wp2_with fail
 go_loopw [14] (fun s14 wr=>∃ (k:Nat) (ao:Option Addr) (cap:Nat) (qs:List Nat),k<=n/\s14=.int .i64 k/\At Mx w Jbr w.heap.size (.slice none 0 0) (.slice ao k cap) qs ⟨[],List.replicate k []⟩ wr) (fun s14 _=>n - (intOf s14).toNat)
 case atStart=>exact⟨0,none,0,[],Jqp _,rfl,A0.out⟩
 case round =>
  clear A0
  obtain⟨k,ao,cap,qs,hk,rfl,t⟩:=hrel
  have T:=Ja t
  by_cases hlt:k<n
  ·have hltz:(k:Int)<(n:Int):=by omega
   have c1:=t.cell1
   have TD:=Ja t.drew
   have HL:Hid (k<=8):=by show k<=8;omega
   clear t T
   generalize hr:w.heap.size=r at *
   go_wp2_with fail
   go_region_law (first
    | (refine Jy rfl (.tmp 20) (.tmp 22) 232 232 rfl (.slice ao k cap) (.slice (some ⟨w2.heap.size,0,none⟩) 1 1) _ _ (by simp[Act.eval]) (by simp[Act.eval]) R1.out ?_)
    | (go_simp;go_at_call 194;refine Jqa (Jz1 _) ?_;rintro e w2 ⟨q,F2,rfl,q2,b2,n2⟩;obtain⟨u',w3,r1,⟨ao',cap',rfl⟩,c1',f1',t3⟩:=TD.out.queueMore 232 uP Je8 q2 b2 n2 (by simp;have:=HL.out;omega);have R1:=Ja r1;have T3:=Ja t3;have c1b:=(TD.out.below b2).cell1;have c1c:=Jx c1b (.cells #[Je q] 235);clear r1 t3 q2 b2 n2))
   all_goals
    go_wp2
    go_round
    case rel=>exact⟨k+1,_,_,_,by omega,by go_num,by have:=T3.out;simp only[List.length_replicate] at this;rw[List.replicate_succ'];exact this⟩
    case measure=>simp[intOf];omega
  ·obtain rfl:k=n:=by omega
   clear t
   go_wp2
   go_ret2
   obtain⟨F,f1,f2,f3⟩:=T.out.all_new
   exact⟨_,F,rfl,f1,f2,f3⟩
section
variable {w0 w:World} {F:Nat->Prop} {p:Nat} {v u:Value} {qs:List Nat} {h:Hs}
theorem UM (h:Hs) (i:Int):(∃ j:Nat,i=j/\j<h.L.length/\Ae h i/\i.toNat=j)\/¬ Ae h i:=by
 by_cases ht:Ae h i
 ·obtain⟨h1,h2⟩:=MT ht
  exact .inl ⟨i.toNat,h2.symm,h1,ht,rfl⟩
 ·exact .inr ht
theorem Jhx (t:At Mx w0 F p v u qs h w) (iv:Inv h) (i:Int) :
  Calls Tryz.prog 101 #[Je p,.int .i64 i] w fun e w'=>e=.returned (.int .i64 (Xh h i))/\At Mx w0 F p v u qs (JR h i) w':=by
 have hmf:=Jhm
 have IV:=Ja iv
 obtain⟨ao,cap,rfl,hg⟩:=t.slice
 rcases UM h i with ⟨j,rfl,hj,hT,hjn⟩|hT
 ·have T0:=Ja t
  obtain⟨g,rfl⟩:=hg j hj
  have HJ:=Ja hj
  have hE0:II (j:Int) (h.L.length:Int) 100=0:=ZZ (by omega)
  have HR:Hid (Xh h j=ER (List.contains [0,3] (thr h j).st) 101/\(ER (List.contains [0,3] (thr h j).st) 101≠0->JR h j=h)):=by
   have hs:=(JL iv hj).s
   have hE:Xh h j=ER (List.contains [0,3] (thr h j).st) 101:=by
    unfold Xh
    rw[if_pos hT,Int.toNat_natCast]
    generalize(thr h j).st=s at *
    have:s=0\/s=1\/s=2\/s=3:=by omega
    rcases this with rfl|rfl|rfl|rfl<;>rfl
   refine⟨hE,fun hne=>?_⟩
   unfold JR
   rw[hE,if_neg hne]
  clear t hg hj
  go_enter Tryz.func101,Tryz.ntmps101
  go_wp2_with fail
  refine Jqa (JN p j _ _ _ w T0.out.var0) ?_
  rintro e w1 ⟨c1,rfl,k1,b1⟩
  obtain⟨g1,l1,rfl⟩:=k1.form
  have T1:=Ja (T0.out.below b1)
  have B2:=Ja (Jb w1 (.cells #[.int .i64 0,.int .i64 3] 3))
  have K1:=Ja (k1.below B2.out)
  have C2:=Ja (blk_alloc_new w1 (.cells #[.int .i64 0,.int .i64 3] 3))
  clear k1 b1
  go_wp2_with fail
  have T2:=Ja (T1.out.below B2.out)
  refine Jqa (UG p g cap h.L.length w1.heap.size j (thr h j).st [0,3] _ T2.out.var0 HJ.out T2.out.ltT (by simp) (T2.out.four HJ.out).1 (fun k x hx=>?_) (by simp)) ?_
  ·simp only[World.cell?,C2.out]
   match k,hx with
   | 0,hx=>exact congrArg (fun z=>some (Value.int .i64 z)) (Jqz hx)
   | 1,hx=>exact congrArg (fun z=>some (Value.int .i64 z)) (Jqz hx)
   | k+2,hx=>simp at hx
  rintro e w3 ⟨c2,rfl,k2,b3⟩
  obtain⟨g2,l2,rfl⟩:=k2.form
  have T3:=Ja (T2.out.below b3)
  have K1':=Ja (K1.out.below b3)
  have K2:=Ja k2
  clear k2 b3
  go_wp2_with fail
  refine Jqa (Uk w3 _ _ _ _ K1'.out fun _=>K2.out) ?_
  rintro e w4 ⟨rfl,b4⟩
  have T4:=Ja (T3.out.below b4)
  clear b4
  rw[hE0]
  clear K1 K1' K2 C2 B2 T1 T2 T3 T0 hE0
  cases hst:List.contains [0,3] (thr h j).st with
  | false =>
   rw[hst] at HR
   have hF:J3 [0,ER false 101]=101:=rfl
   rw[hF]
   go_wp2
   go_ret
   obtain⟨r1,r2⟩:=HR.out
   exact⟨Jm (by rw[r1];rfl),by rw[r2 (by decide)];exact T4.out⟩
  | true =>
   have HS:=Ja hst
   rw[hst] at HR
   clear hst
   have hF:J3 [0,ER true 101]=0:=rfl
   rw[hF]
   have HE:Hid (Xh h j=0):=HR.out.1
   go_wp2_with fail
   have okj:=JL IV.out HJ.out
   have hne:(thr h j).st≠1:=fun e=>by
    have:=HS.out
    rw[e] at this
    cases this
   have hG:JR h j=Ie h j:=by
    rw[AV IV.out HJ.out hne]
    unfold JR
    rw[HE.out,if_pos rfl]
    rfl
   refine Jqa (UN T4.out HJ.out okj.c (Jql (IV.out.small okj.c) (by omega)) (by have:=IV.out.few;have:=HJ.out;omega)) ?_
   rintro e w5 ⟨rfl,t5⟩
   rw[<- hG] at t5
   have T5:=Ja t5
   clear t5
   go_wp2
   go_ret
   exact⟨Jm HE.out.symm,T5.out⟩
 ·have T0:=Ja t
  have hE0:II i (h.L.length:Int) 100=100:=Xy hT
  have HR:Hid (Xh h i=100/\JR h i=h):=by
   have:Xh h i=100:=by
    unfold Xh
    rw[if_neg hT]
   exact⟨this,by unfold JR;rw[this,if_neg (by decide)]⟩
  clear t hg hT
  go_enter Tryz.func101,Tryz.ntmps101
  go_wp2_with fail
  refine Jqa (JN p i _ _ _ w T0.out.var0) ?_
  rintro e w1 ⟨c1,rfl,k1,b1⟩
  obtain⟨g1,l1,rfl⟩:=k1.form
  have T1:=Ja (T0.out.below b1)
  have B2:=Ja (Jb w1 (.cells #[.int .i64 0,.int .i64 3] 3))
  have K1:=Ja (k1.below B2.out)
  clear k1 b1
  go_wp2_with fail
  refine Jqa (I9 p i _ _ _ _) ?_
  rintro e w3 ⟨g2,l2,rfl,b3⟩
  have T3:=Ja ((T1.out.below B2.out).below b3)
  have K1':=Ja (K1.out.below b3)
  clear b3
  go_wp2_with fail
  refine Jqa (Uk w3 _ _ _ 0 K1'.out fun e=>by rw[hE0] at e;cases e) ?_
  rintro e w4 ⟨rfl,b4⟩
  have T4:=Ja (T3.out.below b4)
  clear b4
  rw[hE0]
  have hF:J3 [100,0]=100:=rfl
  rw[hF]
  clear K1 K1' B2 T1 T3 T0 hE0
  go_wp2
  go_ret
  obtain⟨r1,r2⟩:=HR.out
  exact⟨Jm r1.symm,by rw[r2];exact T4.out⟩
theorem Jeh (t:At Mx w0 F p v u qs h w) (iv:Inv h) (i:Int) :
  Calls Tryz.prog 232 #[Je p,.int .i64 i] w fun e w'=>e=.returned (.int .i64 (JY h i))/\At Mx w0 F p v u qs (JM h i) w':=by
 have hmf:=Jhm
 have IV:=Ja iv
 obtain⟨ao,cap,rfl,hg⟩:=t.slice
 rcases UM h i with ⟨j,rfl,hj,hT,hjn⟩|hT
 ·have T0:=Ja t
  obtain⟨g,rfl⟩:=hg j hj
  have HJ:=Ja hj
  have hE0:II (j:Int) (h.L.length:Int) 100=0:=ZZ (by omega)
  have HR:Hid (JY h j=ER (List.contains [1,2,3] (thr h j).st) 101/\(ER (List.contains [1,2,3] (thr h j).st) 101≠0->JM h j=h)):=by
   have hs:=(JL iv hj).s
   have hE:JY h j=ER (List.contains [1,2,3] (thr h j).st) 101:=by
    unfold JY
    rw[if_pos hT,Int.toNat_natCast]
    generalize(thr h j).st=s at *
    have:s=0\/s=1\/s=2\/s=3:=by omega
    rcases this with rfl|rfl|rfl|rfl<;>rfl
   refine⟨hE,fun hne=>?_⟩
   unfold JM
   rw[hE,if_neg hne]
  clear t hg hj
  go_enter Tryz.func232,Tryz.ntmps232
  go_wp2_with fail
  refine Jqa (JN p j _ _ _ w T0.out.var0) ?_
  rintro e w1 ⟨c1,rfl,k1,b1⟩
  obtain⟨g1,l1,rfl⟩:=k1.form
  have T1:=Ja (T0.out.below b1)
  have B2:=Ja (Jb w1 (.cells #[.int .i64 1,.int .i64 2,.int .i64 3] 3))
  have K1:=Ja (k1.below B2.out)
  have C2:=Ja (blk_alloc_new w1 (.cells #[.int .i64 1,.int .i64 2,.int .i64 3] 3))
  clear k1 b1
  go_wp2_with fail
  have T2:=Ja (T1.out.below B2.out)
  refine Jqa (UG p g cap h.L.length w1.heap.size j (thr h j).st [1,2,3] _ T2.out.var0 HJ.out T2.out.ltT (by simp) (T2.out.four HJ.out).1 (fun k x hx=>?_) (by simp)) ?_
  ·simp only[World.cell?,C2.out]
   match k,hx with
   | 0,hx=>exact congrArg (fun z=>some (Value.int .i64 z)) (Jqz hx)
   | 1,hx=>exact congrArg (fun z=>some (Value.int .i64 z)) (Jqz hx)
   | 2,hx=>exact congrArg (fun z=>some (Value.int .i64 z)) (Jqz hx)
   | k+3,hx=>simp at hx
  rintro e w3 ⟨c2,rfl,k2,b3⟩
  obtain⟨g2,l2,rfl⟩:=k2.form
  have T3:=Ja (T2.out.below b3)
  have K1':=Ja (K1.out.below b3)
  have K2:=Ja k2
  clear k2 b3
  go_wp2_with fail
  refine Jqa (Uk w3 _ _ _ _ K1'.out fun _=>K2.out) ?_
  rintro e w4 ⟨rfl,b4⟩
  have T4:=Ja (T3.out.below b4)
  clear b4
  rw[hE0]
  clear K1 K1' K2 C2 B2 T1 T2 T3 T0 hE0
  cases hst:List.contains [1,2,3] (thr h j).st with
  | false =>
   rw[hst] at HR
   have hF:J3 [0,ER false 101]=101:=rfl
   rw[hF]
   go_wp2
   go_ret
   obtain⟨r1,r2⟩:=HR.out
   exact⟨Jm (by rw[r1];rfl),by rw[r2 (by decide)];exact T4.out⟩
  | true =>
   have HS:=Ja hst
   rw[hst] at HR
   clear hst
   have hF:J3 [0,ER true 101]=0:=rfl
   rw[hF]
   have HE:Hid (JY h j=0):=HR.out.1
   go_wp2_with fail
   have okj:=JL IV.out HJ.out
   refine Jqa (IK T4.out HJ.out okj.c (Jql (IV.out.small okj.c) (by omega)) (by have:=IV.out.few;have:=HJ.out;omega)) ?_
   rintro e w5 ⟨rfl,t5⟩
   have c0:=t5.cell0
   have hl5:j<(J6 h j).L.length:=HJ.out
   obtain⟨d0,_,_,_⟩:=t5.four hl5
   have f0:=t5.frozenT (j*12)
   have T6:=Ja (t5.set hl5 (j:=0) (c:=.int .i64 0) (y:={ thr h j with st:=0 }) (by omega) rfl)
   have HG:Hid (JM h j=⟨(J6 h j).L.set j { thr h j with st:=0 },(J6 h j).Q⟩):=by
    show JM h j=_
    rw[Ag (h:=h) (i:=j) { thr h j with st:=0 } (by simp)]
    unfold JM
    rw[HE.out,if_pos rfl]
    rfl
   have hjz:(j:Int)<(h.L.length:Int):=by have:=HJ.out;omega
   clear t5 okj
   simp only[Nat.add_zero] at T6
   generalize(thr (J6 h j) j).st=st0 at *
   generalize hn:h.L.length=nL at *
   go_wp2
   go_ret
   exact⟨Jm HE.out.symm,by rw[HG.out,hn];exact T6.out⟩
 ·have T0:=Ja t
  have hE0:II i (h.L.length:Int) 100=100:=Xy hT
  have HR:Hid (JY h i=100/\JM h i=h):=by
   have:JY h i=100:=by
    unfold JY
    rw[if_neg hT]
   exact⟨this,by unfold JM;rw[this,if_neg (by decide)]⟩
  clear t hg hT
  go_enter Tryz.func232,Tryz.ntmps232
  go_wp2_with fail
  refine Jqa (JN p i _ _ _ w T0.out.var0) ?_
  rintro e w1 ⟨c1,rfl,k1,b1⟩
  obtain⟨g1,l1,rfl⟩:=k1.form
  have T1:=Ja (T0.out.below b1)
  have B2:=Ja (Jb w1 (.cells #[.int .i64 1,.int .i64 2,.int .i64 3] 3))
  have K1:=Ja (k1.below B2.out)
  clear k1 b1
  go_wp2_with fail
  refine Jqa (I9 p i _ _ _ _) ?_
  rintro e w3 ⟨g2,l2,rfl,b3⟩
  have T3:=Ja ((T1.out.below B2.out).below b3)
  have K1':=Ja (K1.out.below b3)
  clear b3
  go_wp2_with fail
  refine Jqa (Uk w3 _ _ _ 0 K1'.out fun e=>by rw[hE0] at e;cases e) ?_
  rintro e w4 ⟨rfl,b4⟩
  have T4:=Ja (T3.out.below b4)
  clear b4
  rw[hE0]
  have hF:J3 [100,0]=100:=rfl
  rw[hF]
  clear K1 K1' B2 T1 T3 T0 hE0
  go_wp2
  go_ret
  obtain⟨r1,r2⟩:=HR.out
  exact⟨Jm r1.symm,by rw[r2];exact T4.out⟩
theorem Jjm (t:At Mx w0 F p v u qs h w) (iv:Inv h) (i:Int) :
  Calls Tryz.prog 319 #[Je p,.int .i64 i] w fun e w'=>e=.returned (.int .i64 (Vp h i))/\At Mx w0 F p v u qs (Xp h i) w':=by
 have hmf:=Jhm
 have IV:=Ja iv
 obtain⟨ao,cap,rfl,hg⟩:=t.slice
 rcases UM h i with ⟨j,rfl,hj,hT,hjn⟩|hT
 ·have T0:=Ja t
  obtain⟨g,rfl⟩:=hg j hj
  have HJ:=Ja hj
  have hE0:II (j:Int) (h.L.length:Int) 100=0:=ZZ (by omega)
  have HR:Hid (Vp h j=ER (List.contains [2] (thr h j).st) 101/\(ER (List.contains [2] (thr h j).st) 101≠0->Xp h j=h)):=by
   have hs:=(JL iv hj).s
   have hE:Vp h j=ER (List.contains [2] (thr h j).st) 101:=by
    unfold Vp
    rw[if_pos hT,Int.toNat_natCast]
    generalize(thr h j).st=s at *
    have:s=0\/s=1\/s=2\/s=3:=by omega
    rcases this with rfl|rfl|rfl|rfl<;>rfl
   refine⟨hE,fun hne=>?_⟩
   unfold Xp
   rw[hE,if_neg hne]
  clear t hg hj
  go_enter Tryz.func319,Tryz.ntmps319
  go_wp2_with fail
  refine Jqa (JN p j _ _ _ w T0.out.var0) ?_
  rintro e w1 ⟨c1,rfl,k1,b1⟩
  obtain⟨g1,l1,rfl⟩:=k1.form
  have T1:=Ja (T0.out.below b1)
  have B2:=Ja (Jb w1 (.cells #[.int .i64 2] 3))
  have K1:=Ja (k1.below B2.out)
  have C2:=Ja (blk_alloc_new w1 (.cells #[.int .i64 2] 3))
  clear k1 b1
  go_wp2_with fail
  have T2:=Ja (T1.out.below B2.out)
  refine Jqa (UG p g cap h.L.length w1.heap.size j (thr h j).st [2] _ T2.out.var0 HJ.out T2.out.ltT (by simp) (T2.out.four HJ.out).1 (fun k x hx=>?_) (by simp)) ?_
  ·simp only[World.cell?,C2.out]
   match k,hx with
   | 0,hx=>exact congrArg (fun z=>some (Value.int .i64 z)) (Jqz hx)
   | k+1,hx=>simp at hx
  rintro e w3 ⟨c2,rfl,k2,b3⟩
  obtain⟨g2,l2,rfl⟩:=k2.form
  have T3:=Ja (T2.out.below b3)
  have K1':=Ja (K1.out.below b3)
  have K2:=Ja k2
  clear k2 b3
  go_wp2_with fail
  refine Jqa (Uk w3 _ _ _ _ K1'.out fun _=>K2.out) ?_
  rintro e w4 ⟨rfl,b4⟩
  have T4:=Ja (T3.out.below b4)
  clear b4
  rw[hE0]
  clear K1 K1' K2 C2 B2 T1 T2 T3 T0 hE0
  cases hst:List.contains [2] (thr h j).st with
  | false =>
   rw[hst] at HR
   have hF:J3 [0,ER false 101]=101:=rfl
   rw[hF]
   go_wp2
   go_ret
   obtain⟨r1,r2⟩:=HR.out
   exact⟨Jm (by rw[r1];rfl),by rw[r2 (by decide)];exact T4.out⟩
  | true =>
   have HS:=Ja hst
   rw[hst] at HR
   clear hst
   have hF:J3 [0,ER true 101]=0:=rfl
   rw[hF]
   have HE:Hid (Vp h j=0):=HR.out.1
   have t5:=T4.out
   have c0:=t5.cell0
   obtain⟨d0,_,_,_⟩:=t5.four HJ.out
   have f0:=t5.frozenT (j*12)
   have T6:=Ja (t5.set HJ.out (j:=0) (c:=.int .i64 3) (y:={ thr h j with st:=3 }) (by omega) rfl)
   have HG:Hid (Xp h j=⟨h.L.set j { thr h j with st:=3 },h.Q⟩):=by
    show Xp h j=_
    have hst:(thr h j).st=2:=by
     have:=HS.out
     simpa using this
    have okj:=JL IV.out HJ.out
    have:=Jaq IV.out HJ.out (by omega) { thr h j with st:=3 } okj.c okj.p
    rw[if_neg (by simp)] at this
    rw[<- this]
    unfold Xp
    rw[HE.out,if_pos rfl]
    rfl
   have hjz:(j:Int)<(h.L.length:Int):=by have:=HJ.out;omega
   clear t5
   simp only[Nat.add_zero] at T6
   generalize(thr h j).st=st0 at *
   generalize hn:h.L.length=nL at *
   go_wp2
   go_ret
   exact⟨Jm HE.out.symm,by rw[HG.out,hn];exact T6.out⟩
 ·have T0:=Ja t
  have hE0:II i (h.L.length:Int) 100=100:=Xy hT
  have HR:Hid (Vp h i=100/\Xp h i=h):=by
   have:Vp h i=100:=by
    unfold Vp
    rw[if_neg hT]
   exact⟨this,by unfold Xp;rw[this,if_neg (by decide)]⟩
  clear t hg hT
  go_enter Tryz.func319,Tryz.ntmps319
  go_wp2_with fail
  refine Jqa (JN p i _ _ _ w T0.out.var0) ?_
  rintro e w1 ⟨c1,rfl,k1,b1⟩
  obtain⟨g1,l1,rfl⟩:=k1.form
  have T1:=Ja (T0.out.below b1)
  have B2:=Ja (Jb w1 (.cells #[.int .i64 2] 3))
  have K1:=Ja (k1.below B2.out)
  clear k1 b1
  go_wp2_with fail
  refine Jqa (I9 p i _ _ _ _) ?_
  rintro e w3 ⟨g2,l2,rfl,b3⟩
  have T3:=Ja ((T1.out.below B2.out).below b3)
  have K1':=Ja (K1.out.below b3)
  clear b3
  go_wp2_with fail
  refine Jqa (Uk w3 _ _ _ 0 K1'.out fun e=>by rw[hE0] at e;cases e) ?_
  rintro e w4 ⟨rfl,b4⟩
  have T4:=Ja (T3.out.below b4)
  clear b4
  rw[hE0]
  have hF:J3 [100,0]=100:=rfl
  rw[hF]
  clear K1 K1' B2 T1 T3 T0 hE0
  go_wp2
  go_ret
  obtain⟨r1,r2⟩:=HR.out
  exact⟨Jm r1.symm,by rw[r2];exact T4.out⟩
end
theorem Jx2 {g:List Int} (h:g.length=8):∃ a0 a1 a2 a3 a4 a5 a6 a7,g=[a0,a1,a2,a3,a4,a5,a6,a7]:=by
 match g,h with
 | [a0,a1,a2,a3,a4,a5,a6,a7],_=>exact⟨a0,a1,a2,a3,a4,a5,a6,a7,rfl⟩
theorem Js0 (x:Td) (hx:x.g.length=8) {k:Nat} (hk:k<8) (z:Int):cT { x with g:=x.g.set k z }=(cT x).set (4+k) (.int .u64 z):=by
 obtain⟨st,p,c,l,g⟩:=x
 obtain⟨a0,a1,a2,a3,a4,a5,a6,a7,rfl⟩:=Jx2 hx
 have:k=0\/k=1\/k=2\/k=3\/k=4\/k=5\/k=6\/k=7:=by omega
 rcases this with rfl|rfl|rfl|rfl|rfl|rfl|rfl|rfl<;>rfl
theorem Jz8 (x:Td) {k:Nat} (hk:k<8):(cT x)[4+k]? = some (.int .u64 (rg x k)):=by
 have:k=0\/k=1\/k=2\/k=3\/k=4\/k=5\/k=6\/k=7:=by omega
 rcases this with rfl|rfl|rfl|rfl|rfl|rfl|rfl|rfl<;>rfl
section
variable {w0 w:World} {F:Nat->Prop} {p:Nat} {v u:Value} {qs:List Nat} {h:Hs}
theorem Jtz (t:At Mx w0 F p v u qs h w) (iv:Inv h) (i k0:Int) (z:Int) :
  Calls Tryz.prog 327 #[Je p,.int .i64 i,.int .i64 k0,.int .u64 z] w fun e w'=>e=.returned (.int .i64 (EQ h i k0))/\At Mx w0 F p v u qs (My h i k0 z) w':=by
 have hmf:=Jhm
 have IV:=Ja iv
 have T0:=Ja t
 obtain⟨ao,cap,rfl,hg⟩:=t.slice
 have HG:=Ja hg
 have hE:EQ h i k0=J3 [II i (h.L.length:Int) 100,II k0 8 1]:=by
  unfold EQ
  by_cases hT:Ae h i
  ·rw[if_pos hT,ZZ hT]
   by_cases hp:0<=k0/\k0<8
   ·rw[if_pos hp,ZZ hp]
    rfl
   ·rw[if_neg hp,Xy hp]
    rfl
  ·rw[if_neg hT,Xy hT]
   rfl
 have HE:=Ja hE
 clear t hg iv hE
 go_enter Tryz.func327,Tryz.ntmps327
 go_wp2_with fail
 refine Jqa (JN p i _ _ _ _ T0.out.var0) ?_
 rintro e w1 ⟨c1,rfl,k1,b1⟩
 obtain⟨g1,l1,rfl⟩:=k1.form
 have K1:=Ja k1
 have T1:=Ja (T0.out.below b1)
 clear k1 b1 T0
 go_wp2_with fail
 refine Jqa (UI k0 8 w1) ?_
 rintro e w2 ⟨c2,rfl,k2,b2⟩
 obtain⟨g2,l2,rfl⟩:=k2.form
 have K1':=Ja (K1.out.below b2)
 have K2:=Ja k2
 have T2:=Ja (T1.out.below b2)
 clear k2 b2 T1 K1
 go_wp2_with fail
 refine Jqa (Uk w2 _ _ _ _ K1'.out fun _=>K2.out) ?_
 rintro e w3 ⟨rfl,b3⟩
 have T3:=Ja (T2.out.below b3)
 clear b3 T2 K1' K2
 rw[<- HE.out]
 by_cases h0:EQ h i k0=0
 ·have HH:Hid (Ae h i/\0<=k0/\k0<8):=by
   by_cases hT:Ae h i
   ·by_cases hp:0<=k0/\k0<8
    ·exact⟨hT,hp⟩
    ·rw[HE.out,ZZ hT,Xy hp] at h0
     cases h0
   ·rw[HE.out,Xy hT] at h0
    cases h0
  have H0:=Ja h0
  have HP:Hid (My h i k0 z=M0 h i.toNat { thr h i.toNat with g:=(thr h i.toNat).g.set k0.toNat z }):=by
   show My h i k0 z=_
   unfold My
   rw[if_pos h0]
  rw[h0]
  clear HE h0
  obtain⟨hT,hp⟩:=HH.out
  obtain⟨j,rfl⟩:=Jqg hT.1
  obtain⟨k,rfl⟩:=Jqg hp.1
  rw[Int.toNat_natCast,Int.toNat_natCast] at HP
  have hj:j<h.L.length:=by have:=hT.2;omega
  have hk:k<8:=by omega
  have HJ:=Ja (And.intro hj hk)
  obtain⟨g,rfl⟩:=HG.out j hj
  clear HG HH hT hp hj hk
  have c0:=T3.out.cell0
  have d0:=T3.out.cellT HJ.out.1 (Jz8 (thr h j) HJ.out.2)
  have f0:=T3.out.frozenT (j*12+(4+k))
  have T4:Hid (At Mx w0 F p _ _ qs (M0 h j { thr h j with g:=(thr h j).g.set k z }) _):=T3.out.set HJ.out.1 (j:=4+k) (c:=.int .u64 z) (y:={ thr h j with g:=(thr h j).g.set k z }) (by have:=HJ.out.2;omega) (Js0 (thr h j) (JL IV.out HJ.out.1).g HJ.out.2 z)
  have hjz:(j:Int)<(h.L.length:Int):=by have:=HJ.out.1;omega
  have hkz:(k:Int)<8:=by have:=HJ.out.2;omega
  clear T3
  generalize rg (thr h j) k=old at *
  rw[<- Nat.add_assoc] at d0 f0 T4
  generalize hnL:h.L.length=nL at *
  go_wp2
  go_ret
  rw[HP.out,H0.out,hnL]
  exact⟨rfl,T4.out⟩
 ·have h1:(EQ h i k0 == 0)=false:=by simpa using h0
  have h2:(EQ h i k0 != 0)=true:=by simpa using h0
  have HP:Hid (My h i k0 z=h):=by
   show My h i k0 z=h
   unfold My
   rw[if_neg h0]
  clear HE h0
  generalize hz:EQ h i k0=z at *
  go_wp2
  go_ret
  rw[HP.out,hz]
  exact⟨rfl,T3.out⟩
theorem Jpa (t:At Mx w0 F p v u qs h w) (iv:Inv h) (i k0:Int) :
  Calls Tryz.prog 233 #[Je p,.int .i64 i,.int .i64 k0] w fun e w'=>e=.returned (.int .i64 (VV h i k0))/\At Mx w0 F p v u qs (VW h i k0) w':=by
 have hmf:=Jhm
 have IV:=Ja iv
 have T0:=Ja t
 obtain⟨ao,cap,rfl,hg⟩:=t.slice
 have HG:=Ja hg
 have hE:VV h i k0=J3 [II i (h.L.length:Int) 100,II k0 256 1]:=by
  unfold VV
  by_cases hT:Ae h i
  ·rw[if_pos hT,ZZ hT]
   by_cases hp:0<=k0/\k0<256
   ·rw[if_pos hp,ZZ hp]
    rfl
   ·rw[if_neg hp,Xy hp]
    rfl
  ·rw[if_neg hT,Xy hT]
   rfl
 have HE:=Ja hE
 clear t hg iv hE
 go_enter Tryz.func233,Tryz.ntmps233
 go_wp2_with fail
 refine Jqa (JN p i _ _ _ _ T0.out.var0) ?_
 rintro e w1 ⟨c1,rfl,k1,b1⟩
 obtain⟨g1,l1,rfl⟩:=k1.form
 have K1:=Ja k1
 have T1:=Ja (T0.out.below b1)
 clear k1 b1 T0
 go_wp2_with fail
 refine Jqa (UI k0 256 w1) ?_
 rintro e w2 ⟨c2,rfl,k2,b2⟩
 obtain⟨g2,l2,rfl⟩:=k2.form
 have K1':=Ja (K1.out.below b2)
 have K2:=Ja k2
 have T2:=Ja (T1.out.below b2)
 clear k2 b2 T1 K1
 go_wp2_with fail
 refine Jqa (Uk w2 _ _ _ _ K1'.out fun _=>K2.out) ?_
 rintro e w3 ⟨rfl,b3⟩
 have T3:=Ja (T2.out.below b3)
 clear b3 T2 K1' K2
 rw[<- HE.out]
 by_cases h0:VV h i k0=0
 ·have HH:Hid (Ae h i/\0<=k0/\k0<256):=by
   by_cases hT:Ae h i
   ·by_cases hp:0<=k0/\k0<256
    ·exact⟨hT,hp⟩
    ·rw[HE.out,ZZ hT,Xy hp] at h0
     cases h0
   ·rw[HE.out,Xy hT] at h0
    cases h0
  have H0:=Ja h0
  have HP:Hid (VW h i k0=Xc h i.toNat { thr h i.toNat with p:=k0.toNat }):=by
   show VW h i k0=_
   unfold VW
   rw[if_pos h0]
  rw[h0]
  clear HE h0
  obtain⟨hT,hp⟩:=HH.out
  obtain⟨j,rfl⟩:=Jqg hT.1
  obtain⟨k,rfl⟩:=Jqg hp.1
  rw[Int.toNat_natCast,Int.toNat_natCast] at HP
  have hj:j<h.L.length:=by have:=hT.2;omega
  have hk:k<256:=by omega
  have HJ:=Ja (And.intro hj hk)
  obtain⟨g,rfl⟩:=HG.out j hj
  clear HG HH hT hp hj hk
  go_wp2_with fail
  have okj:=JL IV.out HJ.out.1
  have hstd:=IV.out.stands HJ.out.1
  refine Jqa (IK T3.out HJ.out.1 okj.c (Jql (IV.out.small okj.c) (by omega)) (by have:=IV.out.few;have:=HJ.out.1;omega)) ?_
  rintro e w4 ⟨rfl,t4⟩
  rw[hstd]
  have c0:=t4.cell0
  have hl4:j<(J6 h j).L.length:=HJ.out.1
  obtain⟨_,d0,_,_⟩:=t4.four hl4
  have f0:=t4.frozenT (j*12+1)
  have T5:Hid (At Mx w0 F p _ _ qs ⟨h.L.set j { thr h j with p:=k },(J6 h j).Q⟩ _):=t4.set hl4 (j:=1) (c:=.int .i64 k) (y:={ thr h j with p:=k }) (by omega) rfl
  have hjz:(j:Int)<(h.L.length:Int):=by have:=HJ.out.1;omega
  clear t4 hl4 T3 hstd okj
  generalize(thr (J6 h j) j).p=old at *
  by_cases hst:(thr h j).st=1
  ·have hd:decide ((thr h j).st=1)=true:=by simpa using hst
   rw[hd]
   have HS:=Ja hst
   clear hst hd
   generalize hnL:h.L.length=nL at *
   go_wp2_with fail
   have hj:j<h.L.length:=by have:=HJ.out.1;omega
   have hj5:j<(h.L.set j { thr h j with p:=k }).length:=by rw[List.length_set];exact hj
   have hth:thr ⟨h.L.set j { thr h j with p:=k },(J6 h j).Q⟩ j={ thr h j with p:=k }:=IU hj _
   have okj:=JL IV.out hj
   have hQl:(J6 h j).Q.length=h.Q.length:=Jqr
   refine Jqa (UN T5.out (i:=j) hj5 (by rw[hth];show _<(J6 h j).Q.length;rw[hQl];exact okj.c) (by rw[hth];exact Jql (Jg2 _ okj.c fun d hd=>IV.out.small hd) (by omega)) (by have:=IV.out.few;omega)) ?_
   rintro e w6 ⟨rfl,t6⟩
   rw[Ju9 IV.out hj { thr h j with p:=k } okj.c HJ.out.2] at t6
   have T6:=Ja t6
   clear t6 okj hQl hth hj5 hj
   go_wp2
   go_ret
   rw[HP.out,H0.out,hnL]
   have hx:({ ({ thr h j with p:=k }:Td) with st:=1 }:Td)={ thr h j with p:=k }:=by
    have:=HS.out
    show(⟨1,k,_,_,_⟩:Td)=⟨(thr h j).st,k,_,_,_⟩
    rw[this]
   have:=T6.out
   rw[hx] at this
   exact⟨rfl,this⟩
  ·have hd:decide ((thr h j).st=1)=false:=by simpa using hst
   rw[hd]
   have HS:=Ja hst
   clear hst hd
   generalize hnL:h.L.length=nL at *
   go_wp2
   go_ret
   rw[HP.out,H0.out,hnL]
   have:=T5.out
   have e1:=Ag (h:=h) (i:=j) { thr h j with p:=k } HS.out
   exact⟨rfl,e1 ▸ this⟩
 ·have h1:(VV h i k0 == 0)=false:=by simpa using h0
  have h2:(VV h i k0 != 0)=true:=by simpa using h0
  have HP:Hid (VW h i k0=h):=by
   show VW h i k0=h
   unfold VW
   rw[if_neg h0]
  clear HE h0
  generalize hz:VV h i k0=z at *
  go_wp2
  go_ret
  rw[HP.out,hz]
  exact⟨rfl,T3.out⟩
end
def Jc5 (p:Td->Bool) (L:List Td):Int:=((L.findIdx? p).map fun i=>(i:Int)).getD (-1)
def At12 (w:World) (q o:Nat) (x:Td):Prop:=∀ j c,(cT x)[j]? = some c->w.cell? ⟨q,o+j,none⟩=some c
theorem At12.cells {w:World} {q o:Nat} {x:Td} (h:At12 w q o x):w.cell? ⟨q,o,none⟩=some (.int .i64 x.st)/\w.cell? ⟨q,o+1,none⟩=some (.int .i64 x.p)/\w.cell? ⟨q,o+2,none⟩=some (.int .i64 x.c)/\w.cell? ⟨q,o+3,none⟩=some (.int .i64 x.l)/\w.cell? ⟨q,o+4,none⟩=some (.int .u64 (rg x 0))/\w.cell? ⟨q,o+5,none⟩=some (.int .u64 (rg x 1))/\w.cell? ⟨q,o+6,none⟩=some (.int .u64 (rg x 2))/\w.cell? ⟨q,o+7,none⟩=some (.int .u64 (rg x 3))/\w.cell? ⟨q,o+8,none⟩=some (.int .u64 (rg x 4))/\w.cell? ⟨q,o+9,none⟩=some (.int .u64 (rg x 5))/\w.cell? ⟨q,o+10,none⟩=some (.int .u64 (rg x 6))/\w.cell? ⟨q,o+11,none⟩=some (.int .u64 (rg x 7)):=
 ⟨h 0 _ rfl,h 1 _ rfl,h 2 _ rfl,h 3 _ rfl,h 4 _ rfl,h 5 _ rfl,h 6 _ rfl,h 7 _ rfl,h 8 _ rfl,h 9 _ rfl,h 10 _ rfl,h 11 _ rfl⟩
theorem At.all {K:QK} {w0 w:World} {F:Nat->Prop} {p:Nat} {u:Value} {qs:List Nat} {h:Hs} {g cap n:Nat} (t:At K w0 F p (.slice (some ⟨g,0,none⟩) n cap) u qs h w) {i:Nat} (hi:i<h.L.length):At12 w g (i*12) (thr h i):=fun _ _ hj=>t.cellT hi hj
theorem Jjd (w:World) (x:Td):At12 (w.alloc (Zn x)) w.heap.size 0 x:=fun j c hj=>by
 have:=blk_alloc_new w (Zn x)
 simp only[World.cell?]
 rw[this,Nat.zero_add]
 simpa [cT,Zn] using hj
theorem At12.below {w w':World} {q o:Nat} {x:Td} (h:At12 w q o x) (hq:q<w.heap.size) (b:Below w.heap.size w w'):At12 w' q o x:=fun j c hj=>(b.cell (p:=⟨q,o+j,none⟩) hq).trans (h j c hj)
theorem Jdi (f:Nat) (lb:Array Value) (pr:Td->Bool) (ao:Option Addr) (c:Nat) (L:List Td) (w:World) (eg:∀ args w,(callFunc f args).run Tryz.prog w=.ok (.enter f args) w)
  (hp:∀ W x,Below w.heap.size w W->Calls Tryz.prog f (#[MO x]++lb) W fun e w'=>e=.returned (.bool (pr x))/\Below W.heap.size W w') (_hl:L.length<=1000) (hr:w.ownsRow 0 132 12 (.slice ao L.length c) L.length (Jc cT L)) :
  Calls Tryz.prog 185 #[.slice ao L.length c,.func (.func f) #[] lb] w fun e w'=>e=.returned (.int .i64 (Jc5 pr L))/\Below w.heap.size w w':=by
 have HZ:=Ja hr
 have HP:=Ja hp
 obtain⟨ao',c',ev,hg⟩:=XC hr
 cases ev
 have HG:=Ja hg
 clear hr hp hg
 generalize hN:L.length=N at *
 have HN:=Ja hN
 clear hN
 go_enter Tryz.func185,Tryz.ntmps185
 go_wp2
 go_loopw [5,8] (fun _ s8 wr=>∃ kk:Nat,kk<=N/\s8=.int .i64 kk/\Below w.heap.size w wr/\Hid (∀ j x,j<kk->L[j]? = some x->pr x=false)) (fun _ s8 _=>N - (intOf s8).toNat)
 case atStart=>exact⟨0,Jqp _,rfl,Below.refl _ w,fun j x hj=>absurd hj (Nat.not_lt_zero _)⟩
 case round =>
  obtain⟨kk,hkk,rfl,BW,A⟩:=hrel
  have HB:=Ja BW
  by_cases hlt:kk<N
  ·have hltz:(kk:Int)<(N:Int):=by omega
   obtain⟨g,rfl⟩:=HG.out kk hlt
   have hkl:kk<L.length:=by rw[HN.out];exact hlt
   have row:(OA (.slice (some ⟨g,0,none⟩) N c) L).H w:=by
    show w.ownsRow 0 132 12 _ L.length _
    rw[HN.out]
    exact HZ.out
   have gl:g<w.heap.size:=(OA (.slice (some ⟨g,0,none⟩) N c) L).lt w row g rfl
   have a12:At12 wr g (kk*12) L[kk]:=At12.below (fun j cc hj=>Oz Jct row (Jqc hkl) hj) gl BW
   have hcall:=HP.out wr L[kk] BW
   have HX:=Ja (Jqc hkl)
   generalize L[kk]=x at *
   obtain⟨c0,c1,c2,c3,c4,c5,c6,c7,c8,c9,c10,c11⟩:=a12.cells
   have HL:=Ja hlt
   clear hlt BW row gl a12 hkl
   unfold MO at hcall
   cases hq:pr x with
   | true =>
    rw[hq] at hcall
    go_wp2_with (go_at_fn f;refine hcall.mono ?_;rintro e w' ⟨rfl,hb'⟩)
    go_ret
    refine⟨Jm ?_,Below.then HB.out hb' HB.out.size⟩
    have:L.findIdx? pr=some kk:=by
     rw[List.findIdx?_eq_some_iff_getElem]
     obtain⟨hk,e⟩:=Jqb.1 HX.out
     refine⟨hk,by rw[e];exact hq,fun j hj=>?_⟩
     have:=A.out j _ hj (Jqc (by omega))
     simpa using this
    unfold Jc5
    rw[this]
    rfl
   | false =>
    rw[hq] at hcall
    go_wp2_with (go_at_fn f;refine hcall.mono ?_;rintro e w' ⟨rfl,hb'⟩)
    go_roundw
    case rel =>
     refine⟨kk+1,by have:=HL.out;omega,by go_num,Below.then HB.out hb' HB.out.size,fun j y hj hy=>?_⟩
     by_cases e:j=kk
     ·subst e
      rw[HX.out] at hy
      cases hy
      exact hq
     ·exact A.out j y (by omega) hy
    case measure=>simp[intOf];have:=HL.out;omega
  ·have hltz:¬ (kk:Int)<(N:Int):=by omega
   have e:kk=N:=by omega
   have HE:Hid (Jc5 pr L = -1):=by
    have:L.findIdx? pr=none:=by
     rw[List.findIdx?_eq_none_iff]
     intro x hx
     obtain⟨j,hj,ej⟩:=List.mem_iff_getElem.1 hx
     exact A.out j x (by rw[e,<- HN.out];exact hj) (by rw[List.getElem?_eq_getElem hj,ej])
    show Jc5 pr L = -1
    unfold Jc5
    rw[this]
    rfl
   clear e hlt hkk A
   go_wp2
   go_ret
   exact⟨by rw[HE.out];rfl,HB.out⟩
def isR (c:Int) (x:Td):Bool:=x.st == 2 && (x.c:Int) == c
theorem J0a (q:Nat) (c:Int) (x:Td) (w:World) (h:Var w q (.int .i64 c)) :
  Calls Tryz.prog 186 #[MO x,Je q] w fun e w'=>e=.returned (.bool (isR c x))/\Below w.heap.size w w':=by
 have b1:=Jb w (Zn x)
 have hc:=(h.below b1).2
 obtain⟨c0,_,c2,_⟩:=(Jjd w x).cells
 have B:=Ja b1
 clear b1 h
 unfold isR
 simp only[Zn,MO,Nat.zero_add] at *
 by_cases h2:x.st=2
 ·have e0:(x.st == 2)=true:=by simpa using h2
  rw[e0,Bool.true_and]
  clear h2
  go_enter Tryz.func186,Tryz.ntmps186
  go_wp2
  go_ret
  exact⟨rfl,B.out⟩
 ·have e0:(x.st == 2)=false:=by simpa using h2
  rw[e0,Bool.false_and]
  clear h2
  go_enter Tryz.func186,Tryz.ntmps186
  go_wp2
  go_ret
  exact⟨rfl,B.out⟩
section
variable {w0 w:World} {F:Nat->Prop} {p:Nat} {v u:Value} {qs:List Nat} {h:Hs}
theorem Jb3 (t:At Mx w0 F p v u qs h w) (hl:h.L.length<=1000) (c:Int) :
  Calls Tryz.prog 87 #[Je p,.int .i64 c] w fun e w'=>e=.returned (.tuple #[.int .i64 (XE h c),.bool (Xm h c)])/\Below w.heap.size w w':=by
 have hmf:=Jhm
 obtain⟨ao,cap,rfl,hg⟩:=t.slice
 have B:=Ja (Jb w (.cells #[.int .i64 c] 3))
 have V:=Ja (Var.new w (.int .i64 c) 3)
 have t1:=t.below B.out
 have c0:=t1.cell0
 have HI:=Ja (Jdi 186 #[Je w.heap.size] (isR c) ao cap h.L _ (enters_of Tryz.func186 (by kernel_rfl) rfl) (fun W x hW=>J0a w.heap.size c x W (V.out.below hW)) hl t1.row)
 have HR:Hid (Jc5 (isR c) h.L=((Zu h c).map fun i=>(i:Int)).getD (-1)):=rfl
 unfold XE Xm
 generalize Jc5 (isR c) h.L=z at *
 generalize Zu h c=o at *
 clear t t1 V hg
 cases o with
 | none =>
  obtain rfl:z = -1:=HR.out
  clear HR
  go_enter Tryz.func87,Tryz.ntmps87
  go_wp2_with (go_at_call 185;refine Jqa HI.out ?_;rintro e w' ⟨rfl,b2⟩)
  go_ret2
  exact⟨rfl,Below.then B.out b2 B.out.size⟩
 | some i =>
  obtain rfl:z=(i:Int):=HR.out
  clear HR
  have hneg:¬ ((i:Int)<0):=by omega
  go_enter Tryz.func87,Tryz.ntmps87
  go_wp2_with (go_at_call 185;refine Jqa HI.out ?_;rintro e w' ⟨rfl,b2⟩)
  go_ret2
  exact⟨rfl,Below.then B.out b2 B.out.size⟩
theorem Jgy (h:Hs) (i:Int):(∃ j:Nat,i=j/\j<h.Q.length/\OQ h i/\i.toNat=j)\/¬ OQ h i:=by
 by_cases ht:OQ h i
 ·obtain⟨h1,h2⟩:=Gp ht
  exact .inl ⟨i.toNat,h2.symm,h1,ht,rfl⟩
 ·exact .inr ht
theorem Jbe (h:Hs) (pr c:Int):JV h pr c=J3 [II pr 256 1,II c (h.Q.length:Int) 1,II (h.L.length:Int) 64 2]:=by
 unfold JV
 by_cases hp:0<=pr/\pr<256
 ·by_cases hc:OQ h c
  ·rw[if_pos ⟨hp,hc⟩,ZZ hp,ZZ hc]
   by_cases hl:64<=h.L.length
   ·rw[if_pos hl,Xy (by omega)]
    rfl
   ·rw[if_neg hl,ZZ (by omega)]
    rfl
  ·rw[if_neg (fun e=>hc e.2),ZZ hp,Xy hc]
   rfl
 ·rw[if_neg (fun e=>hp e.1),Xy hp]
  rfl
theorem Jou (t:At Mx w0 F p v u qs h w) (iv:Inv h) (pr c:Int) :
  Calls Tryz.prog 100 #[Je p,.int .i64 pr,.int .i64 c] w fun e w'=>e=.returned (.tuple #[.int .i64 (JW h pr c),.int .i64 (JV h pr c)])/\∃ v',At Mx w0 F p v' u qs (JS h pr c) w':=by
 have hmf:=Jhm
 have IV:=Ja iv
 obtain⟨ao,cap,rfl,hg⟩:=t.slice
 obtain⟨gq,capq,rfl⟩:=t.pslice iv.lo
 have T0:=Ja t.drew
 have c1:=t.cell1
 have HE:=Ja (Jbe h pr c)
 clear t hg iv
 go_enter Tryz.func100,Tryz.ntmps100
 go_wp2_with fail
 go_cut [8] from 8 to 21 (fun s8 wx=>s8=.int .i64 (J3 [II pr 256 1,II c (h.Q.length:Int) 1,II (h.L.length:Int) 64 2])/\At Mx w0 F p (.slice ao h.L.length cap) (.slice (some ⟨gq,0,none⟩) h.Q.length capq) qs h wx)
 case first =>
  go_region_with (first
   | (go_at_call 196;(with_reducible refine Jqa (UI pr 256 _) ?_);rintro e w1 ⟨c1,rfl,k1,b1⟩;obtain⟨g1,l1,rfl⟩:=k1.form;have T1:=Ja (T0.out.below b1);have K1:=Ja k1;have c1b:=T1.out.cell1;clear k1 b1)
   | (go_at_call 196;(with_reducible refine Jqa (UI c (h.Q.length:Int) _) ?_);rintro e w2 ⟨c2,rfl,k2,b2⟩;obtain⟨g2,l2,rfl⟩:=k2.form;have T2:=Ja (T1.out.below b2);have K1':=Ja (K1.out.below b2);have K2:=Ja k2;clear k2 b2)
   | (go_at_call 197;(with_reducible refine Jqa (Jlz p _ _ _ _ T2.out.var0) ?_);rintro e w3 ⟨c3,rfl,k3,b3⟩;obtain⟨g3,l3,rfl⟩:=k3.form;have T3:=Ja (T2.out.below b3);have K1'':=Ja (K1'.out.below b3);have K2':=Ja (K2.out.below b3);have K3:=Ja k3;clear k3 b3)
   | (go_at_call 195;(with_reducible refine Jqa (Js6 w3 _ _ _ _ _ _ K1''.out K2'.out K3.out) ?_);rintro e w4 ⟨rfl,b4⟩;have T4:=Ja (T3.out.below b4);clear b4))
  all_goals go_wp2_with fail
  all_goals go_meet
  all_goals exact⟨rfl,T4.out⟩
 case rest =>
  obtain⟨rfl,t3⟩:=hcut
  have T3:=Ja t3
  clear t3 T0 c1
  rw[<- HE.out]
  rcases OR h pr c with ⟨h0,p0,p1,hC,hl⟩|⟨h0,_⟩|⟨h0,_⟩
  ·have HM:Hid (JS h pr c=⟨h.L++[⟨0,pr.toNat,c.toNat,5,List.replicate 8 0⟩],h.Q⟩/\JW h pr c=(h.L.length:Int)):=⟨by unfold JS;rw[if_pos h0],by unfold JW;rw[if_pos h0]⟩
   have H0:=Ja h0
   rw[h0]
   obtain⟨P,rfl⟩:=Jqg p0
   obtain⟨C,rfl⟩:=Jqg hC.1
   rw[Int.toNat_natCast,Int.toNat_natCast] at HM
   obtain⟨v',w',r1,⟨ao',cap',rfl⟩,c0',f0',t4⟩:=T3.out.more ⟨0,P,C,5,List.replicate 8 0⟩ (by omega)
   have R1:=Ja r1
   have T4:=Ja t4
   have c0:=T3.out.cell0
   have e0:=t4.cell0
   have hob:Zn ⟨0,P,C,5,List.replicate 8 0⟩=.cells #[.int .i64 0,.int .i64 P,.int .i64 C,.int .i64 5,.int .u64 0,.int .u64 0,.int .u64 0,.int .u64 0,.int .u64 0,.int .u64 0,.int .u64 0,.int .u64 0] 132:=rfl
   rw[hob] at R1
   clear r1 t4 h0 p0 p1 hC T3 HE hob
   generalize hnL:h.L.length=nL at *
   have hw:IntKind.i64.wrap (((nL+1:Nat):Int) - 1)=(nL:Int):=by
    unfold IntKind.wrap
    simp[IntKind.bits,IntKind.signed]
    omega
   have hw2:((nL+1:Nat):Int) - 1=(nL:Int):=by omega
   go_wp2_with (at_builtin;(with_reducible refine Jd rfl (.tmp 29) (.tmp 33) 126 126 rfl (.slice ao nL cap) (.slice (some ⟨wc.heap.size,0,none⟩) 1 1) _ w' rfl rfl R1.out ?_))
   go_ret2
   refine⟨?_,_,by rw[HM.out.1];exact T4.out⟩
   rw[HM.out.2,H0.out]
   simp
  ·have HM:Hid (JS h pr c=h/\JW h pr c=0):=⟨by unfold JS;rw[h0];rfl,by unfold JW;rw[h0];rfl⟩
   have H0:=Ja h0
   rw[h0]
   clear h0 HE
   go_wp2
   go_ret2
   rw[HM.out.1,HM.out.2,H0.out]
   exact⟨rfl,_,T3.out⟩
  ·have HM:Hid (JS h pr c=h/\JW h pr c=0):=⟨by unfold JS;rw[h0];rfl,by unfold JW;rw[h0];rfl⟩
   have H0:=Ja h0
   rw[h0]
   clear h0 HE
   go_wp2
   go_ret2
   rw[HM.out.1,HM.out.2,H0.out]
   exact⟨rfl,_,T3.out⟩
end
def Jbx (w:World) (q o:Nat) (x:Td):World:=(((((((((((w.setCell ⟨q,o,none⟩ (.int .i64 x.st)).setCell ⟨q,o+1,none⟩ (.int .i64 x.p)).setCell ⟨q,o+2,none⟩ (.int .i64 x.c)).setCell ⟨q,o+3,none⟩ (.int .i64 x.l)).setCell ⟨q,o+4,none⟩ (.int .u64 (rg x 0))).setCell ⟨q,o+5,none⟩ (.int .u64 (rg x 1))).setCell ⟨q,o+6,none⟩ (.int .u64 (rg x 2))).setCell ⟨q,o+7,none⟩ (.int .u64 (rg x 3))).setCell ⟨q,o+8,none⟩ (.int .u64 (rg x 4))).setCell ⟨q,o+9,none⟩ (.int .u64 (rg x 5))).setCell ⟨q,o+10,none⟩ (.int .u64 (rg x 6))).setCell ⟨q,o+11,none⟩ (.int .u64 (rg x 7))
theorem Jem (F:Nat->Prop) (w:World) (q o:Nat) (x:Td) (h:F q):Turn F w (Jbx w q o x):=by
 unfold Jbx
 have st:∀ {a b:World} (k:Turn F a b) (o:Nat) (v:Value),Turn F a (b.setCell ⟨q,o,none⟩ v):=fun k o v=>k.trans (Turn.setCell F _ ⟨q,o,none⟩ v h) fun x hx=>.inl hx
 exact st (st (st (st (st (st (st (st (st (st (st (st (Turn.refl F w) _ _) _ _) _ _) _ _) _ _) _ _) _ _) _ _) _ _) _ _) _ _) _ _
theorem OV {r q:Nat} {w w':World} (b:Below r w w') (hq:r<=q) (hr:r<=w'.heap.size) (o:Nat) (x:Td):Below r w (Jbx w' q o x):=
 (Jem (fun k=>k=q) w' q o x rfl).below b (fun k hk=>by rw[hk];exact hq) hr
theorem Jao {w:World} {q:Nat} {x:Td} (h:w.heap[q]? = some (Zn x)) (j:Nat):w.frozen? ⟨q,j,none⟩=false:=by
 unfold Zn at h
 simp[World.frozen?,h]
theorem Jet {w:World} {q:Nat} {x:Td} (h:w.heap[q]? = some (Zn x)):At12 w q 0 x:=fun j c hj=>by
 simp only[World.cell?]
 rw[h,Nat.zero_add]
 simpa [cT,Zn] using hj
section
variable {w0 w:World} {F:Nat->Prop} {p:Nat} {v u:Value} {qs:List Nat} {h:Hs}
theorem Ab (t:At Mx w0 F p v u qs h w) (i:Int) :
  Calls Tryz.prog 116 #[Je p,.int .i64 i] w fun e w'=>e=.returned (.tuple #[MO (Gf h i),.int .i64 (UQ h i)])/\Below w.heap.size w w':=by
 have hmf:=Jhm
 obtain⟨ao,cap,rfl,hg⟩:=t.slice
 have B0:=Ja (Jb w (Zn td0))
 have Z0:=Ja (blk_alloc_new w (Zn td0))
 have T1:=Ja (t.below B0.out)
 have HG:=Ja hg
 clear t hg
 have hobj:Zn td0=.cells #[.int .i64 0,.int .i64 0,.int .i64 0,.int .i64 0,.int .u64 0,.int .u64 0,.int .u64 0,.int .u64 0,.int .u64 0,.int .u64 0,.int .u64 0,.int .u64 0] 132:=rfl
 rcases UM h i with ⟨j,rfl,hj,hT,hjn⟩|hT
 ·have HJ:=Ja hj
  have hE0:II (j:Int) (h.L.length:Int) 100=0:=ZZ (by omega)
  have HR:Hid (Gf h j=thr h j/\UQ h j=0):=⟨by unfold Gf;rw[if_pos hT,Int.toNat_natCast],by unfold UQ;rw[if_pos hT]⟩
  clear hj hT hjn
  rw[hobj] at B0 Z0 T1
  go_enter Tryz.func116,Tryz.ntmps116
  go_wp2_with fail
  refine Jqa (JN p j _ _ _ _ T1.out.var0) ?_
  rintro e w1 ⟨c1,rfl,k1,b1⟩
  obtain⟨g1,l1,rfl⟩:=k1.form
  have K1:=Ja k1
  have B1:=Ja (Below.then B0.out b1 B0.out.size)
  have Z1:=Ja ((b1.block _ (by simp)).trans Z0.out)
  have T2:=Ja (T1.out.below b1)
  clear k1 b1 B0 Z0 T1
  go_wp2_with fail
  refine Jqa (Jj0 w1 _ _ K1.out) ?_
  rintro e w2 ⟨rfl,b2⟩
  have B2:=Ja (Below.then B1.out b2 B1.out.size)
  have Z2:=Ja ((b2.block _ (Jqf.1 Z1.out).1).trans Z1.out)
  have T3:=Ja (T2.out.below b2)
  clear b2 B1 Z1 T2 K1
  rw[hE0]
  have hF:J3 [0]=0:=rfl
  rw[hF]
  obtain⟨g,rfl⟩:=HG.out j HJ.out
  have c0:=T3.out.cell0
  obtain⟨d0,d1,d2,d3,d4,d5,d6,d7,d8,d9,d10,d11⟩:=(T3.out.all HJ.out).cells
  have z12:w2.heap[w.heap.size]? = some (Zn td0):=Z2.out
  obtain⟨z0,z1,z2,z3,z4,z5,z6,z7,z8,z9,z10,z11⟩:=(Jet z12).cells
  have zf:=Jao z12
  have HK:=Ja (OV B2.out (Jqd _) B2.out.size 0 (thr h j))
  have hjz:(j:Int)<(h.L.length:Int):=by have:=HJ.out;omega
  clear T3 Z2 z12 hE0 hF hobj HG HJ B2
  unfold Jbx at HK
  simp only[Nat.zero_add] at *
  generalize thr h j=x at *
  generalize hnL:h.L.length=nL at *
  generalize hr:w.heap.size=r at *
  go_wp2
  refine bodyPost_ret (v:=.tuple #[MO x,.int .i64 0]) ?_ rfl ⟨by rw[HR.out.1,HR.out.2],by rw[hr];exact HK.out⟩
  simp[results,Tryz.f116,go_sem,MO,z0,z1,z2,z3,z4,z5,z6,z7,z8,z9,z10,z11]
 ·have hE0:II i (h.L.length:Int) 100=100:=Xy hT
  have HR:Hid (Gf h i=td0/\UQ h i=100):=⟨by unfold Gf;rw[if_neg hT],by unfold UQ;rw[if_neg hT]⟩
  clear hT
  rw[hobj] at B0 Z0 T1
  go_enter Tryz.func116,Tryz.ntmps116
  go_wp2_with fail
  refine Jqa (JN p i _ _ _ _ T1.out.var0) ?_
  rintro e w1 ⟨c1,rfl,k1,b1⟩
  obtain⟨g1,l1,rfl⟩:=k1.form
  have K1:=Ja k1
  have B1:=Ja (Below.then B0.out b1 B0.out.size)
  have Z1:=Ja ((b1.block _ (by simp)).trans Z0.out)
  clear k1 b1 B0 Z0 T1
  go_wp2_with fail
  refine Jqa (Jj0 w1 _ _ K1.out) ?_
  rintro e w2 ⟨rfl,b2⟩
  have B2:=Ja (Below.then B1.out b2 B1.out.size)
  have Z2:=Ja ((b2.block _ (Jqf.1 Z1.out).1).trans Z1.out)
  clear b2 B1 Z1 K1
  rw[hE0]
  have hF:J3 [100]=100:=rfl
  rw[hF]
  have z12:w2.heap[w.heap.size]? = some (Zn td0):=Z2.out
  obtain⟨z0,z1,z2,z3,z4,z5,z6,z7,z8,z9,z10,z11⟩:=(Jet z12).cells
  have zf:=Jao z12
  have HK:=Ja (OV B2.out (Jqd _) B2.out.size 0 td0)
  clear Z2 z12 hE0 hF hobj HG B2
  have hrg:∀ k,rg td0 k=0:=fun k=>by
   unfold rg td0
   simp only[List.getD_eq_getElem?_getD,List.getElem?_replicate]
   split<;>rfl
  have HE:Hid (MO td0=.agg #[.int .i64 0,.int .i64 0,.int .i64 0,.int .i64 0,.int .u64 0,.int .u64 0,.int .u64 0,.int .u64 0,.int .u64 0,.int .u64 0,.int .u64 0,.int .u64 0]):=rfl
  have HR1:Hid (MO (Gf h i)=MO td0/\UQ h i=100):=⟨by rw[HR.out.1],HR.out.2⟩
  rw[HE.out] at HR1
  clear HE HR
  unfold Jbx at HK
  simp only[Nat.zero_add,hrg] at HK z0 z1 z2 z3 z4 z5 z6 z7 z8 z9 z10 z11
  simp only[td0] at HK z0 z1 z2 z3 z4 z5 z6 z7 z8 z9 z10 z11
  generalize hr:w.heap.size=r at *
  go_wp2
  refine bodyPost_ret (v:=.tuple #[.agg #[.int .i64 0,.int .i64 0,.int .i64 0,.int .i64 0,.int .u64 0,.int .u64 0,.int .u64 0,.int .u64 0,.int .u64 0,.int .u64 0,.int .u64 0,.int .u64 0],.int .i64 100]) ?_ rfl ⟨by rw[HR1.out.1,HR1.out.2],by rw[hr];exact HK.out⟩
  simp[results,Tryz.f116,go_sem,z0,z1,z2,z3,z4,z5,z6,z7,z8,z9,z10,z11]
end
section
variable {h:Hs}
theorem Jl4 (v:Inv h) {c:Int} (hc:¬ OQ h c):Zu h c=none:=by
 cases e:Zu h c with
 | none=>rfl
 | some i =>
  obtain⟨x,h1,h2,h3,h4,h5⟩:=XF e
  have:=(v.okay h1).c
  exact absurd ⟨by omega,by omega⟩ hc
theorem VZ {c:Int} {i:Nat} (e:Zu h c=some i):XE h c=(i:Int)/\Xm h c=true:=by
 unfold XE Xm
 rw[e]
 exact⟨rfl,rfl⟩
theorem Ih {c:Int} (e:Zu h c=none):XE h c=0/\Xm h c=false:=by
 unfold XE Xm
 rw[e]
 exact⟨rfl,rfl⟩
theorem Jdy {S:St} {y:In} (e:VT S=some y):Vz S=y.n/\Vy S=true:=by
 unfold Vz Vy
 rw[e]
 exact⟨rfl,rfl⟩
theorem Jdx {S:St} (e:VT S=none):Vz S=0/\Vy S=false:=by
 unfold Vz Vy
 rw[e]
 exact⟨rfl,rfl⟩
def Pk (h:Hs) (c:Nat) (T:Hs):Prop:=
 (Vy (ZO h c)=false/\h=T) \/
 (∃ i j:Nat,i<h.L.length/\j<h.L.length/\Vz (ZO h c)=i/\Vy (ZO h c)=true/\Zu h c=some j/\¬ (thr h j).p<(thr h i).p/\h=T) \/
 (∃ i:Nat,i<h.L.length/\Vz (ZO h c)=i/\Vy (ZO h c)=true/\Zu h c=none/\(thr h i).c=c/\Zu (Ux h i) c=some i/\Ux h i=T) \/
 (∃ i j:Nat,i<h.L.length/\j<h.L.length/\Vz (ZO h c)=i/\Vy (ZO h c)=true/\Zu h c=some j/\(thr h j).p<(thr h i).p/\(thr h j).st=2/\(thr h j).c=c/\thr (OG h j) i=thr h i/\(thr h i).c=c/\Inv (OG h j)/\Zu (Ux (OG h j) i) c=some i/\Ux (OG h j) i=T)
theorem Pk.stay {h:Hs} {c:Nat} (e1:Vy (ZO h c)=false):Pk h c h:=.inl ⟨e1,rfl⟩
theorem Pk.keep {h:Hs} {c:Nat} (i j:Nat) (hi:i<h.L.length) (hj:j<h.L.length) (e1:Vz (ZO h c)=i) (e2:Vy (ZO h c)=true) (e3:Zu h c=some j) (e4:¬ (thr h j).p<(thr h i).p):Pk h c h:=.inr (.inl ⟨i,j,hi,hj,e1,e2,e3,e4,rfl⟩)
theorem Pk.fresh {h:Hs} {c:Nat} (i:Nat) (hi:i<h.L.length) (e1:Vz (ZO h c)=i) (e2:Vy (ZO h c)=true) (e3:Zu h c=none) (ec:(thr h i).c=c) (er:Zu (Ux h i) c=some i):Pk h c (Ux h i):=.inr (.inr (.inl ⟨i,hi,e1,e2,e3,ec,er,rfl⟩))
theorem Pk.swap {h:Hs} {c:Nat} (i j:Nat) (hi:i<h.L.length) (hj:j<h.L.length) (e1:Vz (ZO h c)=i) (e2:Vy (ZO h c)=true) (e3:Zu h c=some j) (e4:(thr h j).p<(thr h i).p) (es:(thr h j).st=2) (ec:(thr h j).c=c) (ei:thr (OG h j) i=thr h i) (ec2:(thr h i).c=c) (iv:Inv (OG h j)) (er:Zu (Ux (OG h j) i) c=some i):Pk h c (Ux (OG h j) i):=.inr (.inr (.inr ⟨i,j,hi,hj,e1,e2,e3,e4,es,ec,ei,ec2,iv,er,rfl⟩))
theorem Jd5 (v:Inv h) {c:Nat} (hc:c<h.Q.length):Pk h c (JB h c):=by
 have hC:OQ h (c:Int):=by unfold OQ;omega
 have vp:=Mo v (c:Int)
 have hp:JB h (c:Int)=match VT (ZO h c) with
   | none=>h
   | some y=>match Zu h (c:Int) with
    | none=>Ux h y.n.toNat
    | some j=>if (thr h j).p<y.p then Ux (OG h j) y.n.toNat else h:=by
  unfold JB
  rw[if_pos hC,Int.toNat_natCast]
  try rfl
 cases hn:VT (ZO h c) with
 | none =>
  rw[hn] at hp
  simp only at hp
  rw[hp]
  exact .stay (Jdx hn).2
 | some y =>
  obtain⟨i,x,e1,e2,hi,e3,e4,e5,e6,hmax⟩:=OT v hc hn
  obtain⟨n1,n2⟩:=Jdy hn
  have n1':Vz (ZO h c)=(i:Int):=by rw[n1,e3]
  have hyp:y.p=(thr h i).p:=by rw[e3,e2]
  rw[hn] at hp
  simp only at hp
  rw[e4] at hp
  cases hr:Zu h (c:Int) with
  | none =>
   rw[hr] at hp
   simp only at hp
   rw[hp] at vp ⊢
   have hat:(Ux h i).L[i]? = some { thr h i with st:=2 }:=by
    unfold Ux
    rw[MP hi,if_pos rfl]
   rw[e2] at hat
   exact .fresh i hi n1' n2 hr (by rw[e2];exact e6) (Jfu vp hat rfl (by simp only;omega))
  | some k =>
   obtain⟨w,f1,f2,hk,f3,f4⟩:=XF hr
   rw[hr] at hp
   simp only at hp
   by_cases hlt:(thr h k).p<y.p
   ·rw[if_pos hlt] at hp
    have hik:i≠k:=fun e=>by
     subst e
     rw[e1] at f1
     cases f1
     omega
    rw[hp] at vp ⊢
    have hi1:i<(OG h k).L.length:=by
     show i<(h.L.set k _).length
     rw[List.length_set]
     exact hi
    have ht:thr (OG h k) i=x:=by
     unfold OG
     rw[Jf1 hk,if_neg hik]
     exact e2
    have hat:(Ux (OG h k) i).L[i]? = some { x with st:=2 }:=by
     unfold Ux
     rw[MP hi1,if_pos rfl,ht]
    exact .swap i k hi hk n1' n2 hr (by rw[<- hyp];exact hlt) (by rw[f2];exact f3) (by rw[f2];omega) (by rw[ht,e2]) (by rw[e2];exact e6) (VM v hk (by omega) (by omega) (by omega)) (Jfu vp hat rfl (by simp only;omega))
   ·rw[if_neg hlt] at hp
    rw[hp]
    exact .keep i k hi hk n1' n2 hr (by rw[<- hyp];exact hlt)
end
section
variable {w0 w:World} {F:Nat->Prop} {p:Nat} {v u:Value} {qs:List Nat} {h:Hs}
theorem Jfn (t:At Mx w0 F p v u qs h w) (ht:∀ u,Turn F w0 u->Tab u) (iv:Inv h) (c:Int) :
  Calls Tryz.prog 59 #[Je p,.int .i64 c] w fun e w'=>e=.returned (.tuple #[.int .i64 (XE (JB h c) c),.bool (Xm (JB h c) c)])/\At Mx w0 F p v u qs (JB h c) w':=by
 have IV:=Ja iv
 have HT:=Ja ht
 have T0:=Ja t
 have c1:=t.cell1
 obtain⟨gq,capq,rfl⟩:=t.pslice iv.lo
 have HS:Hid (h.L.length<=64):=iv.few
 rcases Jgy h c with ⟨j,rfl,hj,hC,hjn⟩|hC
 ·have HJ:=Ja hj
  have hin:inB (j:Int) (h.Q.length:Int)=true:=by simp only[inB,decide_eq_true_eq];omega
  have hjz:(j:Int)<(h.Q.length:Int):=by omega
  have HP:=Ja (Jd5 iv hj)
  clear t ht iv hj hC hjn
  go_enter Tryz.func59,Tryz.ntmps59
  go_wp2_with (go_at_call 121;refine Jqa (M7 _ _ _) ?_;rintro e w' ⟨rfl,rfl⟩)
  refine Jqa (Jb3 T0.out (by have:=HS.out;omega) j) ?_
  rintro e w1 ⟨rfl,b1⟩
  have T1:=Ja (T0.out.below b1)
  have c1':=T1.out.cell1
  have cq:=T1.out.cellP HJ.out
  obtain⟨a,hq,hqu⟩:=T1.out.qu HJ.out
  have HN:=Ja (Jld _ a _ w1 (HT.out _ T1.out.turn) hq)
  clear c1 hq b1 hqu
  generalize hqq:qs.getD j 0=q at *
  go_wp2_with fail
  refine Jqa HN.out ?_
  rintro e w2 ⟨rfl,b2⟩
  have T2:=Ja (T1.out.below b2)
  clear b2 HN cq c1' T0 T1 hqq hin
  generalize hPH:JB h j=h' at *
  have HPH:=Ja hPH
  clear hPH
  rcases HP.out with ⟨e1,rfl⟩|⟨i,k,hi,hk,e1,e2,e3,e4,rfl⟩|⟨i,hi,e1,e2,e3,ec,er,rfl⟩|⟨i,k,hi,hk,e1,e2,e3,e4,es,ec,ei,ec2,iv2,er,rfl⟩
  ·skip
   rw[e1]
   clear HP e1
   generalize Vz (ZO h j)=nn at *
   generalize hrn:XE h j=rn at *
   generalize hrb:Xm h j=rb at *
   have HR0:=Ja (And.intro hrn hrb)
   clear hrn hrb
   go_wp2_with fail
   go_quiet (fail)
   go_wp2
   go_ret2
   rw[HPH.out,HR0.out.1,HR0.out.2]
   exact⟨rfl,T2.out.drewN _⟩
  ·skip
   obtain⟨r1,r2⟩:=VZ e3
   have HR0:=Ja (And.intro r1 r2)
   rw[e1,e2,r1,r2]
   obtain⟨ao,cap,rfl,hg⟩:=T2.out.slice
   obtain⟨g,rfl⟩:=hg i hi
   have c0:=T2.out.cell0
   obtain⟨_,d1,_,_⟩:=T2.out.four hi
   obtain⟨_,d2,_,_⟩:=T2.out.four hk
   have hiz:(i:Int)<(h.L.length:Int):=by omega
   have hkz:(k:Int)<(h.L.length:Int):=by omega
   have hcmp:decide (((thr h i).p:Int)<=((thr h k).p:Int))=true:=by
    rw[decide_eq_true_eq]
    omega
   have hcmp2:decide ((thr h i).p<=(thr h k).p)=true:=by
    rw[decide_eq_true_eq]
    omega
   clear HP e1 e2 e3 e4 r1 r2 hg
   generalize(thr h i).p=pi at *
   generalize(thr h k).p=pk at *
   generalize hnL:h.L.length=nL at *
   go_wp2_with fail
   go_quiet (fail)
   go_wp2
   go_ret2
   rw[HPH.out,HR0.out.1,HR0.out.2,hnL]
   exact⟨rfl,T2.out.drewN _⟩
  ·skip
   obtain⟨r1,r2⟩:=Ih e3
   have HR:=Ja (VZ er)
   rw[e1,e2,r1,r2]
   have HI:=Ja hi
   have HC:=Ja ec
   clear HP e1 e2 e3 r1 r2 er hi ec
   go_wp2_with fail
   go_quiet (fail)
   have T3:=Ja (T2.out.drewN nq)
   generalize w2.drewN nq=w3 at *
   go_wp2_with fail
   have oki:=JL IV.out HI.out
   refine Jqa (IK T3.out HI.out oki.c (Jql (IV.out.small oki.c) (by omega)) (by have:=HI.out;have:=HS.out;omega)) ?_
   rintro e w4 ⟨rfl,t4⟩
   obtain⟨ao,cap,rfl,hg⟩:=t4.slice
   obtain⟨g,rfl⟩:=hg i HI.out
   have c0:=t4.cell0
   have hl4:i<(J6 h i).L.length:=HI.out
   obtain⟨d0,_,_,_⟩:=t4.four hl4
   have f0:=t4.frozenT (i*12)
   have T6:=Ja (t4.set hl4 (j:=0) (c:=.int .i64 2) (y:={ thr h i with st:=2 }) (by omega) rfl)
   rw[Ag (h:=h) (i:=i) { thr h i with st:=2 } (by simp)] at T6
   have hiz:(i:Int)<((J6 h i).L.length:Int):=by omega
   simp only[Nat.add_zero] at T6
   clear t4 oki hg hl4
   generalize(thr (J6 h i) i).st=st0 at *
   generalize hnL:(J6 h i).L.length=nL at *
   go_wp2
   go_ret2
   rw[HPH.out,HR.out.1,HR.out.2,hnL]
   exact⟨rfl,T6.out⟩
  ·skip
   obtain⟨r1,r2⟩:=VZ e3
   have HR:=Ja (VZ er)
   rw[e1,e2,r1,r2]
   obtain⟨ao,cap,rfl,hg⟩:=T2.out.slice
   obtain⟨g,rfl⟩:=hg i hi
   have c0:=T2.out.cell0
   obtain⟨_,d1,_,_⟩:=T2.out.four hi
   obtain⟨_,d2,_,_⟩:=T2.out.four hk
   have hiz:(i:Int)<(h.L.length:Int):=by omega
   have hkz:(k:Int)<(h.L.length:Int):=by omega
   have hcmp:decide (((thr h i).p:Int)<=((thr h k).p:Int))=false:=by
    rw[decide_eq_false_iff_not]
    omega
   have hcmp2:decide ((thr h i).p<=(thr h k).p)=false:=by
    rw[decide_eq_false_iff_not]
    omega
   have HI:=Ja hi
   have HK:=Ja hk
   have HX:=Ja (And.intro es (And.intro ec (And.intro ei (And.intro ec2 iv2))))
   clear HP e1 e2 e3 e4 r1 r2 hg er es ec ei ec2 iv2 hi hk
   generalize(thr h i).p=pi at *
   generalize(thr h k).p=pk at *
   generalize hnL:h.L.length=nL at *
   go_wp2_with fail
   go_quiet (fail)
   have T3:=Ja (T2.out.drewN nq)
   generalize w2.drewN nq=w3 at *
   clear c0 d1 d2 T2
   go_wp2_with fail
   obtain⟨es,ec,ei,ec2,iv2⟩:=HX.out
   have okk:=JL IV.out (i:=k) (by have:=HK.out;omega)
   refine Jqa (UN T3.out (by have:=HK.out;omega) okk.c (Jql (IV.out.small okk.c) (by omega)) (by have:=HK.out;have:=HS.out;omega)) ?_
   rintro e w4 ⟨rfl,t4⟩
   rw[AV IV.out (by have:=HK.out;omega) (by omega)] at t4
   have T4:Hid (At Mx w0 F p _ _ qs (OG h k) w4):=t4
   clear t4 okk es ec ei ec2 iv2
   go_wp2_with fail
   obtain⟨es,ec,ei,ec2,iv2⟩:=HX.out
   have hlu:(OG h k).L.length=h.L.length:=Jqr
   have hli:i<(OG h k).L.length:=by have:=HI.out;omega
   have oki:=JL iv2 hli
   refine Jqa (IK T4.out hli oki.c (Jql (iv2.small oki.c) (by omega)) (by have:=HI.out;have:=HS.out;omega)) ?_
   rintro e w5 ⟨rfl,t5⟩
   have c0:=t5.cell0
   have hl4:i<(J6 (OG h k) i).L.length:=hli
   obtain⟨d0,_,_,_⟩:=t5.four hl4
   have f0:=t5.frozenT (i*12)
   have T6:=Ja (t5.set hl4 (j:=0) (c:=.int .i64 2) (y:={ thr (OG h k) i with st:=2 }) (by omega) rfl)
   rw[Ag (h:=OG h k) (i:=i) { thr (OG h k) i with st:=2 } (by simp)] at T6
   simp only[Nat.add_zero] at T6
   clear t5 oki hl4 es ec ei ec2 iv2 hlu hli
   generalize(thr (J6 (OG h k) i) i).st=st0 at *
   go_wp2
   go_ret2
   rw[HPH.out,HR.out.1,HR.out.2,hnL]
   exact⟨rfl,T6.out⟩
 ·have hin:inB c (h.Q.length:Int)=false:=by
   simp only[inB,decide_eq_false_iff_not]
   exact hC
  have hp:JB h c=h:=by unfold JB;rw[if_neg hC]
  have HR:=Ja (Ih (Jl4 iv hC))
  rw[hp]
  clear t hC hp ht iv
  generalize hnQ:h.Q.length=nQ at *
  go_enter Tryz.func59,Tryz.ntmps59
  go_wp2_with (go_at_call 121;refine Jqa (M7 _ _ _) ?_;rintro e w' ⟨rfl,rfl⟩)
  go_ret2
  exact⟨by rw[HR.out.1,HR.out.2];rfl,T0.out⟩
theorem Jmb (iv:Inv h) {i:Nat} (hi:i<h.L.length):Inv (M0 h i { thr h i with l:=5 }):=by
 have ok:=JL iv hi
 exact Jfb iv hi ⟨ok.p,ok.c,ok.s,by simp,ok.g,ok.w⟩ rfl rfl rfl
theorem Af {i:Nat} (y:Td):(M0 h i y).L.length=h.L.length:=Jqr
theorem Jg3 {i:Nat} (iv:Inv (M0 h i { thr h i with l:=5 })) (hi:i<h.L.length) (hs:(thr h i).st=2):Ie (M0 h i { thr h i with l:=5 }) i=Xc h i { thr h i with st:=1,l:=5 }:=by
 have hth:thr (M0 h i { thr h i with l:=5 }) i={ thr h i with l:=5 }:=IU hi _
 have e1:=AV iv (by rw[Af];exact hi) (by rw[hth];simp only;omega)
 rw[hth] at e1
 exact e1.trans (Fd hi { thr h i with l:=5 } { thr h i with st:=1,l:=5 } rfl)
theorem Jki {i:Nat} (iv:Inv (M0 h i { thr h i with l:=5 })) (hi:i<h.L.length):Inv (Xc h i { thr h i with st:=1,l:=5 }):=by
 have hth:thr (M0 h i { thr h i with l:=5 }) i={ thr h i with l:=5 }:=IU hi _
 have e1:=VM iv (i:=i) (by rw[Af];exact hi) (s:=1) (by omega) (by omega) (by omega)
 rw[hth] at e1
 exact(Fd hi { thr h i with l:=5 } { thr h i with st:=1,l:=5 } rfl) ▸ e1
theorem Jit (t:At Mx w0 F p v u qs h w) (ht:∀ u,Turn F w0 u->Tab u) (hl:h.L.length<=64) (c:Int) (iv:∀ i,Zu h c=some i->Inv (M0 h i { thr h i with l:=5 })) :
  Calls Tryz.prog 176 #[Je p,.int .i64 c] w fun e w'=>e=.returned (.bool (Xm h c))/\At Mx w0 F p v u qs (XR h c) w':=by
 have IV:=Ja iv
 have HT:=Ja ht
 have T0:=Ja t
 have HS:=Ja hl
 have HR:=Ja (Jb3 t (by omega) c)
 clear t ht iv hl
 cases hr:Zu h c with
 | none =>
  have hy:XR h c=h:=by unfold XR;rw[hr]
  obtain⟨r1,r2⟩:=Ih hr
  rw[hy,r2]
  rw[r1,r2] at HR
  clear hr hy r1 r2 IV
  go_enter Tryz.func176,Tryz.ntmps176
  go_wp2_with (go_at_call 87;refine Jqa HR.out ?_;rintro e w1 ⟨rfl,b1⟩)
  go_ret
  exact⟨rfl,T0.out.below b1⟩
 | some i =>
  have hy:XR h c=JB (Xc h i { thr h i with st:=1,l:=5 }) c:=by unfold XR;rw[hr]
  obtain⟨x,hx1,hx2,hi,hx3,hx4⟩:=XF hr
  obtain⟨r1,r2⟩:=VZ hr
  rw[hy,r2]
  rw[r1,r2] at HR
  have HI:=Ja hi
  have IW:=Ja (IV.out i hr)
  have HX:=Ja (show(thr h i).st=2 by rw[hx2];exact hx3)
  clear hr hy r1 r2 IV hx1 hx2 hx3 hx4 hi x
  go_enter Tryz.func176,Tryz.ntmps176
  go_wp2_with fail
  refine Jqa HR.out ?_
  rintro e w1 ⟨rfl,b1⟩
  have t1:=T0.out.below b1
  obtain⟨ao,cap,rfl,hg⟩:=t1.slice
  obtain⟨g,rfl⟩:=hg i HI.out
  have c0:=t1.cell0
  obtain⟨_,_,_,d0⟩:=t1.four HI.out
  have f0:=t1.frozenT (i*12+3)
  have T2:Hid (At Mx w0 F p _ _ qs (M0 h i { thr h i with l:=5 }) _):=t1.set HI.out (j:=3) (c:=.int .i64 5) (y:={ thr h i with l:=5 }) (by omega) rfl
  have hiz:(i:Int)<(h.L.length:Int):=by have:=HI.out;omega
  clear t1 b1 HR T0 hg
  generalize(thr h i).l=l0 at d0
  generalize hnL:h.L.length=nL at *
  go_wp2_with fail
  have hi:i<h.L.length:=by have:=HI.out;omega
  have oki:=JL IW.out (i:=i) (by rw[Af];exact hi)
  refine Jqa (UN T2.out (by rw[Af];exact hi) oki.c (Jql (IW.out.small oki.c) (by omega)) (by have:=HI.out;have:=HS.out;omega)) ?_
  rintro e w3 ⟨rfl,t3⟩
  rw[Jg3 IW.out hi HX.out] at t3
  have T3:=Ja t3
  have IG:=Ja (Jki IW.out hi)
  clear t3 oki hi T2 c0 d0 f0
  go_wp2_with fail
  refine Jqa (Jfn T3.out HT.out IG.out c) ?_
  rintro e w4 ⟨rfl,t4⟩
  have T4:=Ja t4
  clear t4
  go_wp2
  go_ret
  rw[hnL]
  exact⟨rfl,T4.out⟩
theorem Jng (t:At Mx w0 F p v u qs h w) (ht:∀ u,Turn F w0 u->Tab u) (iv:Inv h) (c:Int) :
  Calls Tryz.prog 176 #[Je p,.int .i64 c] w fun e w'=>e=.returned (.bool (Xm h c))/\At Mx w0 F p v u qs (XR h c) w':=
 Jit t ht iv.few c fun i hr=>by
  obtain⟨_,_,_,hi,_⟩:=XF hr
  exact Jmb iv hi
end
def tT (p:Nat) (F:Nat->Prop) (h:Hs):Th where
 F:=F
 H:=fun w=>ThH Mx p F h w/\Inv h
 lt:=fun w ⟨t,_⟩=>(thT Mx p F h).lt w t
 keep:=fun w w' ⟨t,v⟩ k=>⟨(thT Mx p F h).keep w w' t k,v⟩
section
variable {w0 w:World} {r:Nat} {R:List Th} {p:Nat} {F:Nat->Prop} {h:Hs}
theorem _root_.Go.Proofs.YtbfjjpdnoalojaaGreatDoor.Sep.inv (s:Sep w0 r w (tT p F h::R)):Inv h:=s.head.2
theorem _root_.Go.Proofs.YtbfjjpdnoalojaaGreatDoor.Sep.goT {w':World} {h':Hs} (s:Sep w0 r w (tT p F h::R)) (g:GoT Mx w p F h' w') (v:Inv h'):∃ F',Sep w0 r w' (tT p F' h'::R):=by
 obtain⟨F',h1,h2,h3⟩:=g
 exact⟨F',s.turn (t':=tT p F' h') ⟨h1,v⟩ h2 h3⟩
theorem _root_.Go.Proofs.YtbfjjpdnoalojaaGreatDoor.Sep.tabT (s:Sep w0 r w (tT p F h::R)) (ht:∀ u,Below r w0 u->Tab u):∀ u,Turn F w u->Tab u:=fun u k=>ht u (k.below s.low (s.each (tT p F h) (by simp)).2 s.size)
theorem Jlc (s:Sep w0 r w R) (n:Nat) (h1:1<=n) (h8:n<=8):Calls Tryz.prog 98 #[.int .i64 n] w fun e w'=>∃ p F,e=.returned (.tuple #[Je p,.int .i64 0])/\Sep w0 r w' (tT p F (Vu n)::R):=by
 refine Jqa (Jlb n w h1 h8) ?_
 rintro e w' ⟨p,F,rfl,t,b,n⟩
 exact⟨p,F,rfl,s.new (t:=tT p F _) ⟨t,Je9 h1 h8⟩ b n⟩
theorem Jk1 (s:Sep w0 r w (tT p F h::R)) (pr c:Int):Calls Tryz.prog 100 #[Je p,.int .i64 pr,.int .i64 c] w fun e w'=>e=.returned (.tuple #[.int .i64 (JW h pr c),.int .i64 (JV h pr c)])/\∃ F',Sep w0 r w' (tT p F' (JS h pr c)::R):=by
 obtain⟨v,u,qs,t⟩:=s.head.1.at
 exact(Jou t s.inv pr c).mono fun _ _ ⟨he,v',t'⟩=>⟨he,s.goT t'.goes (AT s.inv pr c)⟩
theorem Jeb (s:Sep w0 r w (tT p F h::R)) (i:Int):Calls Tryz.prog 101 #[Je p,.int .i64 i] w fun e w'=>e=.returned (.int .i64 (Xh h i))/\∃ F',Sep w0 r w' (tT p F' (JR h i)::R):=by
 obtain⟨v,u,qs,t⟩:=s.head.1.at
 exact(Jhx t s.inv i).mono fun _ _ ⟨he,t'⟩=>⟨he,s.goT t'.goes (MS s.inv i)⟩
theorem Jcd (s:Sep w0 r w (tT p F h::R)) (i:Int):Calls Tryz.prog 232 #[Je p,.int .i64 i] w fun e w'=>e=.returned (.int .i64 (JY h i))/\∃ F',Sep w0 r w' (tT p F' (JM h i)::R):=by
 obtain⟨v,u,qs,t⟩:=s.head.1.at
 exact(Jeh t s.inv i).mono fun _ _ ⟨he,t'⟩=>⟨he,s.goT t'.goes (Uq s.inv i)⟩
theorem Jf7 (s:Sep w0 r w (tT p F h::R)) (i:Int):Calls Tryz.prog 319 #[Je p,.int .i64 i] w fun e w'=>e=.returned (.int .i64 (Vp h i))/\∃ F',Sep w0 r w' (tT p F' (Xp h i)::R):=by
 obtain⟨v,u,qs,t⟩:=s.head.1.at
 exact(Jjm t s.inv i).mono fun _ _ ⟨he,t'⟩=>⟨he,s.goT t'.goes (Fp s.inv i)⟩
theorem Jpg (s:Sep w0 r w (tT p F h::R)) (i k z:Int) (hz:0<=z/\z<=18446744073709551615):Calls Tryz.prog 327 #[Je p,.int .i64 i,.int .i64 k,.int .u64 z] w fun e w'=>e=.returned (.int .i64 (EQ h i k))/\∃ F',Sep w0 r w' (tT p F' (My h i k z)::R):=by
 obtain⟨v,u,qs,t⟩:=s.head.1.at
 exact(Jtz t s.inv i k z).mono fun _ _ ⟨he,t'⟩=>⟨he,s.goT t'.goes (IJ s.inv i k z hz)⟩
theorem Jls (s:Sep w0 r w (tT p F h::R)) (i k:Int):Calls Tryz.prog 233 #[Je p,.int .i64 i,.int .i64 k] w fun e w'=>e=.returned (.int .i64 (VV h i k))/\∃ F',Sep w0 r w' (tT p F' (VW h i k)::R):=by
 obtain⟨v,u,qs,t⟩:=s.head.1.at
 exact(Jpa t s.inv i k).mono fun _ _ ⟨he,t'⟩=>⟨he,s.goT t'.goes (Ja7 s.inv i k)⟩
theorem Jln (s:Sep w0 r w (tT p F h::R)) (ht:∀ u,Below r w0 u->Tab u) (c:Int):Calls Tryz.prog 59 #[Je p,.int .i64 c] w fun e w'=>e=.returned (.tuple #[.int .i64 (XE (JB h c) c),.bool (Xm (JB h c) c)])/\∃ F',Sep w0 r w' (tT p F' (JB h c)::R):=by
 obtain⟨v,u,qs,t⟩:=s.head.1.at
 exact(Jfn t (s.tabT ht) s.inv c).mono fun _ _ ⟨he,t'⟩=>⟨he,s.goT t'.goes (Mo s.inv c)⟩
theorem Jiu (s:Sep w0 r w (tT p F h::R)) (ht:∀ u,Below r w0 u->Tab u) (c:Int):Calls Tryz.prog 176 #[Je p,.int .i64 c] w fun e w'=>e=.returned (.bool (Xm h c))/\∃ F',Sep w0 r w' (tT p F' (XR h c)::R):=by
 obtain⟨v,u,qs,t⟩:=s.head.1.at
 exact(Jng t (s.tabT ht) s.inv c).mono fun _ _ ⟨he,t'⟩=>⟨he,s.goT t'.goes (Fq s.inv c)⟩
end
end Th
end Go.Proofs.YtbfjjpdnoalojaaGreatDoor
