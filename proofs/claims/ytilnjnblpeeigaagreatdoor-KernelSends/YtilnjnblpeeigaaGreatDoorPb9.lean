/-
  What stands below: KThB; no condition but what each says.
-/
import Derived.Test.YtilnjnblpeeigaaGreatDoorPb1
import Derived.Test.YtilnjnblpeeigaaGreatDoorPb3
import Derived.Test.YtilnjnblpeeigaaGreatDoorPb8
import Derived.Laws.BitsAllLaws
import Derived.Test.YtilnjnblpeeigaaGreatDoorProg
import Derived.WalkKit
import Derived.WalkLawsBesides
import Derived.Deep.QuietTactic
import Derived.BigQuiet
import Derived.Test.YtilnjnblpeeigaaGreatDoorRows
import Derived.Laws.StructEq
import Derived.Below
import Derived.Deep.OwnRows
import Derived.Deep.RegionWith
import Derived.Deep.RegionHeld3
import Derived.Maps.AppendAt
import Derived.Laws.CopyOwn
import Derived.Lib.SliceRun
import Derived.Maps.Range
import Derived.Maps.RangeWalk
import Derived.Lib.AppendZerosOnto
import Derived.Laws.AppendOwnNone
import Derived.Shelf.RegionOpenPlain
import Derived.Deep.RegionLaw
import Derived.Shelf.Abstract
import Derived.Lib.Walk
import Derived.Deep.Cut
import Derived.Deep.CutRange
set_option maxRecDepth 100000
namespace Go.Proofs.YtilnjnblpeeigaaGreatDoor.Th
open Go.RowKit Go.Deep Go.Shelf
def lstK {α:Type} (e:TypeId) (k:Nat) (enc:α->List Value) (v:Value) (L:List α):Th where
 F:=fun x=>v.ownBlock=some x
 H:=fun w=>w.ownsRow 0 e k v L.length (flatK enc L)
 lt:=fun _ h x hx=>(World.ownsRow.lt h x hx).2
 keep:=fun _ _ h k=>own_of_block h k
theorem lstK_cell {α:Type} {e:TypeId} {k:Nat} {enc:α->List Value} (hk:∀ x,(enc x).length=k) {w:World} {g n cap:Nat} {L:List α} (h:(lstK e k enc (.slice (some ⟨g,0,none⟩) n cap) L).H w) {i:Nat} {x:α} (hi:L[i]? = some x) {j:Nat} {c:Value} (hj:(enc x)[j]? = some c):w.cell? ⟨g,i*k+j,none⟩=some c:=by
 have hjk:j<k:=by rw [<- hk x];exact (List.getElem?_eq_some_iff.1 hj).1
 have e1:=World.ownsRow.cells h (g:=g) rfl (i*k+j) c (by rw [flatK_get hk hi hjk];exact hj)
 rw [add_none,Nat.zero_add] at e1
 exact e1
def rg (x:Td) (k:Nat):Int:=x.g.getD k 0
def cT (x:Td):List Value:=[.int .i64 x.st,.int .i64 x.p,.int .i64 x.c,.int .i64 x.l,.int .u64 (rg x 0),.int .u64 (rg x 1),.int .u64 (rg x 2),.int .u64 (rg x 3),.int .u64 (rg x 4),.int .u64 (rg x 5),.int .u64 (rg x 6),.int .u64 (rg x 7)]
def encT (x:Td):Value:=.agg #[.int .i64 x.st,.int .i64 x.p,.int .i64 x.c,.int .i64 x.l,.int .u64 (rg x 0),.int .u64 (rg x 1),.int .u64 (rg x 2),.int .u64 (rg x 3),.int .u64 (rg x 4),.int .u64 (rg x 5),.int .u64 (rg x 6),.int .u64 (rg x 7)]
def objT (x:Td):Obj:=.cells #[.int .i64 x.st,.int .i64 x.p,.int .i64 x.c,.int .i64 x.l,.int .u64 (rg x 0),.int .u64 (rg x 1),.int .u64 (rg x 2),.int .u64 (rg x 3),.int .u64 (rg x 4),.int .u64 (rg x 5),.int .u64 (rg x 6),.int .u64 (rg x 7)] 39
theorem cT_len (x:Td):(cT x).length=12:=rfl
theorem cT_one (x:Td):∀ v∈cT x,v.oneCell'=true:=by simp [cT,Value.oneCell']
theorem infoT:(Tryz.prog.info? 39).map (fun i=>(i.zero,i.size,i.bytes))=some (some (.agg #[.int .i64 0,.int .i64 0,.int .i64 0,.int .i64 0,.int .u64 0,.int .u64 0,.int .u64 0,.int .u64 0,.int .u64 0,.int .u64 0,.int .u64 0,.int .u64 0]),12,96):=by kernel_rfl
abbrev lstT (v:Value) (L:List Td):Th:=lstK 39 12 cT v L
def cP (q:Nat):List Value:=[.pointer (some ⟨q,0,none⟩)]
theorem cP_len (q:Nat):(cP q).length=1:=rfl
theorem cP_one (q:Nat):∀ v∈cP q,v.oneCell'=true:=by simp [cP,Value.oneCell']
abbrev lstP (e:TypeId) (v:Value) (L:List Nat):Th:=lstK e 1 cP v L
structure Fam (R:Nat->Th) (n:Nat) (w:World):Prop where
 each:∀ i,i<n->(R i).H w
 apart:∀ i j,i<n->j<n->i≠j->∀ x,(R i).F x->¬ (R j).F x
def fpF (R:Nat->Th) (n:Nat):Nat->Prop:=fun x=>∃ i,i<n/\(R i).F x
section
variable {R R':Nat->Th} {n:Nat} {w w':World}
theorem Fam.lt (f:Fam R n w):∀ x,fpF R n x->x<w.heap.size:=by
 rintro x ⟨i,hi,hx⟩
 exact (R i).lt w (f.each i hi) x hx
theorem Fam.keep (f:Fam R n w) (k:∀ x,fpF R n x->w'.heap[x]? = w.heap[x]?):Fam R n w':=
 ⟨fun i hi=>(R i).keep w w' (f.each i hi) fun x hx=>k x ⟨i,hi,hx⟩,f.apart⟩
theorem Fam.below (f:Fam R n w) (k:Below w.heap.size w w'):Fam R n w':=f.keep fun x hx=>k.block x (f.lt x hx)
theorem Fam.turn (f:Fam R n w) {i:Nat} (hi:i<n) {t:Th} (e:R' i=t) (e':∀ j,j≠i->R' j=R j) (ht:t.H w') (k:Turn (R i).F w w') (o:Out (R i).F t.F w) :
  Fam R' n w'/\Turn (fpF R n) w w'/\Out (fpF R n) (fpF R' n) w:=by
 subst e
 refine ⟨⟨fun j hj=>?_,fun a b ha hb hab x hx hy=>?_⟩,k.mono fun x hx=>⟨i,hi,hx⟩,?_⟩
 ·by_cases h:j=i
  ·rw [h]
   exact ht
  ·rw [e' j h]
   exact (R j).turn (f.each j hj) k fun x hx hx'=>f.apart j i hj hi h x hx hx'
 ·by_cases h1:a=i <;> by_cases h2:b=i
  ·exact hab (h1.trans h2.symm)
  ·rw [h1] at hx
   rw [e' b h2] at hy
   rcases o x hx with h3 | h3
   ·exact f.apart i b hi hb (fun e=>h2 e.symm) x h3 hy
   ·have:=f.lt x ⟨b,hb,hy⟩
    omega
  ·rw [h2] at hy
   rw [e' a h1] at hx
   rcases o x hy with h3 | h3
   ·exact f.apart a i ha hi h1 x hx h3
   ·have:=f.lt x ⟨a,ha,hx⟩
    omega
  ·rw [e' a h1] at hx
   rw [e' b h2] at hy
   exact f.apart a b ha hb hab x hx hy
 ·rintro x ⟨j,hj,hx⟩
  by_cases h:j=i
  ·rw [h] at hx
   exact (o x hx).imp (fun h1=>⟨i,hi,h1⟩) id
  ·rw [e' j h] at hx
   exact .inl ⟨j,hj,hx⟩
end
structure QK where
 α:Type
 th:Nat->α->St->Th
 ty:TypeId
 pt:TypeId
def qkP:QK:=⟨Nat->Prop,quT,149,150⟩
variable {K:QK}
def memb (K:QK) (p:Nat) (v u:Value) (qs:List Nat) (a:Nat->K.α) (h:Hs):Nat->Th
 | 0=>blk p (.cells #[v,u] K.ty (0,0))
 | 1=>lstT v h.L
 | 2=>lstP K.pt u qs
 | c+3=>K.th (qs.getD c 0) (a c) (que h c)
structure ThI (K:QK) (p:Nat) (v u:Value) (qs:List Nat) (a:Nat->K.α) (h:Hs) (w:World):Prop where
 fam:Fam (memb K p v u qs a h) (3+h.Q.length) w
 len:qs.length=h.Q.length
abbrev fpT (K:QK) (p:Nat) (v u:Value) (qs:List Nat) (a:Nat->K.α) (h:Hs):Nat->Prop:=fpF (memb K p v u qs a h) (3+h.Q.length)
def ThH (K:QK) (p:Nat) (F:Nat->Prop) (h:Hs) (w:World):Prop:=∃ v u qs a,ThI K p v u qs a h w/\∀ x,F x↔fpT K p v u qs a h x
def thT (K:QK) (p:Nat) (F:Nat->Prop) (h:Hs):Th where
 F:=F
 H:=ThH K p F h
 lt:=fun _ ⟨_,_,_,_,t,e⟩ x hx=>t.fam.lt x ((e x).1 hx)
 keep:=fun _ _ ⟨v,u,qs,a,t,e⟩ k=>⟨v,u,qs,a,⟨t.fam.keep fun x hx=>k x ((e x).2 hx),t.len⟩,e⟩
def GoT (K:QK) (w:World) (p:Nat) (F:Nat->Prop) (h:Hs) (w':World):Prop:=∃ F',ThH K p F' h w'/\Turn F w w'/\Out F F' w
structure At (K:QK) (w0:World) (F:Nat->Prop) (p:Nat) (v u:Value) (qs:List Nat) (h:Hs) (w:World):Prop where
 ex:∃ a,ThI K p v u qs a h w/\Out F (fpT K p v u qs a h) w0
 turn:Turn F w0 w
section
variable {w0 w w':World} {F:Nat->Prop} {p:Nat} {v u:Value} {qs:List Nat} {h:Hs}
theorem ThH.at (t:ThH K p F h w):∃ v u qs,At K w F p v u qs h w:=by
 obtain ⟨v,u,qs,a,t,e⟩:=t
 exact ⟨v,u,qs,⟨a,t,fun x hx=>.inl ((e x).2 hx)⟩,Turn.refl _ _⟩
theorem At.goes (t:At K w0 F p v u qs h w):GoT K w0 p F h w:=by
 obtain ⟨a,t1,o⟩:=t.ex
 exact ⟨_,⟨v,u,qs,a,t1,fun _=>Iff.rfl⟩,t.turn,o⟩
theorem _root_.Go.Proofs.YtilnjnblpeeigaaGreatDoor.Turn.thenBelow {G:Nat->Prop} {a b c:World} (k:Turn G a b) (l:Below b.heap.size b c):Turn G a c:=k.trans (Turn.of l (fun _=>False)) fun _ hx=>hx.elim
theorem At.below (t:At K w0 F p v u qs h w) (k:Below w.heap.size w w'):At K w0 F p v u qs h w':=by
 obtain ⟨a,t1,o⟩:=t.ex
 exact ⟨⟨a,⟨t1.fam.below k,t1.len⟩,o⟩,t.turn.thenBelow k⟩
theorem At.len (t:At K w0 F p v u qs h w):qs.length=h.Q.length:=by
 obtain ⟨a,t1,_⟩:=t.ex
 exact t1.len
theorem At.block (t:At K w0 F p v u qs h w):w.heap[p]? = some (.cells #[v,u] K.ty (0,0)):=by
 obtain ⟨a,t1,_⟩:=t.ex
 exact t1.fam.each 0 (by omega)
theorem At.cell0 (t:At K w0 F p v u qs h w):w.cell? ⟨p,0,none⟩=some v:=by
 simp [World.cell?,t.block]
theorem At.cell1 (t:At K w0 F p v u qs h w):w.cell? ⟨p,1,none⟩=some u:=by
 simp [World.cell?,t.block]
theorem At.lt (t:At K w0 F p v u qs h w):p<w.heap.size:=(Array.getElem?_eq_some_iff.1 t.block).1
theorem At.row (t:At K w0 F p v u qs h w):(lstT v h.L).H w:=by
 obtain ⟨a,t1,_⟩:=t.ex
 exact t1.fam.each 1 (by omega)
theorem At.ptrs (t:At K w0 F p v u qs h w):(lstP K.pt u qs).H w:=by
 obtain ⟨a,t1,_⟩:=t.ex
 exact t1.fam.each 2 (by omega)
theorem At.slice (t:At K w0 F p v u qs h w):∃ ao cap,v = .slice ao h.L.length cap/\∀ i,i<h.L.length->∃ g,ao=some ⟨g,0,none⟩:=own_slice t.row
theorem At.pslice (t:At K w0 F p v u qs h w) (hq:1<=h.Q.length):∃ g cap,u = .slice (some ⟨g,0,none⟩) h.Q.length cap:=by
 obtain ⟨ao,cap,e,hg⟩:=own_slice t.ptrs
 rw [t.len] at e hg
 obtain ⟨g,rfl⟩:=hg 0 (by omega)
 exact ⟨g,cap,e⟩
theorem At.cellP {g cap n:Nat} (t:At K w0 F p v (.slice (some ⟨g,0,none⟩) n cap) qs h w) {c:Nat} (hc:c<h.Q.length):w.cell? ⟨g,c,none⟩=some (.pointer (some ⟨qs.getD c 0,0,none⟩)):=by
 have hl:=t.len
 have e:qs[c]? = some (qs.getD c 0):=by
  rw [List.getD_eq_getElem?_getD,List.getElem?_eq_getElem (by omega)]
  rfl
 have:=lstK_cell cP_len t.ptrs e (j:=0) (c:=.pointer (some ⟨qs.getD c 0,0,none⟩)) rfl
 simpa using this
theorem At.cellT {g cap n:Nat} (t:At K w0 F p (.slice (some ⟨g,0,none⟩) n cap) u qs h w) {i:Nat} (hi:i<h.L.length) {j:Nat} {c:Value} (hj:(cT (thr h i))[j]? = some c):w.cell? ⟨g,i*12+j,none⟩=some c:=
 lstK_cell cT_len t.row (thr_at hi) hj
theorem At.frozenT {g cap n:Nat} (t:At K w0 F p (.slice (some ⟨g,0,none⟩) n cap) u qs h w) (j:Nat):w.frozen? ⟨g,j,none⟩=false:=by
 have r:=t.row
 obtain ⟨ao,cap',e,_⟩:=own_slice r
 cases e
 exact own_frozen r j
theorem At.ltT {g cap n:Nat} (t:At K w0 F p (.slice (some ⟨g,0,none⟩) n cap) u qs h w):g<w.heap.size:=(lstT (.slice (some ⟨g,0,none⟩) n cap) h.L).lt w t.row g rfl
theorem At.step {a a':Nat->K.α} (t1:ThI K p v u qs a h w) (o:Out F (fpT K p v u qs a h) w0) (tn:Turn F w0 w) {i:Nat} {h':Hs} (hl:h'.Q.length=h.Q.length) (hi:i<3+h.Q.length)
  (k1:(memb K p v u qs a' h' i).H w') (k2:Turn (memb K p v u qs a h i).F w w') (k3:Out (memb K p v u qs a h i).F (memb K p v u qs a' h' i).F w) (k4:∀ j,j≠i->memb K p v u qs a' h' j=memb K p v u qs a h j):At K w0 F p v u qs h' w':=by
 obtain ⟨f1,f2,f3⟩:=t1.fam.turn hi rfl k4 k1 k2 k3
 refine ⟨⟨a',⟨by rw [hl];exact f1,by rw [hl];exact t1.len⟩,fun x hx=>?_⟩,tn.trans f2 fun x hx=>o x hx⟩
 unfold fpT at hx
 rw [hl] at hx
 rcases f3 x hx with h1 | h1
 ·exact o x h1
 ·exact .inr (Nat.le_trans tn.size h1)
theorem At.set {g cap n:Nat} (t:At K w0 F p (.slice (some ⟨g,0,none⟩) n cap) u qs h w) {i:Nat} (hi:i<h.L.length) {j:Nat} {c:Value} {y:Td} (hj:j<12) (e:cT y=(cT (thr h i)).set j c) :
  At K w0 F p (.slice (some ⟨g,0,none⟩) n cap) u qs ⟨h.L.set i y,h.Q⟩ (w.setCell ⟨g,i*12+j,none⟩ c):=by
 obtain ⟨a,t1,o⟩:=t.ex
 refine At.step (a':=a) (i:=1) t1 o t.turn rfl (by omega) ?_ (Turn.setCell _ _ _ _ rfl) (fun x hx=>.inl hx) fun j hj=>?_
 ·have r:w.ownsRow 0 39 12 (.slice (some ⟨g,0,none⟩) n cap) h.L.length (flatK cT h.L):=t1.fam.each 1 (by omega)
  obtain ⟨ao,cap',ev,_⟩:=own_slice r
  cases ev
  show World.ownsRow _ 0 39 12 _ (h.L.set i y).length (flatK cT (h.L.set i y))
  rw [List.length_set,<- flat_set cT_len h.L i j _ y c (thr_at hi) hj e]
  exact own_set r c
 ·match j,hj with
  | 0,_=>rfl
  | 2,_=>rfl
  | c+3,_=>rfl
theorem At.qu (t:At K w0 F p v u qs h w) {c:Nat} (hc:c<h.Q.length):∃ a,(K.th (qs.getD c 0) a (que h c)).H w/\∀ T w',(∃ a',(K.th (qs.getD c 0) a' T).H w'/\Turn (K.th (qs.getD c 0) a (que h c)).F w w'/\Out (K.th (qs.getD c 0) a (que h c)).F (K.th (qs.getD c 0) a' T).F w)->At K w0 F p v u qs ⟨h.L,h.Q.set c T⟩ w':=by
 obtain ⟨a,t1,o⟩:=t.ex
 refine ⟨a c,t1.fam.each (c+3) (by omega),fun T w' ⟨a',k1,k2,k3⟩=>?_⟩
 have hT:que ⟨h.L,h.Q.set c T⟩ c=T:=by
  unfold que
  rw [getD_set hc,if_pos rfl]
 have hm:memb K p v u qs (updN a c a') ⟨h.L,h.Q.set c T⟩ (c+3)=K.th (qs.getD c 0) a' T:=by
  show K.th _ (updN a c a' c) (que ⟨h.L,h.Q.set c T⟩ c)=_
  rw [hT,updN_at]
 refine At.step (a':=updN a c a') (i:=c+3) t1 o t.turn List.length_set (by omega) (by rw [hm];exact k1) k2 (by rw [hm];exact k3) fun j hj=>?_
 match j,hj with
 | 0,_=>rfl
 | 1,_=>rfl
 | 2,_=>rfl
 | d+3,hj =>
  have hd:d≠c:=fun e=>hj (by rw [e])
  show K.th _ (updN a c a' d) (que ⟨h.L,h.Q.set c T⟩ d)=K.th _ (a d) (que h d)
  rw [updN_ne _ _ hd]
  have:que ⟨h.L,h.Q.set c T⟩ d=que h d:=by
   unfold que
   rw [List.getD_eq_getElem?_getD,List.getElem?_set_ne (fun e=>hd e.symm),<- List.getD_eq_getElem?_getD]
  rw [this]
end
end Go.Proofs.YtilnjnblpeeigaaGreatDoor.Th
namespace Go.Proofs.YtilnjnblpeeigaaGreatDoor.Th
open Go.RowKit Go.Deep Go.Shelf
def Chk (w:World) (c:Value) (e:Int):Prop:=∃ g lb,c = .func (.func g) #[] lb/\(∀ args w,(callFunc g args).run Tryz.prog w = .ok (.enter g args) w)/\∀ W,Below w.heap.size w W->Calls Tryz.prog g lb W fun x w'=>x = .returned (.int .i64 e)/\Below W.heap.size W w'
theorem Chk.below {w w':World} {c:Value} {e:Int} (h:Chk w c e) (b:Below w.heap.size w w'):Chk w' c e:=by
 obtain ⟨g,lb,e1,e2,h3⟩:=h
 exact ⟨g,lb,e1,e2,fun W k=>h3 W (Below.then b k b.size)⟩
def firstE:List Int->Int
 | []=>0
 | e::es=>if e=0 then firstE es else e
def Free (es:List Int) (k:Nat):Prop:=∀ j,j<k->es[j]? = some 0
theorem firstE_at:∀ (es:List Int) (k:Nat) (e:Int),Free es k->es[k]? = some e->e≠0->firstE es=e
 | [],k,e,_,h,_=>by simp at h
 | x::es,0,e,_,h,h0=>by
  obtain rfl:x=e:=by simpa using h
  simp [firstE,h0]
 | x::es,k+1,e,hf,h,h0=>by
  have hx:x=0:=by simpa using hf 0 (by omega)
  simp only [firstE,hx,if_true]
  exact firstE_at es k e (fun j hj=>by have:=hf (j+1) (by omega);simpa using this) (by simpa using h) h0
theorem firstE_no:∀ (es:List Int),Free es es.length->firstE es=0
 | [],_=>rfl
 | x::es,hf=>by
  have hx:x=0:=by simpa using hf 0 (by simp)
  simp only [firstE,hx,if_true]
  exact firstE_no es fun j hj=>by have:=hf (j+1) (by simpa using hj);simpa using this
def inB (n m:Int):Bool:=decide (0<=n/\n<m)
def unE (b:Bool) (e:Int):Int:=if b=true then 0 else e
def inE (n m e:Int):Int:=unE (inB n m) e
theorem inE_yes {n m e:Int} (h:0<=n/\n<m):inE n m e=0:=by simp [inE,unE,inB,h]
theorem inE_no {n m e:Int} (h:¬ (0<=n/\n<m)):inE n m e=e:=by simp [inE,unE,inB,h]
theorem within_any (n m:Int) (w:World):Calls Tryz.prog 60 #[.int .i64 n,.int .i64 m] w fun e w'=>e = .returned (.bool (inB n m))/\w'=w:=by
 unfold inB
 by_cases c:0<=n
 ·have e:decide (0<=n/\n<m)=decide (n<m):=by simp [c]
  rw [e]
  generalize hb:decide (n<m)=b at *
  go_enter Tryz.func60,Tryz.ntmps60
  go_wp2
  go_ret
  exact ⟨rfl,rfl⟩
 ·have e:decide (0<=n/\n<m)=false:=by simp [c]
  have c3:decide (0<=n)=false:=by simpa using c
  rw [e]
  clear e
  go_enter Tryz.func60,Tryz.ntmps60
  go_wp2
  go_ret
  exact ⟨rfl,rfl⟩
theorem unless_any (b:Bool) (e0:Int) (w:World):Calls Tryz.prog 138 #[.bool b,.int .i64 e0] w fun e w'=>e = .returned (.int .i64 (unE b e0))/\w'=w:=by
 cases b
 ·go_enter Tryz.func138,Tryz.ntmps138
  go_wp2
  go_ret
  exact ⟨rfl,rfl⟩
 ·go_enter Tryz.func138,Tryz.ntmps138
  go_wp2
  go_ret
  exact ⟨rfl,rfl⟩
set_option maxHeartbeats 2000000 in
theorem firsts_any (g cap:Nat) (cs:List Value) (es:List Int) (w:World) (hl:cs.length=es.length) (hs:cs.length<=1000) (hb:g<w.heap.size) (hc:∀ k c,cs[k]? = some c->w.cell? ⟨g,k,none⟩=some c)
  (hp:∀ k c e,cs[k]? = some c->es[k]? = some e->Free es k->Chk w c e) :
  Calls Tryz.prog 84 #[.slice (some ⟨g,0,none⟩) cs.length cap] w fun e w'=>e = .returned (.int .i64 (firstE es))/\Below w.heap.size w w':=by
 have HC:=hid hc
 have HP:=hid hp
 have HB:=hid hb
 have HL:=hid hl
 clear hc hp hb hl
 generalize hn:cs.length=n at *
 go_enter Tryz.func84,Tryz.ntmps84
 go_wp2
 go_loopw [4,5,8] (fun _ _ s8 wr=>∃ k:Nat,k<=n/\s8 = .int .i64 k/\Below w.heap.size w wr/\Hid (Free es k)) (fun _ _ s8 _=>n - (intOf s8).toNat)
 case atStart=>exact ⟨0,Nat.zero_le _,rfl,Below.refl _ _,fun j hj=>by omega⟩
 case round =>
  obtain ⟨k,hk,rfl,bel,HF⟩:=hrel
  have HW:=hid bel
  by_cases hlt:k<n
  ·have hk1:k<cs.length:=by omega
   have hk2:k<es.length:=by have:=HL.out;omega
   have hcell:=(bel.cell (p:=⟨g,k,none⟩) HB.out).trans (HC.out k _ (List.getElem?_eq_getElem hk1))
   obtain ⟨f,lb,e1,e2,h3⟩:=(HP.out k _ _ (List.getElem?_eq_getElem hk1) (List.getElem?_eq_getElem hk2) HF.out)
   have HE:=hid (List.getElem?_eq_getElem hk2)
   rw [e1] at hcell
   have hcall:=h3 wr bel
   clear bel h3 e1
   generalize es[k]=e at *
   have hltz:(k:Int)<(n:Int):=by omega
   by_cases h0:e=0
   ·subst h0
    go_wp2_with (go_at_fn f;refine hcall.mono ?_;rintro e w' ⟨rfl,hb'⟩)
    go_roundw
    case rel =>
     refine ⟨k+1,by omega,by go_num,Below.then HW.out hb' HW.out.size,fun j hj=>?_⟩
     by_cases ej:j=k
     ·rw [ej]
      exact HE.out
     ·exact HF.out j (by omega)
    case measure=>simp [intOf];omega
   ·have hne:(e == 0)=false:=by simpa using h0
    have hne2:(e != 0)=true:=by simpa using h0
    have HR:=hid (firstE_at es k e HF.out HE.out h0)
    go_wp2_with (go_at_fn f;refine hcall.mono ?_;rintro e w' ⟨rfl,hb'⟩)
    go_ret
    exact ⟨ret_int HR.out.symm,Below.then HW.out hb' HW.out.size⟩
  ·obtain rfl:k=n:=by omega
   have HR:=hid (firstE_no es (by rw [<- HL.out];exact HF.out))
   clear bel
   go_wp2
   go_ret
   exact ⟨ret_int HR.out.symm,HW.out⟩
end Go.Proofs.YtilnjnblpeeigaaGreatDoor.Th
namespace Go.Proofs.YtilnjnblpeeigaaGreatDoor.Th
open Go.RowKit Go.Deep Go.Shelf
theorem belowC (q1 q2:Nat) (n m:Int) (w:World) (h1:Var w q1 (.int .i64 n)) (h2:Var w q2 (.int .i64 m)) :
  Calls Tryz.prog 148 #[ptr q1,ptr q2] w fun e w'=>e = .returned (.int .i64 (inE n m 1))/\Below w.heap.size w w':=by
 have c1:=h1.2
 have c2:=h2.2
 clear h1 h2
 go_enter Tryz.func148,Tryz.ntmps148
 go_wp2_with (first | (go_at_call 60;refine Calls.mono (within_any _ _ _) ?_;rintro e w' ⟨rfl,rfl⟩) | (go_at_call 138;refine Calls.mono (unless_any _ _ _) ?_;rintro e w' ⟨rfl,rfl⟩))
 go_ret
 exact ⟨rfl,Below.refl _ _⟩
theorem two_vars (w:World) (v1 v2:Value) (t1 t2:TypeId):Below w.heap.size w ((w.alloc (.cells #[v1] t1)).alloc (.cells #[v2] t2))/\Var ((w.alloc (.cells #[v1] t1)).alloc (.cells #[v2] t2)) w.heap.size v1/\Var ((w.alloc (.cells #[v1] t1)).alloc (.cells #[v2] t2)) (w.heap.size+1) v2:=by
 refine ⟨Below.then (below_new _ _) (below_new _ _) (by simp),(Var.new w v1 t1).below (below_new _ _),?_⟩
 have:=Var.new (w.alloc (.cells #[v1] t1)) v2 t2
 simpa using this
theorem below_any (n m:Int) (w:World):Calls Tryz.prog 97 #[.int .i64 n,.int .i64 m] w fun e w'=>∃ c,e = .returned c/\Chk w' c (inE n m 1)/\Below w.heap.size w w':=by
 have hmf:∀ (fn:Fn) (first cap:Array Value) (w:World),(Instr.makeFunc fn first cap).run Tryz.prog w = .ok (.func fn first cap) w:=fun _ _ _ _=>rfl
 have HV:=hid (two_vars w (.int .i64 n) (.int .i64 m) 3 3)
 go_enter Tryz.func97,Tryz.ntmps97
 go_wp2
 go_ret
 obtain ⟨b,v1,v2⟩:=HV.out
 exact ⟨_,rfl,⟨_,_,rfl,enters_of Tryz.func148 (by kernel_rfl) rfl,fun W k=>belowC _ _ n m W (v1.below k) (v2.below k)⟩,b⟩
set_option maxHeartbeats 1000000 in
theorem thereC (q1 q2 p:Nat) (i:Int) (ao:Option Addr) (n cap:Nat) (w:World) (h1:Var w q1 (.int .i64 i)) (h2:Var w q2 (ptr p)) (h3:Var w p (.slice ao n cap)) :
  Calls Tryz.prog 137 #[ptr q1,ptr q2] w fun e w'=>e = .returned (.int .i64 (inE i n 100))/\Below w.heap.size w w':=by
 have c1:=h1.2
 have c2:=h2.2
 have c3:=h3.2
 clear h1 h2 h3
 go_enter Tryz.func137,Tryz.ntmps137
 go_wp2_with fail
 go_quiet ((first | (go_at_call 60;exact Calls.quiet_of_same (within_any _ _ _)) | (go_at_call 138;exact Calls.quiet_of_same (unless_any _ _ _))))
 go_wp2
 go_ret
 exact ⟨rfl,below_drewN (Below.refl _ _) _⟩
theorem there_any (p:Nat) (i:Int) (ao:Option Addr) (n cap:Nat) (w:World) (h3:Var w p (.slice ao n cap)):Calls Tryz.prog 85 #[ptr p,.int .i64 i] w fun e w'=>∃ c,e = .returned c/\Chk w' c (inE i n 100)/\Below w.heap.size w w':=by
 have hmf:∀ (fn:Fn) (first cap:Array Value) (w:World),(Instr.makeFunc fn first cap).run Tryz.prog w = .ok (.func fn first cap) w:=fun _ _ _ _=>rfl
 have HV:=hid (two_vars w (ptr p) (.int .i64 i) 66 3)
 have H3:=hid h3
 clear h3
 go_enter Tryz.func85,Tryz.ntmps85
 go_wp2
 go_ret
 obtain ⟨b,v1,v2⟩:=HV.out
 exact ⟨_,rfl,⟨_,_,rfl,enters_of Tryz.func137 (by kernel_rfl) rfl,fun W k=>thereC _ _ p i ao n cap W (v2.below k) (v1.below k) ((H3.out.below b).below k)⟩,b⟩
theorem roomC (q1 p:Nat) (ao:Option Addr) (n cap:Nat) (w:World) (h1:Var w q1 (ptr p)) (h3:Var w p (.slice ao n cap)) :
  Calls Tryz.prog 149 #[ptr q1] w fun e w'=>e = .returned (.int .i64 (inE n 64 2))/\Below w.heap.size w w':=by
 have c1:=h1.2
 have c3:=h3.2
 have hb:decide ((n:Int)<64)=inB n 64:=by simp [inB]
 clear h1 h3
 unfold inE
 generalize inB n 64=b at *
 go_enter Tryz.func149,Tryz.ntmps149
 go_wp2_with (go_at_call 138;refine Calls.mono (unless_any _ _ _) ?_;rintro e w' ⟨rfl,rfl⟩)
 go_ret
 exact ⟨rfl,Below.refl _ _⟩
theorem room_any (p:Nat) (ao:Option Addr) (n cap:Nat) (w:World) (h3:Var w p (.slice ao n cap)):Calls Tryz.prog 98 #[ptr p] w fun e w'=>∃ c,e = .returned c/\Chk w' c (inE n 64 2)/\Below w.heap.size w w':=by
 have hmf:∀ (fn:Fn) (first cap:Array Value) (w:World),(Instr.makeFunc fn first cap).run Tryz.prog w = .ok (.func fn first cap) w:=fun _ _ _ _=>rfl
 have H3:=hid h3
 have HV:=hid (And.intro (below_new w (.cells #[ptr p] 66)) (Var.new w (ptr p) 66))
 clear h3
 go_enter Tryz.func98,Tryz.ntmps98
 go_wp2
 go_ret
 obtain ⟨b,v1⟩:=HV.out
 exact ⟨_,rfl,⟨_,_,rfl,enters_of Tryz.func149 (by kernel_rfl) rfl,fun W k=>roomC _ p ao n cap W (v1.below k) ((H3.out.below b).below k)⟩,b⟩
theorem first1 (w:World) (c1:Value) (e1:Int) (h1:Chk w c1 e1) :
  Calls Tryz.prog 84 #[.slice (some ⟨w.heap.size,0,none⟩) 1 1] (w.alloc (.cells #[c1] 161)) fun e w'=>e = .returned (.int .i64 (firstE [e1]))/\Below w.heap.size w w':=by
 have b:=below_new w (.cells #[c1] 161)
 have hb:=blk_alloc_new w (.cells #[c1] 161)
 refine Calls.mono (firsts_any w.heap.size 1 [c1] [e1] _ rfl (by simp) (by simp) (fun k c hk=>?_) (fun k c e hk he hf=>?_)) fun e w' ⟨he,k⟩=>⟨he,Below.then b k b.size⟩
 ·simp only [World.cell?,hb]
  simpa using hk
 ·match k,hk,he with
  | 0,hk,he =>
   obtain rfl:c1=c:=by simpa using hk
   obtain rfl:e1=e:=by simpa using he
   exact h1.below b
  | k+1,hk,_=>simp at hk
theorem first2 (w:World) (c1 c2:Value) (e1 e2:Int) (h1:Chk w c1 e1) (h2:e1=0->Chk w c2 e2) :
  Calls Tryz.prog 84 #[.slice (some ⟨w.heap.size,0,none⟩) 2 2] (w.alloc (.cells #[c1,c2] 161)) fun e w'=>e = .returned (.int .i64 (firstE [e1,e2]))/\Below w.heap.size w w':=by
 have b:=below_new w (.cells #[c1,c2] 161)
 have hb:=blk_alloc_new w (.cells #[c1,c2] 161)
 refine Calls.mono (firsts_any w.heap.size 2 [c1,c2] [e1,e2] _ rfl (by simp) (by simp) (fun k c hk=>?_) (fun k c e hk he hf=>?_)) fun e w' ⟨he,k⟩=>⟨he,Below.then b k b.size⟩
 ·simp only [World.cell?,hb]
  simpa using hk
 ·match k,hk,he with
  | 0,hk,he =>
   obtain rfl:c1=c:=by simpa using hk
   obtain rfl:e1=e:=by simpa using he
   exact h1.below b
  | 1,hk,he =>
   obtain rfl:c2=c:=by simpa using hk
   obtain rfl:e2=e:=by simpa using he
   exact (h2 (by simpa using hf 0 (by omega))).below b
  | k+2,hk,_=>simp at hk
theorem first3 (w:World) (c1 c2 c3:Value) (e1 e2 e3:Int) (h1:Chk w c1 e1) (h2:Chk w c2 e2) (h3:Chk w c3 e3) :
  Calls Tryz.prog 84 #[.slice (some ⟨w.heap.size,0,none⟩) 3 3] (w.alloc (.cells #[c1,c2,c3] 161)) fun e w'=>e = .returned (.int .i64 (firstE [e1,e2,e3]))/\Below w.heap.size w w':=by
 have b:=below_new w (.cells #[c1,c2,c3] 161)
 have hb:=blk_alloc_new w (.cells #[c1,c2,c3] 161)
 refine Calls.mono (firsts_any w.heap.size 3 [c1,c2,c3] [e1,e2,e3] _ rfl (by simp) (by simp) (fun k c hk=>?_) (fun k c e hk he hf=>?_)) fun e w' ⟨he,k⟩=>⟨he,Below.then b k b.size⟩
 ·simp only [World.cell?,hb]
  simpa using hk
 ·match k,hk,he with
  | 0,hk,he =>
   obtain rfl:c1=c:=by simpa using hk
   obtain rfl:e1=e:=by simpa using he
   exact h1.below b
  | 1,hk,he =>
   obtain rfl:c2=c:=by simpa using hk
   obtain rfl:e2=e:=by simpa using he
   exact h2.below b
  | 2,hk,he =>
   obtain rfl:c3=c:=by simpa using hk
   obtain rfl:e3=e:=by simpa using he
   exact h3.below b
  | k+3,hk,_=>simp at hk
end Go.Proofs.YtilnjnblpeeigaaGreatDoor.Th
namespace Go.Proofs.YtilnjnblpeeigaaGreatDoor.Th
open Go.RowKit Go.Deep Go.Shelf
theorem Chk.form {w:World} {c:Value} {e:Int} (h:Chk w c e):∃ g lb,c = .func (.func g) #[] lb:=by
 obtain ⟨g,lb,e1,_⟩:=h
 exact ⟨g,lb,e1⟩
def idxI (L:List Int) (n:Int):Int:=if L.findIdx (· == n)<L.length then ((L.findIdx (· == n):Nat):Int) else -1
theorem idxI_hit {L:List Int} {n:Int} {k:Nat} (hk:L[k]? = some n) (ha:∀ j,j<k->L[j]? ≠ some n):idxI L n=(k:Int):=by
 obtain ⟨hl,e⟩:=List.getElem?_eq_some_iff.1 hk
 have:L.findIdx (· == n)=k:=by
  rw [List.findIdx_eq hl]
  refine ⟨by simpa using e,fun j hj=>?_⟩
  have:=ha j hj
  rw [List.getElem?_eq_getElem (by omega)] at this
  simpa using this
 unfold idxI
 rw [this,if_pos hl]
theorem idxI_miss {L:List Int} {n:Int} (ha:∀ j,j<L.length->L[j]? ≠ some n):idxI L n = -1:=by
 unfold idxI
 rw [if_neg]
 rw [List.findIdx_lt_length]
 rintro ⟨x,hx,hn⟩
 obtain ⟨j,hj,e⟩:=List.mem_iff_getElem.1 hx
 refine ha j hj ?_
 rw [List.getElem?_eq_getElem hj,e]
 simpa using hn
theorem idxI_mem (L:List Int) (n:Int):decide (0<=idxI L n)=L.contains n:=by
 unfold idxI
 by_cases h:L.findIdx (· == n)<L.length
 ·rw [if_pos h]
  have:=List.findIdx_lt_length.1 h
  obtain ⟨x,hx,e⟩:=this
  have e':x=n:=by simpa using e
  have:n∈L:=e' ▸ hx
  simp [this]
 ·rw [if_neg h]
  have:n ∉ L:=fun hm=>h (List.findIdx_lt_length.2 ⟨n,hm,by simp⟩)
  simp [this]
set_option maxHeartbeats 1000000 in
theorem indexI_any (g cap:Nat) (L:List Int) (n:Int) (w:World) (hc:∀ k x,L[k]? = some x->w.cell? ⟨g,k,none⟩=some (.int .i64 x)) (hl:L.length<=1000) :
  Calls Tryz.prog 205 #[.slice (some ⟨g,0,none⟩) L.length cap,.int .i64 n] w fun e w'=>e = .returned (.int .i64 (idxI L n))/\w'=w:=by
 have HC:=hid hc
 clear hc
 generalize hm:L.length=m at *
 go_enter Tryz.func205,Tryz.ntmps205
 go_wp2
 go_loop [5,8] (fun _ s8=>∃ k:Nat,k<=m/\s8 = .int .i64 k/\Hid (∀ j,j<k->L[j]? ≠ some n)) (fun _ s8=>m - (intOf s8).toNat)
 case atStart=>exact ⟨0,Nat.zero_le _,rfl,fun j hj=>by omega⟩
 case round =>
  obtain ⟨k,hk,rfl,HJ⟩:=hrel
  by_cases hlt:k<m
  ·have hkl:k<L.length:=by omega
   have hx:=HC.out k _ (List.getElem?_eq_getElem hkl)
   have HX:=hid (List.getElem?_eq_getElem hkl)
   generalize L[k]=x at *
   have hltz:(k:Int)<(m:Int):=by omega
   by_cases e:n=x
   ·subst e
    have HR:=hid (idxI_hit HX.out HJ.out)
    go_wp2
    go_ret
    exact ⟨ret_int HR.out.symm,rfl⟩
   ·have hne:(n == x)=false:=by simpa using e
    have HN:=hid e
    clear e
    go_wp2
    go_round
    case rel=>exact ⟨k+1,by omega,by go_num,fun j hj hj2=>by
     by_cases ej:j=k
     ·subst ej
      rw [HX.out] at hj2
      exact HN.out (Option.some.inj hj2).symm
     ·exact HJ.out j (by omega) hj2⟩
    case measure=>simp [intOf];omega
  ·obtain rfl:k=m:=by omega
   have HR:=hid (idxI_miss (by rw [hm];exact HJ.out))
   go_wp2
   go_ret
   exact ⟨ret_int HR.out.symm,rfl⟩
theorem contains_any (g cap:Nat) (L:List Int) (n:Int) (w:World) (hc:∀ k x,L[k]? = some x->w.cell? ⟨g,k,none⟩=some (.int .i64 x)) (hl:L.length<=1000) :
  Calls Tryz.prog 151 #[.slice (some ⟨g,0,none⟩) L.length cap,.int .i64 n] w fun e w'=>e = .returned (.bool (L.contains n))/\w'=w:=by
 have HI:=hid (indexI_any g cap L n w hc hl)
 have hd:=idxI_mem L n
 clear hc
 generalize idxI L n=z at *
 generalize L.contains n=b at *
 go_enter Tryz.func151,Tryz.ntmps151
 go_wp2_with (go_at_call 205;refine Calls.mono HI.out ?_;rintro e w' ⟨rfl,rfl⟩)
 go_ret
 exact ⟨rfl,rfl⟩
theorem three_vars (w:World) (v1 v2 v3:Value) (t1 t2 t3:TypeId):Below w.heap.size w (((w.alloc (.cells #[v1] t1)).alloc (.cells #[v2] t2)).alloc (.cells #[v3] t3))/\Var (((w.alloc (.cells #[v1] t1)).alloc (.cells #[v2] t2)).alloc (.cells #[v3] t3)) w.heap.size v1/\Var (((w.alloc (.cells #[v1] t1)).alloc (.cells #[v2] t2)).alloc (.cells #[v3] t3)) (w.heap.size+1) v2/\Var (((w.alloc (.cells #[v1] t1)).alloc (.cells #[v2] t2)).alloc (.cells #[v3] t3)) (w.heap.size+1+1) v3:=by
 obtain ⟨b,h1,h2⟩:=two_vars w v1 v2 t1 t2
 refine ⟨Below.then b (below_new _ _) b.size,h1.below (below_new _ _),h2.below (below_new _ _),?_⟩
 have:=Var.new ((w.alloc (.cells #[v1] t1)).alloc (.cells #[v2] t2)) v3 t3
 simpa using this
set_option maxHeartbeats 1000000 in
theorem amongC (q0 q1 q2 p g cap n gs i:Nat) (st:Int) (sts:List Int) (w:World) (h0:Var w q0 (.slice (some ⟨gs,0,none⟩) sts.length sts.length)) (h1:Var w q1 (ptr p)) (h2:Var w q2 (.int .i64 i)) (h3:Var w p (.slice (some ⟨g,0,none⟩) n cap)) (hi:i<n)
  (h4:w.cell? ⟨g,i*12,none⟩=some (.int .i64 st)) (h5:∀ k x,sts[k]? = some x->w.cell? ⟨gs,k,none⟩=some (.int .i64 x)) (hl:sts.length<=1000) :
  Calls Tryz.prog 150 #[ptr q0,ptr q1,ptr q2] w fun e w'=>e = .returned (.int .i64 (unE (sts.contains st) 101))/\Below w.heap.size w w':=by
 have c0:=h0.2
 have c1:=h1.2
 have c2:=h2.2
 have c3:=h3.2
 have H5:=hid (fun (nq:Nat)=>contains_any gs sts.length sts st (w.drewN nq) h5 hl)
 have hiz:(i:Int)<(n:Int):=by omega
 clear h0 h1 h2 h3 h5
 generalize sts.contains st=b at *
 generalize sts.length=m at *
 go_enter Tryz.func150,Tryz.ntmps150
 go_wp2_with fail
 go_quiet ((first | (go_at_call 151;exact Calls.quiet_of_same (H5.out _)) | (go_at_call 138;exact Calls.quiet_of_same (unless_any _ _ _))))
 go_wp2
 go_ret
 exact ⟨rfl,below_drewN (Below.refl _ _) _⟩
theorem among_any (p g cap n gs i:Nat) (st:Int) (sts:List Int) (w:World) (h3:Var w p (.slice (some ⟨g,0,none⟩) n cap)) (hi:i<n) (hg:g<w.heap.size) (hgs:gs<w.heap.size)
  (h4:w.cell? ⟨g,i*12,none⟩=some (.int .i64 st)) (h5:∀ k x,sts[k]? = some x->w.cell? ⟨gs,k,none⟩=some (.int .i64 x)) (hl:sts.length<=1000) :
  Calls Tryz.prog 99 #[ptr p,.int .i64 i,.slice (some ⟨gs,0,none⟩) sts.length sts.length] w fun e w'=>∃ c,e = .returned c/\Chk w' c (unE (sts.contains st) 101)/\Below w.heap.size w w':=by
 have hmf:∀ (fn:Fn) (first cap:Array Value) (w:World),(Instr.makeFunc fn first cap).run Tryz.prog w = .ok (.func fn first cap) w:=fun _ _ _ _=>rfl
 have H3:=hid h3
 have H4:=hid h4
 have H5:=hid h5
 have HG:=hid (And.intro hg hgs)
 have HV:=hid (three_vars w (ptr p) (.int .i64 i) (.slice (some ⟨gs,0,none⟩) sts.length sts.length) 66 3 26)
 clear h3 h4 h5 hg hgs
 go_enter Tryz.func99,Tryz.ntmps99
 go_wp2
 go_ret
 obtain ⟨b,v1,v2,v3⟩:=HV.out
 refine ⟨_,rfl,⟨_,_,rfl,enters_of Tryz.func150 (by kernel_rfl) rfl,fun W k=>?_⟩,b⟩
 have k2:=Below.then b k b.size
 exact amongC _ _ _ p g cap n gs i st sts W (v3.below k) (v1.below k) (v2.below k) (H3.out.below k2) hi ((k2.cell (p:=⟨g,i*12,none⟩) HG.out.1).trans H4.out) (fun j x hx=>(k2.cell (p:=⟨gs,j,none⟩) HG.out.2).trans (H5.out j x hx)) hl
theorem among_raw (p:Nat) (i:Int) (ao:Option Addr) (n cap:Nat) (w:World):Calls Tryz.prog 99 #[ptr p,.int .i64 i,.slice ao n cap] w fun e w'=>∃ g lb,e = .returned (.func (.func g) #[] lb)/\Below w.heap.size w w':=by
 have hmf:∀ (fn:Fn) (first cap:Array Value) (w:World),(Instr.makeFunc fn first cap).run Tryz.prog w = .ok (.func fn first cap) w:=fun _ _ _ _=>rfl
 have HV:=hid (three_vars w (ptr p) (.int .i64 i) (.slice ao n cap) 66 3 26)
 go_enter Tryz.func99,Tryz.ntmps99
 go_wp2
 go_ret
 exact ⟨_,_,rfl,HV.out.1⟩
end Go.Proofs.YtilnjnblpeeigaaGreatDoor.Th
namespace Go.Proofs.YtilnjnblpeeigaaGreatDoor.Th
open Go.RowKit Go.Deep Go.Shelf
section
variable {K:QK} {w0 w w':World} {F:Nat->Prop} {p:Nat} {v u:Value} {qs:List Nat} {h:Hs}
theorem At.four {g cap n:Nat} (t:At K w0 F p (.slice (some ⟨g,0,none⟩) n cap) u qs h w) {i:Nat} (hi:i<h.L.length) :
  w.cell? ⟨g,i*12,none⟩=some (.int .i64 (thr h i).st)/\w.cell? ⟨g,i*12+1,none⟩=some (.int .i64 (thr h i).p)/\w.cell? ⟨g,i*12+2,none⟩=some (.int .i64 (thr h i).c)/\w.cell? ⟨g,i*12+3,none⟩=some (.int .i64 (thr h i).l):=
 ⟨t.cellT hi (j:=0) rfl,t.cellT hi (j:=1) rfl,t.cellT hi (j:=2) rfl,t.cellT hi (j:=3) rfl⟩
theorem At.drew (t:At K w0 F p v u qs h w):At K w0 F p v u qs h w.drew:=t.below ((Below.refl _ _).drew)
theorem At.drewN (t:At K w0 F p v u qs h w) (n:Nat):At K w0 F p v u qs h (w.drewN n):=t.below (below_drewN (Below.refl _ _) n)
theorem At.var0 (t:At K w0 F p v u qs h w):Var w p v:=⟨t.lt,t.cell0⟩
end
theorem i64_nat {i:Nat} (h:i<=1000):I64 (i:Int):=by unfold I64;omega
def leaveH (h:Hs) (i:Nat):Hs:=⟨h.L,h.Q.set (thr h i).c (takeS (que h (thr h i).c) i)⟩
def lineH' (h:Hs) (i:Nat):Hs:=⟨h.L.set i { thr h i with st:=1 },h.Q.set (thr h i).c (putS (que h (thr h i).c) (thr h i).p i)⟩
theorem takeE_b (S:St) (n:Int):(takeE S n == 0)=whB S n:=by
 unfold takeE
 cases whB S n <;> simp
section
variable {w0 w:World} {F:Nat->Prop} {p:Nat} {v u:Value} {qs:List Nat} {h:Hs}
set_option maxHeartbeats 2000000 in
theorem leave_at (t:At qkP w0 F p v u qs h w) {i:Nat} (hi:i<h.L.length) (hc:(thr h i).c<h.Q.length) (hl:(que h (thr h i).c).length<=1000) (hs:i<=1000) :
  Calls Tryz.prog 63 #[ptr p,.int .i64 i] w fun e w'=>e = .returned (.bool (whB (que h (thr h i).c) i))/\At qkP w0 F p v u qs (leaveH h i) w':=by
 obtain ⟨ao,cap,rfl,hg⟩:=t.slice
 obtain ⟨g,rfl⟩:=hg i hi
 obtain ⟨gq,capq,rfl⟩:=t.pslice (by omega)
 obtain ⟨_,_,c2,_⟩:=t.four hi
 have c0:=t.cell0
 have c1:=t.cell1
 have cq:=t.cellP hc
 obtain ⟨a,hq,hgo⟩:=t.drew.qu hc
 have HT:=hid (take_any _ a _ (i:Int) w.drew hq (i64_nat hs) hl)
 have HG:=hid hgo
 have he:=takeE_b (que h (thr h i).c) i
 have hiz:(i:Int)<(h.L.length:Int):=by omega
 have hcz:((thr h i).c:Int)<(h.Q.length:Int):=by omega
 unfold leaveH
 clear t hq hgo hg hl
 generalize hT:takeS (que h (thr h i).c) i=T at *
 generalize whB (que h (thr h i).c) i=b at *
 generalize takeE (que h (thr h i).c) i=te at *
 generalize (thr h i).c=c at *
 generalize qs.getD c 0=q at *
 generalize h.L.length=nL at *
 generalize h.Q.length=nQ at *
 go_enter Tryz.func63,Tryz.ntmps63
 go_wp2_with fail
 go_region_with (go_at_call 111;refine Calls.mono HT.out ?_;rintro e w2 ⟨rfl,G2⟩)
 all_goals go_wp2
 all_goals go_ret
 all_goals exact ⟨rfl,HG.out _ _ G2⟩
set_option maxHeartbeats 2000000 in
theorem lineUp_at (t:At qkP w0 F p v u qs h w) {i:Nat} (hi:i<h.L.length) (hc:(thr h i).c<h.Q.length) (hl:(que h (thr h i).c).length<=1000) (hs:i<=1000) :
  Calls Tryz.prog 62 #[ptr p,.int .i64 i] w fun e w'=>e = .returned (.tuple #[])/\At qkP w0 F p v u qs (lineH' h i) w':=by
 obtain ⟨ao,cap,rfl,hg⟩:=t.slice
 obtain ⟨g,rfl⟩:=hg i hi
 obtain ⟨gq,capq,rfl⟩:=t.pslice (by omega)
 have c0:=t.cell0
 obtain ⟨d0,_,_,_⟩:=t.four hi
 have f0:=t.frozenT (i*12)
 have t1:=t.set hi (j:=0) (c:=.int .i64 1) (y:={ thr h i with st:=1 }) (by omega) rfl
 have hi1:i<(h.L.set i { thr h i with st:=1 }).length:=by rw [List.length_set];exact hi
 obtain ⟨c0',c1',c2',_⟩:=t1.four (i:=i) hi1
 have hth:thr ⟨h.L.set i { thr h i with st:=1 },h.Q⟩ i={ thr h i with st:=1 }:=thr_of (by rw [List.getElem?_set_self hi])
 rw [hth] at c0' c1' c2'
 simp only at c0' c1' c2'
 have e0:=t1.cell0
 have e1:=t1.cell1
 have cq:=t1.cellP (c:=(thr h i).c) hc
 obtain ⟨a,hq,hgo⟩:=t1.drew.qu (c:=(thr h i).c) hc
 have HT:=hid (put_any _ a _ ((thr h i).p:Int) (i:Int) _ hq (i64_nat hs) hl)
 have HG:=hid hgo
 have hiz:(i:Int)<(h.L.length:Int):=by omega
 have hcz:((thr h i).c:Int)<(h.Q.length:Int):=by omega
 unfold lineH'
 have hq1:que ⟨h.L.set i { thr h i with st:=1 },h.Q⟩ (thr h i).c=que h (thr h i).c:=rfl
 rw [hq1] at HT
 simp only [Nat.add_zero] at *
 clear t t1 hq hgo hg hl hth hi1 hq1
 generalize hT:putS (que h (thr h i).c) (thr h i).p i=T at *
 generalize putE (que h (thr h i).c) (thr h i).p i=te at *
 generalize (thr h i).c=c at *
 generalize (thr h i).p=pr at *
 generalize (thr h i).st=st at *
 generalize qs.getD c 0=q at *
 generalize h.L.length=nL at *
 generalize h.Q.length=nQ at *
 go_enter Tryz.func62,Tryz.ntmps62
 go_wp2_with fail
 go_region_with (go_at_call 110;refine Calls.mono HT.out ?_;rintro e w2 ⟨rfl,G2⟩)
 all_goals go_wp2
 all_goals exact bodyPost_end (v:=.tuple #[]) (by simp [results,Tryz.results62,go_sem]) rfl ⟨rfl,HG.out _ _ G2⟩
end
end Go.Proofs.YtilnjnblpeeigaaGreatDoor.Th
namespace Go.Proofs.YtilnjnblpeeigaaGreatDoor.Th
theorem few_nums (S:St) (h:S.Pairwise (fun x y=>x.n≠y.n)):∀ m:Nat,(∀ x∈S,∃ i:Nat,i<m/\x.n=(i:Int))->S.length<=m:=by
 intro m
 induction m generalizing S with
 | zero =>
  intro hm
  cases S with
  | nil=>simp
  | cons x S =>
   obtain ⟨i,hi,_⟩:=hm x (by simp)
   omega
 | succ m ih =>
  intro hm
  have hf:(takeS S (m:Int)).length<=m:=by
   refine ih _ (h.sublist List.filter_sublist) fun x hx=>?_
   obtain ⟨h1,h2⟩:=take_mem.1 hx
   obtain ⟨i,hi,e⟩:=hm x h1
   exact ⟨i,by omega,e⟩
  have:S.length<=(takeS S (m:Int)).length+1:=by
   clear ih hm hf
   induction S with
   | nil=>simp
   | cons x S ih =>
    obtain ⟨h1,h2⟩:=List.pairwise_cons.1 h
    unfold takeS
    by_cases e:x.n=(m:Int)
    ·rw [List.filter_cons_of_neg (by simpa using e),List.filter_eq_self.2]
     ·simp
     ·intro a ha
      have:=h1 a ha
      rw [e] at this
      simpa using fun q=>this q.symm
    ·rw [List.filter_cons_of_pos (by simpa using e)]
     have:=ih h2
     unfold takeS at this
     simp only [List.length_cons]
     omega
  omega
section
variable {h:Hs} {i:Nat}
theorem Inv.small (v:Inv h) {c:Nat} (hc:c<h.Q.length):(que h c).length<=64:=by
 have:=few_nums (que h c) (v.queue hc).one h.L.length fun x hx=>by
  obtain ⟨i,y,e,rfl,_⟩:=(v.mem c hc x).1 hx
  exact ⟨i,(List.getElem?_eq_some_iff.1 e).1,rfl⟩
 exact Nat.le_trans this v.few
theorem Inv.stands (v:Inv h) (hi:i<h.L.length):whB (que h (thr h i).c) i=decide ((thr h i).st=1):=by
 have hc:=(okay_at v hi).c
 by_cases e:(thr h i).st=1
 ·have hm:=(v.mem (thr h i).c hc ⟨(thr h i).p,(i:Int)⟩).2 ⟨i,thr h i,thr_at hi,rfl,e,rfl⟩
  rw [(whB_of (v.queue hc) hm).1]
  simp [e]
 ·rw [not_in v hi e hc]
  simp [e]
theorem thr_set {L:List Td} {Q:List St} (hi:i<L.length) (x:Td):thr ⟨L.set i x,Q⟩ i=x:=thr_of (by rw [List.getElem?_set_self hi])
theorem line_gen (v:Inv h) (hi:i<h.L.length) (hs:(thr h i).st≠1):lineH' h i=genH h i { thr h i with st:=1 }:=by
 have ok:=okay_at v hi
 rw [gen_free v hi hs { thr h i with st:=1 } ok.c ok.p]
 rfl
theorem up_gen (v:Inv h) (hi:i<h.L.length) (x:Td) (hx:x.c<h.Q.length) (hp:x.p<256) :
  lineH' ⟨h.L.set i x,(leaveH h i).Q⟩ i=genH h i { x with st:=1 }:=by
 have ok:=okay_at v hi
 unfold lineH'
 rw [thr_set hi]
 simp only
 unfold genH genQ leaveH
 simp only [List.set_set,if_true]
 have hb:∀ y∈(h.Q.set (thr h i).c (takeS (que h (thr h i).c) i)).getD x.c [],y.n≠(i:Int):=by
  rw [getD_set hx]
  intro y hy
  split at hy
  ·exact (take_mem.1 hy).2
  ·rename_i e
   intro hn
   exact e (v.nums hx (thr_at hi) hy hn).2.2.symm
 have hw:whB ((h.Q.set (thr h i).c (takeS (que h (thr h i).c) i)).getD x.c []) i=false:=by
  unfold whB
  rw [whF_no hb]
  rfl
 have:putE ((h.Q.set (thr h i).c (takeS (que h (thr h i).c) i)).getD x.c []) x.p i=0:=by
  unfold putE
  rw [if_pos (by omega),hw]
  rfl
 have h3:putS ((h.Q.set (thr h i).c (takeS (que h (thr h i).c) i)).getD x.c []) x.p i=(h.Q.set (thr h i).c (takeS (que h (thr h i).c) i)).getD x.c []++[⟨x.p,(i:Int)⟩]:=by
  unfold putS
  rw [if_pos this,Int.toNat_natCast]
 exact congrArg (fun T=>(⟨h.L.set i { x with st:=1 },(h.Q.set (thr h i).c (takeS (que h (thr h i).c) i)).set x.c T⟩:Hs)) h3
theorem out_gen (x:Td) (hs:x.st≠1):(⟨(leaveH h i).L.set i x,(leaveH h i).Q⟩:Hs)=genH h i x:=by
 rw [gen_out x hs]
 rfl
theorem leave_len (c:Nat) (hc:c<h.Q.length) (hl:∀ d,d<h.Q.length->(que h d).length<=64):((leaveH h i).Q.getD c []).length<=64:=by
 unfold leaveH
 show (List.getD (h.Q.set _ _) c []).length<=64
 rw [getD_set hc]
 split
 ·rename_i e
  rw [<- e]
  exact Nat.le_trans (takeS_len _ _) (hl c hc)
 ·exact hl c hc
theorem gen_after (hi:i<h.L.length) (y x:Td) (hy:y.c=(thr h i).c):genH (setH h i y) i x=genH h i x:=by
 unfold genH setH
 rw [thr_set hi,hy]
 simp only [List.set_set]
end
end Go.Proofs.YtilnjnblpeeigaaGreatDoor.Th
namespace Go.Proofs.YtilnjnblpeeigaaGreatDoor.Th
open Go.RowKit Go.Deep Go.Shelf
theorem append_T (w:World) (v:Value) (L:List Td) (x:Td) (h:(lstT v L).H w) (hl:L.length<=1000000) :
  ∃ v' w',(Builtin.append_ #[146,146] 146 #[v,.slice (some ⟨w.heap.size,0,none⟩) 1 1]).run Tryz.prog (w.alloc (objT x)) = .ok v' w'/\(lstT v' (L++[x])).H w'/\w.grownBy w' v.ownBlock/\(∀ g,v'.ownBlock=some g->v.ownBlock=some g\/w.heap.size<=g):=by
 have h1:(w.alloc (objT x)).ownsRow 0 39 12 v L.length (flatK cT L):=World.ownsRow.alloc h _
 obtain ⟨i,hi,hz⟩:=Option.map_eq_some_iff.1 infoT
 simp only [Prod.mk.injEq] at hz
 obtain ⟨v',w',r1,r2,r3,_,r5⟩:=run_append_own_at (P:=Tryz.prog) (w:=w.alloc (objT x)) 0 146 146 39 i _ 12 96 Tryz.underlying146 hi hz.1 hz.2.1 hz.2.2 rfl (by decide) v L.length (flatK cT L) h1 ⟨w.heap.size,0,none⟩ 1 1 (cT x) rfl
  (fun j c hj=>by
   rw [add_none,Nat.zero_add]
   have:=blk_alloc_new w (objT x)
   simp only [World.cell?]
   rw [this]
   simpa [cT,objT] using hj) (cT_one x) (by unfold maxLen;omega) (by omega) (by omega)
 refine ⟨v',w',r1,?_,(World.grownBy_alloc w _ _).trans r3,fun g hg=>?_⟩
 rotate_left
 ·rcases r5 with e | e
  ·exact .inl (e.symm.trans hg)
  ·have:some (w.alloc (objT x)).heap.size=some g:=e.symm.trans hg
   cases this
   exact .inr (by simp)
 show w'.ownsRow 0 39 12 v' (L++[x]).length (flatK cT (L++[x]))
 rw [List.length_append,flatK_app,flatK_cons]
 simpa [flatK] using r2
theorem append_P (sl pt:TypeId) (hu:Tryz.prog.underlying sl=some (.slice pt)) (hinfo:(Tryz.prog.info? pt).map (fun i=>(i.zero,i.size,i.bytes))=some (some (.pointer none),1,8)) (w:World) (v:Value) (L:List Nat) (q:Nat) (h:(lstP pt v L).H w) (hl:L.length<=1000000) :
  ∃ v' w',(Builtin.append_ #[sl,sl] sl #[v,.slice (some ⟨w.heap.size,0,none⟩) 1 1]).run Tryz.prog (w.alloc (.cells #[.pointer (some ⟨q,0,none⟩)] pt)) = .ok v' w'/\(lstP pt v' (L++[q])).H w'/\w.grownBy w' v.ownBlock/\(∀ g,v'.ownBlock=some g->v.ownBlock=some g\/w.heap.size<=g):=by
 have h1:(w.alloc (.cells #[.pointer (some ⟨q,0,none⟩)] pt)).ownsRow 0 pt 1 v L.length (flatK cP L):=World.ownsRow.alloc h _
 obtain ⟨i,hi,hz⟩:=Option.map_eq_some_iff.1 hinfo
 simp only [Prod.mk.injEq] at hz
 obtain ⟨v',w',r1,r2,r3,_,r5⟩:=run_append_own_at (P:=Tryz.prog) (w:=w.alloc (.cells #[.pointer (some ⟨q,0,none⟩)] pt)) 0 sl sl pt i _ 1 8 hu hi hz.1 hz.2.1 hz.2.2 rfl (by decide) v L.length (flatK cP L) h1 ⟨w.heap.size,0,none⟩ 1 1 (cP q) rfl
  (fun j c hj=>by
   rw [add_none,Nat.zero_add]
   have:=blk_alloc_new w (.cells #[.pointer (some ⟨q,0,none⟩)] pt)
   simp only [World.cell?]
   rw [this]
   simpa [cP] using hj) (cP_one q) (by unfold maxLen;omega) (by omega) (by omega)
 refine ⟨v',w',r1,?_,(World.grownBy_alloc w _ _).trans r3,fun g hg=>?_⟩
 rotate_left
 ·rcases r5 with e | e
  ·exact .inl (e.symm.trans hg)
  ·have:some (w.alloc (.cells #[.pointer (some ⟨q,0,none⟩)] pt)).heap.size=some g:=e.symm.trans hg
   cases this
   exact .inr (by simp)
 show w'.ownsRow 0 pt 1 v' (L++[q]).length (flatK cP (L++[q]))
 rw [List.length_append,flatK_app,flatK_cons]
 simpa [flatK] using r2
section
variable {K:QK} {w0 w:World} {F:Nat->Prop} {p:Nat} {v u:Value} {qs:List Nat} {h:Hs}
theorem Fam.add {R R':Nat->Th} {n:Nat} {w:World} (f:Fam R n w) {t:Th} (ht:t.H w) (ha:∀ x,t.F x->¬ fpF R n x) (e:R' n=t) (e':∀ j,j<n->R' j=R j):Fam R' (n+1) w:=by
 subst e
 refine ⟨fun i hi=>?_,fun i j hi hj hij x hx hy=>?_⟩
 ·by_cases h:i=n
  ·rw [h]
   exact ht
  ·rw [e' i (by omega)]
   exact f.each i (by omega)
 ·by_cases h1:i=n <;> by_cases h2:j=n
  ·omega
  ·rw [h1] at hx
   rw [e' j (by omega)] at hy
   exact ha x hx ⟨j,by omega,hy⟩
  ·rw [h2] at hy
   rw [e' i (by omega)] at hx
   exact ha x hy ⟨i,by omega,hx⟩
  ·rw [e' i (by omega)] at hx
   rw [e' j (by omega)] at hy
   exact f.apart i j (by omega) (by omega) hij x hx hy
theorem getD_app {α:Type} {l:List α} {x d:α} {n c:Nat} (hn:l.length=n) (hc:c≠n):(l++[x]).getD c d=l.getD c d:=by
 rw [List.getD_eq_getElem?_getD,List.getD_eq_getElem?_getD]
 by_cases h:c<l.length
 ·rw [List.getElem?_append_left h]
 ·rw [List.getElem?_eq_none (by simp;omega),List.getElem?_eq_none (by omega)]
theorem At.more (t:At K w0 F p v u qs h w) (x:Td) (hl:h.L.length<=1000) :
  ∃ v' w',(Builtin.append_ #[146,146] 146 #[v,.slice (some ⟨w.heap.size,0,none⟩) 1 1]).run Tryz.prog (w.alloc (objT x)) = .ok v' w'/\(∃ ao cap,v' = .slice ao (h.L.length+1) cap)/\w'.cell? ⟨p,0,none⟩=some v/\w'.frozen? ⟨p,0,none⟩=false/\At K w0 F p v' u qs ⟨h.L++[x],h.Q⟩ (w'.setCell ⟨p,0,none⟩ v'):=by
 obtain ⟨a,t1,o⟩:=t.ex
 have row:(lstT v h.L).H w:=t1.fam.each 1 (by omega)
 obtain ⟨v',w',r1,r2,r3,r4⟩:=append_T w v h.L x row (by omega)
 obtain ⟨f1,f2,f3⟩:=t1.fam.turn (i:=1) (R':=fun k=>if k=1 then lstT v' (h.L++[x]) else memb K p v u qs a h k) (t:=lstT v' (h.L++[x])) (by omega) rfl (fun j hj=>if_neg hj) r2 (Turn.grown r3 fun k hk=>.inl hk) fun g hg=>r4 g hg
 have hb:w'.heap[p]? = some (.cells #[v,u] K.ty (0,0)):=f1.each 0 (by omega)
 obtain ⟨g1,g2,g3⟩:=f1.turn (i:=0) (R':=memb K p v' u qs a ⟨h.L++[x],h.Q⟩) (t:=blk p (.cells #[v',u] K.ty (0,0))) (w':=w'.setCell ⟨p,0,none⟩ v') (by omega) rfl (fun j hj=>by
  match j,hj with
  | 1,_=>rfl
  | 2,_=>rfl
  | c+3,_=>rfl) (setBlock hb v') (Turn.setCell _ _ _ _ rfl) fun y hy=>.inl hy
 obtain ⟨ao,cap,ev,_⟩:=own_slice r2
 refine ⟨v',w',r1,⟨ao,cap,by rw [ev,List.length_append];rfl⟩,by simp [World.cell?,hb],by simp [World.frozen?,hb],⟨a,⟨g1,t1.len⟩,fun y hy=>?_⟩,?_⟩
 ·rcases g3 y hy with h1 | h1
  ·rcases f3 y h1 with h2 | h2
   ·exact o y h2
   ·exact .inr (Nat.le_trans t.turn.size h2)
  ·exact .inr (Nat.le_trans (Nat.le_trans t.turn.size f2.size) h1)
 ·refine (t.turn.trans f2 fun y hy=>o y hy).trans g2 fun y hy=>?_
  rcases f3 y hy with h2 | h2
  ·exact o y h2
  ·exact .inr (Nat.le_trans t.turn.size h2)
theorem At.queueMore (sl:TypeId) (hu:Tryz.prog.underlying sl=some (.slice K.pt)) (hinfo:(Tryz.prog.info? K.pt).map (fun i=>(i.zero,i.size,i.bytes))=some (some (.pointer none),1,8)) (t:At K w0 F p v u qs h w) {w1:World} {q:Nat} {α:K.α} {S:St} (hq:(K.th q α S).H w1) (b:Below w.heap.size w w1) (n:∀ x,(K.th q α S).F x->w.heap.size<=x) (hl:h.Q.length<=1000) :
  ∃ u' w',(Builtin.append_ #[sl,sl] sl #[u,.slice (some ⟨w1.heap.size,0,none⟩) 1 1]).run Tryz.prog (w1.alloc (.cells #[.pointer (some ⟨q,0,none⟩)] K.pt)) = .ok u' w'/\(∃ ao cap,u' = .slice ao (h.Q.length+1) cap)/\w'.cell? ⟨p,1,none⟩=some u/\w'.frozen? ⟨p,1,none⟩=false/\At K w0 F p v u' (qs++[q]) ⟨h.L,h.Q++[S]⟩ (w'.setCell ⟨p,1,none⟩ u'):=by
 obtain ⟨a,t0,o⟩:=t.ex
 have hlen:=t0.len
 have f0:=t0.fam.below b
 -- the new one beside the others
 have fa:Fam (fun k=>if k=3+h.Q.length then K.th q α S else memb K p v u qs a h k) (3+h.Q.length+1) w1:=f0.add hq (fun x hx hy=>by
  have h1:=n x hx
  have h2:=t0.fam.lt x hy
  omega) (if_pos rfl) fun j hj=>if_neg (by omega)
 have row:(lstP K.pt u qs).H w1:=f0.each 2 (by omega)
 obtain ⟨u',w',r1,r2,r3,r4⟩:=append_P sl K.pt hu hinfo w1 u qs q row (by omega)
 have hR2:(if (2:Nat)=3+h.Q.length then K.th q α S else memb K p v u qs a h 2)=lstP K.pt u qs:=if_neg (by omega)
 obtain ⟨f1,f2,f3⟩:=fa.turn (i:=2) (R':=fun k=>if k=2 then lstP K.pt u' (qs++[q]) else if k=3+h.Q.length then K.th q α S else memb K p v u qs a h k) (t:=lstP K.pt u' (qs++[q])) (by omega) rfl (fun j hj=>if_neg hj) r2 (by rw [hR2];exact Turn.grown r3 fun k hk=>.inl hk) (by rw [hR2];exact fun g hg=>r4 g hg)
 have hb:w'.heap[p]? = some (.cells #[v,u] K.ty (0,0)):=by
  have:=f1.each 0 (by omega)
  rw [if_neg (by omega),if_neg (by omega)] at this
  exact this
 have hR0:(if (0:Nat)=2 then lstP K.pt u' (qs++[q]) else if (0:Nat)=3+h.Q.length then K.th q α S else memb K p v u qs a h 0)=blk p (.cells #[v,u] K.ty (0,0)):=by
  rw [if_neg (by omega),if_neg (by omega)]
  rfl
 have hm:∀ c,memb K p v u' (qs++[q]) (updN a h.Q.length α) ⟨h.L,h.Q++[S]⟩ (c+3)=if c+3=3+h.Q.length then K.th q α S else memb K p v u qs a h (c+3):=fun c=>by
  show K.th ((qs++[q]).getD c 0) (updN a h.Q.length α c) ((h.Q++[S]).getD c [])=_
  by_cases e:c=h.Q.length
  ·have e1:(qs++[q]).getD c 0=q:=by
    rw [e,<- hlen,List.getD_eq_getElem?_getD,List.getElem?_append_right (Nat.le_refl _),Nat.sub_self]
    rfl
   have e2:(h.Q++[S]).getD c []=S:=by
    rw [e,List.getD_eq_getElem?_getD,List.getElem?_append_right (Nat.le_refl _),Nat.sub_self]
    rfl
   rw [if_pos (by omega),e1,e2,e,updN_at]
  ·rw [if_neg (by omega),updN_ne _ _ e,getD_app hlen e,getD_app rfl e]
   rfl
 obtain ⟨g1,g2,g3⟩:=f1.turn (i:=0) (R':=memb K p v u' (qs++[q]) (updN a h.Q.length α) ⟨h.L,h.Q++[S]⟩) (t:=blk p (.cells #[v,u'] K.ty (0,0))) (w':=w'.setCell ⟨p,1,none⟩ u') (by omega) rfl (fun j hj=>by
  match j,hj with
  | 1,_=>rw [if_neg (by omega),if_neg (by omega)];rfl
  | 2,_=>rw [if_pos rfl];rfl
  | c+3,_=>rw [if_neg (by omega)];exact hm c) (setBlock hb u') (by rw [hR0];exact Turn.setCell _ _ _ _ rfl) (by rw [hR0];exact fun y hy=>.inl hy)
 have hfa:∀ y,fpF (fun k=>if k=3+h.Q.length then K.th q α S else memb K p v u qs a h k) (3+h.Q.length+1) y->F y\/w0.heap.size<=y:=by
  rintro y ⟨j,hj,hy⟩
  by_cases e:j=3+h.Q.length
  ·simp only [e,if_true] at hy
   exact .inr (Nat.le_trans t.turn.size (n y hy))
  ·simp only [e,if_false] at hy
   exact o y ⟨j,by omega,hy⟩
 have hl1:(h.Q++[S]).length=h.Q.length+1:=by simp
 have hsz:w0.heap.size<=w1.heap.size:=Nat.le_trans t.turn.size b.size
 obtain ⟨ao,cap,ev,_⟩:=own_slice r2
 refine ⟨u',w',r1,⟨ao,cap,by rw [ev,List.length_append,hlen];rfl⟩,by simp [World.cell?,hb],by simp [World.frozen?,hb],⟨updN a h.Q.length α,⟨by rw [hl1];exact g1,by rw [hl1,List.length_append,hlen];rfl⟩,fun y hy=>?_⟩,?_⟩
 ·unfold fpT at hy
  rw [hl1] at hy
  rcases g3 y hy with h1 | h1
  ·rcases f3 y h1 with h2 | h2
   ·exact hfa y h2
   ·exact .inr (Nat.le_trans hsz h2)
  ·exact .inr (Nat.le_trans (Nat.le_trans hsz f2.size) h1)
 ·refine ((t.turn.thenBelow b).trans f2 fun y hy=>hfa y hy).trans g2 fun y hy=>?_
  rcases f3 y hy with h2 | h2
  ·exact hfa y h2
  ·exact .inr (Nat.le_trans hsz h2)
end
end Go.Proofs.YtilnjnblpeeigaaGreatDoor.Th
namespace Go.Proofs.YtilnjnblpeeigaaGreatDoor.Th
open Go.RowKit Go.Deep Go.Shelf
def none':Nat->Prop:=fun _=>False
theorem turn_below {w w':World} (h:Turn none' w w'):Below w.heap.size w w':=⟨h.os,h.tape,h.output,h.size,fun k hk=>h.block k hk id⟩
section
variable {K:QK} {w0 w:World} {p:Nat} {v u:Value} {qs:List Nat} {h:Hs}
theorem At.all_new (t:At K w0 none' p v u qs h w):∃ F,ThH K p F h w/\Below w0.heap.size w0 w/\∀ x,F x->w0.heap.size<=x:=by
 obtain ⟨F',h1,h2,h3⟩:=t.goes
 exact ⟨F',h1,turn_below h2,fun x hx=>(h3 x hx).elim (fun e=>e.elim) id⟩
theorem at_fresh (w:World) {w1:World} (b:Below w.heap.size w w1) {v:Value} {L:List Td} (hv:(lstT v L).H w1) (hn:∀ x,v.ownBlock=some x->w.heap.size<=x) (α:Nat->K.α) :
  At K w none' w1.heap.size v (.slice none 0 0) [] ⟨L,[]⟩ (w1.alloc (.cells #[v,.slice none 0 0] K.ty)):=by
 have hb:=blk_alloc_new w1 (.cells #[v,.slice none 0 0] K.ty)
 refine ⟨⟨α,⟨⟨fun i hi=>?_,fun i j hi hj hij x hx hy=>?_⟩,rfl⟩,?_⟩,?_⟩
 ·match i,hi with
  | 0,_=>exact hb
  | 1,_=>exact (lstT v L).below hv (below_new _ _)
  | 2,_=>exact ⟨rfl,.inl ⟨rfl,rfl⟩⟩
  | c+3,hi=>exact absurd hi (by simp only [List.length_nil];omega)
 ·have hlt:∀ x,v.ownBlock=some x->x<w1.heap.size:=fun x hx=>(lstT v L).lt w1 hv x hx
  match i,j,hi,hj,hij,hx,hy with
  | 0,1,_,_,_,hx,hy =>
   have h1:x=w1.heap.size:=hx
   have:=hlt x hy
   omega
  | 1,0,_,_,_,hx,hy =>
   have h1:x=w1.heap.size:=hy
   have:=hlt x hx
   omega
  | 2,_,_,_,_,hx,_=>cases hx
  | _,2,_,_,_,_,hy=>cases hy
  | c+3,_,hi,_,_,_,_=>exact absurd hi (by simp only [List.length_nil];omega)
  | _,c+3,_,hj,_,_,_=>exact absurd hj (by simp only [List.length_nil];omega)
 ·rintro x ⟨i,hi,hx⟩
  match i,hi,hx with
  | 0,_,hx =>
   have h1:x=w1.heap.size:=hx
   exact .inr (by rw [h1];exact b.size)
  | 1,_,hx=>exact .inr (hn x hx)
  | 2,_,hx=>cases hx
  | c+3,hi,_=>exact absurd hi (by simp only [List.length_nil];omega)
 ·exact (Turn.of b none').thenBelow (below_new _ _)
end
theorem uP:Tryz.prog.underlying 147 = some (.slice qkP.pt):=Tryz.underlying147
theorem infoP:(Tryz.prog.info? qkP.pt).map (fun i=>(i.zero,i.size,i.bytes))=some (some (.pointer none),1,8):=by kernel_rfl
theorem new_q (w:World):Calls Tryz.prog 96 #[] w fun e w'=>∃ q F,e = .returned (ptr q)/\(qkP.th q F []).H w'/\Below w.heap.size w w'/\∀ x,(qkP.th q F []).F x->w.heap.size<=x:=by
 refine Calls.mono (new_any w) ?_
 rintro e w' ⟨F,rfl,h1,b,n⟩
 exact ⟨_,F,rfl,h1,b,n⟩
set_option maxHeartbeats 16000000 in
theorem newT_any (n:Nat) (w:World) (h1:1<=n) (h8:n<=8) :
  Calls Tryz.prog 51 #[.int .i64 n] w fun e w'=>∃ p F,e = .returned (.tuple #[ptr p,.int .i64 0])/\ThH qkP p F (newH n) w'/\Below w.heap.size w w'/\∀ x,F x->w.heap.size<=x:=by
 have hz1:¬ ((n:Int)<1):=by omega
 have hz2:¬ ((8:Int)<(n:Int)):=by omega
 have A0:=hid (at_fresh (K:=qkP) w (w1:=w) (Below.refl _ _) (v:=.slice none 0 0) (L:=[]) ⟨rfl,.inl ⟨rfl,rfl⟩⟩ (fun x hx=>by cases hx) (fun _ _=>False))
 have hty:qkP.ty=149:=rfl
 rw [hty] at A0
 clear hty
 go_enter Tryz.func51,Tryz.ntmps51
 go_wp2_with fail
 go_loopw [14] (fun s14 wr=>∃ (k:Nat) (ao:Option Addr) (cap:Nat) (qs:List Nat),k<=n/\s14 = .int .i64 k/\At qkP w none' w.heap.size (.slice none 0 0) (.slice ao k cap) qs ⟨[],List.replicate k []⟩ wr) (fun s14 _=>n - (intOf s14).toNat)
 case atStart=>exact ⟨0,none,0,[],Nat.zero_le _,rfl,A0.out⟩
 case round =>
  clear A0
  obtain ⟨k,ao,cap,qs,hk,rfl,t⟩:=hrel
  have T:=hid t
  by_cases hlt:k<n
  ·have hltz:(k:Int)<(n:Int):=by omega
   have c1:=t.cell1
   have TD:=hid t.drew
   have HL:Hid (k<=8):=by show k<=8;omega
   clear t T
   generalize hr:w.heap.size=r at *
   go_wp2_with fail
   go_region_law (first
    | (refine step_append_run rfl (.tmp 20) (.tmp 22) 147 147 rfl (.slice ao k cap) (.slice (some ⟨w2.heap.size,0,none⟩) 1 1) _ _ (by simp [Act.eval]) (by simp [Act.eval]) R1.out ?_)
    | (go_simp;go_at_call 96;refine Calls.mono (new_q _) ?_;rintro e w2 ⟨q,F2,rfl,q2,b2,n2⟩;obtain ⟨u',w3,r1,⟨ao',cap',rfl⟩,c1',f1',t3⟩:=TD.out.queueMore 147 uP infoP q2 b2 n2 (by simp;have:=HL.out;omega);have R1:=hid r1;have T3:=hid t3;have c1b:=(TD.out.below b2).cell1;have c1c:=cell_al c1b (.cells #[ptr q] 150);clear r1 t3 q2 b2 n2))
   all_goals
    go_wp2
    go_round
    case rel=>exact ⟨k+1,_,_,_,by omega,by go_num,by have:=T3.out;simp only [List.length_replicate] at this;rw [List.replicate_succ'];exact this⟩
    case measure=>simp [intOf];omega
  ·obtain rfl:k=n:=by omega
   clear t
   go_wp2
   go_ret2
   obtain ⟨F,f1,f2,f3⟩:=T.out.all_new
   exact ⟨_,F,rfl,f1,f2,f3⟩
end Go.Proofs.YtilnjnblpeeigaaGreatDoor.Th
namespace Go.Proofs.YtilnjnblpeeigaaGreatDoor.Th
open Go.RowKit Go.Deep Go.Shelf
section
variable {w0 w:World} {F:Nat->Prop} {p:Nat} {v u:Value} {qs:List Nat} {h:Hs}
theorem isT_cases (h:Hs) (i:Int):(∃ j:Nat,i=j/\j<h.L.length/\isT h i/\i.toNat=j)\/¬ isT h i:=by
 by_cases ht:isT h i
 ·obtain ⟨h1,h2⟩:=isT_nat ht
  exact .inl ⟨i.toNat,h2.symm,h1,ht,rfl⟩
 ·exact .inr ht
set_option maxHeartbeats 2000000 in
theorem resume_at (t:At qkP w0 F p v u qs h w) (iv:Inv h) (i:Int) :
  Calls Tryz.prog 54 #[ptr p,.int .i64 i] w fun e w'=>e = .returned (.int .i64 (resumeE h i))/\At qkP w0 F p v u qs (resumeH h i) w':=by
 have hmf:∀ (fn:Fn) (first cap:Array Value) (w:World),(Instr.makeFunc fn first cap).run Tryz.prog w = .ok (.func fn first cap) w:=fun _ _ _ _=>rfl
 have IV:=hid iv
 obtain ⟨ao,cap,rfl,hg⟩:=t.slice
 rcases isT_cases h i with ⟨j,rfl,hj,hT,hjn⟩ | hT
 ·have T0:=hid t
  obtain ⟨g,rfl⟩:=hg j hj
  have HJ:=hid hj
  have hE0:inE (j:Int) (h.L.length:Int) 100=0:=inE_yes (by omega)
  have HR:Hid (resumeE h j=unE (List.contains [0,3] (thr h j).st) 101/\(unE (List.contains [0,3] (thr h j).st) 101≠0->resumeH h j=h)):=by
   have hs:=(okay_at iv hj).s
   have hE:resumeE h j=unE (List.contains [0,3] (thr h j).st) 101:=by
    unfold resumeE
    rw [if_pos hT,Int.toNat_natCast]
    generalize (thr h j).st=s at *
    have:s=0\/s=1\/s=2\/s=3:=by omega
    rcases this with rfl | rfl | rfl | rfl <;> rfl
   refine ⟨hE,fun hne=>?_⟩
   unfold resumeH
   rw [hE,if_neg hne]
  clear t hg hj
  go_enter Tryz.func54,Tryz.ntmps54
  go_wp2_with fail
  refine Calls.mono (there_any p j _ _ _ w T0.out.var0) ?_
  rintro e w1 ⟨c1,rfl,k1,b1⟩
  obtain ⟨g1,l1,rfl⟩:=k1.form
  have T1:=hid (T0.out.below b1)
  have B2:=hid (below_new w1 (.cells #[.int .i64 0,.int .i64 3] 3))
  have K1:=hid (k1.below B2.out)
  have C2:=hid (blk_alloc_new w1 (.cells #[.int .i64 0,.int .i64 3] 3))
  clear k1 b1
  go_wp2_with fail
  have T2:=hid (T1.out.below B2.out)
  refine Calls.mono (among_any p g cap h.L.length w1.heap.size j (thr h j).st [0,3] _ T2.out.var0 HJ.out T2.out.ltT (by simp) (T2.out.four HJ.out).1 (fun k x hx=>?_) (by simp)) ?_
  ·simp only [World.cell?,C2.out]
   match k,hx with
   | 0,hx=>exact congrArg (fun z=>some (Value.int .i64 z)) (Option.some.inj hx)
   | 1,hx=>exact congrArg (fun z=>some (Value.int .i64 z)) (Option.some.inj hx)
   | k+2,hx=>simp at hx
  rintro e w3 ⟨c2,rfl,k2,b3⟩
  obtain ⟨g2,l2,rfl⟩:=k2.form
  have T3:=hid (T2.out.below b3)
  have K1':=hid (K1.out.below b3)
  have K2:=hid k2
  clear k2 b3
  go_wp2_with fail
  refine Calls.mono (first2 w3 _ _ _ _ K1'.out fun _=>K2.out) ?_
  rintro e w4 ⟨rfl,b4⟩
  have T4:=hid (T3.out.below b4)
  clear b4
  rw [hE0]
  clear K1 K1' K2 C2 B2 T1 T2 T3 T0 hE0
  cases hst:List.contains [0,3] (thr h j).st with
  | false =>
   rw [hst] at HR
   have hF:firstE [0,unE false 101]=101:=rfl
   rw [hF]
   go_wp2
   go_ret
   obtain ⟨r1,r2⟩:=HR.out
   exact ⟨ret_int (by rw [r1];rfl),by rw [r2 (by decide)];exact T4.out⟩
  | true =>
   have HS:=hid hst
   rw [hst] at HR
   clear hst
   have hF:firstE [0,unE true 101]=0:=rfl
   rw [hF]
   have HE:Hid (resumeE h j=0):=HR.out.1
   go_wp2_with fail
   have okj:=okay_at IV.out HJ.out
   have hne:(thr h j).st≠1:=fun e=>by
    have:=HS.out
    rw [e] at this
    cases this
   have hG:resumeH h j=lineH' h j:=by
    rw [line_gen IV.out HJ.out hne]
    unfold resumeH
    rw [HE.out,if_pos rfl]
    rfl
   refine Calls.mono (lineUp_at T4.out HJ.out okj.c (Nat.le_trans (IV.out.small okj.c) (by omega)) (by have:=IV.out.few;have:=HJ.out;omega)) ?_
   rintro e w5 ⟨rfl,t5⟩
   rw [<- hG] at t5
   have T5:=hid t5
   clear t5
   go_wp2
   go_ret
   exact ⟨ret_int HE.out.symm,T5.out⟩
 ·have T0:=hid t
  have hE0:inE i (h.L.length:Int) 100=100:=inE_no hT
  have HR:Hid (resumeE h i=100/\resumeH h i=h):=by
   have:resumeE h i=100:=by
    unfold resumeE
    rw [if_neg hT]
   exact ⟨this,by unfold resumeH;rw [this,if_neg (by decide)]⟩
  clear t hg hT
  go_enter Tryz.func54,Tryz.ntmps54
  go_wp2_with fail
  refine Calls.mono (there_any p i _ _ _ w T0.out.var0) ?_
  rintro e w1 ⟨c1,rfl,k1,b1⟩
  obtain ⟨g1,l1,rfl⟩:=k1.form
  have T1:=hid (T0.out.below b1)
  have B2:=hid (below_new w1 (.cells #[.int .i64 0,.int .i64 3] 3))
  have K1:=hid (k1.below B2.out)
  clear k1 b1
  go_wp2_with fail
  refine Calls.mono (among_raw p i _ _ _ _) ?_
  rintro e w3 ⟨g2,l2,rfl,b3⟩
  have T3:=hid ((T1.out.below B2.out).below b3)
  have K1':=hid (K1.out.below b3)
  clear b3
  go_wp2_with fail
  refine Calls.mono (first2 w3 _ _ _ 0 K1'.out fun e=>by rw [hE0] at e;cases e) ?_
  rintro e w4 ⟨rfl,b4⟩
  have T4:=hid (T3.out.below b4)
  clear b4
  rw [hE0]
  have hF:firstE [100,0]=100:=rfl
  rw [hF]
  clear K1 K1' B2 T1 T3 T0 hE0
  go_wp2
  go_ret
  obtain ⟨r1,r2⟩:=HR.out
  exact ⟨ret_int r1.symm,by rw [r2];exact T4.out⟩
set_option maxHeartbeats 2000000 in
theorem suspend_at (t:At qkP w0 F p v u qs h w) (iv:Inv h) (i:Int) :
  Calls Tryz.prog 124 #[ptr p,.int .i64 i] w fun e w'=>e = .returned (.int .i64 (suspendE h i))/\At qkP w0 F p v u qs (suspendH h i) w':=by
 have hmf:∀ (fn:Fn) (first cap:Array Value) (w:World),(Instr.makeFunc fn first cap).run Tryz.prog w = .ok (.func fn first cap) w:=fun _ _ _ _=>rfl
 have IV:=hid iv
 obtain ⟨ao,cap,rfl,hg⟩:=t.slice
 rcases isT_cases h i with ⟨j,rfl,hj,hT,hjn⟩ | hT
 ·have T0:=hid t
  obtain ⟨g,rfl⟩:=hg j hj
  have HJ:=hid hj
  have hE0:inE (j:Int) (h.L.length:Int) 100=0:=inE_yes (by omega)
  have HR:Hid (suspendE h j=unE (List.contains [1,2,3] (thr h j).st) 101/\(unE (List.contains [1,2,3] (thr h j).st) 101≠0->suspendH h j=h)):=by
   have hs:=(okay_at iv hj).s
   have hE:suspendE h j=unE (List.contains [1,2,3] (thr h j).st) 101:=by
    unfold suspendE
    rw [if_pos hT,Int.toNat_natCast]
    generalize (thr h j).st=s at *
    have:s=0\/s=1\/s=2\/s=3:=by omega
    rcases this with rfl | rfl | rfl | rfl <;> rfl
   refine ⟨hE,fun hne=>?_⟩
   unfold suspendH
   rw [hE,if_neg hne]
  clear t hg hj
  go_enter Tryz.func124,Tryz.ntmps124
  go_wp2_with fail
  refine Calls.mono (there_any p j _ _ _ w T0.out.var0) ?_
  rintro e w1 ⟨c1,rfl,k1,b1⟩
  obtain ⟨g1,l1,rfl⟩:=k1.form
  have T1:=hid (T0.out.below b1)
  have B2:=hid (below_new w1 (.cells #[.int .i64 1,.int .i64 2,.int .i64 3] 3))
  have K1:=hid (k1.below B2.out)
  have C2:=hid (blk_alloc_new w1 (.cells #[.int .i64 1,.int .i64 2,.int .i64 3] 3))
  clear k1 b1
  go_wp2_with fail
  have T2:=hid (T1.out.below B2.out)
  refine Calls.mono (among_any p g cap h.L.length w1.heap.size j (thr h j).st [1,2,3] _ T2.out.var0 HJ.out T2.out.ltT (by simp) (T2.out.four HJ.out).1 (fun k x hx=>?_) (by simp)) ?_
  ·simp only [World.cell?,C2.out]
   match k,hx with
   | 0,hx=>exact congrArg (fun z=>some (Value.int .i64 z)) (Option.some.inj hx)
   | 1,hx=>exact congrArg (fun z=>some (Value.int .i64 z)) (Option.some.inj hx)
   | 2,hx=>exact congrArg (fun z=>some (Value.int .i64 z)) (Option.some.inj hx)
   | k+3,hx=>simp at hx
  rintro e w3 ⟨c2,rfl,k2,b3⟩
  obtain ⟨g2,l2,rfl⟩:=k2.form
  have T3:=hid (T2.out.below b3)
  have K1':=hid (K1.out.below b3)
  have K2:=hid k2
  clear k2 b3
  go_wp2_with fail
  refine Calls.mono (first2 w3 _ _ _ _ K1'.out fun _=>K2.out) ?_
  rintro e w4 ⟨rfl,b4⟩
  have T4:=hid (T3.out.below b4)
  clear b4
  rw [hE0]
  clear K1 K1' K2 C2 B2 T1 T2 T3 T0 hE0
  cases hst:List.contains [1,2,3] (thr h j).st with
  | false =>
   rw [hst] at HR
   have hF:firstE [0,unE false 101]=101:=rfl
   rw [hF]
   go_wp2
   go_ret
   obtain ⟨r1,r2⟩:=HR.out
   exact ⟨ret_int (by rw [r1];rfl),by rw [r2 (by decide)];exact T4.out⟩
  | true =>
   have HS:=hid hst
   rw [hst] at HR
   clear hst
   have hF:firstE [0,unE true 101]=0:=rfl
   rw [hF]
   have HE:Hid (suspendE h j=0):=HR.out.1
   go_wp2_with fail
   have okj:=okay_at IV.out HJ.out
   refine Calls.mono (leave_at T4.out HJ.out okj.c (Nat.le_trans (IV.out.small okj.c) (by omega)) (by have:=IV.out.few;have:=HJ.out;omega)) ?_
   rintro e w5 ⟨rfl,t5⟩
   have c0:=t5.cell0
   have hl5:j<(leaveH h j).L.length:=HJ.out
   obtain ⟨d0,_,_,_⟩:=t5.four hl5
   have f0:=t5.frozenT (j*12)
   have T6:=hid (t5.set hl5 (j:=0) (c:=.int .i64 0) (y:={ thr h j with st:=0 }) (by omega) rfl)
   have HG:Hid (suspendH h j=⟨(leaveH h j).L.set j { thr h j with st:=0 },(leaveH h j).Q⟩):=by
    show suspendH h j=_
    rw [out_gen (h:=h) (i:=j) { thr h j with st:=0 } (by simp)]
    unfold suspendH
    rw [HE.out,if_pos rfl]
    rfl
   have hjz:(j:Int)<(h.L.length:Int):=by have:=HJ.out;omega
   clear t5 okj
   simp only [Nat.add_zero] at T6
   generalize (thr (leaveH h j) j).st=st0 at *
   generalize hn:h.L.length=nL at *
   go_wp2
   go_ret
   exact ⟨ret_int HE.out.symm,by rw [HG.out,hn];exact T6.out⟩
 ·have T0:=hid t
  have hE0:inE i (h.L.length:Int) 100=100:=inE_no hT
  have HR:Hid (suspendE h i=100/\suspendH h i=h):=by
   have:suspendE h i=100:=by
    unfold suspendE
    rw [if_neg hT]
   exact ⟨this,by unfold suspendH;rw [this,if_neg (by decide)]⟩
  clear t hg hT
  go_enter Tryz.func124,Tryz.ntmps124
  go_wp2_with fail
  refine Calls.mono (there_any p i _ _ _ w T0.out.var0) ?_
  rintro e w1 ⟨c1,rfl,k1,b1⟩
  obtain ⟨g1,l1,rfl⟩:=k1.form
  have T1:=hid (T0.out.below b1)
  have B2:=hid (below_new w1 (.cells #[.int .i64 1,.int .i64 2,.int .i64 3] 3))
  have K1:=hid (k1.below B2.out)
  clear k1 b1
  go_wp2_with fail
  refine Calls.mono (among_raw p i _ _ _ _) ?_
  rintro e w3 ⟨g2,l2,rfl,b3⟩
  have T3:=hid ((T1.out.below B2.out).below b3)
  have K1':=hid (K1.out.below b3)
  clear b3
  go_wp2_with fail
  refine Calls.mono (first2 w3 _ _ _ 0 K1'.out fun e=>by rw [hE0] at e;cases e) ?_
  rintro e w4 ⟨rfl,b4⟩
  have T4:=hid (T3.out.below b4)
  clear b4
  rw [hE0]
  have hF:firstE [100,0]=100:=rfl
  rw [hF]
  clear K1 K1' B2 T1 T3 T0 hE0
  go_wp2
  go_ret
  obtain ⟨r1,r2⟩:=HR.out
  exact ⟨ret_int r1.symm,by rw [r2];exact T4.out⟩
set_option maxHeartbeats 2000000 in
theorem block_at (t:At qkP w0 F p v u qs h w) (iv:Inv h) (i:Int) :
  Calls Tryz.prog 192 #[ptr p,.int .i64 i] w fun e w'=>e = .returned (.int .i64 (blockE h i))/\At qkP w0 F p v u qs (blockH h i) w':=by
 have hmf:∀ (fn:Fn) (first cap:Array Value) (w:World),(Instr.makeFunc fn first cap).run Tryz.prog w = .ok (.func fn first cap) w:=fun _ _ _ _=>rfl
 have IV:=hid iv
 obtain ⟨ao,cap,rfl,hg⟩:=t.slice
 rcases isT_cases h i with ⟨j,rfl,hj,hT,hjn⟩ | hT
 ·have T0:=hid t
  obtain ⟨g,rfl⟩:=hg j hj
  have HJ:=hid hj
  have hE0:inE (j:Int) (h.L.length:Int) 100=0:=inE_yes (by omega)
  have HR:Hid (blockE h j=unE (List.contains [2] (thr h j).st) 101/\(unE (List.contains [2] (thr h j).st) 101≠0->blockH h j=h)):=by
   have hs:=(okay_at iv hj).s
   have hE:blockE h j=unE (List.contains [2] (thr h j).st) 101:=by
    unfold blockE
    rw [if_pos hT,Int.toNat_natCast]
    generalize (thr h j).st=s at *
    have:s=0\/s=1\/s=2\/s=3:=by omega
    rcases this with rfl | rfl | rfl | rfl <;> rfl
   refine ⟨hE,fun hne=>?_⟩
   unfold blockH
   rw [hE,if_neg hne]
  clear t hg hj
  go_enter Tryz.func192,Tryz.ntmps192
  go_wp2_with fail
  refine Calls.mono (there_any p j _ _ _ w T0.out.var0) ?_
  rintro e w1 ⟨c1,rfl,k1,b1⟩
  obtain ⟨g1,l1,rfl⟩:=k1.form
  have T1:=hid (T0.out.below b1)
  have B2:=hid (below_new w1 (.cells #[.int .i64 2] 3))
  have K1:=hid (k1.below B2.out)
  have C2:=hid (blk_alloc_new w1 (.cells #[.int .i64 2] 3))
  clear k1 b1
  go_wp2_with fail
  have T2:=hid (T1.out.below B2.out)
  refine Calls.mono (among_any p g cap h.L.length w1.heap.size j (thr h j).st [2] _ T2.out.var0 HJ.out T2.out.ltT (by simp) (T2.out.four HJ.out).1 (fun k x hx=>?_) (by simp)) ?_
  ·simp only [World.cell?,C2.out]
   match k,hx with
   | 0,hx=>exact congrArg (fun z=>some (Value.int .i64 z)) (Option.some.inj hx)
   | k+1,hx=>simp at hx
  rintro e w3 ⟨c2,rfl,k2,b3⟩
  obtain ⟨g2,l2,rfl⟩:=k2.form
  have T3:=hid (T2.out.below b3)
  have K1':=hid (K1.out.below b3)
  have K2:=hid k2
  clear k2 b3
  go_wp2_with fail
  refine Calls.mono (first2 w3 _ _ _ _ K1'.out fun _=>K2.out) ?_
  rintro e w4 ⟨rfl,b4⟩
  have T4:=hid (T3.out.below b4)
  clear b4
  rw [hE0]
  clear K1 K1' K2 C2 B2 T1 T2 T3 T0 hE0
  cases hst:List.contains [2] (thr h j).st with
  | false =>
   rw [hst] at HR
   have hF:firstE [0,unE false 101]=101:=rfl
   rw [hF]
   go_wp2
   go_ret
   obtain ⟨r1,r2⟩:=HR.out
   exact ⟨ret_int (by rw [r1];rfl),by rw [r2 (by decide)];exact T4.out⟩
  | true =>
   have HS:=hid hst
   rw [hst] at HR
   clear hst
   have hF:firstE [0,unE true 101]=0:=rfl
   rw [hF]
   have HE:Hid (blockE h j=0):=HR.out.1
   have t5:=T4.out
   have c0:=t5.cell0
   obtain ⟨d0,_,_,_⟩:=t5.four HJ.out
   have f0:=t5.frozenT (j*12)
   have T6:=hid (t5.set HJ.out (j:=0) (c:=.int .i64 3) (y:={ thr h j with st:=3 }) (by omega) rfl)
   have HG:Hid (blockH h j=⟨h.L.set j { thr h j with st:=3 },h.Q⟩):=by
    show blockH h j=_
    have hst:(thr h j).st=2:=by
     have:=HS.out
     simpa using this
    have okj:=okay_at IV.out HJ.out
    have:=gen_free IV.out HJ.out (by omega) { thr h j with st:=3 } okj.c okj.p
    rw [if_neg (by simp)] at this
    rw [<- this]
    unfold blockH
    rw [HE.out,if_pos rfl]
    rfl
   have hjz:(j:Int)<(h.L.length:Int):=by have:=HJ.out;omega
   clear t5
   simp only [Nat.add_zero] at T6
   generalize (thr h j).st=st0 at *
   generalize hn:h.L.length=nL at *
   go_wp2
   go_ret
   exact ⟨ret_int HE.out.symm,by rw [HG.out,hn];exact T6.out⟩
 ·have T0:=hid t
  have hE0:inE i (h.L.length:Int) 100=100:=inE_no hT
  have HR:Hid (blockE h i=100/\blockH h i=h):=by
   have:blockE h i=100:=by
    unfold blockE
    rw [if_neg hT]
   exact ⟨this,by unfold blockH;rw [this,if_neg (by decide)]⟩
  clear t hg hT
  go_enter Tryz.func192,Tryz.ntmps192
  go_wp2_with fail
  refine Calls.mono (there_any p i _ _ _ w T0.out.var0) ?_
  rintro e w1 ⟨c1,rfl,k1,b1⟩
  obtain ⟨g1,l1,rfl⟩:=k1.form
  have T1:=hid (T0.out.below b1)
  have B2:=hid (below_new w1 (.cells #[.int .i64 2] 3))
  have K1:=hid (k1.below B2.out)
  clear k1 b1
  go_wp2_with fail
  refine Calls.mono (among_raw p i _ _ _ _) ?_
  rintro e w3 ⟨g2,l2,rfl,b3⟩
  have T3:=hid ((T1.out.below B2.out).below b3)
  have K1':=hid (K1.out.below b3)
  clear b3
  go_wp2_with fail
  refine Calls.mono (first2 w3 _ _ _ 0 K1'.out fun e=>by rw [hE0] at e;cases e) ?_
  rintro e w4 ⟨rfl,b4⟩
  have T4:=hid (T3.out.below b4)
  clear b4
  rw [hE0]
  have hF:firstE [100,0]=100:=rfl
  rw [hF]
  clear K1 K1' B2 T1 T3 T0 hE0
  go_wp2
  go_ret
  obtain ⟨r1,r2⟩:=HR.out
  exact ⟨ret_int r1.symm,by rw [r2];exact T4.out⟩
end
end Go.Proofs.YtilnjnblpeeigaaGreatDoor.Th
namespace Go.Proofs.YtilnjnblpeeigaaGreatDoor.Th
open Go.RowKit Go.Deep Go.Shelf
theorem eight {g:List Int} (h:g.length=8):∃ a0 a1 a2 a3 a4 a5 a6 a7,g=[a0,a1,a2,a3,a4,a5,a6,a7]:=by
 match g,h with
 | [a0,a1,a2,a3,a4,a5,a6,a7],_=>exact ⟨a0,a1,a2,a3,a4,a5,a6,a7,rfl⟩
theorem cT_reg (x:Td) (hx:x.g.length=8) {k:Nat} (hk:k<8) (z:Int):cT { x with g:=x.g.set k z }=(cT x).set (4+k) (.int .u64 z):=by
 obtain ⟨st,p,c,l,g⟩:=x
 obtain ⟨a0,a1,a2,a3,a4,a5,a6,a7,rfl⟩:=eight hx
 have:k=0\/k=1\/k=2\/k=3\/k=4\/k=5\/k=6\/k=7:=by omega
 rcases this with rfl | rfl | rfl | rfl | rfl | rfl | rfl | rfl <;> rfl
theorem rg_at (x:Td) {k:Nat} (hk:k<8):(cT x)[4+k]? = some (.int .u64 (rg x k)):=by
 have:k=0\/k=1\/k=2\/k=3\/k=4\/k=5\/k=6\/k=7:=by omega
 rcases this with rfl | rfl | rfl | rfl | rfl | rfl | rfl | rfl <;> rfl
section
variable {w0 w:World} {F:Nat->Prop} {p:Nat} {v u:Value} {qs:List Nat} {h:Hs}
set_option maxHeartbeats 2000000 in
theorem reg_at (t:At qkP w0 F p v u qs h w) (iv:Inv h) (i k0:Int) (z:Int) :
  Calls Tryz.prog 204 #[ptr p,.int .i64 i,.int .i64 k0,.int .u64 z] w fun e w'=>e = .returned (.int .i64 (regE h i k0))/\At qkP w0 F p v u qs (regH h i k0 z) w':=by
 have hmf:∀ (fn:Fn) (first cap:Array Value) (w:World),(Instr.makeFunc fn first cap).run Tryz.prog w = .ok (.func fn first cap) w:=fun _ _ _ _=>rfl
 have IV:=hid iv
 have T0:=hid t
 obtain ⟨ao,cap,rfl,hg⟩:=t.slice
 have HG:=hid hg
 have hE:regE h i k0=firstE [inE i (h.L.length:Int) 100,inE k0 8 1]:=by
  unfold regE
  by_cases hT:isT h i
  ·rw [if_pos hT,inE_yes hT]
   by_cases hp:0<=k0/\k0<8
   ·rw [if_pos hp,inE_yes hp]
    rfl
   ·rw [if_neg hp,inE_no hp]
    rfl
  ·rw [if_neg hT,inE_no hT]
   rfl
 have HE:=hid hE
 clear t hg iv hE
 go_enter Tryz.func204,Tryz.ntmps204
 go_wp2_with fail
 refine Calls.mono (there_any p i _ _ _ _ T0.out.var0) ?_
 rintro e w1 ⟨c1,rfl,k1,b1⟩
 obtain ⟨g1,l1,rfl⟩:=k1.form
 have K1:=hid k1
 have T1:=hid (T0.out.below b1)
 clear k1 b1 T0
 go_wp2_with fail
 refine Calls.mono (below_any k0 8 w1) ?_
 rintro e w2 ⟨c2,rfl,k2,b2⟩
 obtain ⟨g2,l2,rfl⟩:=k2.form
 have K1':=hid (K1.out.below b2)
 have K2:=hid k2
 have T2:=hid (T1.out.below b2)
 clear k2 b2 T1 K1
 go_wp2_with fail
 refine Calls.mono (first2 w2 _ _ _ _ K1'.out fun _=>K2.out) ?_
 rintro e w3 ⟨rfl,b3⟩
 have T3:=hid (T2.out.below b3)
 clear b3 T2 K1' K2
 rw [<- HE.out]
 by_cases h0:regE h i k0=0
 ·have HH:Hid (isT h i/\0<=k0/\k0<8):=by
   by_cases hT:isT h i
   ·by_cases hp:0<=k0/\k0<8
    ·exact ⟨hT,hp⟩
    ·rw [HE.out,inE_yes hT,inE_no hp] at h0
     cases h0
   ·rw [HE.out,inE_no hT] at h0
    cases h0
  have H0:=hid h0
  have HP:Hid (regH h i k0 z=setH h i.toNat { thr h i.toNat with g:=(thr h i.toNat).g.set k0.toNat z }):=by
   show regH h i k0 z=_
   unfold regH
   rw [if_pos h0]
  rw [h0]
  clear HE h0
  obtain ⟨hT,hp⟩:=HH.out
  obtain ⟨j,rfl⟩:=Int.eq_ofNat_of_zero_le hT.1
  obtain ⟨k,rfl⟩:=Int.eq_ofNat_of_zero_le hp.1
  rw [Int.toNat_natCast,Int.toNat_natCast] at HP
  have hj:j<h.L.length:=by have:=hT.2;omega
  have hk:k<8:=by omega
  have HJ:=hid (And.intro hj hk)
  obtain ⟨g,rfl⟩:=HG.out j hj
  clear HG HH hT hp hj hk
  have c0:=T3.out.cell0
  have d0:=T3.out.cellT HJ.out.1 (rg_at (thr h j) HJ.out.2)
  have f0:=T3.out.frozenT (j*12+(4+k))
  have T4:Hid (At qkP w0 F p _ _ qs (setH h j { thr h j with g:=(thr h j).g.set k z }) _):=T3.out.set HJ.out.1 (j:=4+k) (c:=.int .u64 z) (y:={ thr h j with g:=(thr h j).g.set k z }) (by have:=HJ.out.2;omega) (cT_reg (thr h j) (okay_at IV.out HJ.out.1).g HJ.out.2 z)
  have hjz:(j:Int)<(h.L.length:Int):=by have:=HJ.out.1;omega
  have hkz:(k:Int)<8:=by have:=HJ.out.2;omega
  clear T3
  generalize rg (thr h j) k=old at *
  rw [<- Nat.add_assoc] at d0 f0 T4
  generalize hnL:h.L.length=nL at *
  go_wp2
  go_ret
  rw [HP.out,H0.out,hnL]
  exact ⟨rfl,T4.out⟩
 ·have h1:(regE h i k0 == 0)=false:=by simpa using h0
  have h2:(regE h i k0 != 0)=true:=by simpa using h0
  have HP:Hid (regH h i k0 z=h):=by
   show regH h i k0 z=h
   unfold regH
   rw [if_neg h0]
  clear HE h0
  generalize hz:regE h i k0=z at *
  go_wp2
  go_ret
  rw [HP.out,hz]
  exact ⟨rfl,T3.out⟩
set_option maxHeartbeats 2000000 in
theorem prio_at (t:At qkP w0 F p v u qs h w) (iv:Inv h) (i k0:Int) :
  Calls Tryz.prog 125 #[ptr p,.int .i64 i,.int .i64 k0] w fun e w'=>e = .returned (.int .i64 (prioE h i k0))/\At qkP w0 F p v u qs (prioH h i k0) w':=by
 have hmf:∀ (fn:Fn) (first cap:Array Value) (w:World),(Instr.makeFunc fn first cap).run Tryz.prog w = .ok (.func fn first cap) w:=fun _ _ _ _=>rfl
 have IV:=hid iv
 have T0:=hid t
 obtain ⟨ao,cap,rfl,hg⟩:=t.slice
 have HG:=hid hg
 have hE:prioE h i k0=firstE [inE i (h.L.length:Int) 100,inE k0 256 1]:=by
  unfold prioE
  by_cases hT:isT h i
  ·rw [if_pos hT,inE_yes hT]
   by_cases hp:0<=k0/\k0<256
   ·rw [if_pos hp,inE_yes hp]
    rfl
   ·rw [if_neg hp,inE_no hp]
    rfl
  ·rw [if_neg hT,inE_no hT]
   rfl
 have HE:=hid hE
 clear t hg iv hE
 go_enter Tryz.func125,Tryz.ntmps125
 go_wp2_with fail
 refine Calls.mono (there_any p i _ _ _ _ T0.out.var0) ?_
 rintro e w1 ⟨c1,rfl,k1,b1⟩
 obtain ⟨g1,l1,rfl⟩:=k1.form
 have K1:=hid k1
 have T1:=hid (T0.out.below b1)
 clear k1 b1 T0
 go_wp2_with fail
 refine Calls.mono (below_any k0 256 w1) ?_
 rintro e w2 ⟨c2,rfl,k2,b2⟩
 obtain ⟨g2,l2,rfl⟩:=k2.form
 have K1':=hid (K1.out.below b2)
 have K2:=hid k2
 have T2:=hid (T1.out.below b2)
 clear k2 b2 T1 K1
 go_wp2_with fail
 refine Calls.mono (first2 w2 _ _ _ _ K1'.out fun _=>K2.out) ?_
 rintro e w3 ⟨rfl,b3⟩
 have T3:=hid (T2.out.below b3)
 clear b3 T2 K1' K2
 rw [<- HE.out]
 by_cases h0:prioE h i k0=0
 ·have HH:Hid (isT h i/\0<=k0/\k0<256):=by
   by_cases hT:isT h i
   ·by_cases hp:0<=k0/\k0<256
    ·exact ⟨hT,hp⟩
    ·rw [HE.out,inE_yes hT,inE_no hp] at h0
     cases h0
   ·rw [HE.out,inE_no hT] at h0
    cases h0
  have H0:=hid h0
  have HP:Hid (prioH h i k0=genH h i.toNat { thr h i.toNat with p:=k0.toNat }):=by
   show prioH h i k0=_
   unfold prioH
   rw [if_pos h0]
  rw [h0]
  clear HE h0
  obtain ⟨hT,hp⟩:=HH.out
  obtain ⟨j,rfl⟩:=Int.eq_ofNat_of_zero_le hT.1
  obtain ⟨k,rfl⟩:=Int.eq_ofNat_of_zero_le hp.1
  rw [Int.toNat_natCast,Int.toNat_natCast] at HP
  have hj:j<h.L.length:=by have:=hT.2;omega
  have hk:k<256:=by omega
  have HJ:=hid (And.intro hj hk)
  obtain ⟨g,rfl⟩:=HG.out j hj
  clear HG HH hT hp hj hk
  go_wp2_with fail
  have okj:=okay_at IV.out HJ.out.1
  have hstd:=IV.out.stands HJ.out.1
  refine Calls.mono (leave_at T3.out HJ.out.1 okj.c (Nat.le_trans (IV.out.small okj.c) (by omega)) (by have:=IV.out.few;have:=HJ.out.1;omega)) ?_
  rintro e w4 ⟨rfl,t4⟩
  rw [hstd]
  have c0:=t4.cell0
  have hl4:j<(leaveH h j).L.length:=HJ.out.1
  obtain ⟨_,d0,_,_⟩:=t4.four hl4
  have f0:=t4.frozenT (j*12+1)
  have T5:Hid (At qkP w0 F p _ _ qs ⟨h.L.set j { thr h j with p:=k },(leaveH h j).Q⟩ _):=t4.set hl4 (j:=1) (c:=.int .i64 k) (y:={ thr h j with p:=k }) (by omega) rfl
  have hjz:(j:Int)<(h.L.length:Int):=by have:=HJ.out.1;omega
  clear t4 hl4 T3 hstd okj
  generalize (thr (leaveH h j) j).p=old at *
  by_cases hst:(thr h j).st=1
  ·have hd:decide ((thr h j).st=1)=true:=by simpa using hst
   rw [hd]
   have HS:=hid hst
   clear hst hd
   generalize hnL:h.L.length=nL at *
   go_wp2_with fail
   have hj:j<h.L.length:=by have:=HJ.out.1;omega
   have hj5:j<(h.L.set j { thr h j with p:=k }).length:=by rw [List.length_set];exact hj
   have hth:thr ⟨h.L.set j { thr h j with p:=k },(leaveH h j).Q⟩ j={ thr h j with p:=k }:=thr_set hj _
   have okj:=okay_at IV.out hj
   have hQl:(leaveH h j).Q.length=h.Q.length:=List.length_set
   refine Calls.mono (lineUp_at T5.out (i:=j) hj5 (by rw [hth];show _<(leaveH h j).Q.length;rw [hQl];exact okj.c) (by rw [hth];exact Nat.le_trans (leave_len _ okj.c fun d hd=>IV.out.small hd) (by omega)) (by have:=IV.out.few;omega)) ?_
   rintro e w6 ⟨rfl,t6⟩
   rw [up_gen IV.out hj { thr h j with p:=k } okj.c HJ.out.2] at t6
   have T6:=hid t6
   clear t6 okj hQl hth hj5 hj
   go_wp2
   go_ret
   rw [HP.out,H0.out,hnL]
   have hx:({ ({ thr h j with p:=k }:Td) with st:=1 }:Td)={ thr h j with p:=k }:=by
    have:=HS.out
    show (⟨1,k,_,_,_⟩:Td)=⟨(thr h j).st,k,_,_,_⟩
    rw [this]
   have:=T6.out
   rw [hx] at this
   exact ⟨rfl,this⟩
  ·have hd:decide ((thr h j).st=1)=false:=by simpa using hst
   rw [hd]
   have HS:=hid hst
   clear hst hd
   generalize hnL:h.L.length=nL at *
   go_wp2
   go_ret
   rw [HP.out,H0.out,hnL]
   have:=T5.out
   have e1:=out_gen (h:=h) (i:=j) { thr h j with p:=k } HS.out
   exact ⟨rfl,e1 ▸ this⟩
 ·have h1:(prioE h i k0 == 0)=false:=by simpa using h0
  have h2:(prioE h i k0 != 0)=true:=by simpa using h0
  have HP:Hid (prioH h i k0=h):=by
   show prioH h i k0=h
   unfold prioH
   rw [if_neg h0]
  clear HE h0
  generalize hz:prioE h i k0=z at *
  go_wp2
  go_ret
  rw [HP.out,hz]
  exact ⟨rfl,T3.out⟩
end
end Go.Proofs.YtilnjnblpeeigaaGreatDoor.Th
namespace Go.Proofs.YtilnjnblpeeigaaGreatDoor.Th
open Go.RowKit Go.Deep Go.Shelf
def fidx (p:Td->Bool) (L:List Td):Int:=((L.findIdx? p).map fun i=>(i:Int)).getD (-1)
def At12 (w:World) (q o:Nat) (x:Td):Prop:=∀ j c,(cT x)[j]? = some c->w.cell? ⟨q,o+j,none⟩=some c
theorem At12.cells {w:World} {q o:Nat} {x:Td} (h:At12 w q o x):w.cell? ⟨q,o,none⟩=some (.int .i64 x.st)/\w.cell? ⟨q,o+1,none⟩=some (.int .i64 x.p)/\w.cell? ⟨q,o+2,none⟩=some (.int .i64 x.c)/\w.cell? ⟨q,o+3,none⟩=some (.int .i64 x.l)/\w.cell? ⟨q,o+4,none⟩=some (.int .u64 (rg x 0))/\w.cell? ⟨q,o+5,none⟩=some (.int .u64 (rg x 1))/\w.cell? ⟨q,o+6,none⟩=some (.int .u64 (rg x 2))/\w.cell? ⟨q,o+7,none⟩=some (.int .u64 (rg x 3))/\w.cell? ⟨q,o+8,none⟩=some (.int .u64 (rg x 4))/\w.cell? ⟨q,o+9,none⟩=some (.int .u64 (rg x 5))/\w.cell? ⟨q,o+10,none⟩=some (.int .u64 (rg x 6))/\w.cell? ⟨q,o+11,none⟩=some (.int .u64 (rg x 7)):=
 ⟨h 0 _ rfl,h 1 _ rfl,h 2 _ rfl,h 3 _ rfl,h 4 _ rfl,h 5 _ rfl,h 6 _ rfl,h 7 _ rfl,h 8 _ rfl,h 9 _ rfl,h 10 _ rfl,h 11 _ rfl⟩
theorem At.all {K:QK} {w0 w:World} {F:Nat->Prop} {p:Nat} {u:Value} {qs:List Nat} {h:Hs} {g cap n:Nat} (t:At K w0 F p (.slice (some ⟨g,0,none⟩) n cap) u qs h w) {i:Nat} (hi:i<h.L.length):At12 w g (i*12) (thr h i):=fun _ _ hj=>t.cellT hi hj
theorem at12_new (w:World) (x:Td):At12 (w.alloc (objT x)) w.heap.size 0 x:=fun j c hj=>by
 have:=blk_alloc_new w (objT x)
 simp only [World.cell?]
 rw [this,Nat.zero_add]
 simpa [cT,objT] using hj
theorem At12.below {w w':World} {q o:Nat} {x:Td} (h:At12 w q o x) (hq:q<w.heap.size) (b:Below w.heap.size w w'):At12 w' q o x:=fun j c hj=>(b.cell (p:=⟨q,o+j,none⟩) hq).trans (h j c hj)
set_option maxHeartbeats 2000000 in
theorem indexT_any (f:Nat) (lb:Array Value) (pr:Td->Bool) (ao:Option Addr) (c:Nat) (L:List Td) (w:World) (eg:∀ args w,(callFunc f args).run Tryz.prog w = .ok (.enter f args) w)
  (hp:∀ W x,Below w.heap.size w W->Calls Tryz.prog f (#[encT x]++lb) W fun e w'=>e = .returned (.bool (pr x))/\Below W.heap.size W w') (_hl:L.length<=1000) (hr:w.ownsRow 0 39 12 (.slice ao L.length c) L.length (flatK cT L)) :
  Calls Tryz.prog 86 #[.slice ao L.length c,.func (.func f) #[] lb] w fun e w'=>e = .returned (.int .i64 (fidx pr L))/\Below w.heap.size w w':=by
 have HZ:=hid hr
 have HP:=hid hp
 obtain ⟨ao',c',ev,hg⟩:=own_slice hr
 cases ev
 have HG:=hid hg
 clear hr hp hg
 generalize hN:L.length=N at *
 have HN:=hid hN
 clear hN
 go_enter Tryz.func86,Tryz.ntmps86
 go_wp2
 go_loopw [5,8] (fun _ s8 wr=>∃ kk:Nat,kk<=N/\s8 = .int .i64 kk/\Below w.heap.size w wr/\Hid (∀ j x,j<kk->L[j]? = some x->pr x=false)) (fun _ s8 _=>N - (intOf s8).toNat)
 case atStart=>exact ⟨0,Nat.zero_le _,rfl,Below.refl _ w,fun j x hj=>absurd hj (Nat.not_lt_zero _)⟩
 case round =>
  obtain ⟨kk,hkk,rfl,BW,A⟩:=hrel
  have HB:=hid BW
  by_cases hlt:kk<N
  ·have hltz:(kk:Int)<(N:Int):=by omega
   obtain ⟨g,rfl⟩:=HG.out kk hlt
   have hkl:kk<L.length:=by rw [HN.out];exact hlt
   have row:(lstT (.slice (some ⟨g,0,none⟩) N c) L).H w:=by
    show w.ownsRow 0 39 12 _ L.length _
    rw [HN.out]
    exact HZ.out
   have gl:g<w.heap.size:=(lstT (.slice (some ⟨g,0,none⟩) N c) L).lt w row g rfl
   have a12:At12 wr g (kk*12) L[kk]:=At12.below (fun j cc hj=>lstK_cell cT_len row (List.getElem?_eq_getElem hkl) hj) gl BW
   have hcall:=HP.out wr L[kk] BW
   have HX:=hid (List.getElem?_eq_getElem hkl)
   generalize L[kk]=x at *
   obtain ⟨c0,c1,c2,c3,c4,c5,c6,c7,c8,c9,c10,c11⟩:=a12.cells
   have HL:=hid hlt
   clear hlt BW row gl a12 hkl
   unfold encT at hcall
   cases hq:pr x with
   | true =>
    rw [hq] at hcall
    go_wp2_with (go_at_fn f;refine hcall.mono ?_;rintro e w' ⟨rfl,hb'⟩)
    go_ret
    refine ⟨ret_int ?_,Below.then HB.out hb' HB.out.size⟩
    have:L.findIdx? pr=some kk:=by
     rw [List.findIdx?_eq_some_iff_getElem]
     obtain ⟨hk,e⟩:=List.getElem?_eq_some_iff.1 HX.out
     refine ⟨hk,by rw [e];exact hq,fun j hj=>?_⟩
     have:=A.out j _ hj (List.getElem?_eq_getElem (by omega))
     simpa using this
    unfold fidx
    rw [this]
    rfl
   | false =>
    rw [hq] at hcall
    go_wp2_with (go_at_fn f;refine hcall.mono ?_;rintro e w' ⟨rfl,hb'⟩)
    go_roundw
    case rel =>
     refine ⟨kk+1,by have:=HL.out;omega,by go_num,Below.then HB.out hb' HB.out.size,fun j y hj hy=>?_⟩
     by_cases e:j=kk
     ·subst e
      rw [HX.out] at hy
      cases hy
      exact hq
     ·exact A.out j y (by omega) hy
    case measure=>simp [intOf];have:=HL.out;omega
  ·have hltz:¬ (kk:Int)<(N:Int):=by omega
   have e:kk=N:=by omega
   have HE:Hid (fidx pr L = -1):=by
    have:L.findIdx? pr=none:=by
     rw [List.findIdx?_eq_none_iff]
     intro x hx
     obtain ⟨j,hj,ej⟩:=List.mem_iff_getElem.1 hx
     exact A.out j x (by rw [e,<- HN.out];exact hj) (by rw [List.getElem?_eq_getElem hj,ej])
    show fidx pr L = -1
    unfold fidx
    rw [this]
    rfl
   clear e hlt hkk A
   go_wp2
   go_ret
   exact ⟨by rw [HE.out];rfl,HB.out⟩
def isR (c:Int) (x:Td):Bool:=x.st == 2 && (x.c:Int) == c
set_option maxHeartbeats 1000000 in
theorem runsC (q:Nat) (c:Int) (x:Td) (w:World) (h:Var w q (.int .i64 c)) :
  Calls Tryz.prog 87 #[encT x,ptr q] w fun e w'=>e = .returned (.bool (isR c x))/\Below w.heap.size w w':=by
 have b1:=below_new w (objT x)
 have hc:=(h.below b1).2
 obtain ⟨c0,_,c2,_⟩:=(at12_new w x).cells
 have B:=hid b1
 clear b1 h
 unfold isR
 simp only [objT,encT,Nat.zero_add] at *
 by_cases h2:x.st=2
 ·have e0:(x.st == 2)=true:=by simpa using h2
  rw [e0,Bool.true_and]
  clear h2
  go_enter Tryz.func87,Tryz.ntmps87
  go_wp2
  go_ret
  exact ⟨rfl,B.out⟩
 ·have e0:(x.st == 2)=false:=by simpa using h2
  rw [e0,Bool.false_and]
  clear h2
  go_enter Tryz.func87,Tryz.ntmps87
  go_wp2
  go_ret
  exact ⟨rfl,B.out⟩
section
variable {w0 w:World} {F:Nat->Prop} {p:Nat} {v u:Value} {qs:List Nat} {h:Hs}
theorem runs_any (t:At qkP w0 F p v u qs h w) (hl:h.L.length<=1000) (c:Int) :
  Calls Tryz.prog 34 #[ptr p,.int .i64 c] w fun e w'=>e = .returned (.tuple #[.int .i64 (runsN h c),.bool (runsB h c)])/\Below w.heap.size w w':=by
 have hmf:∀ (fn:Fn) (first cap:Array Value) (w:World),(Instr.makeFunc fn first cap).run Tryz.prog w = .ok (.func fn first cap) w:=fun _ _ _ _=>rfl
 obtain ⟨ao,cap,rfl,hg⟩:=t.slice
 have B:=hid (below_new w (.cells #[.int .i64 c] 3))
 have V:=hid (Var.new w (.int .i64 c) 3)
 have t1:=t.below B.out
 have c0:=t1.cell0
 have HI:=hid (indexT_any 87 #[ptr w.heap.size] (isR c) ao cap h.L _ (enters_of Tryz.func87 (by kernel_rfl) rfl) (fun W x hW=>runsC w.heap.size c x W (V.out.below hW)) hl t1.row)
 have HR:Hid (fidx (isR c) h.L=((runsO h c).map fun i=>(i:Int)).getD (-1)):=rfl
 unfold runsN runsB
 generalize fidx (isR c) h.L=z at *
 generalize runsO h c=o at *
 clear t t1 V hg
 cases o with
 | none =>
  obtain rfl:z = -1:=HR.out
  clear HR
  go_enter Tryz.func34,Tryz.ntmps34
  go_wp2_with (go_at_call 86;refine Calls.mono HI.out ?_;rintro e w' ⟨rfl,b2⟩)
  go_ret2
  exact ⟨rfl,Below.then B.out b2 B.out.size⟩
 | some i =>
  obtain rfl:z=(i:Int):=HR.out
  clear HR
  have hneg:¬ ((i:Int)<0):=by omega
  go_enter Tryz.func34,Tryz.ntmps34
  go_wp2_with (go_at_call 86;refine Calls.mono HI.out ?_;rintro e w' ⟨rfl,b2⟩)
  go_ret2
  exact ⟨rfl,Below.then B.out b2 B.out.size⟩
theorem isC_cases (h:Hs) (i:Int):(∃ j:Nat,i=j/\j<h.Q.length/\isC h i/\i.toNat=j)\/¬ isC h i:=by
 by_cases ht:isC h i
 ·obtain ⟨h1,h2⟩:=isC_nat ht
  exact .inl ⟨i.toNat,h2.symm,h1,ht,rfl⟩
 ·exact .inr ht
end
end Go.Proofs.YtilnjnblpeeigaaGreatDoor.Th
namespace Go.Proofs.YtilnjnblpeeigaaGreatDoor.Th
open Go.RowKit Go.Deep Go.Shelf
section
variable {w0 w:World} {F:Nat->Prop} {p:Nat} {v u:Value} {qs:List Nat} {h:Hs}
theorem makeE_first (h:Hs) (pr c:Int):makeE h pr c=firstE [inE pr 256 1,inE c (h.Q.length:Int) 1,inE (h.L.length:Int) 64 2]:=by
 unfold makeE
 by_cases hp:0<=pr/\pr<256
 ·by_cases hc:isC h c
  ·rw [if_pos ⟨hp,hc⟩,inE_yes hp,inE_yes hc]
   by_cases hl:64<=h.L.length
   ·rw [if_pos hl,inE_no (by omega)]
    rfl
   ·rw [if_neg hl,inE_yes (by omega)]
    rfl
  ·rw [if_neg (fun e=>hc e.2),inE_yes hp,inE_no hc]
   rfl
 ·rw [if_neg (fun e=>hp e.1),inE_no hp]
  rfl
set_option maxHeartbeats 4000000 in
theorem make_at (t:At qkP w0 F p v u qs h w) (iv:Inv h) (pr c:Int) :
  Calls Tryz.prog 53 #[ptr p,.int .i64 pr,.int .i64 c] w fun e w'=>e = .returned (.tuple #[.int .i64 (makeN h pr c),.int .i64 (makeE h pr c)])/\∃ v',At qkP w0 F p v' u qs (makeH h pr c) w':=by
 have hmf:∀ (fn:Fn) (first cap:Array Value) (w:World),(Instr.makeFunc fn first cap).run Tryz.prog w = .ok (.func fn first cap) w:=fun _ _ _ _=>rfl
 have IV:=hid iv
 obtain ⟨ao,cap,rfl,hg⟩:=t.slice
 obtain ⟨gq,capq,rfl⟩:=t.pslice iv.lo
 have T0:=hid t.drew
 have c1:=t.cell1
 have HE:=hid (makeE_first h pr c)
 clear t hg iv
 go_enter Tryz.func53,Tryz.ntmps53
 go_wp2_with fail
 go_cut [8] from 8 to 21 (fun s8 wx=>s8 = .int .i64 (firstE [inE pr 256 1,inE c (h.Q.length:Int) 1,inE (h.L.length:Int) 64 2])/\At qkP w0 F p (.slice ao h.L.length cap) (.slice (some ⟨gq,0,none⟩) h.Q.length capq) qs h wx)
 case first =>
  go_region_with (first
   | (go_at_call 97;(with_reducible refine Calls.mono (below_any pr 256 _) ?_);rintro e w1 ⟨c1,rfl,k1,b1⟩;obtain ⟨g1,l1,rfl⟩:=k1.form;have T1:=hid (T0.out.below b1);have K1:=hid k1;have c1b:=T1.out.cell1;clear k1 b1)
   | (go_at_call 97;(with_reducible refine Calls.mono (below_any c (h.Q.length:Int) _) ?_);rintro e w2 ⟨c2,rfl,k2,b2⟩;obtain ⟨g2,l2,rfl⟩:=k2.form;have T2:=hid (T1.out.below b2);have K1':=hid (K1.out.below b2);have K2:=hid k2;clear k2 b2)
   | (go_at_call 98;(with_reducible refine Calls.mono (room_any p _ _ _ _ T2.out.var0) ?_);rintro e w3 ⟨c3,rfl,k3,b3⟩;obtain ⟨g3,l3,rfl⟩:=k3.form;have T3:=hid (T2.out.below b3);have K1'':=hid (K1'.out.below b3);have K2':=hid (K2.out.below b3);have K3:=hid k3;clear k3 b3)
   | (go_at_call 84;(with_reducible refine Calls.mono (first3 w3 _ _ _ _ _ _ K1''.out K2'.out K3.out) ?_);rintro e w4 ⟨rfl,b4⟩;have T4:=hid (T3.out.below b4);clear b4))
  all_goals go_wp2_with fail
  all_goals go_meet
  all_goals exact ⟨rfl,T4.out⟩
 case rest =>
  obtain ⟨rfl,t3⟩:=hcut
  have T3:=hid t3
  clear t3 T0 c1
  rw [<- HE.out]
  rcases makeE_cases h pr c with ⟨h0,p0,p1,hC,hl⟩ | ⟨h0,_⟩ | ⟨h0,_⟩
  ·have HM:Hid (makeH h pr c=⟨h.L++[⟨0,pr.toNat,c.toNat,5,List.replicate 8 0⟩],h.Q⟩/\makeN h pr c=(h.L.length:Int)):=⟨by unfold makeH;rw [if_pos h0],by unfold makeN;rw [if_pos h0]⟩
   have H0:=hid h0
   rw [h0]
   obtain ⟨P,rfl⟩:=Int.eq_ofNat_of_zero_le p0
   obtain ⟨C,rfl⟩:=Int.eq_ofNat_of_zero_le hC.1
   rw [Int.toNat_natCast,Int.toNat_natCast] at HM
   obtain ⟨v',w',r1,⟨ao',cap',rfl⟩,c0',f0',t4⟩:=T3.out.more ⟨0,P,C,5,List.replicate 8 0⟩ (by omega)
   have R1:=hid r1
   have T4:=hid t4
   have c0:=T3.out.cell0
   have e0:=t4.cell0
   have hob:objT ⟨0,P,C,5,List.replicate 8 0⟩ = .cells #[.int .i64 0,.int .i64 P,.int .i64 C,.int .i64 5,.int .u64 0,.int .u64 0,.int .u64 0,.int .u64 0,.int .u64 0,.int .u64 0,.int .u64 0,.int .u64 0] 39:=rfl
   rw [hob] at R1
   clear r1 t4 h0 p0 p1 hC T3 HE hob
   generalize hnL:h.L.length=nL at *
   have hw:IntKind.i64.wrap (((nL+1:Nat):Int) - 1)=(nL:Int):=by
    unfold IntKind.wrap
    simp [IntKind.bits,IntKind.signed]
    omega
   have hw2:((nL+1:Nat):Int) - 1=(nL:Int):=by omega
   go_wp2_with (at_builtin;(with_reducible refine wpList_append_run rfl (.tmp 29) (.tmp 33) 146 146 rfl (.slice ao nL cap) (.slice (some ⟨wc.heap.size,0,none⟩) 1 1) _ w' rfl rfl R1.out ?_))
   go_ret2
   refine ⟨?_,_,by rw [HM.out.1];exact T4.out⟩
   rw [HM.out.2,H0.out]
   simp
  ·have HM:Hid (makeH h pr c=h/\makeN h pr c=0):=⟨by unfold makeH;rw [h0];rfl,by unfold makeN;rw [h0];rfl⟩
   have H0:=hid h0
   rw [h0]
   clear h0 HE
   go_wp2
   go_ret2
   rw [HM.out.1,HM.out.2,H0.out]
   exact ⟨rfl,_,T3.out⟩
  ·have HM:Hid (makeH h pr c=h/\makeN h pr c=0):=⟨by unfold makeH;rw [h0];rfl,by unfold makeN;rw [h0];rfl⟩
   have H0:=hid h0
   rw [h0]
   clear h0 HE
   go_wp2
   go_ret2
   rw [HM.out.1,HM.out.2,H0.out]
   exact ⟨rfl,_,T3.out⟩
end
end Go.Proofs.YtilnjnblpeeigaaGreatDoor.Th
namespace Go.Proofs.YtilnjnblpeeigaaGreatDoor.Th
open Go.RowKit Go.Deep Go.Shelf
def put12 (w:World) (q o:Nat) (x:Td):World:=(((((((((((w.setCell ⟨q,o,none⟩ (.int .i64 x.st)).setCell ⟨q,o+1,none⟩ (.int .i64 x.p)).setCell ⟨q,o+2,none⟩ (.int .i64 x.c)).setCell ⟨q,o+3,none⟩ (.int .i64 x.l)).setCell ⟨q,o+4,none⟩ (.int .u64 (rg x 0))).setCell ⟨q,o+5,none⟩ (.int .u64 (rg x 1))).setCell ⟨q,o+6,none⟩ (.int .u64 (rg x 2))).setCell ⟨q,o+7,none⟩ (.int .u64 (rg x 3))).setCell ⟨q,o+8,none⟩ (.int .u64 (rg x 4))).setCell ⟨q,o+9,none⟩ (.int .u64 (rg x 5))).setCell ⟨q,o+10,none⟩ (.int .u64 (rg x 6))).setCell ⟨q,o+11,none⟩ (.int .u64 (rg x 7))
theorem turn_put12 (F:Nat->Prop) (w:World) (q o:Nat) (x:Td) (h:F q):Turn F w (put12 w q o x):=by
 unfold put12
 have st:∀ {a b:World} (k:Turn F a b) (o:Nat) (v:Value),Turn F a (b.setCell ⟨q,o,none⟩ v):=fun k o v=>k.trans (Turn.setCell F _ ⟨q,o,none⟩ v h) fun x hx=>.inl hx
 exact st (st (st (st (st (st (st (st (st (st (st (st (Turn.refl F w) _ _) _ _) _ _) _ _) _ _) _ _) _ _) _ _) _ _) _ _) _ _) _ _
theorem put12_below {r q:Nat} {w w':World} (b:Below r w w') (hq:r<=q) (hr:r<=w'.heap.size) (o:Nat) (x:Td):Below r w (put12 w' q o x):=
 (turn_put12 (fun k=>k=q) w' q o x rfl).below b (fun k hk=>by rw [hk];exact hq) hr
theorem frozen12 {w:World} {q:Nat} {x:Td} (h:w.heap[q]? = some (objT x)) (j:Nat):w.frozen? ⟨q,j,none⟩=false:=by
 unfold objT at h
 simp [World.frozen?,h]
theorem at12_of {w:World} {q:Nat} {x:Td} (h:w.heap[q]? = some (objT x)):At12 w q 0 x:=fun j c hj=>by
 simp only [World.cell?]
 rw [h,Nat.zero_add]
 simpa [cT,objT] using hj
section
variable {w0 w:World} {F:Nat->Prop} {p:Nat} {v u:Value} {qs:List Nat} {h:Hs}
set_option maxHeartbeats 4000000 in
theorem get_any (t:At qkP w0 F p v u qs h w) (i:Int) :
  Calls Tryz.prog 33 #[ptr p,.int .i64 i] w fun e w'=>e = .returned (.tuple #[encT (getT h i),.int .i64 (getE h i)])/\Below w.heap.size w w':=by
 have hmf:∀ (fn:Fn) (first cap:Array Value) (w:World),(Instr.makeFunc fn first cap).run Tryz.prog w = .ok (.func fn first cap) w:=fun _ _ _ _=>rfl
 obtain ⟨ao,cap,rfl,hg⟩:=t.slice
 have B0:=hid (below_new w (objT td0))
 have Z0:=hid (blk_alloc_new w (objT td0))
 have T1:=hid (t.below B0.out)
 have HG:=hid hg
 clear t hg
 have hobj:objT td0 = .cells #[.int .i64 0,.int .i64 0,.int .i64 0,.int .i64 0,.int .u64 0,.int .u64 0,.int .u64 0,.int .u64 0,.int .u64 0,.int .u64 0,.int .u64 0,.int .u64 0] 39:=rfl
 rcases isT_cases h i with ⟨j,rfl,hj,hT,hjn⟩ | hT
 ·have HJ:=hid hj
  have hE0:inE (j:Int) (h.L.length:Int) 100=0:=inE_yes (by omega)
  have HR:Hid (getT h j=thr h j/\getE h j=0):=⟨by unfold getT;rw [if_pos hT,Int.toNat_natCast],by unfold getE;rw [if_pos hT]⟩
  clear hj hT hjn
  rw [hobj] at B0 Z0 T1
  go_enter Tryz.func33,Tryz.ntmps33
  go_wp2_with fail
  refine Calls.mono (there_any p j _ _ _ _ T1.out.var0) ?_
  rintro e w1 ⟨c1,rfl,k1,b1⟩
  obtain ⟨g1,l1,rfl⟩:=k1.form
  have K1:=hid k1
  have B1:=hid (Below.then B0.out b1 B0.out.size)
  have Z1:=hid ((b1.block _ (by simp)).trans Z0.out)
  have T2:=hid (T1.out.below b1)
  clear k1 b1 B0 Z0 T1
  go_wp2_with fail
  refine Calls.mono (first1 w1 _ _ K1.out) ?_
  rintro e w2 ⟨rfl,b2⟩
  have B2:=hid (Below.then B1.out b2 B1.out.size)
  have Z2:=hid ((b2.block _ (Array.getElem?_eq_some_iff.1 Z1.out).1).trans Z1.out)
  have T3:=hid (T2.out.below b2)
  clear b2 B1 Z1 T2 K1
  rw [hE0]
  have hF:firstE [0]=0:=rfl
  rw [hF]
  obtain ⟨g,rfl⟩:=HG.out j HJ.out
  have c0:=T3.out.cell0
  obtain ⟨d0,d1,d2,d3,d4,d5,d6,d7,d8,d9,d10,d11⟩:=(T3.out.all HJ.out).cells
  have z12:w2.heap[w.heap.size]? = some (objT td0):=Z2.out
  obtain ⟨z0,z1,z2,z3,z4,z5,z6,z7,z8,z9,z10,z11⟩:=(at12_of z12).cells
  have zf:=frozen12 z12
  have HK:=hid (put12_below B2.out (Nat.le_refl _) B2.out.size 0 (thr h j))
  have hjz:(j:Int)<(h.L.length:Int):=by have:=HJ.out;omega
  clear T3 Z2 z12 hE0 hF hobj HG HJ B2
  unfold put12 at HK
  simp only [Nat.zero_add] at *
  generalize thr h j=x at *
  generalize hnL:h.L.length=nL at *
  generalize hr:w.heap.size=r at *
  go_wp2
  refine bodyPost_ret (v:=.tuple #[encT x,.int .i64 0]) ?_ rfl ⟨by rw [HR.out.1,HR.out.2],by rw [hr];exact HK.out⟩
  simp [results,Tryz.f33,go_sem,encT,z0,z1,z2,z3,z4,z5,z6,z7,z8,z9,z10,z11]
 ·have hE0:inE i (h.L.length:Int) 100=100:=inE_no hT
  have HR:Hid (getT h i=td0/\getE h i=100):=⟨by unfold getT;rw [if_neg hT],by unfold getE;rw [if_neg hT]⟩
  clear hT
  rw [hobj] at B0 Z0 T1
  go_enter Tryz.func33,Tryz.ntmps33
  go_wp2_with fail
  refine Calls.mono (there_any p i _ _ _ _ T1.out.var0) ?_
  rintro e w1 ⟨c1,rfl,k1,b1⟩
  obtain ⟨g1,l1,rfl⟩:=k1.form
  have K1:=hid k1
  have B1:=hid (Below.then B0.out b1 B0.out.size)
  have Z1:=hid ((b1.block _ (by simp)).trans Z0.out)
  clear k1 b1 B0 Z0 T1
  go_wp2_with fail
  refine Calls.mono (first1 w1 _ _ K1.out) ?_
  rintro e w2 ⟨rfl,b2⟩
  have B2:=hid (Below.then B1.out b2 B1.out.size)
  have Z2:=hid ((b2.block _ (Array.getElem?_eq_some_iff.1 Z1.out).1).trans Z1.out)
  clear b2 B1 Z1 K1
  rw [hE0]
  have hF:firstE [100]=100:=rfl
  rw [hF]
  have z12:w2.heap[w.heap.size]? = some (objT td0):=Z2.out
  obtain ⟨z0,z1,z2,z3,z4,z5,z6,z7,z8,z9,z10,z11⟩:=(at12_of z12).cells
  have zf:=frozen12 z12
  have HK:=hid (put12_below B2.out (Nat.le_refl _) B2.out.size 0 td0)
  clear Z2 z12 hE0 hF hobj HG B2
  have hrg:∀ k,rg td0 k=0:=fun k=>by
   unfold rg td0
   simp only [List.getD_eq_getElem?_getD,List.getElem?_replicate]
   split <;> rfl
  have HE:Hid (encT td0 = .agg #[.int .i64 0,.int .i64 0,.int .i64 0,.int .i64 0,.int .u64 0,.int .u64 0,.int .u64 0,.int .u64 0,.int .u64 0,.int .u64 0,.int .u64 0,.int .u64 0]):=rfl
  have HR1:Hid (encT (getT h i)=encT td0/\getE h i=100):=⟨by rw [HR.out.1],HR.out.2⟩
  rw [HE.out] at HR1
  clear HE HR
  unfold put12 at HK
  simp only [Nat.zero_add,hrg] at HK z0 z1 z2 z3 z4 z5 z6 z7 z8 z9 z10 z11
  simp only [td0] at HK z0 z1 z2 z3 z4 z5 z6 z7 z8 z9 z10 z11
  generalize hr:w.heap.size=r at *
  go_wp2
  refine bodyPost_ret (v:=.tuple #[.agg #[.int .i64 0,.int .i64 0,.int .i64 0,.int .i64 0,.int .u64 0,.int .u64 0,.int .u64 0,.int .u64 0,.int .u64 0,.int .u64 0,.int .u64 0,.int .u64 0],.int .i64 100]) ?_ rfl ⟨by rw [HR1.out.1,HR1.out.2],by rw [hr];exact HK.out⟩
  simp [results,Tryz.f33,go_sem,z0,z1,z2,z3,z4,z5,z6,z7,z8,z9,z10,z11]
end
end Go.Proofs.YtilnjnblpeeigaaGreatDoor.Th
namespace Go.Proofs.YtilnjnblpeeigaaGreatDoor.Th
open Go.RowKit Go.Deep Go.Shelf
section
variable {h:Hs}
theorem runs_off (v:Inv h) {c:Int} (hc:¬ isC h c):runsO h c=none:=by
 cases e:runsO h c with
 | none=>rfl
 | some i =>
  obtain ⟨x,h1,h2,h3,h4,h5⟩:=runs_some e
  have:=(v.okay h1).c
  exact absurd ⟨by omega,by omega⟩ hc
theorem runsN_some {c:Int} {i:Nat} (e:runsO h c=some i):runsN h c=(i:Int)/\runsB h c=true:=by
 unfold runsN runsB
 rw [e]
 exact ⟨rfl,rfl⟩
theorem runsN_none {c:Int} (e:runsO h c=none):runsN h c=0/\runsB h c=false:=by
 unfold runsN runsB
 rw [e]
 exact ⟨rfl,rfl⟩
theorem nextN_some {S:St} {y:In} (e:nextO S=some y):nextN S=y.n/\nextB S=true:=by
 unfold nextN nextB
 rw [e]
 exact ⟨rfl,rfl⟩
theorem nextN_none {S:St} (e:nextO S=none):nextN S=0/\nextB S=false:=by
 unfold nextN nextB
 rw [e]
 exact ⟨rfl,rfl⟩
def Pk (h:Hs) (c:Nat) (T:Hs):Prop:=
 (nextB (que h c)=false/\h=T) \/
 (∃ i j:Nat,i<h.L.length/\j<h.L.length/\nextN (que h c)=i/\nextB (que h c)=true/\runsO h c=some j/\¬ (thr h j).p<(thr h i).p/\h=T) \/
 (∃ i:Nat,i<h.L.length/\nextN (que h c)=i/\nextB (que h c)=true/\runsO h c=none/\(thr h i).c=c/\runsO (runH h i) c=some i/\runH h i=T) \/
 (∃ i j:Nat,i<h.L.length/\j<h.L.length/\nextN (que h c)=i/\nextB (que h c)=true/\runsO h c=some j/\(thr h j).p<(thr h i).p/\(thr h j).st=2/\(thr h j).c=c/\thr (upH h j) i=thr h i/\(thr h i).c=c/\Inv (upH h j)/\runsO (runH (upH h j) i) c=some i/\runH (upH h j) i=T)
theorem Pk.stay {h:Hs} {c:Nat} (e1:nextB (que h c)=false):Pk h c h:=.inl ⟨e1,rfl⟩
theorem Pk.keep {h:Hs} {c:Nat} (i j:Nat) (hi:i<h.L.length) (hj:j<h.L.length) (e1:nextN (que h c)=i) (e2:nextB (que h c)=true) (e3:runsO h c=some j) (e4:¬ (thr h j).p<(thr h i).p):Pk h c h:=.inr (.inl ⟨i,j,hi,hj,e1,e2,e3,e4,rfl⟩)
theorem Pk.fresh {h:Hs} {c:Nat} (i:Nat) (hi:i<h.L.length) (e1:nextN (que h c)=i) (e2:nextB (que h c)=true) (e3:runsO h c=none) (ec:(thr h i).c=c) (er:runsO (runH h i) c=some i):Pk h c (runH h i):=.inr (.inr (.inl ⟨i,hi,e1,e2,e3,ec,er,rfl⟩))
theorem Pk.swap {h:Hs} {c:Nat} (i j:Nat) (hi:i<h.L.length) (hj:j<h.L.length) (e1:nextN (que h c)=i) (e2:nextB (que h c)=true) (e3:runsO h c=some j) (e4:(thr h j).p<(thr h i).p) (es:(thr h j).st=2) (ec:(thr h j).c=c) (ei:thr (upH h j) i=thr h i) (ec2:(thr h i).c=c) (iv:Inv (upH h j)) (er:runsO (runH (upH h j) i) c=some i):Pk h c (runH (upH h j) i):=.inr (.inr (.inr ⟨i,j,hi,hj,e1,e2,e3,e4,es,ec,ei,ec2,iv,er,rfl⟩))
theorem pick_cases (v:Inv h) {c:Nat} (hc:c<h.Q.length):Pk h c (pickH h c):=by
 have hC:isC h (c:Int):=by unfold isC;omega
 have vp:=inv_pick v (c:Int)
 have hp:pickH h (c:Int)=match nextO (que h c) with
   | none=>h
   | some y=>match runsO h (c:Int) with
    | none=>runH h y.n.toNat
    | some j=>if (thr h j).p<y.p then runH (upH h j) y.n.toNat else h:=by
  unfold pickH
  rw [if_pos hC,Int.toNat_natCast]
  try rfl
 cases hn:nextO (que h c) with
 | none =>
  rw [hn] at hp
  simp only at hp
  rw [hp]
  exact .stay (nextN_none hn).2
 | some y =>
  obtain ⟨i,x,e1,e2,hi,e3,e4,e5,e6,hmax⟩:=next_thread v hc hn
  obtain ⟨n1,n2⟩:=nextN_some hn
  have n1':nextN (que h c)=(i:Int):=by rw [n1,e3]
  have hyp:y.p=(thr h i).p:=by rw [e3,e2]
  rw [hn] at hp
  simp only at hp
  rw [e4] at hp
  cases hr:runsO h (c:Int) with
  | none =>
   rw [hr] at hp
   simp only at hp
   rw [hp] at vp ⊢
   have hat:(runH h i).L[i]? = some { thr h i with st:=2 }:=by
    unfold runH
    rw [gen_at hi,if_pos rfl]
   rw [e2] at hat
   exact .fresh i hi n1' n2 hr (by rw [e2];exact e6) (runs_is vp hat rfl (by simp only;omega))
  | some k =>
   obtain ⟨w,f1,f2,hk,f3,f4⟩:=runs_some hr
   rw [hr] at hp
   simp only at hp
   by_cases hlt:(thr h k).p<y.p
   ·rw [if_pos hlt] at hp
    have hik:i≠k:=fun e=>by
     subst e
     rw [e1] at f1
     cases f1
     omega
    rw [hp] at vp ⊢
    have hi1:i<(upH h k).L.length:=by
     show i<(h.L.set k _).length
     rw [List.length_set]
     exact hi
    have ht:thr (upH h k) i=x:=by
     unfold upH
     rw [thr_gen hk,if_neg hik]
     exact e2
    have hat:(runH (upH h k) i).L[i]? = some { x with st:=2 }:=by
     unfold runH
     rw [gen_at hi1,if_pos rfl,ht]
    exact .swap i k hi hk n1' n2 hr (by rw [<- hyp];exact hlt) (by rw [f2];exact f3) (by rw [f2];omega) (by rw [ht,e2]) (by rw [e2];exact e6) (inv_state v hk (by omega) (by omega) (by omega)) (runs_is vp hat rfl (by simp only;omega))
   ·rw [if_neg hlt] at hp
    rw [hp]
    exact .keep i k hi hk n1' n2 hr (by rw [<- hyp];exact hlt)
end
section
variable {w0 w:World} {F:Nat->Prop} {p:Nat} {v u:Value} {qs:List Nat} {h:Hs}
set_option maxHeartbeats 4000000 in
theorem pick_at (t:At qkP w0 F p v u qs h w) (ht:∀ u,Turn F w0 u->Tab u) (iv:Inv h) (c:Int) :
  Calls Tryz.prog 29 #[ptr p,.int .i64 c] w fun e w'=>e = .returned (.tuple #[.int .i64 (runsN (pickH h c) c),.bool (runsB (pickH h c) c)])/\At qkP w0 F p v u qs (pickH h c) w':=by
 have IV:=hid iv
 have HT:=hid ht
 have T0:=hid t
 have c1:=t.cell1
 obtain ⟨gq,capq,rfl⟩:=t.pslice iv.lo
 have HS:Hid (h.L.length<=64):=iv.few
 rcases isC_cases h c with ⟨j,rfl,hj,hC,hjn⟩ | hC
 ·have HJ:=hid hj
  have hin:inB (j:Int) (h.Q.length:Int)=true:=by simp only [inB,decide_eq_true_eq];omega
  have hjz:(j:Int)<(h.Q.length:Int):=by omega
  have HP:=hid (pick_cases iv hj)
  clear t ht iv hj hC hjn
  go_enter Tryz.func29,Tryz.ntmps29
  go_wp2_with (go_at_call 60;refine Calls.mono (within_any _ _ _) ?_;rintro e w' ⟨rfl,rfl⟩)
  refine Calls.mono (runs_any T0.out (by have:=HS.out;omega) j) ?_
  rintro e w1 ⟨rfl,b1⟩
  have T1:=hid (T0.out.below b1)
  have c1':=T1.out.cell1
  have cq:=T1.out.cellP HJ.out
  obtain ⟨a,hq,hqu⟩:=T1.out.qu HJ.out
  have HN:=hid (next_any _ a _ w1 (HT.out _ T1.out.turn) hq)
  clear c1 hq b1 hqu
  generalize hqq:qs.getD j 0=q at *
  go_wp2_with fail
  refine Calls.mono HN.out ?_
  rintro e w2 ⟨rfl,b2⟩
  have T2:=hid (T1.out.below b2)
  clear b2 HN cq c1' T0 T1 hqq hin
  generalize hPH:pickH h j=h' at *
  have HPH:=hid hPH
  clear hPH
  rcases HP.out with ⟨e1,rfl⟩ | ⟨i,k,hi,hk,e1,e2,e3,e4,rfl⟩ | ⟨i,hi,e1,e2,e3,ec,er,rfl⟩ | ⟨i,k,hi,hk,e1,e2,e3,e4,es,ec,ei,ec2,iv2,er,rfl⟩
  ·skip
   rw [e1]
   clear HP e1
   generalize nextN (que h j)=nn at *
   generalize hrn:runsN h j=rn at *
   generalize hrb:runsB h j=rb at *
   have HR0:=hid (And.intro hrn hrb)
   clear hrn hrb
   go_wp2_with fail
   go_quiet (fail)
   go_wp2
   go_ret2
   rw [HPH.out,HR0.out.1,HR0.out.2]
   exact ⟨rfl,T2.out.drewN _⟩
  ·skip
   obtain ⟨r1,r2⟩:=runsN_some e3
   have HR0:=hid (And.intro r1 r2)
   rw [e1,e2,r1,r2]
   obtain ⟨ao,cap,rfl,hg⟩:=T2.out.slice
   obtain ⟨g,rfl⟩:=hg i hi
   have c0:=T2.out.cell0
   obtain ⟨_,d1,_,_⟩:=T2.out.four hi
   obtain ⟨_,d2,_,_⟩:=T2.out.four hk
   have hiz:(i:Int)<(h.L.length:Int):=by omega
   have hkz:(k:Int)<(h.L.length:Int):=by omega
   have hcmp:decide (((thr h i).p:Int)<=((thr h k).p:Int))=true:=by
    rw [decide_eq_true_eq]
    omega
   have hcmp2:decide ((thr h i).p<=(thr h k).p)=true:=by
    rw [decide_eq_true_eq]
    omega
   clear HP e1 e2 e3 e4 r1 r2 hg
   generalize (thr h i).p=pi at *
   generalize (thr h k).p=pk at *
   generalize hnL:h.L.length=nL at *
   go_wp2_with fail
   go_quiet (fail)
   go_wp2
   go_ret2
   rw [HPH.out,HR0.out.1,HR0.out.2,hnL]
   exact ⟨rfl,T2.out.drewN _⟩
  ·skip
   obtain ⟨r1,r2⟩:=runsN_none e3
   have HR:=hid (runsN_some er)
   rw [e1,e2,r1,r2]
   have HI:=hid hi
   have HC:=hid ec
   clear HP e1 e2 e3 r1 r2 er hi ec
   go_wp2_with fail
   go_quiet (fail)
   have T3:=hid (T2.out.drewN nq)
   generalize w2.drewN nq=w3 at *
   go_wp2_with fail
   have oki:=okay_at IV.out HI.out
   refine Calls.mono (leave_at T3.out HI.out oki.c (Nat.le_trans (IV.out.small oki.c) (by omega)) (by have:=HI.out;have:=HS.out;omega)) ?_
   rintro e w4 ⟨rfl,t4⟩
   obtain ⟨ao,cap,rfl,hg⟩:=t4.slice
   obtain ⟨g,rfl⟩:=hg i HI.out
   have c0:=t4.cell0
   have hl4:i<(leaveH h i).L.length:=HI.out
   obtain ⟨d0,_,_,_⟩:=t4.four hl4
   have f0:=t4.frozenT (i*12)
   have T6:=hid (t4.set hl4 (j:=0) (c:=.int .i64 2) (y:={ thr h i with st:=2 }) (by omega) rfl)
   rw [out_gen (h:=h) (i:=i) { thr h i with st:=2 } (by simp)] at T6
   have hiz:(i:Int)<((leaveH h i).L.length:Int):=by omega
   simp only [Nat.add_zero] at T6
   clear t4 oki hg hl4
   generalize (thr (leaveH h i) i).st=st0 at *
   generalize hnL:(leaveH h i).L.length=nL at *
   go_wp2
   go_ret2
   rw [HPH.out,HR.out.1,HR.out.2,hnL]
   exact ⟨rfl,T6.out⟩
  ·skip
   obtain ⟨r1,r2⟩:=runsN_some e3
   have HR:=hid (runsN_some er)
   rw [e1,e2,r1,r2]
   obtain ⟨ao,cap,rfl,hg⟩:=T2.out.slice
   obtain ⟨g,rfl⟩:=hg i hi
   have c0:=T2.out.cell0
   obtain ⟨_,d1,_,_⟩:=T2.out.four hi
   obtain ⟨_,d2,_,_⟩:=T2.out.four hk
   have hiz:(i:Int)<(h.L.length:Int):=by omega
   have hkz:(k:Int)<(h.L.length:Int):=by omega
   have hcmp:decide (((thr h i).p:Int)<=((thr h k).p:Int))=false:=by
    rw [decide_eq_false_iff_not]
    omega
   have hcmp2:decide ((thr h i).p<=(thr h k).p)=false:=by
    rw [decide_eq_false_iff_not]
    omega
   have HI:=hid hi
   have HK:=hid hk
   have HX:=hid (And.intro es (And.intro ec (And.intro ei (And.intro ec2 iv2))))
   clear HP e1 e2 e3 e4 r1 r2 hg er es ec ei ec2 iv2 hi hk
   generalize (thr h i).p=pi at *
   generalize (thr h k).p=pk at *
   generalize hnL:h.L.length=nL at *
   go_wp2_with fail
   go_quiet (fail)
   have T3:=hid (T2.out.drewN nq)
   generalize w2.drewN nq=w3 at *
   clear c0 d1 d2 T2
   go_wp2_with fail
   obtain ⟨es,ec,ei,ec2,iv2⟩:=HX.out
   have okk:=okay_at IV.out (i:=k) (by have:=HK.out;omega)
   refine Calls.mono (lineUp_at T3.out (by have:=HK.out;omega) okk.c (Nat.le_trans (IV.out.small okk.c) (by omega)) (by have:=HK.out;have:=HS.out;omega)) ?_
   rintro e w4 ⟨rfl,t4⟩
   rw [line_gen IV.out (by have:=HK.out;omega) (by omega)] at t4
   have T4:Hid (At qkP w0 F p _ _ qs (upH h k) w4):=t4
   clear t4 okk es ec ei ec2 iv2
   go_wp2_with fail
   obtain ⟨es,ec,ei,ec2,iv2⟩:=HX.out
   have hlu:(upH h k).L.length=h.L.length:=List.length_set
   have hli:i<(upH h k).L.length:=by have:=HI.out;omega
   have oki:=okay_at iv2 hli
   refine Calls.mono (leave_at T4.out hli oki.c (Nat.le_trans (iv2.small oki.c) (by omega)) (by have:=HI.out;have:=HS.out;omega)) ?_
   rintro e w5 ⟨rfl,t5⟩
   have c0:=t5.cell0
   have hl4:i<(leaveH (upH h k) i).L.length:=hli
   obtain ⟨d0,_,_,_⟩:=t5.four hl4
   have f0:=t5.frozenT (i*12)
   have T6:=hid (t5.set hl4 (j:=0) (c:=.int .i64 2) (y:={ thr (upH h k) i with st:=2 }) (by omega) rfl)
   rw [out_gen (h:=upH h k) (i:=i) { thr (upH h k) i with st:=2 } (by simp)] at T6
   simp only [Nat.add_zero] at T6
   clear t5 oki hl4 es ec ei ec2 iv2 hlu hli
   generalize (thr (leaveH (upH h k) i) i).st=st0 at *
   go_wp2
   go_ret2
   rw [HPH.out,HR.out.1,HR.out.2,hnL]
   exact ⟨rfl,T6.out⟩
 ·have hin:inB c (h.Q.length:Int)=false:=by
   simp only [inB,decide_eq_false_iff_not]
   exact hC
  have hp:pickH h c=h:=by unfold pickH;rw [if_neg hC]
  have HR:=hid (runsN_none (runs_off iv hC))
  rw [hp]
  clear t hC hp ht iv
  generalize hnQ:h.Q.length=nQ at *
  go_enter Tryz.func29,Tryz.ntmps29
  go_wp2_with (go_at_call 60;refine Calls.mono (within_any _ _ _) ?_;rintro e w' ⟨rfl,rfl⟩)
  go_ret2
  exact ⟨by rw [HR.out.1,HR.out.2];rfl,T0.out⟩
end
end Go.Proofs.YtilnjnblpeeigaaGreatDoor.Th
namespace Go.Proofs.YtilnjnblpeeigaaGreatDoor.Th
open Go.RowKit Go.Deep Go.Shelf
section
variable {w0 w:World} {F:Nat->Prop} {p:Nat} {v u:Value} {qs:List Nat} {h:Hs}
theorem set_five (iv:Inv h) {i:Nat} (hi:i<h.L.length):Inv (setH h i { thr h i with l:=5 }):=by
 have ok:=okay_at iv hi
 exact inv_set iv hi ⟨ok.p,ok.c,ok.s,by simp,ok.g,ok.w⟩ rfl rfl rfl
theorem len_set {i:Nat} (y:Td):(setH h i y).L.length=h.L.length:=List.length_set
theorem line_five {i:Nat} (iv:Inv (setH h i { thr h i with l:=5 })) (hi:i<h.L.length) (hs:(thr h i).st=2):lineH' (setH h i { thr h i with l:=5 }) i=genH h i { thr h i with st:=1,l:=5 }:=by
 have hth:thr (setH h i { thr h i with l:=5 }) i={ thr h i with l:=5 }:=thr_set hi _
 have e1:=line_gen iv (by rw [len_set];exact hi) (by rw [hth];simp only;omega)
 rw [hth] at e1
 exact e1.trans (gen_after hi { thr h i with l:=5 } { thr h i with st:=1,l:=5 } rfl)
theorem inv_five {i:Nat} (iv:Inv (setH h i { thr h i with l:=5 })) (hi:i<h.L.length):Inv (genH h i { thr h i with st:=1,l:=5 }):=by
 have hth:thr (setH h i { thr h i with l:=5 }) i={ thr h i with l:=5 }:=thr_set hi _
 have e1:=inv_state iv (i:=i) (by rw [len_set];exact hi) (s:=1) (by omega) (by omega) (by omega)
 rw [hth] at e1
 exact (gen_after hi { thr h i with l:=5 } { thr h i with st:=1,l:=5 } rfl) ▸ e1
set_option maxHeartbeats 2000000 in
theorem yield_raw (t:At qkP w0 F p v u qs h w) (ht:∀ u,Turn F w0 u->Tab u) (hl:h.L.length<=64) (c:Int) (iv:∀ i,runsO h c=some i->Inv (setH h i { thr h i with l:=5 })) :
  Calls Tryz.prog 136 #[ptr p,.int .i64 c] w fun e w'=>e = .returned (.bool (runsB h c))/\At qkP w0 F p v u qs (yieldH h c) w':=by
 have IV:=hid iv
 have HT:=hid ht
 have T0:=hid t
 have HS:=hid hl
 have HR:=hid (runs_any t (by omega) c)
 clear t ht iv hl
 cases hr:runsO h c with
 | none =>
  have hy:yieldH h c=h:=by unfold yieldH;rw [hr]
  obtain ⟨r1,r2⟩:=runsN_none hr
  rw [hy,r2]
  rw [r1,r2] at HR
  clear hr hy r1 r2 IV
  go_enter Tryz.func136,Tryz.ntmps136
  go_wp2_with (go_at_call 34;refine Calls.mono HR.out ?_;rintro e w1 ⟨rfl,b1⟩)
  go_ret
  exact ⟨rfl,T0.out.below b1⟩
 | some i =>
  have hy:yieldH h c=pickH (genH h i { thr h i with st:=1,l:=5 }) c:=by unfold yieldH;rw [hr]
  obtain ⟨x,hx1,hx2,hi,hx3,hx4⟩:=runs_some hr
  obtain ⟨r1,r2⟩:=runsN_some hr
  rw [hy,r2]
  rw [r1,r2] at HR
  have HI:=hid hi
  have IW:=hid (IV.out i hr)
  have HX:=hid (show (thr h i).st=2 by rw [hx2];exact hx3)
  clear hr hy r1 r2 IV hx1 hx2 hx3 hx4 hi x
  go_enter Tryz.func136,Tryz.ntmps136
  go_wp2_with fail
  refine Calls.mono HR.out ?_
  rintro e w1 ⟨rfl,b1⟩
  have t1:=T0.out.below b1
  obtain ⟨ao,cap,rfl,hg⟩:=t1.slice
  obtain ⟨g,rfl⟩:=hg i HI.out
  have c0:=t1.cell0
  obtain ⟨_,_,_,d0⟩:=t1.four HI.out
  have f0:=t1.frozenT (i*12+3)
  have T2:Hid (At qkP w0 F p _ _ qs (setH h i { thr h i with l:=5 }) _):=t1.set HI.out (j:=3) (c:=.int .i64 5) (y:={ thr h i with l:=5 }) (by omega) rfl
  have hiz:(i:Int)<(h.L.length:Int):=by have:=HI.out;omega
  clear t1 b1 HR T0 hg
  generalize (thr h i).l=l0 at d0
  generalize hnL:h.L.length=nL at *
  go_wp2_with fail
  have hi:i<h.L.length:=by have:=HI.out;omega
  have oki:=okay_at IW.out (i:=i) (by rw [len_set];exact hi)
  refine Calls.mono (lineUp_at T2.out (by rw [len_set];exact hi) oki.c (Nat.le_trans (IW.out.small oki.c) (by omega)) (by have:=HI.out;have:=HS.out;omega)) ?_
  rintro e w3 ⟨rfl,t3⟩
  rw [line_five IW.out hi HX.out] at t3
  have T3:=hid t3
  have IG:=hid (inv_five IW.out hi)
  clear t3 oki hi T2 c0 d0 f0
  go_wp2_with fail
  refine Calls.mono (pick_at T3.out HT.out IG.out c) ?_
  rintro e w4 ⟨rfl,t4⟩
  have T4:=hid t4
  clear t4
  go_wp2
  go_ret
  rw [hnL]
  exact ⟨rfl,T4.out⟩
theorem yield_at (t:At qkP w0 F p v u qs h w) (ht:∀ u,Turn F w0 u->Tab u) (iv:Inv h) (c:Int) :
  Calls Tryz.prog 136 #[ptr p,.int .i64 c] w fun e w'=>e = .returned (.bool (runsB h c))/\At qkP w0 F p v u qs (yieldH h c) w':=
 yield_raw t ht iv.few c fun i hr=>by
  obtain ⟨_,_,_,hi,_⟩:=runs_some hr
  exact set_five iv hi
end
end Go.Proofs.YtilnjnblpeeigaaGreatDoor.Th
namespace Go.Proofs.YtilnjnblpeeigaaGreatDoor.Th
open Go.RowKit Go.Deep Go.Shelf
def tT (p:Nat) (F:Nat->Prop) (h:Hs):Th where
 F:=F
 H:=fun w=>ThH qkP p F h w/\Inv h
 lt:=fun w ⟨t,_⟩=>(thT qkP p F h).lt w t
 keep:=fun w w' ⟨t,v⟩ k=>⟨(thT qkP p F h).keep w w' t k,v⟩
section
variable {w0 w:World} {r:Nat} {R:List Th} {p:Nat} {F:Nat->Prop} {h:Hs}
theorem _root_.Go.Proofs.YtilnjnblpeeigaaGreatDoor.Sep.inv (s:Sep w0 r w (tT p F h::R)):Inv h:=s.head.2
theorem _root_.Go.Proofs.YtilnjnblpeeigaaGreatDoor.Sep.goT {w':World} {h':Hs} (s:Sep w0 r w (tT p F h::R)) (g:GoT qkP w p F h' w') (v:Inv h'):∃ F',Sep w0 r w' (tT p F' h'::R):=by
 obtain ⟨F',h1,h2,h3⟩:=g
 exact ⟨F',s.turn (t':=tT p F' h') ⟨h1,v⟩ h2 h3⟩
theorem _root_.Go.Proofs.YtilnjnblpeeigaaGreatDoor.Sep.tabT (s:Sep w0 r w (tT p F h::R)) (ht:∀ u,Below r w0 u->Tab u):∀ u,Turn F w u->Tab u:=fun u k=>ht u (k.below s.low (s.each (tT p F h) (by simp)).2 s.size)
theorem newT_sep (s:Sep w0 r w R) (n:Nat) (h1:1<=n) (h8:n<=8):Calls Tryz.prog 51 #[.int .i64 n] w fun e w'=>∃ p F,e = .returned (.tuple #[ptr p,.int .i64 0])/\Sep w0 r w' (tT p F (newH n)::R):=by
 refine Calls.mono (newT_any n w h1 h8) ?_
 rintro e w' ⟨p,F,rfl,t,b,n⟩
 exact ⟨p,F,rfl,s.new (t:=tT p F _) ⟨t,inv_new h1 h8⟩ b n⟩
theorem make_sep (s:Sep w0 r w (tT p F h::R)) (pr c:Int):Calls Tryz.prog 53 #[ptr p,.int .i64 pr,.int .i64 c] w fun e w'=>e = .returned (.tuple #[.int .i64 (makeN h pr c),.int .i64 (makeE h pr c)])/\∃ F',Sep w0 r w' (tT p F' (makeH h pr c)::R):=by
 obtain ⟨v,u,qs,t⟩:=s.head.1.at
 exact (make_at t s.inv pr c).mono fun _ _ ⟨he,v',t'⟩=>⟨he,s.goT t'.goes (inv_make s.inv pr c)⟩
theorem resume_sep (s:Sep w0 r w (tT p F h::R)) (i:Int):Calls Tryz.prog 54 #[ptr p,.int .i64 i] w fun e w'=>e = .returned (.int .i64 (resumeE h i))/\∃ F',Sep w0 r w' (tT p F' (resumeH h i)::R):=by
 obtain ⟨v,u,qs,t⟩:=s.head.1.at
 exact (resume_at t s.inv i).mono fun _ _ ⟨he,t'⟩=>⟨he,s.goT t'.goes (inv_resume s.inv i)⟩
theorem suspend_sep (s:Sep w0 r w (tT p F h::R)) (i:Int):Calls Tryz.prog 124 #[ptr p,.int .i64 i] w fun e w'=>e = .returned (.int .i64 (suspendE h i))/\∃ F',Sep w0 r w' (tT p F' (suspendH h i)::R):=by
 obtain ⟨v,u,qs,t⟩:=s.head.1.at
 exact (suspend_at t s.inv i).mono fun _ _ ⟨he,t'⟩=>⟨he,s.goT t'.goes (inv_suspend s.inv i)⟩
theorem block_sep (s:Sep w0 r w (tT p F h::R)) (i:Int):Calls Tryz.prog 192 #[ptr p,.int .i64 i] w fun e w'=>e = .returned (.int .i64 (blockE h i))/\∃ F',Sep w0 r w' (tT p F' (blockH h i)::R):=by
 obtain ⟨v,u,qs,t⟩:=s.head.1.at
 exact (block_at t s.inv i).mono fun _ _ ⟨he,t'⟩=>⟨he,s.goT t'.goes (inv_block s.inv i)⟩
theorem reg_sep (s:Sep w0 r w (tT p F h::R)) (i k z:Int) (hz:0<=z/\z<=18446744073709551615):Calls Tryz.prog 204 #[ptr p,.int .i64 i,.int .i64 k,.int .u64 z] w fun e w'=>e = .returned (.int .i64 (regE h i k))/\∃ F',Sep w0 r w' (tT p F' (regH h i k z)::R):=by
 obtain ⟨v,u,qs,t⟩:=s.head.1.at
 exact (reg_at t s.inv i k z).mono fun _ _ ⟨he,t'⟩=>⟨he,s.goT t'.goes (inv_reg s.inv i k z hz)⟩
theorem prio_sep (s:Sep w0 r w (tT p F h::R)) (i k:Int):Calls Tryz.prog 125 #[ptr p,.int .i64 i,.int .i64 k] w fun e w'=>e = .returned (.int .i64 (prioE h i k))/\∃ F',Sep w0 r w' (tT p F' (prioH h i k)::R):=by
 obtain ⟨v,u,qs,t⟩:=s.head.1.at
 exact (prio_at t s.inv i k).mono fun _ _ ⟨he,t'⟩=>⟨he,s.goT t'.goes (inv_prio s.inv i k)⟩
theorem pick_sep (s:Sep w0 r w (tT p F h::R)) (ht:∀ u,Below r w0 u->Tab u) (c:Int):Calls Tryz.prog 29 #[ptr p,.int .i64 c] w fun e w'=>e = .returned (.tuple #[.int .i64 (runsN (pickH h c) c),.bool (runsB (pickH h c) c)])/\∃ F',Sep w0 r w' (tT p F' (pickH h c)::R):=by
 obtain ⟨v,u,qs,t⟩:=s.head.1.at
 exact (pick_at t (s.tabT ht) s.inv c).mono fun _ _ ⟨he,t'⟩=>⟨he,s.goT t'.goes (inv_pick s.inv c)⟩
theorem yield_sep (s:Sep w0 r w (tT p F h::R)) (ht:∀ u,Below r w0 u->Tab u) (c:Int):Calls Tryz.prog 136 #[ptr p,.int .i64 c] w fun e w'=>e = .returned (.bool (runsB h c))/\∃ F',Sep w0 r w' (tT p F' (yieldH h c)::R):=by
 obtain ⟨v,u,qs,t⟩:=s.head.1.at
 exact (yield_at t (s.tabT ht) s.inv c).mono fun _ _ ⟨he,t'⟩=>⟨he,s.goT t'.goes (inv_yield s.inv c)⟩
end
end Go.Proofs.YtilnjnblpeeigaaGreatDoor.Th
