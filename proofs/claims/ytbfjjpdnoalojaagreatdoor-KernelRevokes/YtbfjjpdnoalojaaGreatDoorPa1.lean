/- Below: GRow KpSl; no condition. -/
import Derived.Test.YtbfjjpdnoalojaaGreatDoorRows
import Derived.WalkKit
import Derived.WalkLawsBesides
import Derived.Deep.QuietTactic
import Derived.BigQuiet
import Derived.Laws.StructEq
import Derived.Below
import Derived.Deep.OwnRows
import Derived.Deep.RegionWith
import Derived.Deep.RegionHeld3
import Derived.Maps.AppendAt
import Derived.Laws.CopyOwn
import Derived.Lib.SliceRun
import Derived.Laws.AppendOwnNone
import Derived.Shelf.RegionOpenPlain
import Derived.Deep.RegionLaw
import Derived.Shelf.Abstract
import Derived.Lib.Walk
import Derived.Laws.BitsAllLaws
set_option linter.unusedSectionVars false
namespace Go.Proofs.YtbfjjpdnoalojaaGreatDoor
theorem Jmc.{u} {α:Type u} {a b:α} {l:List α} (h:a ∈ l):a ∈ b::l:=List.mem_cons_of_mem _ h
theorem Jms.{u} {α:Type u} {a:α} {l:List α}:a ∈ a::l:=List.mem_cons_self
theorem Jhm (fn:Fn) (first cap:Array Value) (w:World):(Instr.makeFunc fn first cap).run Tryz.prog w=.ok (.func fn first cap) w:=rfl
abbrev Jqa:=@Calls.mono
abbrev Jqb:=@List.getElem?_eq_some_iff
abbrev Jqc:=@List.getElem?_eq_getElem
abbrev Jqd:=@Nat.le_refl
abbrev Jqe:=@List.getD_eq_getElem?_getD
abbrev Jqf:=@Array.getElem?_eq_some_iff
abbrev Jqg:=@Int.eq_ofNat_of_zero_le
abbrev Jqh:=@List.length_append
abbrev Jqi:=@List.mem_of_getElem?
abbrev Jqj:=@List.append_assoc
abbrev Jqk:=@Int.toNat_natCast
abbrev Jql:=@Nat.le_trans
abbrev Jqm:=@List.length_take
abbrev Jqn:=@List.Perm.swap
abbrev Jqo:=@Bool.false_eq_true
abbrev Jqp:=@Nat.zero_le
abbrev Jqq:=@List.pairwise_cons
abbrev Jqr:=@List.length_set
abbrev Jqs:=@List.length_map
abbrev Jqt:=@Option.map_eq_some_iff
abbrev Jqu:=@Nat.zero_add
abbrev Jqv:=@List.length_cons
abbrev Jqw:=@IntKind.wrap_i64
abbrev Jqx:=@List.take_append_drop
abbrev Jqy:=@List.getElem?_eq_none
abbrev Jqz:=@Option.some.inj
abbrev Jra:=@List.map_append
abbrev Jrb:=@Nat.lt_of_lt_of_le
abbrev Jrc:=@List.mem_append
abbrev Jrd:=@List.length_drop
abbrev Jre:=@List.Perm.cons
section
open Go.RowKit Go.Deep Go.Shelf
def VC (x:Int):Prop:=-9223372036854775808<=x/\x<=9223372036854775807
theorem Ja {p:Prop} (h:p):Hid p:=h
theorem Jm {k:IntKind} {a b:Int} (h:a=b):Ending.returned (.int k a)=.returned (.int k b):=by rw[h]
abbrev Je (q:Nat):Value:=.pointer (some ⟨q,0,none⟩)
structure Turn (F:Nat->Prop) (w w':World):Prop where
 os:w'.os=w.os
 tape:w'.tape=w.tape
 output:w'.output=w.output
 size:w.heap.size<=w'.heap.size
 block:∀ k,k<w.heap.size->¬ F k->w'.heap[k]? = w.heap[k]?
theorem Turn.refl (F:Nat->Prop) (w:World):Turn F w w:=⟨rfl,rfl,rfl,Nat.le_refl _,fun _ _ _=>rfl⟩
theorem Turn.trans {F G:Nat->Prop} {a b c:World} (h:Turn F a b) (k:Turn G b c) (s:∀ x,G x->F x\/a.heap.size<=x):Turn F a c:=
 ⟨k.os.trans h.os,k.tape.trans h.tape,k.output.trans h.output,Nat.le_trans h.size k.size,fun i hi hF =>
  (k.block i (Nat.lt_of_lt_of_le hi h.size) fun hG=>(s i hG).elim hF fun h1=>absurd hi (by omega)).trans (h.block i hi hF)⟩
theorem Turn.of {w w':World} (h:Below w.heap.size w w') (F:Nat->Prop):Turn F w w':=⟨h.os,h.tape,h.output,h.size,fun k hk _=>h.block k hk⟩
theorem Turn.grown {w w':World} {F:Nat->Prop} {r:Option Nat} (h:w.grownBy w' r) (hF:∀ k,r=some k->F k\/w.heap.size<=k):Turn F w w':=
 ⟨h.os,h.tape,h.output,h.size,fun k hk hn=>h.block k hk fun e=>(hF k e.symm).elim hn fun h1=>absurd hk (by omega)⟩
theorem Turn.setCell (F:Nat->Prop) (w:World) (a:Addr) (v:Value) (h:F a.block):Turn F w (w.setCell a v):=
 ⟨rfl,rfl,rfl,by rw[nblk_setCell];exact Nat.le_refl _,fun k _ hk=>blk_setCell_other _ _ _ _ fun e=>hk (e ▸ h)⟩
theorem Turn.setRow (F:Nat->Prop) (w:World) (g:Nat) (c:Array Value) (h:F g):Turn F w (w.setRow g c):=
 ⟨rfl,rfl,rfl,by rw[setRow_size];exact Nat.le_refl _,fun k _ hk=>setRow_other _ _ _ _ fun e=>hk (e ▸ h)⟩
theorem Turn.drew {F:Nat->Prop} {w w':World} (h:Turn F w w'):Turn F w w'.drew:=⟨h.os,h.tape,h.output,h.size,h.block⟩
theorem Turn.below {B:Nat} {F:Nat->Prop} {w0 w w':World} (h:Turn F w w') (hb:Below B w0 w) (hF:∀ x,F x->B<=x) (hB:B<=w.heap.size):Below B w0 w':=
 ⟨h.os.trans hb.os,h.tape.trans hb.tape,h.output.trans hb.output,Nat.le_trans hb.size h.size,fun k hk=>(h.block k (by omega) fun hf=>by have:=hF k hf;omega).trans (hb.block k hk)⟩
def Out (F F':Nat->Prop) (w:World):Prop:=∀ x,F' x->F x\/w.heap.size<=x
theorem Out.refl (F:Nat->Prop) (w:World):Out F F w:=fun _ h=>.inl h
theorem Jb (w:World) (o:Obj):Below w.heap.size w (w.alloc o):=(Below.refl _ _).alloc (Nat.le_refl _) _
theorem Below.then {B:Nat} {a b c:World} (h:Below B a b) (k:Below b.heap.size b c) (hB:B<=b.heap.size):Below B a c:=h.trans (k.mono hB)
theorem JH {B:Nat} {a w:World} (h:Below B a w) (n:Nat):Below B a (w.drewN n):=⟨h.os,h.tape,h.output,h.size,h.block⟩
theorem Jw {w w':World} {B:Nat} {e:TypeId} {k:Nat} {v:Value} {n:Nat} {xs:List Value} (h:w.ownsRow B e k v n xs) (q:∀ g,v.ownBlock=some g->w'.heap[g]? = w.heap[g]?):w'.ownsRow B e k v n xs:=by
 refine⟨h.1,?_⟩
 rcases h.2 with hn|⟨g,cap,cur,rfl,hb,hg,r⟩
 ·exact .inl hn
 ·exact .inr ⟨g,cap,cur,rfl,hb,(q g rfl).trans hg,r⟩
theorem GE {w:World} {B:Nat} {e:TypeId} {k:Nat} {v:Value} {n:Nat} {xs:List Value} (h:w.ownsRow B e k v n xs):w.ownsRow 0 e k v n xs:=by
 refine⟨h.1,?_⟩
 rcases h.2 with hn|⟨g,cap,cur,rfl,_,r⟩
 ·exact .inl hn
 ·exact .inr ⟨g,cap,cur,rfl,Nat.zero_le _,r⟩
theorem JG (b o j:Nat):(⟨b,o,none⟩:Addr).add j=⟨b,o+j,none⟩:=by unfold Addr.add;split<;>simp_all
theorem Jx {w:World} {a:Addr} {v:Value} (h:w.cell? a=some v) (o:Obj):(w.alloc o).cell? a=some v:=Lib.cell?_alloc_some _ h
structure Th where
 F:Nat->Prop
 H:World->Prop
 lt:∀ w,H w->∀ x,F x->x<w.heap.size
 keep:∀ w w',H w->(∀ x,F x->w'.heap[x]? = w.heap[x]?)->H w'
theorem Th.turn (t:Th) {G:Nat->Prop} {w w':World} (h:t.H w) (u:Turn G w w') (a:∀ x,t.F x->¬ G x):t.H w':=t.keep w w' h fun x hx=>u.block x (t.lt w h x hx) (a x hx)
theorem Th.below (t:Th) {w w':World} (h:t.H w) (u:Below w.heap.size w w'):t.H w':=t.keep w w' h fun x hx=>u.block x (t.lt w h x hx)
structure Sep (w0:World) (r:Nat) (w:World) (R:List Th):Prop where
 low:Below r w0 w
 size:r<=w.heap.size
 each:∀ t∈R,t.H w/\∀ x,t.F x->r<=x
 apart:R.Pairwise (fun a b=>∀ x,a.F x->¬ b.F x)
section
variable {w0:World} {r:Nat} {w w':World} {t t' u:Th} {R R':List Th}
theorem Sep.turn (h:Sep w0 r w (t::R)) (ht:t'.H w') (k:Turn t.F w w') (o:Out t.F t'.F w):Sep w0 r w' (t'::R):=by
 obtain⟨hl,hs,he,ha⟩:=h
 obtain⟨a1,a2⟩:=List.pairwise_cons.1 ha
 have h0:=he t (by simp)
 refine⟨k.below hl h0.2 hs,Nat.le_trans hs k.size,fun x hx=>?_,List.pairwise_cons.2 ⟨fun b hb x hx hb'=>?_,a2⟩⟩
 ·rcases List.mem_cons.1 hx with rfl|hx
  ·exact⟨ht,fun y hy=>(o y hy).elim (h0.2 y) fun h1=>Nat.le_trans hs h1⟩
  ·have h1:=he x (Jmc hx)
   exact⟨x.turn h1.1 k fun y hy hy'=>a1 x hx y hy' hy,h1.2⟩
 ·rcases o x hx with h1|h1
  ·exact a1 b hb x h1 hb'
  ·have:=b.lt w (he b (Jmc hb)).1 x hb'
   omega
theorem Sep.below (h:Sep w0 r w R) (k:Below w.heap.size w w'):Sep w0 r w' R:=
 ⟨Below.then h.low k h.size,Nat.le_trans h.size k.size,fun x hx=>⟨x.below (h.each x hx).1 k,(h.each x hx).2⟩,h.apart⟩
theorem Sep.new (h:Sep w0 r w R) (ht:t.H w') (k:Below w.heap.size w w') (o:∀ x,t.F x->w.heap.size<=x):Sep w0 r w' (t::R):=by
 have h1:=h.below k
 refine⟨h1.low,h1.size,fun x hx=>?_,List.pairwise_cons.2 ⟨fun b hb x hx hb'=>?_,h.apart⟩⟩
 ·rcases List.mem_cons.1 hx with rfl|hx
  ·exact⟨ht,fun y hy=>Nat.le_trans h.size (o y hy)⟩
  ·exact h1.each x hx
 ·have:=b.lt w (h.each b hb).1 x hb'
  have:=o x hx
  omega
theorem Sep.perm (h:Sep w0 r w R) (p:R.Perm R'):Sep w0 r w R':=
 ⟨h.low,h.size,fun x hx=>h.each x (p.mem_iff.2 hx),(p.pairwise_iff fun k x h1 h2=>k x h2 h1).1 h.apart⟩
theorem Sep.swap (h:Sep w0 r w (t::u::R)):Sep w0 r w (u::t::R):=h.perm (List.Perm.swap _ _ _)
theorem Sep.third {s:Th} (h:Sep w0 r w (s::t::u::R)):Sep w0 r w (t::u::s::R):=h.swap.perm (.cons _ (.swap _ _ _))
theorem Sep.drop (h:Sep w0 r w (t::R)):Sep w0 r w R:=⟨h.low,h.size,fun x hx=>h.each x (Jmc hx),(List.pairwise_cons.1 h.apart).2⟩
theorem Sep.drop2 (h:Sep w0 r w (t::u::R)):Sep w0 r w (t::R):=h.swap.drop
theorem Sep.head (h:Sep w0 r w (t::R)):t.H w:=(h.each t (by simp)).1
theorem Sep.told (h:Sep w0 r w (t::R)) (hu:u.H w') (k:Below w.heap.size w w') (o:∀ x,u.F x->w.heap.size<=x):Sep w0 r w' (t::u::R):=(h.new hu k o).swap
theorem Sep.drew (h:Sep w0 r w R):Sep w0 r w.drew R:=h.below ((Below.refl _ _).drew)
end
theorem GL (w:World):Sep w w.heap.size w []:=⟨Below.refl _ _,Nat.le_refl _,fun x hx=>by simp at hx,List.Pairwise.nil⟩
def blk (q:Nat) (o:Obj):Th where
 F:=fun x=>x=q
 H:=fun w=>w.heap[q]? = some o
 lt:=fun w h x hx=>by subst hx;exact(Array.getElem?_eq_some_iff.1 h).1
 keep:=fun w w' h k=>(k q rfl).trans h
theorem Sep.box {w0:World} {r:Nat} {w:World} {R:List Th} (h:Sep w0 r w R) (o:Obj):Sep w0 r (w.alloc o) (blk w.heap.size o::R):=
 h.new (blk_alloc_new w o) (Jb w o) fun x hx=>by rw[hx];exact Nat.le_refl _
section
variable {α:Type} {k:Nat} (enc:α->List Value)
def Jc (S:List α):List Value:=S.flatMap enc
variable {enc}
theorem Jj (hk:∀ x,(enc x).length=k):∀ S:List α,(Jc enc S).length=S.length*k
 | []=>by simp[Jc]
 | x::S=>by
  have:=Jj hk S
  unfold Jc at *
  rw[List.flatMap_cons,List.length_append,hk,this,List.length_cons,Nat.add_mul,Nat.one_mul,Nat.add_comm]
theorem Jt (S T:List α):Jc enc (S++T)=Jc enc S++Jc enc T:=by simp[Jc]
theorem JE (x:α) (T:List α):Jc enc (x::T)=enc x++Jc enc T:=by simp[Jc]
theorem AI (hk:∀ x,(enc x).length=k) (S:List α) (n:Nat):Jc enc (S.take n)=(Jc enc S).take (n*k):=by
 by_cases h:n<=S.length
 ·have e:Jc enc S=Jc enc (S.take n)++Jc enc (S.drop n):=by rw[<- Jt,List.take_append_drop]
  have hl:=Jj hk (S.take n)
  rw[List.length_take,Nat.min_eq_left h] at hl
  rw[e,<- hl,List.take_left]
 ·have hl:=Jj hk S
  rw[List.take_of_length_le (by omega),List.take_of_length_le]
  rw[hl]
  exact Nat.mul_le_mul_right _ (by omega)
theorem AH (hk:∀ x,(enc x).length=k) (S:List α) (n:Nat):Jc enc (S.drop n)=(Jc enc S).drop (n*k):=by
 by_cases h:n<=S.length
 ·have e:Jc enc S=Jc enc (S.take n)++Jc enc (S.drop n):=by rw[<- Jt,List.take_append_drop]
  have hl:=Jj hk (S.take n)
  rw[List.length_take,Nat.min_eq_left h] at hl
  rw[e,<- hl,List.drop_left]
 ·have hl:=Jj hk S
  rw[List.drop_of_length_le (by omega),List.drop_of_length_le]
  ·rfl
  ·rw[hl]
   exact Nat.mul_le_mul_right _ (by omega)
theorem Mm (hk:∀ x,(enc x).length=k) {S:List α} {i:Nat} {x:α} (h:S[i]? = some x) {j:Nat} (hj:j<k):(Jc enc S)[i*k+j]? = (enc x)[j]?:=by
 have e:=AH hk S i
 have hi:=(List.getElem?_eq_some_iff.1 h).1
 have hx:S.drop i=x::S.drop (i+1):=by
  rw[List.drop_eq_getElem_cons hi]
  congr 1
  exact(List.getElem?_eq_some_iff.1 h).2
 rw[hx,JE] at e
 have:=congrArg (fun l=>l[j]?) e
 simp only[List.getElem?_drop] at this
 rw[<- this,List.getElem?_append_left (by rw[hk];exact hj)]
theorem VL (h1:∀ x,∀ v∈enc x,v.oneCell'=true) (S:List α):∀ v∈Jc enc S,v.oneCell'=true:=by
 intro v hv
 obtain⟨x,_,hx⟩:=List.mem_flatMap.1 hv
 exact h1 x v hx
theorem Jgj (hk:∀ x,(enc x).length=k) {S:List α} {i:Nat} (hi:i<S.length) (x:α):Jc enc (S.set i x)=(Jc enc S).take (i*k)++enc x++(Jc enc S).drop ((i+1)*k):=by
 rw[List.set_eq_take_append_cons_drop,if_pos hi,Jt,JE,AI hk,AH hk,List.append_assoc]
end
theorem AJ {α:Type} {enc:α->List Value} {k:Nat} (hk:∀ x,(enc x).length=k):∀ (L:List α) (i j:Nat) (x y:α) (v:Value),L[i]? = some x->j<k->enc y=(enc x).set j v->(Jc enc L).set (i*k+j) v=Jc enc (L.set i y)
 | [],i,j,x,y,v,h,_,_=>by simp at h
 | z::L,0,j,x,y,v,h,hj,e=>by
  obtain rfl:z=x:=by simpa using h
  rw[Nat.zero_mul,Nat.zero_add,JE,List.set_append_left _ _ (by rw[hk];exact hj),List.set_cons_zero,JE,e]
 | z::L,i+1,j,x,y,v,h,hj,e=>by
  have h':L[i]? = some x:=by simpa using h
  have:=AJ hk L i j x y v h' hj e
  rw[JE,List.set_append_right _ _ (by rw[hk,Nat.add_mul];omega),List.set_cons_succ,JE,hk,<- this]
  congr 2
  rw[Nat.add_mul]
  omega
theorem Jfl {w:World} {e:TypeId} {k g n cap:Nat} {xs:List Value} (h:w.ownsRow 0 e k (.slice (some ⟨g,0,none⟩) n cap) n xs) {m:Nat} (v:Value):(w.setCell ⟨g,m,none⟩ v).ownsRow 0 e k (.slice (some ⟨g,0,none⟩) n cap) n (xs.set m v):=by
 obtain⟨h0,⟨e1,_⟩|⟨g',cap',cur,e1,_,hg,h1,h2,h3,h4⟩⟩:=h
 ·cases e1
 ·cases e1
  refine⟨by rw[List.length_set];exact h0,.inr ⟨g,cap,cur.set! m v,rfl,Nat.zero_le _,?_,h1,h2,by simpa using h3,?_⟩⟩
  ·simp only[World.setCell,Array.getElem?_modify,hg,Option.map_some]
   simp
  ·rw[<- h4]
   simp[List.take_set]
theorem Jd4 {w:World} {e:TypeId} {k g n cap:Nat} {xs:List Value} (h:w.ownsRow 0 e k (.slice (some ⟨g,0,none⟩) n cap) n xs) (j:Nat):w.frozen? ⟨g,j,none⟩=false:=by
 rcases h.2 with ⟨e1,_⟩|⟨g',cap',cur,e1,_,hg,_⟩
 ·cases e1
 ·cases e1
  simp[World.frozen?,hg]
theorem XC {w:World} {e:TypeId} {k n:Nat} {v:Value} {xs:List Value} (h:w.ownsRow 0 e k v n xs):∃ ao cap,v=.slice ao n cap/\∀ i,i<n->∃ g,ao=some ⟨g,0,none⟩:=by
 rcases h.2 with ⟨rfl,h0⟩|⟨g,cap,cur,rfl,_⟩
 ·exact⟨none,0,by rw[h0],fun i hi=>by omega⟩
 ·exact⟨some ⟨g,0,none⟩,cap,rfl,fun _ _=>⟨g,rfl⟩⟩
structure El (α:Type) where
 e:TypeId
 sl:TypeId
 k:Nat
 by':Nat
 enc:α->List Value
structure El.Ok {α:Type} (E:El α):Prop where
 hu:Tryz.prog.underlying E.sl=some (.slice E.e)
 info:∃ i z,Tryz.prog.info? E.e=some i/\i.zero=some z/\i.size=E.k/\i.bytes=E.by'/\z.cells.size=E.k
 pos:0<E.k
 small:E.by'<=1000
 len:∀ x,(E.enc x).length=E.k
 one:∀ x,∀ v∈E.enc x,v.oneCell'=true
theorem ZA {t:TypeId} {z:Value} {k b:Nat} (h:(Tryz.prog.info? t).map (fun i=>(i.zero,i.size,i.bytes))=some (some z,k,b)) (hz:z.cells.size=k):∃ i z,Tryz.prog.info? t=some i/\i.zero=some z/\i.size=k/\i.bytes=b/\z.cells.size=k:=by
 obtain⟨i,hi,e⟩:=Option.map_eq_some_iff.1 h
 simp only[Prod.mk.injEq] at e
 exact⟨i,z,hi,e.1,e.2.1,e.2.2,hz⟩
section
variable {α:Type} {E:El α} {w w':World} {v:Value} {L:List α}
def Row (E:El α) (w:World) (v:Value) (L:List α):Prop:=w.ownsRow 0 E.e E.k v L.length (Jc E.enc L)
theorem Row.slice (h:Row E w v L):∃ ao cap,v=.slice ao L.length cap/\L.length<=cap/\cap<=9223372036854775807/\(∀ i,i<L.length->∃ g,ao=some ⟨g,0,none⟩)/\(ao=none->L=[]):=by
 rcases h.2 with ⟨rfl,h0⟩|⟨g,cap,cur,rfl,_,_,h1,h2,_⟩
 ·exact⟨none,0,by rw[h0],by omega,by omega,fun i hi=>by omega,fun _=>List.length_eq_zero_iff.1 h0⟩
 ·exact⟨some ⟨g,0,none⟩,cap,rfl,h1,by unfold maxLen at h2;omega,fun _ _=>⟨g,rfl⟩,fun e=>by cases e⟩
theorem Row.cell (ok:El.Ok E) {g cap n:Nat} (h:Row E w (.slice (some ⟨g,0,none⟩) n cap) L) {i:Nat} {x:α} (hi:L[i]? = some x) {j:Nat} {c:Value} (hj:(E.enc x)[j]? = some c):w.cell? ⟨g,i*E.k+j,none⟩=some c:=by
 have hjk:j<E.k:=by rw[<- ok.len x];exact(List.getElem?_eq_some_iff.1 hj).1
 have e1:=World.ownsRow.cells h (g:=g) rfl (i*E.k+j) c (by rw[Mm ok.len hi hjk];exact hj)
 rw[JG,Nat.zero_add] at e1
 exact e1
theorem Row.frozen {g cap n:Nat} (h:Row E w (.slice (some ⟨g,0,none⟩) n cap) L) (j:Nat):w.frozen? ⟨g,j,none⟩=false:=by
 rcases h.2 with ⟨e,_⟩|⟨g',cap',cur,e,_,hg,_⟩
 ·cases e
 ·cases e
  simp[World.frozen?,hg]
theorem Row.lt (h:Row E w v L) {x:Nat} (hx:v.ownBlock=some x):x<w.heap.size:=(World.ownsRow.lt h x hx).2
theorem Row.keep (h:Row E w v L) (k:∀ x,v.ownBlock=some x->w'.heap[x]? = w.heap[x]?):Row E w' v L:=Jw h k
theorem Row.below (h:Row E w v L) (k:Below w.heap.size w w'):Row E w' v L:=h.keep fun x hx=>k.block x (h.lt hx)
theorem Jpl (w:World):Row E w (.slice none 0 0) ([]:List α):=⟨by simp[Jc],.inl ⟨rfl,rfl⟩⟩
theorem Row.set (ok:El.Ok E) {g cap n:Nat} (h:Row E w (.slice (some ⟨g,0,none⟩) n cap) L) {i j:Nat} {x y:α} {c:Value} (hi:L[i]? = some x) (hj:j<E.k) (e:E.enc y=(E.enc x).set j c):Row E (w.setCell ⟨g,i*E.k+j,none⟩ c) (.slice (some ⟨g,0,none⟩) n cap) (L.set i y):=by
 obtain⟨ao,cap',ev,_⟩:=XC h
 cases ev
 unfold Row at *
 rw[List.length_set,<- AJ ok.len L i j x y c hi hj e]
 exact Jfl h c
theorem XU (ok:El.Ok E) (ty:TypeId) (x:α) (q:Nat) (hown:Row E w v L) (hq:∀ j c,(E.enc x)[j]? = some c->w.cell? ⟨q,j,none⟩=some c) (hl:L.length<=1000000) :
  ∃ v' w',(Builtin.append_ #[E.sl,E.sl] ty #[v,.slice (some ⟨q,0,none⟩) 1 1]).run Tryz.prog w=.ok v' w'/\Row E w' v' (L++[x])/\w.grownBy w' v.ownBlock/\(v'.ownBlock=v.ownBlock\/v'.ownBlock=some w.heap.size):=by
 obtain⟨i,z,hi,z1,z2,z3,z4⟩:=ok.info
 have hs:=ok.small
 obtain⟨v',w',r1,r2,r3,_,r5⟩:=run_append_own_at (P:=Tryz.prog) (w:=w) 0 E.sl ty E.e i z E.k E.by' ok.hu hi z1 z2 z3 z4 ok.pos v L.length (Jc E.enc L) hown ⟨q,0,none⟩ 1 1 (E.enc x) (by rw[ok.len,Nat.one_mul])
  (fun j u hj=>by rw[JG,Nat.zero_add];exact hq j u hj) (ok.one x) (by unfold maxLen;omega) (Nat.le_trans (Nat.mul_le_mul (show L.length+1<=1000001 by omega) hs) (by decide)) (Nat.zero_le _)
 refine⟨v',w',r1,?_,r3,r5⟩
 unfold Row
 rw[List.length_append,Jt,JE]
 simpa [Jc] using r2
theorem Jcr (ok:El.Ok E) (ty:TypeId) (u:Value) (A:List α) (hown:Row E w v L) (hu:Row E w u A) (hl:L.length+A.length<=1000000) :
  ∃ v' w',(Builtin.append_ #[E.sl,E.sl] ty #[v,u]).run Tryz.prog w=.ok v' w'/\Row E w' v' (L++A)/\w.grownBy w' v.ownBlock/\(v'.ownBlock=v.ownBlock\/v'.ownBlock=some w.heap.size)/\(v'=.slice none 0 0->A=[]):=by
 obtain⟨i,z,hi,z1,z2,z3,z4⟩:=ok.info
 have hs:=ok.small
 rcases hu.2 with ⟨rfl,h0⟩|⟨g,cap,cur,rfl,_⟩
 ·obtain rfl:A=[]:=List.length_eq_zero_iff.1 h0
  exact⟨v,w,run_append_owned_none (P:=Tryz.prog) (w:=w) 0 E.sl ty E.e i E.k ok.hu hi v _ _ hown,by rw[List.append_nil];exact hown,⟨rfl,rfl,rfl,Nat.le_refl _,fun _ _ _=>rfl⟩,.inl rfl,fun _=>rfl⟩
 ·obtain⟨v',w',r1,r2,r3,r4,r5⟩:=run_append_own_at (P:=Tryz.prog) (w:=w) 0 E.sl ty E.e i z E.k E.by' ok.hu hi z1 z2 z3 z4 ok.pos v L.length (Jc E.enc L) hown ⟨g,0,none⟩ A.length cap (Jc E.enc A) (Jj ok.len A)
   (fun j u hj=>World.ownsRow.cells hu (g:=g) rfl j u hj) (VL ok.one _) (by unfold maxLen;omega) (Nat.le_trans (Nat.mul_le_mul hl hs) (by decide)) (Nat.zero_le _)
  refine⟨v',w',r1,?_,r3,r5,fun e=>List.length_eq_zero_iff.1 (r4.1 e).2⟩
  unfold Row
  rw[List.length_append,Jt]
  exact r2
end
def Jv {α:Type} (E:El α) (v:Value) (L:List α):Th where
 F:=fun x=>v.ownBlock=some x
 H:=fun w=>Row E w v L
 lt:=fun _ h _ hx=>h.lt hx
 keep:=fun _ _ h k=>h.keep k
section
variable {α:Type} {E:El α} {w0 w w':World} {r:Nat} {R:List Th}
theorem Sep.nil (h:Sep w0 r w R):Sep w0 r w (Jv E (.slice none 0 0) []::R):=
 h.new (t:=Jv E (.slice none 0 0) []) (Jpl w) (Below.refl _ _) fun x hx=>by cases hx
theorem Sep.more (ok:El.Ok E) {u:Value} {A:List α} (h:Sep w0 r w (Jv E u A::R)) (ty:TypeId) (x:α) {C:Array Value} (hC:C.toList=E.enc x) (hl:A.length<=1000000) :
  ∃ v' w',(Builtin.append_ #[E.sl,E.sl] ty #[u,.slice (some ⟨w.heap.size,0,none⟩) 1 1]).run Tryz.prog (w.alloc (.cells C E.e))=.ok v' w'/\Sep w0 r w' (Jv E v' (A++[x])::R):=by
 have h1:=h.below (Jb w (.cells C E.e))
 obtain⟨v',w',r1,r2,r3,r4⟩:=XU ok ty x w.heap.size h1.head (fun j c hj=>by
  have:=blk_alloc_new w (.cells C E.e)
  simp only[World.cell?]
  rw[this]
  rw[<- hC] at hj
  simpa using hj) hl
 refine⟨v',w',r1,h1.turn (t:=Jv E u A) (t':=Jv E v' (A++[x])) r2 (Turn.grown r3 fun k hk=>.inl hk) fun x hx=>?_⟩
 rcases r4 with e|e
 ·exact .inl (e.symm.trans hx)
 ·have:some (w.alloc (.cells C E.e)).heap.size=some x:=e.symm.trans hx
  cases this
  exact .inr (Nat.le_refl _)
theorem Sep.onto (ok:El.Ok E) {u v:Value} {A B:List α} (h:Sep w0 r w (Jv E u A::R)) (hm:Row E w v B) (ty:TypeId) (hl:A.length+B.length<=1000000) :
  ∃ v' w',(Builtin.append_ #[E.sl,E.sl] ty #[u,v]).run Tryz.prog w=.ok v' w'/\Sep w0 r w' (Jv E v' (A++B)::R):=by
 obtain⟨v',w',r1,r2,r3,r4,_⟩:=Jcr ok ty v B h.head hm hl
 refine⟨v',w',r1,h.turn (t:=Jv E u A) (t':=Jv E v' (A++B)) r2 (Turn.grown r3 fun k hk=>.inl hk) fun x hx=>?_⟩
 rcases r4 with e|e
 ·exact .inl (e.symm.trans hx)
 ·have:some w.heap.size=some x:=e.symm.trans hx
  cases this
  exact .inr (Nat.le_refl _)
theorem Sep.lit (ok:El.Ok E) (h:Sep w0 r w R) (xs:List α) (hl:xs.length<=1000) (C:Array Value) (hC:C.toList=Jc E.enc xs):Sep w0 r (w.alloc (.cells C E.e)) (Jv E (.slice (some ⟨w.heap.size,0,none⟩) xs.length xs.length) xs::R):=by
 refine h.new (t:=Jv E (.slice (some ⟨w.heap.size,0,none⟩) xs.length xs.length) xs) ?_ (Jb _ _) fun x hx=>by
  have:some w.heap.size=some x:=hx
  cases this
  exact Nat.le_refl _
 have hl2:=Jj ok.len xs
 refine⟨hl2,.inr ⟨w.heap.size,xs.length,C,rfl,Nat.zero_le _,blk_alloc_new _ _,Nat.le_refl _,by unfold maxLen;omega,?_,?_⟩⟩
 ·rw[<- Array.length_toList,hC,hl2]
 ·rw[hC,<- hl2,List.take_length]
theorem Sep.listAt (ok:El.Ok E) {ao:Option Addr} {n cap:Nat} {A:List α} (h:Sep w0 r w R) (hm:Jv E (.slice ao n cap) A∈R) {k:Nat} {x:α} (hk:A[k]? = some x):∃ g,ao=some ⟨g,0,none⟩/\∀ j c,(E.enc x)[j]? = some c->w.cell? ⟨g,k*E.k+j,none⟩=some c:=by
 have row:Row E w (.slice ao n cap) A:=(h.each _ hm).1
 obtain⟨ao',cap',e,_,_,hg,_⟩:=row.slice
 cases e
 obtain⟨g,rfl⟩:=hg k (List.getElem?_eq_some_iff.1 hk).1
 exact⟨g,rfl,fun j c hj=>row.cell ok hk hj⟩
theorem Sep.listIs {v:Value} {A:List α} (h:Sep w0 r w R) (hm:Jv E v A∈R):∃ ao cap,v=.slice ao A.length cap:=by
 obtain⟨ao,cap,e,_⟩:=Row.slice (h.each _ hm).1
 exact⟨ao,cap,e⟩
theorem Sep.join {Q:List Th} (h:Sep w0 r w R) (k:Sep w w.heap.size w' Q):Sep w0 r w' (Q++R):=by
 have h1:=h.below k.low
 refine⟨h1.low,h1.size,fun t ht=>?_,List.pairwise_append.2 ⟨k.apart,h.apart,fun a ha b hb x hx hy=>?_⟩⟩
 ·rcases List.mem_append.1 ht with ht|ht
  ·exact⟨(k.each t ht).1,fun x hx=>Nat.le_trans h.size ((k.each t ht).2 x hx)⟩
  ·exact h1.each t ht
 ·have:=(k.each a ha).2 x hx
  have:=b.lt w (h.each b hb).1 x hy
  omega
theorem Turn.mono {F G:Nat->Prop} {w w':World} (h:Turn F w w') (k:∀ x,F x->G x):Turn G w w':=⟨h.os,h.tape,h.output,h.size,fun i hi hn=>h.block i hi fun hf=>hn (k i hf)⟩
theorem setBlock {w:World} {p j:Nat} {C:Array Value} {ty:TypeId} (h:w.heap[p]? = some (.cells C ty (0,0))) (c:Value):(w.setCell ⟨p,j,none⟩ c).heap[p]? = some (.cells (C.set! j c) ty (0,0)):=by
 simp only[World.setCell,Array.getElem?_modify,h,Option.map_some]
 simp
theorem Sep.fourth {a b c d:Th} (h:Sep w0 r w (a::b::c::d::R)):Sep w0 r w (d::a::b::c::R):=
 h.perm (((List.Perm.cons a (List.Perm.cons b (List.Perm.swap d c R))).trans (List.Perm.cons a (List.Perm.swap d b (c::R)))).trans (List.Perm.swap d a (b::c::R)))
end
theorem Jd {w:World} {ops:Array Oper} {rest:List Oper} {o:Oper} {a:Act} {Q:Exit->Act->World->Prop} (hgd:o.guard=none) (s x:Operand) (t t':TypeId)
  (ho:o.op=.call { callee:=.builtin .append,args:=#[s,x],argTypes:=#[t,t'] }) (v y v':Value) (w':World) (hs:a.eval s=v) (hx:a.eval x=y)
  (hrun:(Builtin.append_ #[t,t'] o.type #[v,y]).run Tryz.prog w=.ok v' w') (h:wpList Tryz.prog ops Q rest (a.put o.dst v') w'):wpList Tryz.prog ops Q (o::rest) a w:=
 wpList_plain hgd fun _ hK=>by
  unfold Oper.wp execOp
  simp only[ho,resolve,invoke,builtin,Sem.run_bind,Sem.run_pure,Result.andThen_ok,List.map_toArray,List.map_cons,List.map_nil,hs,hx,hrun]
  exact hK _ _ h
theorem Jy {w:World} {ops:Array Oper} {o:Oper} {a:Act} {K:Act->World->Prop} {Q:Exit->Act->World->Prop} {E:Prop} (hgd:o.guard=none) (s x:Operand) (t t':TypeId)
  (ho:o.op=.call { callee:=.builtin .append,args:=#[s,x],argTypes:=#[t,t'] }) (v y v':Value) (w':World) (hs:a.eval s=v) (hx:a.eval x=y)
  (hrun:(Builtin.append_ #[t,t'] o.type #[v,y]).run Tryz.prog w=.ok v' w') (h:K (a.put o.dst v') w'):if Region.wanted o (yielded ops a.tmps)=true then Oper.wp Tryz.prog o a w K Q else E:=by
 have hw:Region.wanted o (yielded ops a.tmps)=true:=by simp[Region.wanted,hgd]
 rw[if_pos hw]
 unfold Oper.wp
 simp[execOp,ho,resolve,invoke,builtin,hs,hx,hrun,Result.andThen]
 exact h
def Var (w:World) (q:Nat) (v:Value):Prop:=q<w.heap.size/\w.cell? ⟨q,0,none⟩=some v
theorem Var.below {w w':World} {q:Nat} {v:Value} (h:Var w q v) (b:Below w.heap.size w w'):Var w' q v:=⟨Nat.lt_of_lt_of_le h.1 b.size,(b.cell (p:=⟨q,0,none⟩) h.1).trans h.2⟩
theorem Var.new (w:World) (v:Value) (t:TypeId):Var (w.alloc (.cells #[v] t)) w.heap.size v:=⟨by simp,by have:=blk_alloc_new w (.cells #[v] t);simp only[World.cell?];rw[this];rfl⟩
end
namespace Sl
def Jr (n:Int):Int:=2 ^ n.toNat - 1
def Zm (v a n:Nat):Nat:=v / 2 ^ a % 2 ^ n
def VR (v a n:Int):Int:=((Zm v.toNat a.toNat n.toNat:Nat):Int)
theorem ZW (n:Nat) (h:n<=64):2 ^ n<=18446744073709551616:=by
 have:=Nat.pow_le_pow_right (n:=2) (by omega) h
 simpa using this
theorem JJ (n:Nat):0<2 ^ n:=Nat.pow_pos (by omega)
theorem JU (n:Nat):Jr (n:Int)=((2 ^ n - 1:Nat):Int):=by
 have:=JJ n
 unfold Jr
 simp only[Int.toNat_natCast]
 rw[Int.natCast_sub (by omega)]
 simp
theorem Eg (n:Int) (h0:0<=n) (h1:n<=64):0<=Jr n/\Jr n<=18446744073709551615:=by
 obtain⟨m,rfl⟩:=Int.eq_ofNat_of_zero_le h0
 rw[JU]
 have:=ZW m (by omega)
 omega
theorem XZ (n:Int) (h0:0<=n) (h1:n<=64):IntKind.u64.wrap (IntKind.u64.wrap (2 ^ n.toNat) - 1)=Jr n:=by
 obtain⟨m,rfl⟩:=Int.eq_ofNat_of_zero_le h0
 rw[JU,IntKind.wrap_u64,IntKind.wrap_u64]
 have h:=ZW m (by omega)
 have h2:=JJ m
 have e:(2:Int) ^ (m:Int).toNat=((2 ^ m:Nat):Int):=by simp
 rw[e]
 omega
theorem U8 (v a n:Int) (v0:0<=v) (v1:v<=18446744073709551615) (a0:0<=a) (n0:0<=n) (n1:n<=64) :
  bits .and .u64 (v / 2 ^ a.toNat) (Jr n)=VR v a n:=by
 obtain⟨V,rfl⟩:=Int.eq_ofNat_of_zero_le v0
 obtain⟨A,rfl⟩:=Int.eq_ofNat_of_zero_le a0
 obtain⟨M,rfl⟩:=Int.eq_ofNat_of_zero_le n0
 have h:=ZW M (by omega)
 have e:((V:Int) / 2 ^ (A:Int).toNat)=((V / 2 ^ A:Nat):Int):=by simp
 have hd:V / 2 ^ A<=V:=Nat.div_le_self _ _
 rw[e,JU,u64_and_nat _ _ (by omega) (by omega),Nat.and_two_pow_sub_one_eq_mod]
 simp[VR,Zm]
theorem ZJ (v i:Nat) (hv:v<18446744073709551616) (hi:64<=i):v.testBit i=false:=by
 apply Nat.testBit_lt_two_pow
 have:2 ^ 64<=2 ^ i:=Nat.pow_le_pow_right (by omega) hi
 omega
theorem MX (y i:Nat) (hy:y<18446744073709551616):(18446744073709551615 - y).testBit i=(decide (i<64) && !y.testBit i):=by
 have:=Nat.testBit_two_pow_sub_succ (x:=y) (n:=64) (by omega) i
 rw[<- this]
 congr 1
 omega
theorem Og (v a n:Nat):Zm v a n<2 ^ n:=Nat.mod_lt _ (JJ n)
theorem Vc (v n:Nat) (hv:v<18446744073709551616) (h:n<=64):v &&& (18446744073709551615 - (2 ^ n - 1))=v / 2 ^ n*2 ^ n:=by
 apply Nat.eq_of_testBit_eq
 intro i
 have hp:=JJ n
 have hq:=ZW n h
 rw[Nat.testBit_and,MX _ _ (by omega),Nat.testBit_two_pow_sub_one,Nat.testBit_mul_two_pow,Nat.testBit_div_two_pow]
 by_cases h1:i<n
 ·have h2:¬ n<=i:=by omega
  simp[h1,h2]
 ·have h2:n<=i:=by omega
  have h3:i - n+n=i:=by omega
  by_cases h4:i<64
  ·simp[h1,h2,h3,h4]
  ·simp[h2,h3,ZJ v i hv (by omega)]
structure Cp where
 k:Int
 o:Int
 r:Int
 b:Int
 g:Int
 z:Int
def no:Cp:=⟨0,0,0,0,0,0⟩
structure Cp.Fits (c:Cp):Prop where
 k : -9223372036854775808<=c.k/\c.k<=9223372036854775807
 o : -9223372036854775808<=c.o/\c.o<=9223372036854775807
 r : -9223372036854775808<=c.r/\c.r<=9223372036854775807
 b:0<=c.b/\c.b<=18446744073709551615
 g:0<=c.g/\c.g<=18446744073709551615
 z : -9223372036854775808<=c.z/\c.z<=9223372036854775807
def ZV (k:Int):Prop:=k=4\/k=5\/k=6
def Xn (k:Int):Prop:=k=4\/k=5
def Fit (g z:Int):Prop:=0<=z/\z<=64/\g<=Jr z
def Fine (c:Cp):Prop:=c=no\/((0<c.k/\c.k<10)/\(0<=c.o/\c.o<=2147483647)/\(0<=c.r/\c.r<=7)/\(c.r=7\/ZV c.k)/\(c.b=0\/Xn c.k)/\((c.g=0/\c.z=0)\/c.k=2)/\Fit c.g c.z)
def JK (c:Cp) (v:Int):Prop:=c.k=0\/(v≠0/\¬ (Xn c.k/\c.b=0))
def Jnf (c:Cp):Int:=c.k+16*c.r+128*c.z+65536*c.o
def Jlx (c:Cp):Int:=if c.k=2 then c.g else c.b
def Ei (x y:Int):Cp:=⟨x % 16,x / 65536 % 2147483648,x / 16 % 8,if x % 16=2 then 0 else y,if x % 16=2 then y else 0,x / 128 % 128⟩
def Zx (x y:Int):Prop:=Fine (Ei x y)/\Jnf (Ei x y)=x/\Jlx (Ei x y)=y
abbrev Jju:DecidableEq Cp:=fun a b =>
 if h:a.k=b.k/\a.o=b.o/\a.r=b.r/\a.b=b.b/\a.g=b.g/\a.z=b.z then .isTrue (by obtain⟨h1,h2,h3,h4,h5,h6⟩:=h;cases a;cases b;simp only at h1 h2 h3 h4 h5 h6;subst h1 h2 h3 h4 h5 h6;rfl) else .isFalse fun e=>h (by rw[e];exact⟨rfl,rfl,rfl,rfl,rfl,rfl⟩)
abbrev Ax (k:Int):Decidable (ZV k):=by unfold ZV;exact inferInstance
abbrev F6 (k:Int):Decidable (Xn k):=by unfold Xn;exact inferInstance
abbrev Jcx (g z:Int):Decidable (Fit g z):=by unfold Fit;exact inferInstance
abbrev ML (c:Cp):Decidable (Fine c):=by
 unfold Fine
 have h1:=Jju c no
 have h2:=Ax c.k
 have h3:=F6 c.k
 have h4:=Jcx c.g c.z
 exact inferInstance
variable [dCp:DecidableEq Cp] [dLim:∀ k,Decidable (ZV k)] [dBad:∀ k,Decidable (Xn k)] [dFit:∀ g z,Decidable (Fit g z)] [dFine:∀ c,Decidable (Fine c)] [dMint:∀ c v,Decidable (JK c v)] [dWho:∀ x y,Decidable (Zx x y)]
def Zk (c:Cp):Int:=if Fine c then 0 else 40
theorem Fine.of_ne {c:Cp} (h:Fine c) (hk:c.k≠0):(0<c.k/\c.k<10)/\(0<=c.o/\c.o<=2147483647)/\(0<=c.r/\c.r<=7)/\(c.r=7\/ZV c.k)/\(c.b=0\/Xn c.k)/\((c.g=0/\c.z=0)\/c.k=2)/\Fit c.g c.z:=by
 rcases h with h|h
 ·subst h;exact absurd rfl hk
 ·exact h
theorem Fine.of_zero {c:Cp} (h:Fine c) (hk:c.k=0):c=no:=by
 rcases h with h|h
 ·exact h
 ·omega
theorem AG (g z:Int) (g0:0<=g) (g1:g<=18446744073709551615) (z0:0<=z) (z1:z<=64) :
  bits .andNot .u64 g (Jr z)=0↔g<=Jr z:=by
 obtain⟨G,rfl⟩:=Int.eq_ofNat_of_zero_le g0
 obtain⟨Z,rfl⟩:=Int.eq_ofNat_of_zero_le z0
 rw[JU]
 have hp:=JJ Z
 have hq:=ZW Z (by omega)
 rw[u64_andNot_nat _ _ (by omega) (by omega),Vc _ _ (by omega) (by omega)]
 have h1:G / 2 ^ Z*2 ^ Z=0↔G<2 ^ Z:=by
  rw[Nat.mul_eq_zero,Nat.div_eq_zero_iff]
  omega
 omega
structure Sl where
 n:Int
 i:Int
variable [dSl:DecidableEq Sl]
abbrev St:=List (List Cp)
def JZ (S:St) (s:Sl):Option Cp:=if 0<=s.n/\0<=s.i then (S.getD s.n.toNat [])[s.i.toNat]? else none
def Zg (S:St) (s:Sl):Option Cp:=match JZ S s with
 | some c=>if c.k=0 then none else some c
 | none=>none
def Xj (S:St) (s:Sl) (c:Cp):St:=S.set s.n.toNat ((S.getD s.n.toNat []).set s.i.toNat c)
def ZK (n:Nat):Nat->List Cp->List (Sl×Cp)
 | _,[]=>[]
 | i,c::l=>if c.k=0 then ZK n (i+1) l else (⟨n,i⟩,c)::ZK n (i+1) l
def ZQ:Nat->St->List (Sl×Cp)
 | _,[]=>[]
 | n,l::S=>ZK n 0 l++ZQ (n+1) S
def JX (S:St):List (Sl×Cp):=ZQ 0 S
def MC (a b:Sl):Prop:=a.n<b.n\/(a.n=b.n/\a.i<b.i)
variable [dLt:∀ a b,Decidable (MC a b)]
theorem MU (a:Sl):¬ MC a a:=by unfold MC;omega
theorem Fv {a b c:Sl} (h:MC a b) (k:MC b c):MC a c:=by unfold MC at *;omega
theorem Jg4 {a b:Sl} (h:¬ MC a b) (k:¬ MC b a):a=b:=by
 obtain⟨n,i⟩:=a
 obtain⟨m,j⟩:=b
 unfold MC at *
 simp only at *
 simp only[Sl.mk.injEq]
 omega
theorem Jfi (n:Nat) (s:Sl) (c:Cp):∀ (l:List Cp) (i:Nat),(s,c)∈ZK n i l↔∃ j,l[j]? = some c/\c.k≠0/\s=⟨n,((i+j:Nat):Int)⟩
 | [],i=>by simp[ZK]
 | d::l,i=>by
  have ih:=Jfi n s c l (i+1)
  unfold ZK
  have cut:(∃ j,(d::l)[j]? = some c/\c.k≠0/\s=⟨n,((i+j:Nat):Int)⟩)↔(d=c/\c.k≠0/\s=⟨n,(i:Int)⟩)\/∃ j,l[j]? = some c/\c.k≠0/\s=⟨n,((i+1+j:Nat):Int)⟩:=by
   constructor
   ·rintro⟨j,h1,h2,h3⟩
    cases j with
    | zero=>exact .inl ⟨by simpa using h1,h2,by simpa using h3⟩
    | succ j=>exact .inr ⟨j,by simpa using h1,h2,by rw[h3];congr 1;omega⟩
   ·rintro(⟨h1,h2,h3⟩|⟨j,h1,h2,h3⟩)
    ·exact⟨0,by simpa using h1,h2,by simpa using h3⟩
    ·exact⟨j+1,by simpa using h1,h2,by rw[h3];congr 1;omega⟩
  rw[cut,<- ih]
  split
  ·rename_i h0
   constructor
   ·exact .inr
   ·rintro(⟨rfl,h2,_⟩|h)
    ·exact absurd h0 h2
    ·exact h
  ·rename_i h0
   simp only[List.mem_cons,Prod.mk.injEq]
   constructor
   ·rintro(⟨h1,h2⟩|h)
    ·exact .inl ⟨h2.symm,h2 ▸ h0,h1⟩
    ·exact .inr h
   ·rintro(⟨h1,h2,h3⟩|h)
    ·exact .inl ⟨h3,h1.symm⟩
    ·exact .inr h
theorem Jbl (s:Sl) (c:Cp):∀ (S:St) (n:Nat),(s,c)∈ZQ n S↔∃ m,(s,c)∈ZK (n+m) 0 (S.getD m [])
 | [],n=>by simp[ZQ,ZK]
 | l::S,n=>by
  have ih:=Jbl s c S (n+1)
  unfold ZQ
  rw[List.mem_append,ih]
  constructor
  ·rintro(h|⟨m,h⟩)
   ·exact⟨0,by simpa using h⟩
   ·exact⟨m+1,by simpa [Nat.add_assoc,Nat.add_comm 1 m] using h⟩
  ·rintro⟨m,h⟩
   cases m with
   | zero=>exact .inl (by simpa using h)
   | succ m=>exact .inr ⟨m,by simpa [Nat.add_assoc,Nat.add_comm 1 m] using h⟩
theorem Jbm (S:St) (s:Sl) (c:Cp):(s,c)∈JX S↔Zg S s=some c:=by
 unfold JX
 rw[Jbl]
 simp only[Jfi,Nat.zero_add]
 unfold Zg JZ
 constructor
 ·rintro⟨m,j,h1,h2,rfl⟩
  have:(0:Int)<=(m:Int)/\(0:Int)<=(j:Int):=by omega
  simp only[this,and_self,if_true,Int.toNat_natCast,h1,h2,if_false]
 ·intro h
  split at h
  ·rename_i d hd
   split at hd
   ·rename_i hp
    split at h
    ·cases h
    ·rename_i hk
     cases h
     refine⟨s.n.toNat,s.i.toNat,hd,hk,?_⟩
     obtain⟨n,i⟩:=s
     simp only at *
     rw[Int.toNat_of_nonneg hp.1,Int.toNat_of_nonneg hp.2]
   ·cases hd
  ·cases h
theorem Ej (n:Nat):∀ (l:List Cp) (i:Nat),(ZK n i l).Pairwise (fun p q=>MC p.1 q.1)/\∀ p∈ZK n i l,p.1.n=n/\(i:Int)<=p.1.i
 | [],i=>by simp[ZK]
 | d::l,i=>by
  obtain⟨h1,h2⟩:=Ej n l (i+1)
  unfold ZK
  split
  ·exact⟨h1,fun p hp=>⟨(h2 p hp).1,by have:=(h2 p hp).2;omega⟩⟩
  ·refine⟨List.pairwise_cons.2 ⟨fun q hq=>?_,h1⟩,fun p hp=>?_⟩
   ·have:=h2 q hq
    unfold MC
    simp only
    omega
   ·rcases List.mem_cons.1 hp with rfl|hp
    ·simp
    ·have:=h2 p hp
     omega
theorem OM:∀ (S:St) (n:Nat),(ZQ n S).Pairwise (fun p q=>MC p.1 q.1)/\∀ p∈ZQ n S,(n:Int)<=p.1.n
 | [],n=>by simp[ZQ]
 | l::S,n=>by
  obtain⟨h1,h2⟩:=OM S (n+1)
  obtain⟨h3,h4⟩:=Ej n l 0
  unfold ZQ
  refine⟨List.pairwise_append.2 ⟨h3,h1,fun p hp q hq=>?_⟩,fun p hp=>?_⟩
  ·have a:=(h4 p hp).1
   have b:=h2 q hq
   unfold MC
   omega
  ·rcases List.mem_append.1 hp with hp|hp
   ·have:=(h4 p hp).1
    omega
   ·have:=h2 p hp
    omega
theorem Jaz (S:St):(JX S).Pairwise (fun p q=>MC p.1 q.1):=(OM S 0).1
theorem FM:∀ (A B:List (Sl×Cp)),A.Pairwise (fun p q=>MC p.1 q.1)->B.Pairwise (fun p q=>MC p.1 q.1)->(∀ p,p∈A↔p∈B)->A=B
 | [],[],_,_,_=>rfl
 | [],b::B,_,_,h=>by have:=(h b).2 (by simp);simp at this
 | a::A,[],_,_,h=>by have:=(h a).1 (by simp);simp at this
 | a::A,b::B,hA,hB,h=>by
  obtain⟨a1,a2⟩:=List.pairwise_cons.1 hA
  obtain⟨b1,b2⟩:=List.pairwise_cons.1 hB
  have e:a=b:=by
   rcases List.mem_cons.1 ((h a).1 (by simp)) with e|ha
   ·exact e
   ·rcases List.mem_cons.1 ((h b).2 (by simp)) with e|hb
    ·exact e.symm
    ·exact absurd (Fv (b1 a ha) (a1 b hb)) (MU _)
  subst e
  rw[FM A B a2 b2 fun p=>?_]
  constructor
  ·intro hp
   rcases List.mem_cons.1 ((h p).1 (by simp[hp])) with rfl|hp'
   ·exact absurd (a1 p hp) (MU _)
   ·exact hp'
  ·intro hp
   rcases List.mem_cons.1 ((h p).2 (by simp[hp])) with rfl|hp'
   ·exact absurd (b1 p hp) (MU _)
   ·exact hp'
theorem Jkv {α:Type} [DecidableEq α]:∀ (A B:List α),A.Pairwise (· ≠ ·)->(∀ p∈A,p∈B)->A.length<=B.length
 | [],_,_,_=>by simp
 | a::A,B,hA,h=>by
  obtain⟨a1,a2⟩:=List.pairwise_cons.1 hA
  have hm:a∈B:=h a (by simp)
  have:=Jkv A (B.erase a) a2 fun p hp=>(List.mem_erase_of_ne fun e=>a1 p hp e.symm).2 (h p (by simp[hp]))
  have e:=List.length_erase_of_mem hm
  have:0<B.length:=List.length_pos_of_mem hm
  simp only[List.length_cons]
  omega
structure Okay (S:St):Prop where
 len:S.length<=64
 row:∀ l∈S,l=[]\/∃ b:Nat,1<=b/\b<=8/\l.length=2 ^ b
 cap:∀ l∈S,∀ c∈l,c.Fits/\(c.k=0->c=no)
theorem Xt (S:St) (n m:Nat) (x:List Cp):(S.set n x).getD m []=if m=n/\n<S.length then x else S.getD m []:=by
 simp only[List.getD_eq_getElem?_getD,List.getElem?_set]
 by_cases h:n=m
 ·subst h
  by_cases h2:n<S.length
  ·simp[h2]
  ·simp[h2]
 ·have:¬ m=n:=fun e=>h e.symm
  simp[h,this]
theorem VD {S:St} {s:Sl} {c:Cp} (h:JZ S s=some c):0<=s.n/\0<=s.i/\s.n.toNat<S.length/\S.getD s.n.toNat []∈S/\(S.getD s.n.toNat [])[s.i.toNat]? = some c/\s.i.toNat<(S.getD s.n.toNat []).length:=by
 unfold JZ at h
 split at h
 ·rename_i hp
  have hl:s.n.toNat<S.length:=by
   refine Decidable.byContradiction fun hn=>?_
   have e:S.getD s.n.toNat []=[]:=by rw[List.getD_eq_getElem?_getD,List.getElem?_eq_none (by omega)];rfl
   rw[e] at h
   simp at h
  have hm:S.getD s.n.toNat []∈S:=by
   rw[List.getD_eq_getElem?_getD,List.getElem?_eq_getElem hl]
   exact List.getElem_mem hl
  exact⟨hp.1,hp.2,hl,hm,h,(List.getElem?_eq_some_iff.1 h).1⟩
 ·cases h
theorem Okay.at {S:St} (h:Okay S) {s:Sl} {c:Cp} (hs:JZ S s=some c):c.Fits/\(c.k=0->c=no):=by
 obtain⟨_,_,_,hm,hc,_⟩:=VD hs
 exact h.cap _ hm _ (List.mem_of_getElem? hc)
theorem XL {S:St} {s:Sl} {d:Cp} (hs:JZ S s=some d) (c:Cp) (t:Sl):JZ (Xj S s c) t=if t=s then some c else JZ S t:=by
 obtain⟨h1,h2,h3,_,_,h4⟩:=VD hs
 unfold JZ Xj
 rw[Xt]
 by_cases hp:0<=t.n/\0<=t.i
 ·simp only[hp,and_self,if_true]
  by_cases hn:t.n.toNat=s.n.toNat
  ·simp only[hn,h3,and_self,if_true,List.getElem?_set]
   by_cases hi:s.i.toNat=t.i.toNat
   ·have e:t=s:=by
     obtain⟨a,b⟩:=t
     obtain⟨a',b'⟩:=s
     simp only[Sl.mk.injEq] at *
     omega
    subst e
    simp only[h4,if_true]
   ·have e:¬ t=s:=fun e=>hi (by rw[e])
    simp only[hi,e,if_false]
  ·have e:¬ t=s:=fun e=>hn (by rw[e])
   simp only[hn,e,false_and,if_false]
 ·have e:¬ t=s:=fun e=>hp (by rw[e];exact⟨h1,h2⟩)
  simp only[hp,e,if_false]
theorem Fk {S:St} {s:Sl} {d:Cp} (hs:JZ S s=some d) (c:Cp) (t:Sl):Zg (Xj S s c) t=if t=s then (if c.k=0 then none else some c) else Zg S t:=by
 unfold Zg
 rw[XL hs]
 by_cases e:t=s
 ·simp[e]
 ·simp[e]
theorem Uy (S:St) (s:Sl) (c:Cp):(Xj S s c).length=S.length:=by simp[Xj]
theorem Jft {S:St} {s:Sl} {c:Cp} {l:List Cp} (hl:l∈Xj S s c):l∈S\/l=(S.getD s.n.toNat []).set s.i.toNat c:=by
 unfold Xj at hl
 exact List.mem_or_eq_of_mem_set hl
theorem Okay.set {S:St} (h:Okay S) {s:Sl} {d:Cp} (hs:JZ S s=some d) {c:Cp} (hc:c.Fits) (h0:c.k=0->c=no):Okay (Xj S s c):=by
 obtain⟨_,_,_,hm,_,_⟩:=VD hs
 refine⟨by rw[Uy];exact h.len,fun l hl=>?_,fun l hl x hx=>?_⟩
 ·rcases Jft hl with hl|rfl
  ·exact h.row l hl
  ·rcases h.row _ hm with e|⟨b,b1,b2,e⟩
   ·exact .inl (by rw[e];rfl)
   ·exact .inr ⟨b,b1,b2,by rw[List.length_set];exact e⟩
 ·rcases Jft hl with hl|rfl
  ·exact h.cap l hl x hx
  ·rcases List.mem_or_eq_of_mem_set hx with hx|rfl
   ·exact h.cap _ hm x hx
   ·exact⟨hc,h0⟩
theorem MW:no.Fits:=by constructor<;>decide
def one (c:Cp):Nat:=if c.k=0 then 0 else 1
theorem Jfs (n:Nat):∀ (l:List Cp) (i:Nat),(ZK n i l).length=(l.map one).sum
 | [],i=>by simp[ZK]
 | d::l,i=>by
  unfold ZK one
  have:=Jfs n l (i+1)
  unfold one at this
  split<;>simp_all<;>omega
theorem Jan:∀ (S:St) (n:Nat),(ZQ n S).length=(S.map fun l=>(l.map one).sum).sum
 | [],n=>by simp[ZQ]
 | l::S,n=>by
  unfold ZQ
  simp[Jfs,Jan S (n+1)]
theorem Jmp (f:List Cp->Nat):∀ (S:St),(∀ l∈S,f l<=256)->(S.map f).sum<=S.length*256
 | [],_=>by simp
 | l::S,h=>by
  have:=Jmp f S fun m hm=>h m (by simp[hm])
  have:=h l (by simp)
  simp
  omega
theorem Jll:∀ l:List Cp,(l.map one).sum<=l.length
 | []=>by simp
 | c::l=>by
  have:=Jll l
  have:one c<=1:=by unfold one;split<;>omega
  simp
  omega
theorem Jfr {S:St} (h:Okay S) {l:List Cp} (hl:l∈S):l.length<=256:=by
 rcases h.row l hl with rfl|⟨b,_,b2,e⟩
 ·simp
 ·rw[e]
  have:2 ^ b<=2 ^ 8:=Nat.pow_le_pow_right (by omega) b2
  omega
theorem Jn7 {S:St} (h:Okay S):(JX S).length<=16384:=by
 unfold JX
 rw[Jan]
 have:=Jmp (fun l=>(l.map one).sum) S fun l hl=>Nat.le_trans (Jll l) (Jfr h hl)
 have:=h.len
 omega
def JV (S:St) (bits:Int):Int:=if 1<=bits/\bits<=8 then if S.length<64 then 0 else 2 else 1
def JW (S:St) (bits:Int):Int:=if JV S bits=0 then S.length else 0
def Zq (S:St) (bits:Int):St:=if JV S bits=0 then S++[List.replicate (2 ^ bits.toNat) no] else S
def J5 (S:St) (n:Int):List Cp:=if 0<=n then S.getD n.toNat [] else []
def J7 (l:List Cp):Nat:=Nat.log2 l.length
def UW (S:St) (n:Int):Int:=if J5 S n=[] then 0 else J7 (J5 S n)
def XH (S:St) (n:Int):Bool:=!(J5 S n).isEmpty
def Vt (S:St) (s:Sl):Cp:=(JZ S s).getD no
def UQ (S:St) (s:Sl):Int:=if (JZ S s).isSome then 0 else 50
def VX (S:St) (s:Sl) (c:Cp):Int:=match JZ S s with
 | none=>50
 | some d=>if Fine c then if c.k=0 then 1 else if d.k=0 then 0 else 51 else 40
def ZL (S:St) (s:Sl) (c:Cp):St:=if VX S s c=0 then Xj S s c else S
def ZS (S:St) (s:Sl):Int:=match JZ S s with
 | none=>50
 | some d=>if d.k=0 then 52 else 0
def Vm (S:St) (s:Sl):Cp:=if ZS S s=0 then Vt S s else no
def takeS (S:St) (s:Sl):St:=if ZS S s=0 then Xj S s no else S
def AZ (S:St) (s t:Sl):Int:=match JZ S s,JZ S t with
 | some c,some d=>if c.k=0 then 52 else if d.k=0 then 0 else 51
 | _,_=>50
def moveS (S:St) (s t:Sl):St:=if AZ S s t=0 then Xj (Xj S t (Vt S s)) s no else S
end Sl
namespace Sl
variable [dCp:DecidableEq Cp] [dLim:∀ k,Decidable (ZV k)] [dBad:∀ k,Decidable (Xn k)] [dFit:∀ g z,Decidable (Fit g z)] [dFine:∀ c,Decidable (Fine c)] [dMint:∀ c v,Decidable (JK c v)] [dWho:∀ x y,Decidable (Zx x y)] [dSl:DecidableEq Sl] [dLt:∀ a b,Decidable (MC a b)]
def Gq (S:St) (c:Cp):Prop:=c.k=2/\Fine c/\J5 S c.o≠[]
variable [dIsN:∀ S c,Decidable (Gq S c)]
def Xs (S:St) (c:Cp):Nat:=J7 (J5 S c.o)
def Vv:Sl:=⟨0,0⟩
def XP (S:St) (c:Cp) (d:Nat):Nat:=d - c.z.toNat - Xs S c
def V0 (S:St) (a:Nat) (c:Cp) (d:Nat):Sl:=⟨c.o,((Zm a (XP S c d) (Xs S c):Nat):Int)⟩
def XT (a:Nat) (c:Cp) (d:Nat):Prop:=c.z.toNat<=d/\((Zm a (d - c.z.toNat) c.z.toNat:Nat):Int)=c.g
variable [dGuN:∀ a c d,Decidable (XT a c d)]
def Vh (S:St) (a:Nat) (c:Cp) (d:Nat):Int:=if Gq S c then if XT a c d then if Xs S c<=d - c.z.toNat then 0 else 62 else 61 else 60
def Uu (S:St) (a:Nat) (c:Cp) (d:Nat):Sl:=if Vh S a c d=0 then V0 S a c d else Vv
def look (S:St) (a:Nat):Nat->Cp->Nat->Sl×Int
 | 0,_,_=>(Vv,62)
 | f+1,c,d =>
  if Vh S a c d=0 then
   if XP S c d=0 then (V0 S a c d,0)
   else if (Vt S (V0 S a c d)).k=2 then look S a f (Vt S (V0 S a c d)) (XP S c d)
   else (Vv,62)
  else (Vv,Vh S a c d)
def Ub (S:St) (c:Cp) (a d:Int):Sl×Int:=if 1<=d/\d<=64 then look S a.toNat 65 c d.toNat else (Vv,1)
theorem OB {S:St} {a:Nat} {c:Cp} {d:Nat}:Vh S a c d=0↔Gq S c/\XT a c d/\Xs S c<=d - c.z.toNat:=by
 unfold Vh
 by_cases h1:Gq S c
 ·by_cases h2:XT a c d
  ·by_cases h3:Xs S c<=d - c.z.toNat<;>simp[h1,h2,h3]
  ·simp[h1,h2]
 ·simp[h1]
theorem Ec {S:St} (ok:Okay S) {n:Int} (h:J5 S n≠[]):0<=n/\n.toNat<S.length/\1<=J7 (J5 S n)/\J7 (J5 S n)<=8/\(J5 S n).length=2 ^ J7 (J5 S n)/\J5 S n=S.getD n.toNat []:=by
 by_cases h0:0<=n
 ·have e:J5 S n=S.getD n.toNat []:=by unfold J5;rw[if_pos h0]
  have hl:n.toNat<S.length:=by
   refine Decidable.byContradiction fun hn=>h ?_
   rw[e,List.getD_eq_getElem?_getD,List.getElem?_eq_none (by omega)]
   rfl
  have hm:S.getD n.toNat []∈S:=by
   rw[List.getD_eq_getElem?_getD,List.getElem?_eq_getElem hl]
   exact List.getElem_mem hl
  rcases ok.row _ hm with e2|⟨b,b1,b2,e2⟩
  ·exact absurd (e.trans e2) h
  ·have hb:J7 (J5 S n)=b:=by unfold J7;rw[e,e2,Nat.log2_two_pow]
   exact⟨h0,hl,by omega,by omega,by rw[hb,e];exact e2,e⟩
 ·exact absurd (by unfold J5;rw[if_neg h0]) h
theorem Jnp {S:St} (ok:Okay S) {n:Int} (h:J5 S n≠[]) {i:Nat} (hi:i<2 ^ J7 (J5 S n)):(JZ S ⟨n,(i:Int)⟩).isSome=true:=by
 obtain⟨h0,_,_,_,hl,e⟩:=Ec ok h
 unfold JZ
 have:(0:Int)<=n/\(0:Int)<=(i:Int):=⟨h0,by omega⟩
 simp only[this,and_self,if_true,Int.toNat_natCast]
 rw[<- e,List.getElem?_eq_getElem (by omega)]
 rfl
theorem Jo3 {S:St} (ok:Okay S) {a:Nat} {c:Cp} {d:Nat} (h:Vh S a c d=0):(JZ S (V0 S a c d)).isSome=true:=
 Jnp ok (OB.1 h).1.2.2 (Og _ _ _)
theorem Jpi {S:St} (ok:Okay S) {a:Nat} {c:Cp} {d:Nat} (h:Vh S a c d=0):XP S c d<d:=by
 obtain⟨h1,h2,h3⟩:=OB.1 h
 have:=(Ec ok h1.2.2).2.2.1
 have e:1<=Xs S c:=this
 unfold XP
 have:=h2.1
 omega
theorem Jgp {S:St} (ok:Okay S) (s:Sl):(Vt S s).Fits:=by
 unfold Vt
 cases h:JZ S s with
 | none=>exact MW
 | some c=>exact(ok.at h).1
theorem Jpv {S:St} {s:Sl} (h:(JZ S s).isSome=true) (ok:Okay S):0<=s.n/\s.n<64/\0<=s.i/\s.i<256:=by
 obtain⟨c,hc⟩:=Option.isSome_iff_exists.1 h
 obtain⟨h1,h2,h3,h4,_,h6⟩:=VD hc
 have:=ok.len
 have:=Jfr ok h4
 omega
theorem Jdw {S:St} (ok:Okay S) {a:Nat} {c:Cp} {d:Nat}:0<=(Uu S a c d).n/\(Uu S a c d).n<64/\0<=(Uu S a c d).i/\(Uu S a c d).i<256:=by
 unfold Uu
 split
 ·rename_i h
  exact Jpv (Jo3 ok h) ok
 ·decide
theorem Jc6 {c:Cp} (h:Fine c):0<=c.z/\c.z<=64/\c.g<=Jr c.z:=by
 rcases h with h|⟨_,_,_,_,_,_,h7⟩
 ·subst h;decide
 ·exact h7
end Sl
end Go.Proofs.YtbfjjpdnoalojaaGreatDoor
