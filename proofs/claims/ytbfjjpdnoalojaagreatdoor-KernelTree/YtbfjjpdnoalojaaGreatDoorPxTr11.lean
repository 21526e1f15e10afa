/- Below: KBgS; no condition. -/
import Derived.Test.YtbfjjpdnoalojaaGreatDoorPxTr10
set_option maxRecDepth 100000
namespace Go.Proofs.YtbfjjpdnoalojaaGreatDoor
section
open Go.ChangeShapes Go.WideShapes Go.ChangeAt Go.RowKit Go.Joins Go.Deep
section
variable {H:Type} {enc:TypeId×Value->H} {W:World} {r:Reach} {b0 base:Nat} {sp:Nat->Bool} {JX:Bool} {v:Value} {d:DataW H} {p:List MemPlace}
theorem J2o {α:Type} {k:Nat} (hk:0<k) (code:α->List Value) (hlen:∀ x,(code x).length=k) (P:α->Prop) (z:α) (t e:TypeId) (ht:Tryz.prog.underlying t=some (.slice e)) (ck:Tryz.prog.cellsOf e=k)
  (dec:∀ fuel cs x,DataW.trod enc Tryz.prog W 0 (fun _=>true) JX fuel e cs=some x->∃ y,cs=code y/\P y)
  {fuel:Nat} {c:Value} {x:DataW H×List MemPlace} (hf:DataW.trod enc Tryz.prog W 0 (fun _=>true) JX fuel t [c]=some x) :
  ∃ (ao:Option Addr) (X:List α) (cap:Nat),c=.slice ao X.length cap/\SeeK k code P W ao X/\X.length<=9223372036854775807:=by
 rcases open_slice ht hf with ⟨hcs,_⟩|⟨x,len0,cap0,m,n,D,Pl,hcs,_,hl,hm,hmm,_,hx⟩
 ·simp only[List.cons.injEq,and_true] at hcs
  subst hcs
  exact⟨none,[],0,rfl,fun i x hx=>by simp at hx,by simp⟩
 ·simp only[List.cons.injEq,and_true] at hcs
  subst hcs
  simp only[if_true] at hmm
  obtain⟨b,off,spot⟩:=x
  have each:∀ i,i<len0->∃ x:α,P x/\∀ j v,(code x)[j]? = some v->W.cell? ((⟨b,off,spot⟩:Addr).add (i*k+j))=some v:=by
   intro i hi
   obtain⟨cs',h1,h2⟩:=hx i (by omega)
   rw[ck] at h1
   obtain⟨_,hl2,hcell⟩:=World.cells?_some h1
   obtain⟨x,rfl,hP⟩:=dec _ _ _ h2
   refine⟨x,hP,fun j v hj=>?_⟩
   have hj':=(Jqb.1 hj).1
   rw[hlen] at hj'
   have e:=hcell j (by omega)
   rw[add_add] at e
   rw[e]
   exact hj
  obtain⟨X,hX,hXe⟩:∃ X:List α,X.length=len0/\∀ (i:Nat) (x:α),X[i]? = some x->P x/\∀ j v,(code x)[j]? = some v->W.cell? ((⟨b,off,spot⟩:Addr).add (i*k+j))=some v:=by
   refine⟨(List.range len0).map fun i=>if h:i<len0 then (each i h).choose else z,by simp,fun i x hx=>?_⟩
   have hi:i<len0:=by
    have:=(Jqb.1 hx).1
    simpa using this
   simp only[List.getElem?_map,List.getElem?_range hi,Option.map_some,dif_pos hi,Option.some.injEq] at hx
   rw[<- hx]
   exact(each i hi).choose_spec
  refine⟨some ⟨b,off,spot⟩,X,cap0,by rw[hX],fun i x hx=>?_,by rw[hX];unfold maxLen at hm;omega⟩
  obtain⟨hP,hc⟩:=hXe i x hx
  have hX0:0<X.length:=by have:=(Jqb.1 hx).1;omega
  have hpos:0<(code X[0]).length:=by rw[hlen];exact hk
  have z0:=(hXe 0 _ (Jqc hX0)).2 0 _ (Jqc hpos)
  have hspot:spot=none:=by
   have:=World.cell?_spot z0
   simpa [Addr.add] using this
  subst hspot
  have ea:∀ j,(⟨b,off,none⟩:Addr).add j=⟨b,off+j,none⟩:=fun j=>by unfold Addr.add;split<;>simp_all
  rw[ea] at z0
  refine⟨hP,b,off,rfl,World.block_lt_of_cell? W _ z0,fun j v hj=>?_⟩
  have:=hc j v hj
  rw[ea] at this
  rw[<- this]
  congr 2
  omega
theorem J1z {fuel:Nat} {cs:List Value} {x:DataW H×List MemPlace} (h:DataW.trod enc Tryz.prog W base sp JX fuel 36 cs=some x) :
  ∃ c:Cl,cs=[.int .i64 c.q,.int .i64 c.a,.int .i64 c.w,.int .i64 c.A,.int .i64 c.B,.int .i64 c.C]/\VC c.q/\VC c.a/\VC c.w/\VC c.A/\VC c.B/\VC c.C:=by
 obtain⟨xs,m,_,_,hl,hlen,hf⟩:=DataW.trod_struct Tryz.underlying36 h
 have c2:Tryz.prog.cellsOf 36 = 6:=by kernel_rfl
 have ci:Tryz.prog.cellsOf 3 = 1:=by kernel_rfl
 rw[c2] at hl
 match cs,hl with
 | [c0,c1,c2,c3,c4,c5],_ =>
  have h2:xs.length=6:=hlen
  match xs,h2 with
  | [x0,x1,x2,x3,x4,x5],_ =>
   have e0:DataW.trod enc Tryz.prog W base sp JX m 3 (([c0,c1,c2,c3,c4,c5].drop 0).take (Tryz.prog.cellsOf 3))=some x0:=hf 0 _ rfl
   have e1:DataW.trod enc Tryz.prog W base sp JX m 3 (([c0,c1,c2,c3,c4,c5].drop 1).take (Tryz.prog.cellsOf 3))=some x1:=hf 1 _ rfl
   have e2:DataW.trod enc Tryz.prog W base sp JX m 3 (([c0,c1,c2,c3,c4,c5].drop 2).take (Tryz.prog.cellsOf 3))=some x2:=hf 2 _ rfl
   have e3:DataW.trod enc Tryz.prog W base sp JX m 3 (([c0,c1,c2,c3,c4,c5].drop 3).take (Tryz.prog.cellsOf 3))=some x3:=hf 3 _ rfl
   have e4:DataW.trod enc Tryz.prog W base sp JX m 3 (([c0,c1,c2,c3,c4,c5].drop 4).take (Tryz.prog.cellsOf 3))=some x4:=hf 4 _ rfl
   have e5:DataW.trod enc Tryz.prog W base sp JX m 3 (([c0,c1,c2,c3,c4,c5].drop 5).take (Tryz.prog.cellsOf 3))=some x5:=hf 5 _ rfl
   rw[ci] at e0 e1 e2 e3 e4 e5
   obtain⟨k0,q0,g0⟩:=J1a (show DataW.trod enc Tryz.prog W base sp JX m 3 [c0]=some x0 from e0)
   obtain⟨k1,q1,g1⟩:=J1a (show DataW.trod enc Tryz.prog W base sp JX m 3 [c1]=some x1 from e1)
   obtain⟨k2,q2,g2⟩:=J1a (show DataW.trod enc Tryz.prog W base sp JX m 3 [c2]=some x2 from e2)
   obtain⟨k3,q3,g3⟩:=J1a (show DataW.trod enc Tryz.prog W base sp JX m 3 [c3]=some x3 from e3)
   obtain⟨k4,q4,g4⟩:=J1a (show DataW.trod enc Tryz.prog W base sp JX m 3 [c4]=some x4 from e4)
   obtain⟨k5,q5,g5⟩:=J1a (show DataW.trod enc Tryz.prog W base sp JX m 3 [c5]=some x5 from e5)
   simp only[List.cons.injEq,and_true] at q0 q1 q2 q3 q4 q5
   subst q0 q1 q2 q3 q4 q5
   exact⟨⟨k0,k1,k2,k3,k4,k5⟩,rfl,g0,g1,g2,g3,g4,g5⟩
theorem J15 {fuel:Nat} {cs:List Value} {x:DataW H×List MemPlace} (h:DataW.trod enc Tryz.prog W base sp JX fuel 38 cs=some x):∃ x:Ox,cs=cX x/\OxI x:=by
 obtain⟨xs,m,_,_,hl,hlen,hf⟩:=DataW.trod_struct Tryz.underlying38 h
 have c2:Tryz.prog.cellsOf 38 = 8:=by kernel_rfl
 have ci:Tryz.prog.cellsOf 3 = 1:=by kernel_rfl
 have cc:Tryz.prog.cellsOf 36 = 6:=by kernel_rfl
 rw[c2] at hl
 match cs,hl with
 | [c0,c1,c2,c3,c4,c5,c6,c7],_ =>
  have h2:xs.length=3:=hlen
  match xs,h2 with
  | [x0,x1,x2],_ =>
   have e0:DataW.trod enc Tryz.prog W base sp JX m 3 (([c0,c1,c2,c3,c4,c5,c6,c7].drop 0).take (Tryz.prog.cellsOf 3))=some x0:=hf 0 _ rfl
   have e1:DataW.trod enc Tryz.prog W base sp JX m 3 (([c0,c1,c2,c3,c4,c5,c6,c7].drop 1).take (Tryz.prog.cellsOf 3))=some x1:=hf 1 _ rfl
   have e2:DataW.trod enc Tryz.prog W base sp JX m 36 (([c0,c1,c2,c3,c4,c5,c6,c7].drop 2).take (Tryz.prog.cellsOf 36))=some x2:=hf 2 _ rfl
   rw[ci] at e0 e1
   rw[cc] at e2
   obtain⟨k0,q0,g0⟩:=J1a (show DataW.trod enc Tryz.prog W base sp JX m 3 [c0]=some x0 from e0)
   obtain⟨k1,q1,g1⟩:=J1a (show DataW.trod enc Tryz.prog W base sp JX m 3 [c1]=some x1 from e1)
   obtain⟨c,q2,g2⟩:=J1z (show DataW.trod enc Tryz.prog W base sp JX m 36 [c2,c3,c4,c5,c6,c7]=some x2 from e2)
   simp only[List.cons.injEq,and_true] at q0 q1 q2
   obtain⟨rfl,rfl,rfl,rfl,rfl,rfl⟩:=q2
   subst q0 q1
   exact⟨⟨k0,k1,c⟩,rfl,g0,g1,g2⟩
theorem J11 (hv:Value.okWide Tryz.prog W r b0 25 v) (h:DataW.Trod enc Tryz.prog W 0 (fun _=>true) JX 25 v d p) :
  ∃ (ao:Option Addr) (X:List Ox) (cap:Nat),v=.slice ao X.length cap/\Oxs W ao X/\X.length<=9223372036854775807:=
 J2i (k:=8) (by omega) cX (fun _=>rfl) OxI ⟨0,0,⟨0,0,0,0,0,0⟩⟩ 25 38 Tryz.underlying25 (by kernel_rfl) (fun _ _ _ h=>J15 h) hv h
theorem J1p {fuel:Nat} {cs:List Value} {x:DataW H×List MemPlace} (h:DataW.trod enc Tryz.prog W 0 (fun _=>true) JX fuel 24 cs=some x) :
  ∃ (a b c:Int) (ao:Option Addr) (L:List Int) (cap:Nat),cs=[.int .i64 a,.int .i64 b,.int .i64 c,.slice ao L.length cap]/\VC a/\VC b/\VC c/\Ints W ao L/\L.length<=9223372036854775807:=by
 obtain⟨xs,m,_,_,hl,hlen,hf⟩:=DataW.trod_struct Tryz.underlying24 h
 have c2:Tryz.prog.cellsOf 24 = 4:=by kernel_rfl
 have ci:Tryz.prog.cellsOf 3 = 1:=by kernel_rfl
 have cy:Tryz.prog.cellsOf 22 = 1:=by kernel_rfl
 rw[c2] at hl
 match cs,hl with
 | [c0,c1,c2,c3],_ =>
  have h2:xs.length=4:=hlen
  match xs,h2 with
  | [x0,x1,x2,x3],_ =>
   have e0:DataW.trod enc Tryz.prog W 0 (fun _=>true) JX m 3 (([c0,c1,c2,c3].drop 0).take (Tryz.prog.cellsOf 3))=some x0:=hf 0 _ rfl
   have e1:DataW.trod enc Tryz.prog W 0 (fun _=>true) JX m 3 (([c0,c1,c2,c3].drop 1).take (Tryz.prog.cellsOf 3))=some x1:=hf 1 _ rfl
   have e2:DataW.trod enc Tryz.prog W 0 (fun _=>true) JX m 3 (([c0,c1,c2,c3].drop 2).take (Tryz.prog.cellsOf 3))=some x2:=hf 2 _ rfl
   have e3:DataW.trod enc Tryz.prog W 0 (fun _=>true) JX m 22 (([c0,c1,c2,c3].drop 3).take (Tryz.prog.cellsOf 22))=some x3:=hf 3 _ rfl
   rw[ci] at e0 e1 e2
   rw[cy] at e3
   obtain⟨k0,q0,g0⟩:=J1a (show DataW.trod enc Tryz.prog W 0 (fun _=>true) JX m 3 [c0]=some x0 from e0)
   obtain⟨k1,q1,g1⟩:=J1a (show DataW.trod enc Tryz.prog W 0 (fun _=>true) JX m 3 [c1]=some x1 from e1)
   obtain⟨k2,q2,g2⟩:=J1a (show DataW.trod enc Tryz.prog W 0 (fun _=>true) JX m 3 [c2]=some x2 from e2)
   obtain⟨ao,L,cap,rfl,hL,lL⟩:=J2o (k:=1) (by omega) (fun x:Int=>[.int .i64 x]) (fun _=>rfl) VC 0 22 3 Tryz.underlying22 (by kernel_rfl) (fun _ _ _ h=>J1a h) (show DataW.trod enc Tryz.prog W 0 (fun _=>true) JX m 22 [c3]=some x3 from e3)
   simp only[List.cons.injEq,and_true] at q0 q1 q2
   subst q0 q1 q2
   exact⟨k0,k1,k2,ao,L,cap,rfl,g0,g1,g2,hL,lL⟩
theorem J1u (hv:Value.okWide Tryz.prog W r b0 24 v) (h:DataW.Trod enc Tryz.prog W 0 (fun _=>true) JX 24 v d p) :
  ∃ (a b c:Int) (ao:Option Addr) (L:List Int) (cap:Nat),v=.agg #[.int .i64 a,.int .i64 b,.int .i64 c,.slice ao L.length cap]/\VC a/\VC b/\VC c/\Ints W ao L/\L.length<=9223372036854775807:=by
 obtain⟨cs,rfl,_⟩:=okWide_struct Tryz.underlying24 hv
 obtain⟨fuel,hf⟩:=h
 obtain⟨a,b,c,ao,L,cap,e,q⟩:=J1p hf
 refine⟨a,b,c,ao,L,cap,?_,q⟩
 have:cs.toList=[.int .i64 a,.int .i64 b,.int .i64 c,.slice ao L.length cap]:=by simpa [Value.cells] using e
 rw[<- Array.toArray_toList (xs:=cs),this]
end
end
end Go.Proofs.YtbfjjpdnoalojaaGreatDoor
