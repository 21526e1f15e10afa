/- Below: KIr; no condition. -/
import Derived.Test.YtbfjjpdnoalojaaGreatDoorPa10
import Derived.Test.YtbfjjpdnoalojaaGreatDoorPxRe1
set_option maxRecDepth 100000
namespace Go.Proofs.YtbfjjpdnoalojaaGreatDoor
namespace Ir
open Go.RowKit Go.Deep Go.Shelf
section
variable {α:Type} {E:El α} {ty:TypeId} {w0 w w':World} {r p:Nat} {v:Value} {L:List α} {R:List Th}
theorem _root_.Go.Proofs.YtbfjjpdnoalojaaGreatDoor.Sep.cellH (h:Sep w0 r w (hoT E ty p v L::R)):w.cell? ⟨p,0,none⟩=some v:=HoH.cell h.head
theorem _root_.Go.Proofs.YtbfjjpdnoalojaaGreatDoor.Sep.sliceH (h:Sep w0 r w (hoT E ty p v L::R)):∃ ao cap,v=.slice ao L.length cap/\∀ i,i<L.length->∃ g,ao=some ⟨g,0,none⟩:=by
 obtain⟨ao,cap,e,_,_,hg,_⟩:=(HoH.row h.head).slice
 exact⟨ao,cap,e,hg⟩
theorem _root_.Go.Proofs.YtbfjjpdnoalojaaGreatDoor.Sep.setH (ok:El.Ok E) {g n cap i j:Nat} {x y:α} {c:Value} (h:Sep w0 r w (hoT E ty p (.slice (some ⟨g,0,none⟩) n cap) L::R)) (hi:L[i]? = some x) (hj:j<E.k) (e:E.enc y=(E.enc x).set j c) :
  Sep w0 r (w.setCell ⟨g,i*E.k+j,none⟩ c) (hoT E ty p (.slice (some ⟨g,0,none⟩) n cap) (L.set i y)::R):=by
 have h2:HoH E ty p (.slice (some ⟨g,0,none⟩) n cap) L w:=h.head
 have ne:p≠g:=fun e=>h2.ne (by rw[e];rfl)
 refine h.turn (t':=hoT E ty p (.slice (some ⟨g,0,none⟩) n cap) (L.set i y)) ⟨(blk_setCell_other _ _ _ _ ne).trans h2.head,Row.set ok h2.row hi hj e,h2.ne⟩ (Turn.setCell _ _ _ _ (.inr rfl)) fun x hx=>.inl hx
theorem J21 {i:Nat} {x y:α}:(L.set i x).set i y=L.set i y:=by simp
end
section
variable {w0 w:World} {r p:Nat} {v:Value} {S:List Ln} {R:List Th}
theorem _root_.Go.Proofs.YtbfjjpdnoalojaaGreatDoor.Sep.lineAt {g n cap k:Nat} {x:Ln} (h:Sep w0 r w (lnT p (.slice (some ⟨g,0,none⟩) n cap) S::R)) (hx:S[k]? = some x) :
  w.cell? ⟨g,k*3,none⟩=some (.int .i64 (num x.s))/\w.cell? ⟨g,k*3+1,none⟩=some (.int .i64 x.a)/\w.cell? ⟨g,k*3+2,none⟩=some (.int .u64 x.g):=
 have row:=HoH.row h.head
 ⟨Row.cell okP row hx (j:=0) rfl,Row.cell okP row hx (j:=1) rfl,Row.cell okP row hx (j:=2) rfl⟩
theorem _root_.Go.Proofs.YtbfjjpdnoalojaaGreatDoor.Sep.frozenL {g n cap:Nat} (h:Sep w0 r w (lnT p (.slice (some ⟨g,0,none⟩) n cap) S::R)) (j:Nat):w.frozen? ⟨g,j,none⟩=false:=Row.frozen (HoH.row h.head) j
theorem _root_.Go.Proofs.YtbfjjpdnoalojaaGreatDoor.Sep.setIs {g n cap k:Nat} {x:Ln} (h:Sep w0 r w (lnT p (.slice (some ⟨g,0,none⟩) n cap) S::R)) (hx:S[k]? = some x) (s:Is) :
  Sep w0 r (w.setCell ⟨g,k*3,none⟩ (.int .i64 (num s))) (lnT p (.slice (some ⟨g,0,none⟩) n cap) (S.set k ⟨s,x.a,x.g⟩)::R):=
 h.setH okP hx (j:=0) (y:=⟨s,x.a,x.g⟩) (by decide) rfl
theorem _root_.Go.Proofs.YtbfjjpdnoalojaaGreatDoor.Sep.setLn {g n cap k:Nat} {x:Ln} (h:Sep w0 r w (lnT p (.slice (some ⟨g,0,none⟩) n cap) S::R)) (hx:S[k]? = some x) (y:Ln) :
  Sep w0 r (((w.setCell ⟨g,k*3,none⟩ (.int .i64 (num y.s))).setCell ⟨g,k*3+1,none⟩ (.int .i64 y.a)).setCell ⟨g,k*3+2,none⟩ (.int .u64 y.g)) (lnT p (.slice (some ⟨g,0,none⟩) n cap) (S.set k y)::R):=by
 have hk:=(Jqb.1 hx).1
 have h1:=h.setIs hx y.s
 have h2:=h1.setH okP (i:=k) (x:=⟨y.s,x.a,x.g⟩) (j:=1) (y:=⟨y.s,y.a,x.g⟩) (c:=.int .i64 y.a) (by simp[hk]) (by decide) rfl
 rw[J21] at h2
 have h3:=h2.setH okP (i:=k) (x:=⟨y.s,y.a,x.g⟩) (j:=2) (y:=y) (c:=.int .u64 y.g) (by simp[hk]) (by decide) rfl
 rw[J21] at h3
 exact h3
end
theorem J1a {fn:Func} {t u v x:Tmp} (h:fn.results=#[.tmp t,.tmp u,.tmp v,.tmp x]) (tmps:Array Value) (P:Program) (w:World) :
  (results fn tmps).run P w=.ok (.tuple #[tmps.getD t undef,tmps.getD u undef,tmps.getD v undef,tmps.getD x undef]) w:=by
 simp[results,h]
section
variable {w0 w:World} {r p:Nat} {v:Value} {S:List Ln} {R:List Th}
theorem J12 (s:Sep w0 r w (lnT p v S::R)) {n:Int} (h:atI S n=none):Calls Tryz.prog 171 #[Je p,.int .i64 n] w fun e w'=>e=.returned (.pointer none)/\w'=w:=by
 have c0:=s.cellH
 obtain⟨ao,cap,rfl,-⟩:=s.sliceH
 have hn:=J3s h
 clear s h
 generalize S.length=m at *
 rcases hn with h|⟨h0,h⟩
 ·go_enter Tryz.func171,Tryz.ntmps171
  go_wp2
  go_ret
  exact⟨rfl,rfl⟩
 ·have h1:¬ n<0:=by omega
  go_enter Tryz.func171,Tryz.ntmps171
  go_wp2
  go_ret
  exact⟨rfl,rfl⟩
theorem Jnp {g m cap k:Nat} {x:Ln} (s:Sep w0 r w (lnT p (.slice (some ⟨g,0,none⟩) m cap) S::R)) (h:S[k]? = some x):Calls Tryz.prog 171 #[Je p,.int .i64 (k:Int)] w fun e w'=>e=.returned (.pointer (some ⟨g,k*3,none⟩))/\w'=w:=by
 have c0:=s.cellH
 obtain⟨ao,cap',e,-⟩:=s.sliceH
 have hk:=(Jqb.1 h).1
 cases e
 clear s h
 generalize S.length=m at *
 have h0:¬ (k:Int)<0:=by omega
 have h1:¬ (m:Int)<=(k:Int):=by omega
 have h2:(k:Int)<(m:Int):=by omega
 go_enter Tryz.func171,Tryz.ntmps171
 go_wp2
 go_ret
 exact⟨rfl,rfl⟩
theorem J2f {g m cap k:Nat} {x:Ln} (s:Sep w0 r w (lnT p (.slice (some ⟨g,0,none⟩) m cap) S::R)) (h:S[k]? = some x):Calls Tryz.prog 172 #[.pointer (some ⟨g,k*3,none⟩)] w fun e w'=>e=.returned (.tuple #[.int .i64 x.a,.int .u64 x.g,.bool true,.int .i64 0])/\Sep w0 r w' (lnT p (.slice (some ⟨g,0,none⟩) m cap) (S.set k ⟨(some (some false)),x.a,x.g⟩)::R):=by
 obtain⟨c0,c1,c2⟩:=s.lineAt h
 have f0:=s.frozenL (k*3)
 have s1:=s.setIs h (some (some false))
 obtain⟨d0,d1,d2⟩:=s1.lineAt (k:=k) (x:=⟨(some (some false)),x.a,x.g⟩) (by simp[(List.getElem?_eq_some_iff.1 h).1])
 have S1:=Ja s1
 simp only[num] at S1 d0 d1 d2
 clear s s1 h
 generalize hq:k*3=q at *
 clear hq
 go_enter Tryz.func172,Tryz.ntmps172
 go_wp2_with fail
 generalize w.setCell ⟨g,q,none⟩ (.int .i64 2)=w1 at *
 go_quiet (fail)
 go_wp2
 (try simp only[Exit.inBlock,Exit.then])
 refine bodyPost_ret (J1a rfl _ _ _) rfl ?_
 exact⟨rfl,S1.out.below (JH (Below.refl _ _) _)⟩
end
theorem J1e (S:List Ln) (k:Nat) (y:Ln):Md S (k:Int) y=S.set k y:=by simp[Md]
theorem Xx {S:List Ln} {k:Nat} {x:Ln} (h:S[k]? = some x):S.set k x=S:=by
 apply List.ext_getElem?
 intro j
 rw[List.getElem?_set]
 split
 ·rename_i e
  subst e
  rw[if_pos (List.getElem?_eq_some_iff.1 h).1,h]
 ·rfl
section
variable {w0 w:World} {r p:Nat} {v:Value} {S:List Ln} {R:List Th}
theorem J3t (s:Sep w0 r w (lnT p v S::R)) (n a g:Int):Calls Tryz.prog 242 #[Je p,.int .i64 n,.int .i64 a,.int .u64 g] w fun e w'=>e=.returned (.int .i64 (Jw3 S n a))/\Sep w0 r w' (lnT p v (Jev S n a g)::R):=by
 cases h:atI S n with
 | none =>
  have HC:=Ja (J12 s h)
  have S1:=Ja s
  simp only[Jw3,Jev,h]
  clear s h
  go_enter Tryz.func242,Tryz.ntmps242
  go_wp2_with (go_at_call 171;refine Jqa HC.out ?_;rintro e w' ⟨rfl,rfl⟩;clear HC)
  go_ret
  exact⟨rfl,S1.out⟩
 | some x =>
  obtain⟨h0,-,-⟩:=GT h
  obtain⟨k,rfl⟩:∃ k:Nat,n=(k:Int):=⟨n.toNat,by omega⟩
  have hx:S[k]? = some x:=by rw[<- J11];exact h
  obtain⟨ao,cap,rfl,hg⟩:=s.sliceH
  obtain⟨b,rfl⟩:=hg k (Jqb.1 hx).1
  have HC:=Ja (Jnp s hx)
  obtain⟨c0,c1,c2⟩:=s.lineAt hx
  have f0:=s.frozenL (k*3)
  have f1:=s.frozenL (k*3+1)
  have f2:=s.frozenL (k*3+2)
  clear hg h0
  by_cases ha:a<0
  ·have S1:=Ja s
   simp only[Jw3,Jev,h,ha,if_true]
   clear s h hx
   generalize hq:k*3=q at *
   clear hq
   generalize S.length=m at *
   go_enter Tryz.func242,Tryz.ntmps242
   go_wp2_with (go_at_call 171;refine Jqa HC.out ?_;rintro e w' ⟨rfl,rfl⟩;clear HC)
   go_ret
   exact⟨rfl,S1.out⟩
  ·obtain⟨t,xa,xg⟩:=x
   rcases t with _|_|_|_
   ·have S1:=Ja (s.setLn hx ⟨(some none),a,g⟩)
    simp only[Jw3,Jev,h,ha,isU,if_true,if_false,J1e]
    simp only[num] at c0 c1 c2 S1
    clear s h hx
    generalize hq:k*3=q at *
    clear hq
    generalize S.length=m at *
    go_enter Tryz.func242,Tryz.ntmps242
    go_wp2_with (go_at_call 171;refine Jqa HC.out ?_;rintro e w' ⟨rfl,rfl⟩;clear HC)
    go_ret
    exact⟨rfl,S1.out⟩
   ·have S1:=Ja s
    simp only[Jw3,Jev,h,ha,isU,Bool.false_eq_true,if_false]
    simp only[num] at c0 c1 c2
    clear s h hx
    generalize hq:k*3=q at *
    clear hq
    generalize S.length=m at *
    go_enter Tryz.func242,Tryz.ntmps242
    go_wp2_with (go_at_call 171;refine Jqa HC.out ?_;rintro e w' ⟨rfl,rfl⟩;clear HC)
    go_ret
    exact⟨rfl,S1.out⟩
   ·have S1:=Ja s
    simp only[Jw3,Jev,h,ha,isU,Bool.false_eq_true,if_false]
    simp only[num] at c0 c1 c2
    clear s h hx
    generalize hq:k*3=q at *
    clear hq
    generalize S.length=m at *
    go_enter Tryz.func242,Tryz.ntmps242
    go_wp2_with (go_at_call 171;refine Jqa HC.out ?_;rintro e w' ⟨rfl,rfl⟩;clear HC)
    go_ret
    exact⟨rfl,S1.out⟩
   ·have S1:=Ja s
    simp only[Jw3,Jev,h,ha,isU,Bool.false_eq_true,if_false]
    simp only[num] at c0 c1 c2
    clear s h hx
    generalize hq:k*3=q at *
    clear hq
    generalize S.length=m at *
    go_enter Tryz.func242,Tryz.ntmps242
    go_wp2_with (go_at_call 171;refine Jqa HC.out ?_;rintro e w' ⟨rfl,rfl⟩;clear HC)
    go_ret
    exact⟨rfl,S1.out⟩
theorem J1h (s:Sep w0 r w (lnT p v S::R)) (n:Int):Calls Tryz.prog 71 #[Je p,.int .i64 n] w fun e w'=>e=.returned (.tuple #[.int .i64 (J0h isO S n),.int .u64 (Jt8 isO S n),.bool (J05 isO S n),.int .i64 (J0i S n)])/\Sep w0 r w' (lnT p v (Jif J1d S n)::R):=by
 cases h:atI S n with
 | none =>
  have HC:=Ja (J12 s h)
  have S1:=Ja s
  simp only[J0i,J05,J0h,Jt8,Jif,h]
  clear s h
  go_enter Tryz.func71,Tryz.ntmps71
  go_wp2_with (go_at_call 171;refine Jqa HC.out ?_;rintro e w' ⟨rfl,rfl⟩;clear HC)
  (try simp only[Exit.inBlock,Exit.then])
  refine bodyPost_ret (J1a rfl _ _ _) rfl ?_
  exact⟨rfl,S1.out⟩
 | some x =>
  obtain⟨h0,-,-⟩:=GT h
  obtain⟨k,rfl⟩:∃ k:Nat,n=(k:Int):=⟨n.toNat,by omega⟩
  have hx:S[k]? = some x:=by rw[<- J11];exact h
  obtain⟨ao,cap,rfl,hg⟩:=s.sliceH
  obtain⟨b,rfl⟩:=hg k (Jqb.1 hx).1
  have HC:=Ja (Jnp s hx)
  obtain⟨c0,c1,c2⟩:=s.lineAt hx
  have f0:=s.frozenL (k*3)
  have f1:=s.frozenL (k*3+1)
  have f2:=s.frozenL (k*3+2)
  clear hg h0
  obtain⟨t,xa,xg⟩:=x
  rcases t with _|_|_|_
  ·have S1:=Ja s
   simp only[J0i,J05,J0h,Jt8,Jif,h,isO,J1d,Bool.false_eq_true,if_false,J1e,Xx hx]
   simp only[num] at c0 c1 c2
   clear s h hx
   generalize hq:k*3=q at *
   clear hq
   generalize S.length=m at *
   go_enter Tryz.func71,Tryz.ntmps71
   go_wp2_with (go_at_call 171;refine Jqa HC.out ?_;rintro e w' ⟨rfl,rfl⟩;clear HC)
   (try simp only[Exit.inBlock,Exit.then])
   refine bodyPost_ret (J1a rfl _ _ _) rfl ?_
   exact⟨rfl,S1.out⟩
  ·have HT:=Ja (J2f s hx)
   simp only[J0i,J05,J0h,Jt8,Jif,h,isO,J1d,if_true,J1e]
   simp only[num] at c0 c1 c2
   clear s h hx
   generalize hq:k*3=q at *
   clear hq
   generalize S.length=m at *
   go_enter Tryz.func71,Tryz.ntmps71
   go_wp2_with (first|(go_at_call 171;refine Jqa HC.out ?_;rintro e w' ⟨rfl,rfl⟩;clear HC)|(go_at_call 172;refine Jqa HT.out ?_;rintro e w' ⟨rfl,s2⟩;have S2:=Ja s2;clear s2 HT c0 c1 c2 f0 f1 f2))
   (try simp only[Exit.inBlock,Exit.then])
   refine bodyPost_ret (J1a rfl _ _ _) rfl ?_
   exact⟨rfl,S2.out⟩
  ·have S1:=Ja (s.setIs hx (some (some true)))
   simp only[J0i,J05,J0h,Jt8,Jif,h,isO,J1d,Bool.false_eq_true,if_false,J1e]
   simp only[num] at c0 c1 c2 S1
   clear s h hx
   generalize hq:k*3=q at *
   clear hq
   generalize S.length=m at *
   go_enter Tryz.func71,Tryz.ntmps71
   go_wp2_with (go_at_call 171;refine Jqa HC.out ?_;rintro e w' ⟨rfl,rfl⟩;clear HC)
   (try simp only[Exit.inBlock,Exit.then])
   refine bodyPost_ret (J1a rfl _ _ _) rfl ?_
   exact⟨rfl,S1.out⟩
  ·have S1:=Ja s
   simp only[J0i,J05,J0h,Jt8,Jif,h,isO,J1d,Bool.false_eq_true,if_false,J1e,Xx hx]
   simp only[num] at c0 c1 c2
   clear s h hx
   generalize hq:k*3=q at *
   clear hq
   generalize S.length=m at *
   go_enter Tryz.func71,Tryz.ntmps71
   go_wp2_with (go_at_call 171;refine Jqa HC.out ?_;rintro e w' ⟨rfl,rfl⟩;clear HC)
   (try simp only[Exit.inBlock,Exit.then])
   refine bodyPost_ret (J1a rfl _ _ _) rfl ?_
   exact⟨rfl,S1.out⟩
theorem J4m (s:Sep w0 r w (lnT p v S::R)) (n:Int):Calls Tryz.prog 243 #[Je p,.int .i64 n] w fun e w'=>e=.returned (.tuple #[.int .i64 (J0h isM S n),.int .u64 (Jt8 isM S n),.bool (J05 isM S n),.int .i64 (J0i S n)])/\Sep w0 r w' (lnT p v (Jif Jiz S n)::R):=by
 cases h:atI S n with
 | none =>
  have HC:=Ja (J12 s h)
  have S1:=Ja s
  simp only[J0i,J05,J0h,Jt8,Jif,h]
  clear s h
  go_enter Tryz.func243,Tryz.ntmps243
  go_wp2_with (go_at_call 171;refine Jqa HC.out ?_;rintro e w' ⟨rfl,rfl⟩;clear HC)
  (try simp only[Exit.inBlock,Exit.then])
  refine bodyPost_ret (J1a rfl _ _ _) rfl ?_
  exact⟨rfl,S1.out⟩
 | some x =>
  obtain⟨h0,-,-⟩:=GT h
  obtain⟨k,rfl⟩:∃ k:Nat,n=(k:Int):=⟨n.toNat,by omega⟩
  have hx:S[k]? = some x:=by rw[<- J11];exact h
  obtain⟨ao,cap,rfl,hg⟩:=s.sliceH
  obtain⟨b,rfl⟩:=hg k (Jqb.1 hx).1
  have HC:=Ja (Jnp s hx)
  obtain⟨c0,c1,c2⟩:=s.lineAt hx
  have f0:=s.frozenL (k*3)
  have f1:=s.frozenL (k*3+1)
  have f2:=s.frozenL (k*3+2)
  clear hg h0
  obtain⟨t,xa,xg⟩:=x
  rcases t with _|_|_|_
  ·have S1:=Ja s
   simp only[J0i,J05,J0h,Jt8,Jif,h,isM,Jiz,Bool.false_eq_true,if_false,J1e,Xx hx]
   simp only[num] at c0 c1 c2
   clear s h hx
   generalize hq:k*3=q at *
   clear hq
   generalize S.length=m at *
   go_enter Tryz.func243,Tryz.ntmps243
   go_wp2_with (go_at_call 171;refine Jqa HC.out ?_;rintro e w' ⟨rfl,rfl⟩;clear HC)
   (try simp only[Exit.inBlock,Exit.then])
   refine bodyPost_ret (J1a rfl _ _ _) rfl ?_
   exact⟨rfl,S1.out⟩
  ·have S1:=Ja s
   simp only[J0i,J05,J0h,Jt8,Jif,h,isM,Jiz,Bool.false_eq_true,if_false,J1e,Xx hx]
   simp only[num] at c0 c1 c2
   clear s h hx
   generalize hq:k*3=q at *
   clear hq
   generalize S.length=m at *
   go_enter Tryz.func243,Tryz.ntmps243
   go_wp2_with (go_at_call 171;refine Jqa HC.out ?_;rintro e w' ⟨rfl,rfl⟩;clear HC)
   (try simp only[Exit.inBlock,Exit.then])
   refine bodyPost_ret (J1a rfl _ _ _) rfl ?_
   exact⟨rfl,S1.out⟩
  ·have S1:=Ja (s.setIs hx (some none))
   simp only[J0i,J05,J0h,Jt8,Jif,h,isM,Jiz,Bool.false_eq_true,if_false,J1e]
   simp only[num] at c0 c1 c2 S1
   clear s h hx
   generalize hq:k*3=q at *
   clear hq
   generalize S.length=m at *
   go_enter Tryz.func243,Tryz.ntmps243
   go_wp2_with (go_at_call 171;refine Jqa HC.out ?_;rintro e w' ⟨rfl,rfl⟩;clear HC)
   (try simp only[Exit.inBlock,Exit.then])
   refine bodyPost_ret (J1a rfl _ _ _) rfl ?_
   exact⟨rfl,S1.out⟩
  ·have HT:=Ja (J2f s hx)
   simp only[J0i,J05,J0h,Jt8,Jif,h,isM,Jiz,if_true,J1e]
   simp only[num] at c0 c1 c2
   clear s h hx
   generalize hq:k*3=q at *
   clear hq
   generalize S.length=m at *
   go_enter Tryz.func243,Tryz.ntmps243
   go_wp2_with (first|(go_at_call 171;refine Jqa HC.out ?_;rintro e w' ⟨rfl,rfl⟩;clear HC)|(go_at_call 172;refine Jqa HT.out ?_;rintro e w' ⟨rfl,s2⟩;have S2:=Ja s2;clear s2 HT c0 c1 c2 f0 f1 f2))
   (try simp only[Exit.inBlock,Exit.then])
   refine bodyPost_ret (J1a rfl _ _ _) rfl ?_
   exact⟨rfl,S2.out⟩
end
section
variable {w0 w:World} {r p:Nat} {v:Value} {S T:List Ln} {R:List Th}
theorem J4o (s:Sep w0 r w (lnT p v S::R)) (n a g:Int) {E:Int} (hE:Jw3 S n a=E) (hT:Jev S n a g=T):Calls Tryz.prog 242 #[Je p,.int .i64 n,.int .i64 a,.int .u64 g] w fun e w'=>e=.returned (.int .i64 E)/\Sep w0 r w' (lnT p v T::R):=by
 subst hE hT
 exact J3t s n a g
theorem J38 (s:Sep w0 r w (lnT p v S::R)) (n:Int) {a g:Int} {q:Bool} {E:Int} (ha:J0h isO S n=a) (hg:Jt8 isO S n=g) (hq:J05 isO S n=q) (hE:J0i S n=E) (hT:Jif J1d S n=T):Calls Tryz.prog 71 #[Je p,.int .i64 n] w fun e w'=>e=.returned (.tuple #[.int .i64 a,.int .u64 g,.bool q,.int .i64 E])/\Sep w0 r w' (lnT p v T::R):=by
 subst ha hg hq hE hT
 exact J1h s n
theorem J46 (s:Sep w0 r w (lnT p v S::R)) (n:Int) {a g:Int} {q:Bool} {E:Int} (ha:J0h isM S n=a) (hg:Jt8 isM S n=g) (hq:J05 isM S n=q) (hE:J0i S n=E) (hT:Jif Jiz S n=T):Calls Tryz.prog 243 #[Je p,.int .i64 n] w fun e w'=>e=.returned (.tuple #[.int .i64 a,.int .u64 g,.bool q,.int .i64 E])/\Sep w0 r w' (lnT p v T::R):=by
 subst ha hg hq hE hT
 exact J4m s n
end
end Ir
end Go.Proofs.YtbfjjpdnoalojaaGreatDoor
