/- Below: KThB; no condition. -/
import Derived.Test.YtbfjjpdnoalojaaGreatDoorPa9
import Derived.Test.YtbfjjpdnoalojaaGreatDoorPxEr4
set_option maxHeartbeats 16000000
set_option maxRecDepth 100000
namespace Go.Proofs.YtbfjjpdnoalojaaGreatDoor
namespace Th
section
variable {h:Hs} {i:Nat}
theorem J17 (hi:i<h.L.length) (y:Td) (e1:y.st=(thr h i).st) (e2:y.c=(thr h i).c) (c:Int):Zu (M0 h i y) c=Zu h c:=by
 unfold Zu M0
 have:∀ (L:List Td) (i:Nat) (x:Td),L[i]? = some x->y.st=x.st->y.c=x.c->(L.set i y).findIdx? (fun x=>x.st == 2 && (x.c:Int) == c)=L.findIdx? (fun x=>x.st == 2 && (x.c:Int) == c):=by
  intro L
  induction L with
  | nil=>intro i x h;simp at h
  | cons z L ih =>
   intro i x h q1 q2
   cases i with
   | zero =>
    obtain rfl:z=x:=by simpa using h
    simp only[List.set_cons_zero,List.findIdx?_cons,q1,q2]
   | succ i =>
    simp only[List.set_cons_succ,List.findIdx?_cons]
    rw[ih i x (by simpa using h) q1 q2]
 exact this h.L i (thr h i) (M1 hi) e1 e2
theorem J3e (hi:i<h.L.length) (y:Td) (e1:y.st=(thr h i).st) (e2:y.c=(thr h i).c) (e3:y.p=(thr h i).p) (e4:y.g=(thr h i).g) {c:Int} (hr:Zu h c=some i):XR (M0 h i y) c=XR h c:=by
 unfold XR
 rw[J17 hi y e1 e2,hr]
 simp only
 have ht:thr (M0 h i y) i=y:=IU hi y
 rw[ht,Fd hi y _ e2]
 congr 2
 simp[e2,e3,e4]
end
end Th
namespace Th
open Go.RowKit Go.Deep Go.Shelf
section
variable {w0 w:World} {F:Nat->Prop} {p:Nat} {v u:Value} {qs:List Nat} {h:Hs}
theorem J1t {i:Nat} {c:Int} (hi:i<h.L.length) (hr:Zu h c=some i):Zu (M0 h i { thr h i with l:=0 }) c=some i:=(J17 hi { thr h i with l:=0 } rfl rfl c).trans hr
theorem J2n {i:Nat} {c:Int} (hi:i<h.L.length) (hr:Zu h c=some i):XR (M0 h i { thr h i with l:=0 }) c=XR h c:=J3e hi { thr h i with l:=0 } rfl rfl rfl rfl hr
theorem J3z {i:Nat} {c:Int} (iv:Inv h) (hi:i<h.L.length) (hr:Zu h c=some i) (j:Nat) (hj:Zu (M0 h i { thr h i with l:=0 }) c=some j):Inv (M0 (M0 h i { thr h i with l:=0 }) j { thr (M0 h i { thr h i with l:=0 }) j with l:=5 }):=by
 rw[J1t hi hr] at hj
 cases hj
 have hth:thr (M0 h i { thr h i with l:=0 }) i={ thr h i with l:=0 }:=IU hi _
 rw[hth]
 have:M0 (M0 h i { thr h i with l:=0 }) i { thr h i with l:=5 }=M0 h i { thr h i with l:=5 }:=by
  unfold M0
  simp only[List.set_set]
 exact this ▸ Jmb iv hi
theorem J4x (t:At Mx w0 F p v u qs h w) (ht:∀ u,Turn F w0 u->Tab u) (iv:Inv h) (c:Int) :
  Calls Tryz.prog 74 #[Je p,.int .i64 c] w fun e w'=>e=.returned (.bool (Xm h c))/\At Mx w0 F p v u qs (J1g h c) w':=by
 have IV:=Ja iv
 have HT:=Ja ht
 have T0:=Ja t
 have HS:=Ja iv.few
 have HR:=Ja (Jb3 t (by have:=iv.few;omega) c)
 clear t ht iv
 cases hr:Zu h c with
 | none =>
  have hy:J1g h c=h:=by unfold J1g;rw[hr]
  obtain⟨r1,r2⟩:=Ih hr
  rw[hy,r2]
  rw[r1,r2] at HR
  clear hr hy r1 r2 IV
  go_enter Tryz.func74,Tryz.ntmps74
  go_wp2_with (go_at_call 87;refine Jqa HR.out ?_;rintro e w1 ⟨rfl,b1⟩)
  go_ret
  exact⟨rfl,T0.out.below b1⟩
 | some i =>
  have hy:J1g h c=if (thr h i).l=1 then XR h c else M0 h i { thr h i with l:=(thr h i).l - 1 }:=by unfold J1g;rw[hr]
  obtain⟨x,hx1,hx2,hi,hx3,hx4⟩:=XF hr
  obtain⟨r1,r2⟩:=VZ hr
  rw[hy,r2]
  rw[r1,r2] at HR
  have HI:=Ja hi
  have HRO:=Ja hr
  have hlb:=(JL IV.out hi).l
  clear hr hy r1 r2 hx1 hx2 hx3 hx4 hi x
  obtain⟨ao,cap,rfl,hg⟩:=T0.out.slice
  obtain⟨g,rfl⟩:=hg i HI.out
  have HC:=Ja (fun u (b:Below w.heap.size w u)=>And.intro (T0.out.below b).cell0 (And.intro ((T0.out.below b).four HI.out).2.2.2 (And.intro ((T0.out.below b).frozenT (i*12+3)) ((T0.out.below b).set HI.out (j:=3) (c:=.int .i64 ((thr h i).l - 1)) (y:={ thr h i with l:=(thr h i).l - 1 }) (by omega) rfl))))
  have hiz:(i:Int)<(h.L.length:Int):=by have:=HI.out;omega
  have hw1:IntKind.i64.wrap ((thr h i).l - 1)=(thr h i).l - 1:=by
   unfold IntKind.wrap
   simp[IntKind.bits,IntKind.signed]
   omega
  clear hg T0
  by_cases h1:(thr h i).l=1
  ·rw[if_pos h1]
   have H1:=Ja h1
   rw[h1] at HC hw1 hlb
   clear h1
   have hz:(1:Int) - 1=0:=rfl
   rw[hz] at HC hw1
   go_enter Tryz.func74,Tryz.ntmps74
   go_wp2_with fail
   refine Jqa HR.out ?_
   rintro e w1 ⟨rfl,b1⟩
   obtain⟨c0,d0,f0,t2⟩:=HC.out w1 b1
   have T2:Hid (At Mx w0 F p _ _ qs (M0 h i { thr h i with l:=0 }) _):=t2
   have e0:=t2.cell0
   have e3:=(t2.four (i:=i) (by show i<(h.L.set i _).length;rw[List.length_set];exact HI.out)).2.2.2
   have hth:thr ⟨h.L.set i { thr h i with l:=0 },h.Q⟩ i={ thr h i with l:=0 }:=IU HI.out _
   rw[hth] at e3
   simp only at e3
   clear t2 b1 HC HR hth
   generalize hnL:h.L.length=nL at *
   go_wp2_with fail
   have hi:i<h.L.length:=by have:=HI.out;omega
   have HY:=Ja (Jit T2.out HT.out (by rw[Af];have:=HS.out;omega) c (J3z IV.out hi HRO.out))
   rw[(VZ (J1t hi HRO.out)).2,J2n hi HRO.out] at HY
   clear hi
   refine Jqa HY.out ?_
   rintro e w3 ⟨rfl,t3⟩
   have T3:=Ja t3
   clear t3
   go_wp2
   go_ret
   rw[hnL]
   exact⟨rfl,T3.out⟩
  ·rw[if_neg h1]
   have h2:((thr h i).l - 1 == 0)=false:=by simp;omega
   clear h1
   go_enter Tryz.func74,Tryz.ntmps74
   go_wp2_with fail
   refine Jqa HR.out ?_
   rintro e w1 ⟨rfl,b1⟩
   obtain⟨c0,d0,f0,t2⟩:=HC.out w1 b1
   have T2:Hid (At Mx w0 F p _ _ qs (M0 h i { thr h i with l:=(thr h i).l - 1 }) _):=t2
   have e0:=t2.cell0
   have e3:=(t2.four (i:=i) (by show i<(h.L.set i _).length;rw[List.length_set];exact HI.out)).2.2.2
   have hth:thr ⟨h.L.set i { thr h i with l:=(thr h i).l - 1 },h.Q⟩ i={ thr h i with l:=(thr h i).l - 1 }:=IU HI.out _
   rw[hth] at e3
   simp only at e3
   clear t2 b1 HC HR hth
   generalize hnL:h.L.length=nL at *
   go_wp2
   go_ret
   rw[hnL]
   exact⟨rfl,T2.out⟩
end
section
variable {w0 w:World} {r:Nat} {R:List Th} {p:Nat} {F:Nat->Prop} {h:Hs}
theorem J4b (s:Sep w0 r w (tT p F h::R)) (ht:∀ u,Below r w0 u->Tab u) (c:Int):Calls Tryz.prog 74 #[Je p,.int .i64 c] w fun e w'=>e=.returned (.bool (Xm h c))/\∃ F',Sep w0 r w' (tT p F' (J1g h c)::R):=by
 obtain⟨v,u,qs,t⟩:=s.head.1.at
 exact(J4x t (s.tabT ht) s.inv c).mono fun _ _ ⟨he,t'⟩=>⟨he,s.goT t'.goes (J11 s.inv c)⟩
end
end Th
end Go.Proofs.YtbfjjpdnoalojaaGreatDoor
