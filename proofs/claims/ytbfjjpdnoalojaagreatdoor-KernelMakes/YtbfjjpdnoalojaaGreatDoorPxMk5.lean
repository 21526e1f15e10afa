/- Below: KrErr KDo5 KLaw KrRuns KFx GSay; no condition. -/
import Derived.Test.YtbfjjpdnoalojaaGreatDoorPa32
import Derived.Test.YtbfjjpdnoalojaaGreatDoorPxMk2
import Derived.Test.YtbfjjpdnoalojaaGreatDoorPxMk3
import Derived.Test.YtbfjjpdnoalojaaGreatDoorPxMk4
set_option maxHeartbeats 16000000
set_option maxRecDepth 100000
set_option linter.unusedSectionVars false
namespace Go.Proofs.YtbfjjpdnoalojaaGreatDoor
section
section
variable [dCp:DecidableEq Sl.Cp] [dLim:∀ k,Decidable (Sl.ZV k)] [dBad:∀ k,Decidable (Sl.Xn k)] [dFit:∀ g z,Decidable (Sl.Fit g z)] [dF:∀ c:Sl.Cp,Decidable (Sl.Fine c)] [dMi:∀ c v,Decidable (Sl.JK c v)] [dWho:∀ x y,Decidable (Sl.Zx x y)] [dSl:DecidableEq Sl.Sl] [dLt:∀ a b,Decidable (Sl.MC a b)]
variable [dT:DecidableEq Tr.Sl] [dL:∀ k:Int,Decidable (Ca.ZV k)] [dC:∀ c:Ca.Cp,Decidable (Ca.Fine c)] [dM:∀ (c:Ca.Cp) (v:Int),Decidable (Ca.JK c v)] [dCc:DecidableEq Ca.Cp] [dCb:∀ k,Decidable (Ca.Xn k)] [dCf:∀ g z,Decidable (Ca.Fit g z)] [dCw:∀ x y,Decidable (Ca.Zx x y)]
variable {n m:Nat} {K:Kr}
structure Calm (K K':Kr):Prop where
 S:K'.S=K.S
 E:K'.E=K.E
 U:K'.U=K.U
 D:K'.D=K.D
theorem Calm.then {A B C:Kr} (h:Calm A B) (k:Calm B C):Calm A C:=⟨k.S.trans h.S,k.E.trans h.E,k.U.trans h.U,k.D.trans h.D⟩
end
end
section
open Go.RowKit Go.Deep Go.Shelf
open Classical
section
variable {w0 w w':World} {r p n m:Nat} {Y:Ly} {K:Kr} {R:List Th} {d:De}
def J3i:List Nat:=[0,1,4,6,9]
def qIn (q:Int):Bool:=decide (q<0) || decide (17<=q) || J3i.contains q.toNat
structure Cd (c:Cl):Prop where
 w:VC c.w
 A:VC c.A
 B:VC c.B
 C:VC c.C
 q:qIn c.q=true
theorem J3l {i:Nat} (h:qIn (i:Int)=true) (hi:i<17):J3i.contains i=true:=by
 unfold qIn at h
 rw[decide_eq_false (by omega),decide_eq_false (by omega)] at h
 exact h
theorem J2x (s:Sep w0 r w (kT p Y K::R)) (o:Dd w0 r n m K d) {i:Nat} (hq:d.c.q=(i:Int)) (hi:i<17) (hin:J3i.contains i=true) (hB:IA K d.c i=true) (hy:d.y=if nW i=0 then Sl.no else Jk K d.c.w) :
  Calls Tryz.prog (fnL.getD i 0) #[Je p,JD d] w (DR w0 r p R (if Jk4 d.c d.x=true then Ay K d.core d.who d.c d.x else (K,Ii 181))):=by
 have hat:atB d.x i=true:=by
  rw[Jjz,<- o.x] at hB
  exact(Bool.and_eq_true_iff.1 hB).1
 have hkk:=J06 hat
 have hrr:0<=d.x.r/\d.x.r<=7:=by rw[o.x];exact Jw5 o.v
 have hmay:=Jk5 (c:=d.c) (x:=d.x) hq hi hrr
 rw[hat,Bool.true_and] at hmay
 have hwy:nW i≠0->d.y=Jk K d.c.w/\(Jk K d.c.w).k=nW i:=fun h=>by
  rw[if_neg h] at hy
  rw[Jjz] at hB
  have h2:=(Bool.and_eq_true_iff.1 hB).2
  simp only[Bool.or_eq_true,Bool.and_eq_true,beq_iff_eq] at h2
  refine⟨hy,?_⟩
  rcases h2 with h2|⟨_,h2|h2⟩
  ·exact absurd h2 h
  ·exact absurd h2 h
  ·exact h2
 have hcs:i=0\/i=1\/i=2\/i=3\/i=4\/i=5\/i=6\/i=7\/i=8\/i=9\/i=10\/i=11\/i=12\/i=13\/i=14\/i=15\/i=16:=by omega
 rw[hmay]
 clear hmay hB hat
 have hd:∀ X,Ay K d.core d.who d.c d.x=X->X=Ay K d.core d.who d.c d.x:=fun X h=>h.symm
 rcases hcs with rfl|rfl|rfl|rfl|rfl|rfl|rfl|rfl|rfl|rfl|rfl|rfl|rfl|rfl|rfl|rfl|rfl
 ·rw[hq,if_pos (by rfl)]
  unfold Ay
  rw[hq]
  exact Jx0 s o (hkk.2.resolve_left (by decide))
 ·by_cases hk:d.x.k=1
  ·have h:=J0z s o
   rw[if_pos hk] at h
   rw[hq,hk,if_neg (by decide)]
   exact h
  ·have h:=J0z s o
   rw[if_neg hk] at h
   have e:(d.x.k == 1)=false:=by simpa using hk
   rw[hq,e,if_pos (by rfl)]
   unfold Ay
   rw[hq]
   exact h
 ·exact absurd hin (by decide)
 ·exact absurd hin (by decide)
 ·rw[hq,if_pos (by rfl)]
  unfold Ay
  rw[hq]
  exact Jx1 s o
 ·exact absurd hin (by decide)
 ·rw[hq,if_pos (by rfl)]
  unfold Ay
  rw[hq]
  exact Jv3 s o
 ·exact absurd hin (by decide)
 ·exact absurd hin (by decide)
 ·rw[hq,if_pos (by rfl)]
  unfold Ay
  rw[hq]
  exact J00 s o (hkk.2.resolve_left (by decide))
 ·exact absurd hin (by decide)
 ·exact absurd hin (by decide)
 ·exact absurd hin (by decide)
 ·exact absurd hin (by decide)
 ·exact absurd hin (by decide)
 ·exact absurd hin (by decide)
 ·exact absurd hin (by decide)
theorem J3h (s:Sep w0 r w (kT p Y K::R)) (o:Kd w0 r n m K) (core:Int) {c:Cl} (b:Cd c) :
  Calls Tryz.prog 13 #[Je p,.int .i64 core,ZI c] w (DR w0 r p R (doK K core c)):=by
 unfold doK
 by_cases hb:Th.Xm (JQ K core).h core=true
 ·rw[if_pos hb]
  by_cases hq:0<=c.q/\c.q<=17
  ·rw[if_pos hq]
   obtain⟨i,hi⟩:∃ i:Nat,c.q=(i:Int):=⟨c.q.toNat,by omega⟩
   obtain⟨t1,t2⟩:=Jl5 (o.v.picked core) hb
   by_cases h17:c.q=17
   ·rw[if_pos h17]
    exact Jv7 s o.ht core c hb hi (by omega) _ rfl fun Y2 W T s2=>by
     obtain rfl:i=17:=by omega
     exact DR.plain (Jv2 s2 (F5 c core _) o.ht)
   ·rw[if_neg h17]
    have hi17:i<17:=by omega
    have vp:=o.v.picked core
    have ec:∀ a,Jk (JQ K core) a=Jk K a:=fun _=>rfl
    rw[<- ec]
    by_cases hB:IA (JQ K core) c i=true
    ·refine J0s s o.ht core c hb hi hi17 o.v.ts.n0 o.N o.hn hB _ rfl fun Y2 W T s2=>?_
     have hk:(Jk (JQ K core) c.a).k≠0:=by
      rw[Jjz] at hB
      exact(J06 (Bool.and_eq_true_iff.1 hB).1).1
     exact J2x s2 (d:=de1 c core (Th.XE (Th.JB K.h core) core) (Jk (JQ K core) c.a) (if nW i=0 then Sl.no else Jk (JQ K core) c.w)) ⟨vp,o.hm,o.fu,o.T,o.hr,o.ht,t1,t2,b.A,b.B,b.C,b.w,rfl,rfl,hk⟩ hi hi17 (J3l (by rw[<- hi];exact b.q) hi17) hB rfl
    ·rw[Jx4 vp hi hi17 (by simpa using hB)]
     exact DR.plain (J0w s o.ht core c hb hi hi17 o.v.ts.n0 o.N o.hn (by simpa using hB))
  ·rw[if_neg hq]
   exact DR.plain (Jv5 s o.ht core c hb hq)
 ·rw[if_neg hb]
  have hb2:Th.Xm (JQ K core).h core=false:=by simpa using hb
  exact DR.plain (Jv6 s o.ht core c hb2)
end
theorem Lt.below {w w':World} (h:Lt w) (b:Below w.heap.size w w'):Lt w':=⟨h.u.below b h.u.size,h.n.below b h.n.size,h.t.below b⟩
section
variable {w0 w w':World} {p n m:Nat} {Y:Ly} {K K':Kr} {R:List Th}
theorem J2y (s:Sep w0 w0.heap.size w (kT p Y K::R)) (L:Lt w0) (v:Kv n m K) (hm:m<=100000) (core:Int) {c:Cl} (b:Cd c) {e x k:Int} {f:List Lr} (hX:doK K core c=(K',⟨e,x,k,f⟩)) :
  Calls Tryz.prog 13 #[Je p,.int .i64 core,.agg #[.int .i64 c.q,.int .i64 c.a,.int .i64 c.w,.int .i64 c.A,.int .i64 c.B,.int .i64 c.C]] w fun r w'=>∃ ao cap Y',r=.returned (.agg #[.int .i64 e,.int .u64 x,.int .i64 k,.slice ao f.length cap])/\Sep w0 w0.heap.size w' (kT p Y' K'::Jv Vq (.slice ao f.length cap) f::R):=by
 have h:=J3h s ⟨v.v,hm,v.fu,L.u,L.u.size,L.n,L.n.size,fun u b=>L.t.below b⟩ core b
 rw[hX] at h
 refine Jqa h ?_
 rintro r w' ⟨u,rfl,Y',s'⟩
 obtain⟨ao,cap,rfl⟩:=s'.listIs (E:=Vq) (v:=u) (A:=f) (by simp)
 exact⟨ao,cap,Y',rfl,s'⟩
end
end
section
def J24 (a b:Sl.Cp):Bool:=a.k == b.k && a.o == b.o && a.r == b.r && a.b == b.b && a.g == b.g && a.z == b.z
def J1e:List (Sl.Sl×Sl.Cp)->List (Sl.Sl×Sl.Cp)->Bool
 | [],[]=>true
 | (s,c)::A,(t,d)::B=>s.n == t.n && s.i == t.i && J24 c d && J1e A B
 | _,_=>false
theorem J25 {a b:Sl.Cp} (h:J24 a b=true):a=b:=by
 unfold J24 at h
 simp only[Bool.and_eq_true,beq_iff_eq] at h
 obtain⟨⟨⟨⟨⟨h1,h2⟩,h3⟩,h4⟩,h5⟩,h6⟩:=h
 cases a
 cases b
 simp only at h1 h2 h3 h4 h5 h6
 subst h1 h2 h3 h4 h5 h6
 rfl
theorem J1c:∀ {A B:List (Sl.Sl×Sl.Cp)},J1e A B=true->A=B
 | [],[],_=>rfl
 | [],_::_,h=>by cases h
 | _::_,[],h=>by cases h
 | (s,c)::A,(t,d)::B,h=>by
  unfold J1e at h
  simp only[Bool.and_eq_true,beq_iff_eq] at h
  obtain⟨⟨⟨h1,h2⟩,h3⟩,h4⟩:=h
  rw[J1c h4,J25 h3]
  cases s
  cases t
  simp only at h1 h2
  subst h1 h2
  rfl
def K0:Kr:=Jw2 1 12 0 [5]
def J1a (c o:Int) (w m:Nat):List (Sl.Sl×Sl.Cp):=(List.range m).map fun i=>(sl ((w+i:Nat):Int),⟨c,o+(i:Int),7,0,0,0⟩)
def J3d (c:Int):Int:=if c=3\/c=8 then 1 else 0
def J09 (c:Int) (m w:Nat):Bool:=
 let t:=Gg K0 0 ⟨0,1,w,c,0,m⟩
 let r:=Gg t.1 0 ⟨4,1,0,0,0,0⟩
 t.2.e == 0 && J1e (Sl.JX t.1.S) (Sl.JX K0.S++J1a c (J3d c) w m) && r.2.e == 0 && r.2.w == (m:Int) && J1e (Sl.JX r.1.S) (Sl.JX K0.S)
open Go.RowKit Go.Deep Go.Shelf
open Classical
section
variable {w0 w w':World} {r:Nat} {R:List Th}
theorem J1d {w0:World} (L:Lt w0) {n m:Nat} {K K':Kr} (v:Kv n m K) (hm:m<=100000) {core:Int} {c:Cl} (b:Cd c) {e x k:Int} (hX:doK K core c=(K',⟨e,x,k,[]⟩)) (p:Nat) (W:World) (Y:Ly) (T:List Th) (s:Sep w0 w0.heap.size W (kT p Y K::T)) :
  Calls Tryz.prog 13 #[Je p,.int .i64 core,.agg #[.int .i64 c.q,.int .i64 c.a,.int .i64 c.w,.int .i64 c.A,.int .i64 c.B,.int .i64 c.C]] W fun r w'=>∃ ao cap Y',r=.returned (.agg #[.int .i64 e,.int .u64 x,.int .i64 k,.slice ao 0 cap])/\Sep w0 w0.heap.size w' (kT p Y' K'::T):=by
 refine Jqa (J2y s L v hm core b hX) ?_
 rintro r w' ⟨ao,cap,Y',rfl,s'⟩
 exact⟨ao,cap,Y',rfl,s'.drop2⟩
theorem J1i (w:World) (L:Lt w):Calls Tryz.prog 21 #[] w fun e w'=>e=.returned (.bool true)/\Below w.heap.size w w':=by
 have k0:Kv 1 0 Kf0:=by
  have h:=J0t (n:=1) (m:=2) (b:=10) (Q:=[5]) rfl rfl
  rw[J0x] at h
  exact h
 have x1:doK Kf0 0 cf1=(Kf1,⟨0,0,(-1),[]⟩):=J07 rfl f1
 have k1:=k0.call (by omega) (small _ (by decide)) x1
 have H1:Hid (∀ (p:Nat) (W:World) (Y:Ly) (T:List Th),Sep w w.heap.size W (kT p Y Kf0::T)->Calls Tryz.prog 13 #[Je p,.int .i64 0,.agg #[.int .i64 0,.int .i64 1,.int .i64 20,.int .i64 4,.int .i64 0,.int .i64 1]] W fun r w'=>∃ ao cap Y',r=.returned (.agg #[.int .i64 0,.int .u64 0,.int .i64 (-1),.slice ao 0 cap])/\Sep w w.heap.size w' (kT p Y' Kf1::T)):=fun p W Y T s=>J1d L k0 (by omega) ⟨small _ (by decide),small _ (by decide),small _ (by decide),small _ (by decide),rfl⟩ x1 p W Y T s
 have x2:doK Kf1 0 cf2=(Kf2,⟨0,0,(-1),[]⟩):=J07 rfl f2
 have k2:=k1.call (by omega) (small _ (by decide)) x2
 have H2:Hid (∀ (p:Nat) (W:World) (Y:Ly) (T:List Th),Sep w w.heap.size W (kT p Y Kf1::T)->Calls Tryz.prog 13 #[Je p,.int .i64 0,.agg #[.int .i64 1,.int .i64 20,.int .i64 21,.int .i64 2,.int .i64 7,.int .i64 0]] W fun r w'=>∃ ao cap Y',r=.returned (.agg #[.int .i64 0,.int .u64 0,.int .i64 (-1),.slice ao 0 cap])/\Sep w w.heap.size w' (kT p Y' Kf2::T)):=fun p W Y T s=>J1d L k1 (by omega) ⟨small _ (by decide),small _ (by decide),small _ (by decide),small _ (by decide),rfl⟩ x2 p W Y T s
 have x3:doK Kf2 0 cf3=(Kf3,⟨181,0,(-1),[]⟩):=J07 rfl f3
 have k3:=k2.call (by omega) (small _ (by decide)) x3
 have H3:Hid (∀ (p:Nat) (W:World) (Y:Ly) (T:List Th),Sep w w.heap.size W (kT p Y Kf2::T)->Calls Tryz.prog 13 #[Je p,.int .i64 0,.agg #[.int .i64 9,.int .i64 21,.int .i64 0,.int .i64 0,.int .i64 0,.int .i64 0]] W fun r w'=>∃ ao cap Y',r=.returned (.agg #[.int .i64 181,.int .u64 0,.int .i64 (-1),.slice ao 0 cap])/\Sep w w.heap.size w' (kT p Y' Kf3::T)):=fun p W Y T s=>J1d L k2 (by omega) ⟨small _ (by decide),small _ (by decide),small _ (by decide),small _ (by decide),rfl⟩ x3 p W Y T s
 have x4:doK Kf3 0 cf4=(Kf4,⟨0,2,(-1),[]⟩):=J07 rfl f4
 have k4:=k3.call (by omega) (small _ (by decide)) x4
 have H4:Hid (∀ (p:Nat) (W:World) (Y:Ly) (T:List Th),Sep w w.heap.size W (kT p Y Kf3::T)->Calls Tryz.prog 13 #[Je p,.int .i64 0,.agg #[.int .i64 4,.int .i64 1,.int .i64 0,.int .i64 0,.int .i64 0,.int .i64 0]] W fun r w'=>∃ ao cap Y',r=.returned (.agg #[.int .i64 0,.int .u64 2,.int .i64 (-1),.slice ao 0 cap])/\Sep w w.heap.size w' (kT p Y' Kf4::T)):=fun p W Y T s=>J1d L k3 (by omega) ⟨small _ (by decide),small _ (by decide),small _ (by decide),small _ (by decide),rfl⟩ x4 p W Y T s
 have x5:doK Kf4 0 cf5=(Kf5,⟨180,0,(-1),[]⟩):=J07 rfl f5
 have k5:=k4.call (by omega) (small _ (by decide)) x5
 have H5:Hid (∀ (p:Nat) (W:World) (Y:Ly) (T:List Th),Sep w w.heap.size W (kT p Y Kf4::T)->Calls Tryz.prog 13 #[Je p,.int .i64 0,.agg #[.int .i64 18,.int .i64 0,.int .i64 0,.int .i64 0,.int .i64 0,.int .i64 0]] W fun r w'=>∃ ao cap Y',r=.returned (.agg #[.int .i64 180,.int .u64 0,.int .i64 (-1),.slice ao 0 cap])/\Sep w w.heap.size w' (kT p Y' Kf5::T)):=fun p W Y T s=>J1d L k4 (by omega) ⟨small _ (by decide),small _ (by decide),small _ (by decide),small _ (by decide),rfl⟩ x5 p W Y T s
 have x6:doK Kf5 1 cf6=(Kf6,⟨182,0,(-1),[]⟩):=J07 rfl f6
 have k6:=k5.call (by omega) (small _ (by decide)) x6
 have H6:Hid (∀ (p:Nat) (W:World) (Y:Ly) (T:List Th),Sep w w.heap.size W (kT p Y Kf5::T)->Calls Tryz.prog 13 #[Je p,.int .i64 1,.agg #[.int .i64 0,.int .i64 0,.int .i64 0,.int .i64 0,.int .i64 0,.int .i64 0]] W fun r w'=>∃ ao cap Y',r=.returned (.agg #[.int .i64 182,.int .u64 0,.int .i64 (-1),.slice ao 0 cap])/\Sep w w.heap.size w' (kT p Y' Kf6::T)):=fun p W Y T s=>J1d L k5 (by omega) ⟨small _ (by decide),small _ (by decide),small _ (by decide),small _ (by decide),rfl⟩ x6 p W Y T s
 have x7:doK Kf6 0 cf7=(Kf7,⟨0,0,(-1),[]⟩):=J07 rfl f7
 have k7:=k6.call (by omega) (small _ (by decide)) x7
 have H7:Hid (∀ (p:Nat) (W:World) (Y:Ly) (T:List Th),Sep w w.heap.size W (kT p Y Kf6::T)->Calls Tryz.prog 13 #[Je p,.int .i64 0,.agg #[.int .i64 6,.int .i64 2,.int .i64 0,.int .i64 0,.int .i64 0,.int .i64 0]] W fun r w'=>∃ ao cap Y',r=.returned (.agg #[.int .i64 0,.int .u64 0,.int .i64 (-1),.slice ao 0 cap])/\Sep w w.heap.size w' (kT p Y' Kf7::T)):=fun p W Y T s=>J1d L k6 (by omega) ⟨small _ (by decide),small _ (by decide),small _ (by decide),small _ (by decide),rfl⟩ x7 p W Y T s
 have x8:doK Kf7 0 cf8=(Kf8,⟨182,0,(-1),[]⟩):=J07 rfl f8
 have k8:=k7.call (by omega) (small _ (by decide)) x8
 have H8:Hid (∀ (p:Nat) (W:World) (Y:Ly) (T:List Th),Sep w w.heap.size W (kT p Y Kf7::T)->Calls Tryz.prog 13 #[Je p,.int .i64 0,.agg #[.int .i64 17,.int .i64 0,.int .i64 0,.int .i64 0,.int .i64 0,.int .i64 0]] W fun r w'=>∃ ao cap Y',r=.returned (.agg #[.int .i64 182,.int .u64 0,.int .i64 (-1),.slice ao 0 cap])/\Sep w w.heap.size w' (kT p Y' Kf8::T)):=fun p W Y T s=>J1d L k7 (by omega) ⟨small _ (by decide),small _ (by decide),small _ (by decide),small _ (by decide),rfl⟩ x8 p W Y T s
 have HB:Hid (∀ (g:Nat) (W:World) (T:List Th),Sep w w.heap.size W (Ta.Xa (.slice (some ⟨g,0,none⟩) 1 1) [5]::T)->Calls Tryz.prog 10 #[.agg #[.int .i64 1,.int .i64 10,.int .i64 2,.slice (some ⟨g,0,none⟩) 1 1]] W fun r w'=>∃ p,r=.returned (.tuple #[Je p,.int .i64 0])/\∃ Y,Sep w w.heap.size w' (kT p Y Kf0::T)):=fun g W T s=>by
  have h:=J0r s (fun u b=>L.t.below b) (n:=1) (m:=2) (b:=10) rfl rfl
  rw[J0x] at h
  refine Jqa h ?_
  rintro r w' ⟨p,rfl,Y,s'⟩
  exact⟨p,rfl,Y,s'.drop2⟩
 have HBN:Hid (∀ (W:World) (T:List Th),Sep w w.heap.size W T->Calls Tryz.prog 10 #[.agg #[.int .i64 0,.int .i64 0,.int .i64 0,.slice none 0 0]] W fun r w'=>r=.returned (.tuple #[.pointer none,.int .i64 1])/\Sep w w.heap.size w' T):=fun W T s=>by
  refine Jqa (J0q (s.nil (E:=Ta.Ui)) (n:=0) (b:=0) (m:=0) rfl) ?_
  rintro r w' ⟨rfl,s'⟩
  exact⟨rfl,s'.drop⟩
 have HH3:Hid (∀ (p:Nat) (W:World) (Y:Ly) (T:List Th),Sep w w.heap.size W (kT p Y Kf3::T)->Calls Tryz.prog 23 #[Je p] W fun r w'=>∃ ao cap,r=.returned (.slice ao 8 cap)/\Sep w w.heap.size w' (kT p Y Kf3::T)):=fun p W Y T s=>by
  have h:=Jv8 s
  rw[fh3] at h
  refine Jqa h ?_
  rintro r w' ⟨ao,cap,rfl,s'⟩
  exact⟨ao,cap,rfl,s'.drop2⟩
 have HH8:Hid (∀ (p:Nat) (W:World) (Y:Ly) (T:List Th),Sep w w.heap.size W (kT p Y Kf8::T)->Calls Tryz.prog 23 #[Je p] W fun r w'=>∃ ao cap,r=.returned (.slice ao 6 cap)/\Sep w w.heap.size w' (kT p Y Kf8::T)):=fun p W Y T s=>by
  have h:=Jv8 s
  rw[fh8] at h
  refine Jqa h ?_
  rintro r w' ⟨ao,cap,rfl,s'⟩
  exact⟨ao,cap,rfl,s'.drop2⟩
 have HU:Hid (∀ (p:Nat) (W:World) (Y:Ly) (T:List Th),Sep w w.heap.size W (kT p Y Kf6::T)->Calls Tryz.prog 26 #[Je p,.int .i64 0] W fun r w'=>r=.returned (.tuple #[.agg #[.int .u64 0,.int .i64 10,.int .u64 0],.bool true])/\Sep w w.heap.size w' (kT p Y Kf6::T)):=fun p W Y T s=>Jq5 s (n:=0) (i:=0) rfl fu6
 have S0:=Ja (GL w)
 have heq:∀ W,(Op.equalIn 10000 70 (.agg #[.int .u64 0,.int .i64 10,.int .u64 0]) (.agg #[.int .u64 0,.int .i64 10,.int .u64 0])).run Tryz.prog W=.ok true W:=fun W=>Js4 W 0 10 0 0 10 0
 clear L k0 x1 k1 x2 k2 x3 k3 x4 k4 x5 k5 x6 k6 x7 k7 x8 k8
 go_enter Tryz.func21,Tryz.ntmps21
 go_wp2_with (first
  | (go_at_call 86;refine Jqa (J0u S0.out) ?_;rintro e w1 ⟨g,rfl,s1⟩;have S1:=Ja s1;clear s1)
  | (go_at_call 10;(with_reducible refine Jqa (HB.out _ _ _ S1.out) ?_);rintro e w2 ⟨p,rfl,Y0,s2⟩;have T0:=Ja s2;clear s2)
  | (go_at_call 13;(with_reducible refine Jqa (H1.out _ _ _ _ T0.out) ?_);rintro e v1 ⟨a1,c1,Y1,rfl,s1⟩;have T1:=Ja ((s1.box (.cells #[.int .i64 0,.int .u64 0,.int .i64 (-1),.slice a1 0 c1] 42)).swap);clear s1)
  | (go_at_call 13;(with_reducible refine Jqa (H2.out _ _ _ _ T1.out) ?_);rintro e v2 ⟨a2,c2,Y2,rfl,s2⟩;have T2:=Ja ((s2.box (.cells #[.int .i64 0,.int .u64 0,.int .i64 (-1),.slice a2 0 c2] 42)).swap);clear s2)
  | (go_at_call 13;(with_reducible refine Jqa (H3.out _ _ _ _ T2.out) ?_);rintro e v3 ⟨a3,c3,Y3,rfl,s3⟩;have T3:=Ja ((s3.box (.cells #[.int .i64 181,.int .u64 0,.int .i64 (-1),.slice a3 0 c3] 42)).swap);clear s3)
  | (go_at_call 23;(with_reducible refine Jqa (HH3.out _ _ _ _ T3.out) ?_);rintro e v31 ⟨a31,c31,rfl,s3⟩;have T31:=Ja s3;clear s3)
  | (go_at_call 13;(with_reducible refine Jqa (H4.out _ _ _ _ T31.out) ?_);rintro e v4 ⟨a4,c4,Y4,rfl,s4⟩;have T4:=Ja ((s4.box (.cells #[.int .i64 0,.int .u64 2,.int .i64 (-1),.slice a4 0 c4] 42)).swap);clear s4)
  | (go_at_call 13;(with_reducible refine Jqa (H5.out _ _ _ _ T4.out) ?_);rintro e v5 ⟨a5,c5,Y5,rfl,s5⟩;have T5:=Ja ((s5.box (.cells #[.int .i64 180,.int .u64 0,.int .i64 (-1),.slice a5 0 c5] 42)).swap);clear s5)
  | (go_at_call 13;(with_reducible refine Jqa (H6.out _ _ _ _ T5.out) ?_);rintro e v6 ⟨a6,c6,Y6,rfl,s6⟩;have T6:=Ja ((s6.box (.cells #[.int .i64 182,.int .u64 0,.int .i64 (-1),.slice a6 0 c6] 42)).swap);clear s6)
  | (go_at_call 26;(with_reducible refine Jqa (HU.out _ _ _ _ T6.out) ?_);rintro e v61 ⟨rfl,s6⟩;have T61:=Ja ((s6.box (.cells #[.int .u64 0,.int .i64 10,.int .u64 0] 70)).swap);clear s6)
  | (go_at_call 13;(with_reducible refine Jqa (H7.out _ _ _ _ T61.out) ?_);rintro e v7 ⟨a7,c7,Y7,rfl,s7⟩;have T7:=Ja ((s7.box (.cells #[.int .i64 0,.int .u64 0,.int .i64 (-1),.slice a7 0 c7] 42)).swap);clear s7)
  | (go_at_call 13;(with_reducible refine Jqa (H8.out _ _ _ _ T7.out) ?_);rintro e v8 ⟨a8,c8,Y8,rfl,s8⟩;have T8:=Ja ((s8.box (.cells #[.int .i64 182,.int .u64 0,.int .i64 (-1),.slice a8 0 c8] 42)).swap);clear s8)
  | (go_at_call 10;(with_reducible refine Jqa (HBN.out _ _ T8.out) ?_);rintro e w9 ⟨rfl,s9⟩;have av10:w9.cell? ⟨v1.heap.size,0,none⟩=some (.int .i64 0):=(s9.blkCell (p:=v1.heap.size) (Jmc (Jmc (Jmc (Jmc (Jmc (Jmc (Jmc (Jmc (Jmc (Jms)))))))))) 0).1;have av12:w9.cell? ⟨v1.heap.size,2,none⟩=some (.int .i64 (-1)):=(s9.blkCell (p:=v1.heap.size) (Jmc (Jmc (Jmc (Jmc (Jmc (Jmc (Jmc (Jmc (Jmc (Jms)))))))))) 2).1;have av20:w9.cell? ⟨v2.heap.size,0,none⟩=some (.int .i64 0):=(s9.blkCell (p:=v2.heap.size) (Jmc (Jmc (Jmc (Jmc (Jmc (Jmc (Jmc (Jmc (Jms))))))))) 0).1;have av30:w9.cell? ⟨v3.heap.size,0,none⟩=some (.int .i64 181):=(s9.blkCell (p:=v3.heap.size) (Jmc (Jmc (Jmc (Jmc (Jmc (Jmc (Jmc (Jms)))))))) 0).1;have av40:w9.cell? ⟨v4.heap.size,0,none⟩=some (.int .i64 0):=(s9.blkCell (p:=v4.heap.size) (Jmc (Jmc (Jmc (Jmc (Jmc (Jmc (Jms))))))) 0).1;have av41:w9.cell? ⟨v4.heap.size,1,none⟩=some (.int .u64 2):=(s9.blkCell (p:=v4.heap.size) (Jmc (Jmc (Jmc (Jmc (Jmc (Jmc (Jms))))))) 1).1;have T9:=Ja s9;clear s9)
  | (go_at_call 23;(with_reducible refine Jqa (HH8.out _ _ _ _ T9.out) ?_);rintro e w10 ⟨a10,c10,rfl,s10⟩;have bv50:w10.cell? ⟨v5.heap.size,0,none⟩=some (.int .i64 180):=(s10.blkCell (p:=v5.heap.size) (Jmc (Jmc (Jmc (Jmc (Jmc (Jms)))))) 0).1;have bv60:w10.cell? ⟨v6.heap.size,0,none⟩=some (.int .i64 182):=(s10.blkCell (p:=v6.heap.size) (Jmc (Jmc (Jmc (Jmc (Jms))))) 0).1;have bv70:w10.cell? ⟨v7.heap.size,0,none⟩=some (.int .i64 0):=(s10.blkCell (p:=v7.heap.size) (Jmc (Jmc (Jms))) 0).1;have bv80:w10.cell? ⟨v8.heap.size,0,none⟩=some (.int .i64 182):=(s10.blkCell (p:=v8.heap.size) (Jmc (Jms)) 0).1;have bu0:w10.cell? ⟨v61.heap.size,0,none⟩=some (.int .u64 0):=(s10.blkCell (p:=v61.heap.size) (Jmc (Jmc (Jmc (Jms)))) 0).1;have bu1:w10.cell? ⟨v61.heap.size,1,none⟩=some (.int .i64 10):=(s10.blkCell (p:=v61.heap.size) (Jmc (Jmc (Jmc (Jms)))) 1).1;have bu2:w10.cell? ⟨v61.heap.size,2,none⟩=some (.int .u64 0):=(s10.blkCell (p:=v61.heap.size) (Jmc (Jmc (Jmc (Jms)))) 2).1;have T10:=Ja s10;clear s10)
  | fail)
 go_ret
 exact⟨rfl,T10.out.low⟩
end
end
section
open Go.ChangeShapes Go.WideShapes Go.ChangeAt Go.RowKit Go.Joins Go.Deep
theorem J3n:ownKnob Tryz.prog.godebug=none:=by kernel_rfl
theorem Jol:laidOutB Tryz.prog=true:=by kernel_rfl
def SeeK {α:Type} (k:Nat) (enc:α->List Value) (P:α->Prop) (W:World) (ao:Option Addr) (X:List α):Prop:=
 ∀ i x,X[i]? = some x->P x/\∃ b o,ao=some ⟨b,o,none⟩/\b<W.heap.size/\∀ j v,(enc x)[j]? = some v->W.cell? ⟨b,o+i*k+j,none⟩=some v
theorem SeeK.below {α:Type} {k:Nat} {enc:α->List Value} {P:α->Prop} {W W':World} {ao:Option Addr} {X:List α} {r:Nat} (h:SeeK k enc P W ao X) (hb:Below r W W') (hr:W.heap.size<=r):SeeK k enc P W' ao X:=fun i x hx=>by
 obtain⟨h1,b,o,e,hlt,hc⟩:=h i x hx
 exact⟨h1,b,o,e,Jrb hlt hb.size,fun j v hj=>(hb.cell (p:=⟨b,o+i*k+j,none⟩) (by simp only;omega)).trans (hc j v hj)⟩
end
end Go.Proofs.YtbfjjpdnoalojaaGreatDoor
