/- Below: KF5; no condition. -/
import Derived.Test.YtbfjjpdnoalojaaGreatDoorPa17
set_option maxHeartbeats 16000000
namespace Go.Proofs.YtbfjjpdnoalojaaGreatDoor
section
open Go.RowKit Go.Deep Go.Shelf
open Classical
section
variable {α:Type}
def O4 (p:α->Bool) (Z:List α):Int:=if Z.findIdx p<Z.length then ((Z.findIdx p:Nat):Int) else -1
theorem AR {p:α->Bool} {Z:List α} {k:Nat} {x:α} (hk:Z[k]? = some x) (h:p x=true) (ha:∀ j y,j<k->Z[j]? = some y->p y=false):O4 p Z=(k:Int):=by
 obtain⟨hl,e⟩:=Jqb.1 hk
 have:Z.findIdx p=k:=by
  rw[List.findIdx_eq hl]
  exact⟨by rw[e];exact h,fun j hj=>ha j _ hj (Jqc (by omega))⟩
 unfold O4
 rw[this,if_pos hl]
theorem Ot {p:α->Bool} {Z:List α} (ha:∀ (j:Nat) (y:α),Z[j]? = some y->p y=false):O4 p Z = -1:=by
 unfold O4
 rw[if_neg]
 rw[List.findIdx_lt_length]
 rintro⟨x,hx,hn⟩
 obtain⟨j,hj,e⟩:=List.mem_iff_getElem.1 hx
 have:=ha j x (by rw[List.getElem?_eq_getElem hj,e])
 rw[hn] at this
 cases this
theorem AQ (p:α->Bool) (Z:List α):decide (0<=O4 p Z)=Z.any p:=by
 unfold O4
 by_cases h:Z.findIdx p<Z.length
 ·rw[if_pos h]
  obtain⟨x,hx,e⟩:=List.findIdx_lt_length.1 h
  have:Z.any p=true:=List.any_eq_true.2 ⟨x,hx,e⟩
  rw[this]
  simp
 ·rw[if_neg h]
  have:Z.any p=false:=by
   cases hz:Z.any p
   ·rfl
   ·obtain⟨x,hx,e⟩:=List.any_eq_true.1 hz
    exact absurd (List.findIdx_lt_length.2 ⟨x,hx,e⟩) h
  rw[this]
  simp
end
section
variable {w0 w w':World} {r p:Nat} {Y:Ly} {K:Kr} {R:List Th}
theorem OF (s:Sep w0 r w (kT p Y K::R)) {n:Int} (h0:0<=n) (h1:n<=63) {c:Sl.Cp} (hc:Jk K n=c) :
  Calls Tryz.prog 299 #[Je p,.agg #[.int .i64 0,.int .i64 n]] w fun e w'=>e=.returned (.bool (c.k != 0))/\Sep w0 r w' (kT p Y K::R):=by
 have s1:=(s.box (.cells #[.int .i64 0,.int .i64 n] 80)).swap
 have c0:=s1.k0
 obtain⟨z0,z1,-,-⟩:=s1.cells2 (q:=w.heap.size) (a:=.int .i64 0) (b:=.int .i64 n) (ty:=80) (by simp)
 have HS:=Ja s1
 have HU:=Ja (And.intro h0 h1)
 have HC:=Ja hc
 clear s s1 h0 h1 hc
 generalize hw:w.alloc (.cells #[.int .i64 0,.int .i64 n] 80)=w3 at *
 have HW:=Ja hw
 clear hw
 generalize hck:(c.k != 0)=ck
 have HCK:=Ja hck
 clear hck
 go_enter Tryz.func299,Tryz.ntmps299
 go_wp2_with (first|rw[HW.out]|fail)
 generalize w.heap.size=k at *
 have SB:=Ja (HS.out.box (.cells #[.int .i64 0,.int .i64 0,.int .i64 0,.int .u64 0,.int .u64 0,.int .i64 0] 82)).swap.drew
 have c0a:=Jx c0 (.cells #[.int .i64 0,.int .i64 0,.int .i64 0,.int .u64 0,.int .u64 0,.int .i64 0] 82)
 have z0a:=Jx z0 (.cells #[.int .i64 0,.int .i64 0,.int .i64 0,.int .u64 0,.int .u64 0,.int .i64 0] 82)
 have z1a:=Jx z1 (.cells #[.int .i64 0,.int .i64 0,.int .i64 0,.int .u64 0,.int .u64 0,.int .i64 0] 82)
 go_cut [5,6] from 7 to 15 (fun s5 s6 wx=>∃ k2 x,s5=.pointer (some ⟨k2,0,none⟩)/\s6=.int .i64 x/\Sep w0 r wx (blk k2 (.cells #[.int .i64 c.k,.int .i64 c.o,.int .i64 c.r,.int .u64 c.b,.int .u64 c.g,.int .i64 c.z] 82)::kT p Y K::blk k (.cells #[.int .i64 0,.int .i64 n] 80)::R))
 case first =>
  go_region_with (first
   | (go_at_call 202;(with_reducible refine Jqa (Jn2 SB.out HU.out.1 HU.out.2 HC.out) ?_);rintro e w4 ⟨x,rfl,b4⟩;have s4:=(SB.out.below b4).swap;obtain⟨y0,y1,y2,y3,y4,y5,yf⟩:=s4.cells6 (Jms);have yf0:=yf 0;have yf1:=yf 1;have yf2:=yf 2;have yf3:=yf 3;have yf4:=yf 4;have yf5:=yf 5;have S5:=Ja (s4.put6 (.int .i64 c.k) (.int .i64 c.o) (.int .i64 c.r) (.int .u64 c.b) (.int .u64 c.g) (.int .i64 c.z));clear s4 b4 yf)
   | (go_at_call 202;(with_reducible refine Jqa (Jn2 HS.out.drew HU.out.1 HU.out.2 HC.out) ?_);rintro e w4 ⟨x,rfl,b4⟩;have S5:=Ja ((HS.out.drew.below b4).box (.cells #[.int .i64 c.k,.int .i64 c.o,.int .i64 c.r,.int .u64 c.b,.int .u64 c.g,.int .i64 c.z] 82));clear b4))
  all_goals go_wp2_with fail
  all_goals go_meet
  all_goals exact⟨_,_,rfl,rfl,S5.out⟩
 case rest =>
  obtain⟨k2,x,rfl,rfl,s5⟩:=hcut
  clear c0 c0a z0 z1 z0a z1a SB HS HC
  obtain⟨a0,-⟩:=s5.cells6 (q:=k2) (a:=.int .i64 c.k) (Jms)
  have S7:=Ja s5.drop.drop2
  clear s5
  go_wp2
  go_ret
  exact⟨by rw[<- HCK.out];rfl,S7.out⟩
def Mg (K:Kr) (x:Sl.Sl):Bool:=(Jk K x.i).k != 0
theorem Jke {v:Value} {Z:List Sl.Sl} (s:Sep w0 r w (kT p Y K::Jv Vr v Z::R)) (hZ:∀ x∈Z,x.n=0/\0<=x.i/\x.i<=63) :
  Calls Tryz.prog 349 #[v,.func (.func 299) #[Je p] #[]] w fun e w'=>e=.returned (.int .i64 (O4 (Mg K) Z))/\Sep w0 r w' (kT p Y K::Jv Vr v Z::R):=by
 obtain⟨ao,cap,rfl⟩:=s.listIs (E:=Vr) (v:=v) (A:=Z) (by simp)
 have hzm:Z.length<=9223372036854775807:=by
  obtain⟨ao',cap',e,h1,h2,-⟩:=Row.slice (s.each (Jv Vr (.slice ao Z.length cap) Z) (by simp)).1
  exact Jql h1 h2
 have S1:=Ja s
 have HP:=Ja hZ
 clear s hZ
 generalize hN:Z.length=N at *
 have HN:=Ja hN
 clear hN
 go_enter Tryz.func349,Tryz.ntmps349
 go_wp2
 go_loopw [5,8] (fun _ s8 wr=>∃ kk:Nat,kk<=N/\s8=.int .i64 kk/\Sep w0 r wr (kT p Y K::Jv Vr (.slice ao N cap) Z::R)/\Hid (∀ j y,j<kk->Z[j]? = some y->Mg K y=false)) (fun _ s8 _=>N - (intOf s8).toNat)
 case atStart=>exact⟨0,Jqp _,rfl,S1.out,fun j y hj=>absurd hj (Nat.not_lt_zero _)⟩
 case round =>
  clear S1
  obtain⟨kk,hkk,rfl,s2,A⟩:=hrel
  by_cases hlt:kk<N
  ·have hltz:(kk:Int)<(N:Int):=by omega
   obtain⟨x,hx⟩:∃ x,Z[kk]? = some x:=⟨_,Jqc (by have:=HN.out;omega)⟩
   obtain⟨g,rfl,hc⟩:=s2.listAt Jli (ao:=ao) (n:=N) (cap:=cap) (A:=Z) (by simp) hx
   have d0:=hc 0 (.int .i64 x.n) rfl
   have d1:=hc 1 (.int .i64 x.i) rfl
   rw[show Vr.k=2 from rfl] at d0 d1
   rw[Nat.add_zero] at d0
   obtain⟨x0,x1,x2⟩:=HP.out x (Jqi hx)
   rw[x0] at d0
   have HX:=Ja hx
   have HL:=Ja hlt
   have hcall:=OF s2 x1 x2 rfl
   clear s2 hc hx hlt x0 x1 x2
   cases hq:(Jk K x.i).k != 0 with
   | true =>
    rw[hq] at hcall
    have HC:=Ja hcall
    have HR:=Ja (AR HX.out (show Mg K x=true from hq) A.out)
    clear hcall hq
    go_wp2_with (go_at_call 299;refine HC.out.mono ?_;rintro e w3 ⟨rfl,s3⟩;have S3:=Ja s3;clear s3)
    go_ret
    exact⟨Jm HR.out.symm,S3.out⟩
   | false =>
    rw[hq] at hcall
    have HC:=Ja hcall
    have HQ:Hid (Mg K x=false):=hq
    clear hcall hq
    go_wp2_with (go_at_call 299;refine HC.out.mono ?_;rintro e w3 ⟨rfl,s3⟩;have S3:=Ja s3;clear s3)
    go_roundw
    case rel =>
     refine⟨kk+1,by have:=HL.out;omega,by go_num,S3.out,fun j z hj hz=>?_⟩
     by_cases e:j=kk
     ·subst e
      rw[HX.out] at hz
      cases hz
      exact HQ.out
     ·exact A.out j z (by omega) hz
    case measure=>simp[intOf];have:=HL.out;omega
  ·have hltz:¬ (kk:Int)<(N:Int):=by omega
   have HE:=Ja (Ot (p:=Mg K) (Z:=Z) fun j y hj=>A.out j y (by have:=(Jqb.1 hj).1;have:=HN.out;omega) hj)
   have S2:=Ja s2
   clear hlt hkk A s2
   go_wp2
   go_ret
   exact⟨Jm HE.out.symm,S2.out⟩
theorem Jad {v:Value} {Z:List Sl.Sl} (s:Sep w0 r w (kT p Y K::Jv Vr v Z::R)) (hZ:∀ x∈Z,x.n=0/\0<=x.i/\x.i<=63) :
  Calls Tryz.prog 298 #[v,.func (.func 299) #[Je p] #[]] w fun e w'=>e=.returned (.bool (Z.any (Mg K)))/\Sep w0 r w' (kT p Y K::Jv Vr v Z::R):=by
 have HI:=Ja (Jke s hZ)
 have hd:=AQ (Mg K) Z
 obtain⟨ao,cap,rfl⟩:=s.listIs (E:=Vr) (v:=v) (A:=Z) (by simp)
 clear s hZ
 generalize Z.any (Mg K)=b at *
 generalize O4 (Mg K) Z=z at *
 generalize Z.length=N at *
 go_enter Tryz.func298,Tryz.ntmps298
 go_wp2_with (go_at_call 349;refine Jqa HI.out ?_;rintro e w3 ⟨rfl,s3⟩;have S3:=Ja s3;clear s3)
 go_ret
 exact⟨rfl,S3.out⟩
end
end
end Go.Proofs.YtbfjjpdnoalojaaGreatDoor
