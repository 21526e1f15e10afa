/- Below: KI3 KI4 KJ1; no condition. -/
import Derived.Test.YtbfjjpdnoalojaaGreatDoorPa18
import Derived.Test.YtbfjjpdnoalojaaGreatDoorPa20
import Derived.Test.YtbfjjpdnoalojaaGreatDoorPa21
set_option maxHeartbeats 16000000
set_option maxRecDepth 100000
namespace Go.Proofs.YtbfjjpdnoalojaaGreatDoor
section
open Go.RowKit Go.Deep Go.Shelf
open Classical
def Z9 (c:Sl.Cp) (x:Sl.Sl×Sl.Cp):Bool:=Ca.Jfv (Xf x.2) (Xf c)
section
variable {w0 w w':World} {r p:Nat} {R:List Th}
theorem Jl7 {qc:Nat} {c:Sl.Cp} (s:Sep w0 r w (blk qc (.cells #[.int .i64 c.k,.int .i64 c.o,.int .i64 c.r,.int .u64 c.b,.int .u64 c.g,.int .i64 c.z] 82)::R)) (x:Sl.Sl×Sl.Cp) :
  Calls Tryz.prog 310 #[.agg #[.int .i64 x.1.n,.int .i64 x.1.i,.int .i64 x.2.k,.int .i64 x.2.o,.int .i64 x.2.r,.int .u64 x.2.b,.int .u64 x.2.g,.int .i64 x.2.z],Je qc] w fun e w'=>e=.returned (.bool (Z9 c x))/\Sep w0 r w' (blk qc (.cells #[.int .i64 c.k,.int .i64 c.o,.int .i64 c.r,.int .u64 c.b,.int .u64 c.g,.int .i64 c.z] 82)::R):=by
 have s1:=(s.box (.cells #[.int .i64 x.1.n,.int .i64 x.1.i,.int .i64 x.2.k,.int .i64 x.2.o,.int .i64 x.2.r,.int .u64 x.2.b,.int .u64 x.2.g,.int .i64 x.2.z] 84)).swap
 obtain⟨c0,c1,c2,c3,c4,c5,-⟩:=s1.cells6 (Jms)
 have hm:=fun j=>(s1.blkCell (p:=w.heap.size) (Jmc (Jms)) j).1
 have S1:=Ja s1
 have HC1:Hid (∀ W:World,Calls Tryz.prog 311 #[.agg #[.int .i64 x.2.k,.int .i64 x.2.o,.int .i64 x.2.r,.int .u64 x.2.b,.int .u64 x.2.g,.int .i64 x.2.z],.agg #[.int .i64 c.k,.int .i64 c.o,.int .i64 c.r,.int .u64 c.b,.int .u64 c.g,.int .i64 c.z]] W fun e w'=>e=.returned (.bool (Z9 c x))/\Below W.heap.size W w'):=fun W=>Ca.Jl6 (Xf x.2) (Xf c) W
 clear s s1
 obtain⟨⟨xn,xi⟩,⟨xk,xo,xr,xb,xg,xz⟩⟩:=x
 generalize Z9 c _=sb at *
 have hm0:(w.alloc (.cells #[.int .i64 xn,.int .i64 xi,.int .i64 xk,.int .i64 xo,.int .i64 xr,.int .u64 xb,.int .u64 xg,.int .i64 xz] 84)).cell? ⟨w.heap.size,0,none⟩=some (.int .i64 xn):=hm 0
 have hm1:(w.alloc (.cells #[.int .i64 xn,.int .i64 xi,.int .i64 xk,.int .i64 xo,.int .i64 xr,.int .u64 xb,.int .u64 xg,.int .i64 xz] 84)).cell? ⟨w.heap.size,1,none⟩=some (.int .i64 xi):=hm 1
 have hm2:(w.alloc (.cells #[.int .i64 xn,.int .i64 xi,.int .i64 xk,.int .i64 xo,.int .i64 xr,.int .u64 xb,.int .u64 xg,.int .i64 xz] 84)).cell? ⟨w.heap.size,2,none⟩=some (.int .i64 xk):=hm 2
 have hm3:(w.alloc (.cells #[.int .i64 xn,.int .i64 xi,.int .i64 xk,.int .i64 xo,.int .i64 xr,.int .u64 xb,.int .u64 xg,.int .i64 xz] 84)).cell? ⟨w.heap.size,3,none⟩=some (.int .i64 xo):=hm 3
 have hm4:(w.alloc (.cells #[.int .i64 xn,.int .i64 xi,.int .i64 xk,.int .i64 xo,.int .i64 xr,.int .u64 xb,.int .u64 xg,.int .i64 xz] 84)).cell? ⟨w.heap.size,4,none⟩=some (.int .i64 xr):=hm 4
 have hm5:(w.alloc (.cells #[.int .i64 xn,.int .i64 xi,.int .i64 xk,.int .i64 xo,.int .i64 xr,.int .u64 xb,.int .u64 xg,.int .i64 xz] 84)).cell? ⟨w.heap.size,5,none⟩=some (.int .u64 xb):=hm 5
 have hm6:(w.alloc (.cells #[.int .i64 xn,.int .i64 xi,.int .i64 xk,.int .i64 xo,.int .i64 xr,.int .u64 xb,.int .u64 xg,.int .i64 xz] 84)).cell? ⟨w.heap.size,6,none⟩=some (.int .u64 xg):=hm 6
 have hm7:(w.alloc (.cells #[.int .i64 xn,.int .i64 xi,.int .i64 xk,.int .i64 xo,.int .i64 xr,.int .u64 xb,.int .u64 xg,.int .i64 xz] 84)).cell? ⟨w.heap.size,7,none⟩=some (.int .i64 xz):=hm 7
 clear hm
 generalize hw:w.alloc (.cells #[.int .i64 xn,.int .i64 xi,.int .i64 xk,.int .i64 xo,.int .i64 xr,.int .u64 xb,.int .u64 xg,.int .i64 xz] 84)=w1 at *
 have HW:=Ja hw
 clear hw
 go_enter Tryz.func310,Tryz.ntmps310
 go_wp2_with (first|rw[HW.out]|(go_at_call 311;refine Jqa (HC1.out _) ?_;rintro e w3 ⟨rfl,b3⟩;have S3:=Ja (S1.out.below b3).drop2;clear b3)|fail)
 go_ret
 exact⟨rfl,S3.out⟩
theorem Joc {v:Value} {Z:List (Sl.Sl×Sl.Cp)} {qc:Nat} {c:Sl.Cp} (s:Sep w0 r w (Jv elH v Z::blk qc (.cells #[.int .i64 c.k,.int .i64 c.o,.int .i64 c.r,.int .u64 c.b,.int .u64 c.g,.int .i64 c.z] 82)::R)) :
  Calls Tryz.prog 352 #[v,.func (.func 310) #[] #[Je qc]] w fun e w'=>e=.returned (.int .i64 (O4 (Z9 c) Z))/\Sep w0 r w' (Jv elH v Z::blk qc (.cells #[.int .i64 c.k,.int .i64 c.o,.int .i64 c.r,.int .u64 c.b,.int .u64 c.g,.int .i64 c.z] 82)::R):=by
 obtain⟨ao,cap,rfl⟩:=s.listIs (E:=elH) (v:=v) (A:=Z) (by simp)
 have hzm:Z.length<=9223372036854775807:=by
  obtain⟨ao',cap',e,h1,h2,-⟩:=Row.slice (s.each (Jv elH (.slice ao Z.length cap) Z) (by simp)).1
  exact Jql h1 h2
 have S1:=Ja s
 have eg:=enters_of Tryz.func310 (by kernel_rfl) rfl
 clear s
 generalize hN:Z.length=N at *
 have HN:=Ja hN
 clear hN
 go_enter Tryz.func352,Tryz.ntmps352
 go_wp2
 go_loopw [5,8] (fun _ s8 wr=>∃ kk:Nat,kk<=N/\s8=.int .i64 kk/\Sep w0 r wr (Jv elH (.slice ao N cap) Z::blk qc (.cells #[.int .i64 c.k,.int .i64 c.o,.int .i64 c.r,.int .u64 c.b,.int .u64 c.g,.int .i64 c.z] 82)::R)/\Hid (∀ j y,j<kk->Z[j]? = some y->Z9 c y=false)) (fun _ s8 _=>N - (intOf s8).toNat)
 case atStart=>exact⟨0,Jqp _,rfl,S1.out,fun j y hj=>absurd hj (Nat.not_lt_zero _)⟩
 case round =>
  clear S1
  obtain⟨kk,hkk,rfl,s2,A⟩:=hrel
  by_cases hlt:kk<N
  ·have hltz:(kk:Int)<(N:Int):=by omega
   obtain⟨x,hx⟩:∃ x,Z[kk]? = some x:=⟨_,Jqc (by have:=HN.out;omega)⟩
   obtain⟨g,rfl,hc⟩:=s2.listAt okH (ao:=ao) (n:=N) (cap:=cap) (A:=Z) (by simp) hx
   have d0:wr.cell? ⟨g,kk*8,none⟩=some (.int .i64 x.1.n):=hc 0 _ rfl
   have d1:wr.cell? ⟨g,kk*8+1,none⟩=some (.int .i64 x.1.i):=hc 1 _ rfl
   have d2:wr.cell? ⟨g,kk*8+2,none⟩=some (.int .i64 x.2.k):=hc 2 _ rfl
   have d3:wr.cell? ⟨g,kk*8+3,none⟩=some (.int .i64 x.2.o):=hc 3 _ rfl
   have d4:wr.cell? ⟨g,kk*8+4,none⟩=some (.int .i64 x.2.r):=hc 4 _ rfl
   have d5:wr.cell? ⟨g,kk*8+5,none⟩=some (.int .u64 x.2.b):=hc 5 _ rfl
   have d6:wr.cell? ⟨g,kk*8+6,none⟩=some (.int .u64 x.2.g):=hc 6 _ rfl
   have d7:wr.cell? ⟨g,kk*8+7,none⟩=some (.int .i64 x.2.z):=hc 7 _ rfl
   have HX:=Ja hx
   have HL:=Ja hlt
   have hcall:=Jl7 s2.swap x
   clear s2 hc hx hlt
   cases hq:Z9 c x with
   | true =>
    rw[hq] at hcall
    have HC:=Ja hcall
    have HR:=Ja (AR HX.out (hq) A.out)
    clear hcall hq
    go_wp2_with (go_at_call 310;refine HC.out.mono ?_;rintro e w3 ⟨rfl,s3⟩;have S3:=Ja s3.swap;clear s3)
    go_ret
    exact⟨Jm HR.out.symm,S3.out⟩
   | false =>
    rw[hq] at hcall
    have HC:=Ja hcall
    have HQ:Hid (Z9 c x=false):=hq
    clear hcall hq
    go_wp2_with (go_at_call 310;refine HC.out.mono ?_;rintro e w3 ⟨rfl,s3⟩;have S3:=Ja s3.swap;clear s3)
    go_roundw
    case rel =>
     refine⟨kk+1,by have:=HL.out;omega,by go_num,S3.out,fun j z hj hz=>?_⟩
     by_cases e:j=kk
     ·subst e
      rw[HX.out] at hz
      cases hz
      exact HQ.out
     ·exact A.out j z (by omega) hz
    case measure=>simp[intOf];have:=HL.out;omega
  ·have hltz:¬ (kk:Int)<(N:Int):=by omega
   have HE:=Ja (Ot (p:=Z9 c) (Z:=Z) fun j y hj=>A.out j y (by have:=(Jqb.1 hj).1;have:=HN.out;omega) hj)
   have S2:=Ja s2
   clear hlt hkk A s2
   go_wp2
   go_ret
   exact⟨Jm HE.out.symm,S2.out⟩
theorem VQ {v:Value} {Z:List (Sl.Sl×Sl.Cp)} {qc:Nat} {c:Sl.Cp} (s:Sep w0 r w (Jv elH v Z::blk qc (.cells #[.int .i64 c.k,.int .i64 c.o,.int .i64 c.r,.int .u64 c.b,.int .u64 c.g,.int .i64 c.z] 82)::R)) :
  Calls Tryz.prog 309 #[v,.func (.func 310) #[] #[Je qc]] w fun e w'=>e=.returned (.bool (Z.any (Z9 c)))/\Sep w0 r w' (Jv elH v Z::blk qc (.cells #[.int .i64 c.k,.int .i64 c.o,.int .i64 c.r,.int .u64 c.b,.int .u64 c.g,.int .i64 c.z] 82)::R):=by
 have HI:=Ja (Joc s)
 have hd:=AQ (Z9 c) Z
 obtain⟨ao,cap,rfl⟩:=s.listIs (E:=elH) (v:=v) (A:=Z) (by simp)
 clear s
 generalize Z.any (Z9 c)=b at *
 generalize O4 (Z9 c) Z=z at *
 generalize Z.length=N at *
 go_enter Tryz.func309,Tryz.ntmps309
 go_wp2_with (go_at_call 352;refine Jqa HI.out ?_;rintro e w3 ⟨rfl,s3⟩;have S3:=Ja s3;clear s3)
 go_ret
 exact⟨rfl,S3.out⟩
end
section
variable {w0 w w':World} {r p:Nat} {Y:Ly} {K:Kr} {R:List Th}
theorem Xu (s:Sep w0 r w (kT p Y K::R)) {n:Int} (h0:0<=n) (h1:n<=63) {c:Sl.Cp} (hc:Sl.Vm K.S (sl n)=c) :
  Calls Tryz.prog 308 #[Je Y.n,.agg #[.int .i64 0,.int .i64 n]] w fun e w'=>∃ x,e=.returned (.tuple #[.agg #[.int .i64 c.k,.int .i64 c.o,.int .i64 c.r,.int .u64 c.b,.int .u64 c.g,.int .i64 c.z],.int .i64 x])/\Sep w0 r w' (kT p Y { K with S:=Sl.takeS K.S (sl n) }::R):=by
 have h:=Jtm s ⟨0,n⟩ ⟨⟨by show _<=(0:Int);omega,by show(0:Int)<=_;omega⟩,⟨by show _<=n;omega,by show n<=_;omega⟩⟩
 rw[show Sl.Vm K.S ⟨0,n⟩=c from hc] at h
 exact h.mono fun e w' k=>⟨_,k.1,k.2⟩
theorem Ou (s:Sep w0 r w (kT p Y K::R)):Calls Tryz.prog 88 #[Je Y.n] w fun e w'=>∃ ao cap,e=.returned (.slice ao (Sl.JX K.S).length cap)/\Sep w0 r w' (kT p Y K::Jv elH (.slice ao (Sl.JX K.S).length cap) (Sl.JX K.S)::R):=by
 obtain⟨Q,s1,bk⟩:=s.kN
 refine Jqa (Jo5 s1) ?_
 rintro e w' ⟨v,rfl,h⟩
 have h2:=bk w' _ _ [_] h
 obtain⟨ao,cap,rfl⟩:=h2.listIs (E:=elH) (v:=v) (A:=Sl.JX K.S) (by simp)
 exact⟨ao,cap,rfl,h2⟩
theorem Jgb (s:Sep w0 r w (kT p Y K::R)) {n:Int} (h0:0<=n) (h1:n<=63) (hl:K.E.length<=1000) {c:Sl.Cp} (hc:Sl.Vm K.S (sl n)=c) (hlb:(Sl.JX (outK K n).S).any (Z9 c)=true) :
  Calls Tryz.prog 228 #[Je p,.agg #[.int .i64 0,.int .i64 n]] w fun e w'=>e=.returned (.slice none 0 0)/\KS w0 r w' p (outK K n) R:=by
 have S1:=Ja ((s.box (.cells #[.int .i64 0,.int .i64 n] 80)).swap)
 obtain⟨w1,hw⟩:∃ w1,w.alloc (.cells #[.int .i64 0,.int .i64 n] 80)=w1:=⟨_,rfl⟩
 rw[hw] at S1
 have HW:=Ja hw
 have HU:=Ja (And.intro (And.intro h0 h1) (And.intro hl hc))
 clear s hw h0 h1 hl hc
 obtain⟨lb,hl0⟩:∃ lb,lb=true:=⟨_,rfl⟩
 rw[<- hl0] at hlb
 go_enter Tryz.func228,Tryz.ntmps228
 go_wp2_with (first|rw[HW.out]|fail)
 generalize w.heap.size=q at *
 have HT:Hid (∀ (W:World) (Y':Ly) (K':Kr) (R':List Th),Y'.t=Y.t->Sep w0 r W (kT p Y' K'::blk q (.cells #[.int .i64 0,.int .i64 n] 80)::R')->W.cell? ⟨p,1,none⟩=some (Je Y.t)/\W.cell? ⟨q,0,none⟩=some (.int .i64 0)/\W.cell? ⟨q,1,none⟩=some (.int .i64 n)):=fun W Y' K' R' hy s=>by
  have k:=s.k1
  rw[hy] at k
  exact⟨k,(s.blkCell (p:=q) (Jmc (Jms)) 0).1,(s.blkCell (p:=q) (Jmc (Jms)) 1).1⟩
 have HN:Hid (∀ (W:World) (Y':Ly) (K':Kr) (R':List Th),Y'.n=Y.n->Sep w0 r W (kT p Y' K'::blk q (.cells #[.int .i64 0,.int .i64 n] 80)::R')->W.cell? ⟨p,0,none⟩=some (Je Y.n)/\W.cell? ⟨q,0,none⟩=some (.int .i64 0)/\W.cell? ⟨q,1,none⟩=some (.int .i64 n)):=fun W Y' K' R' hy s=>by
  have k:=s.k0
  rw[hy] at k
  exact⟨k,(s.blkCell (p:=q) (Jmc (Jms)) 0).1,(s.blkCell (p:=q) (Jmc (Jms)) 1).1⟩
 have hk:=Jkr S1.out.drew (tr n) HU.out.2.1
 unfold Tr.Jh tr at hk
 have HK1:=Ja hk
 have hS:=HT.out _ _ _ _ (by rfl) S1.out.drew
 clear hk
 go_region_held3 (fun W=>W.cell? ⟨p,1,none⟩=some (Je Y.t)/\W.cell? ⟨q,0,none⟩=some (.int .i64 0)/\W.cell? ⟨q,1,none⟩=some (.int .i64 n)) (first|with_reducible assumption|with_reducible exact hS) (first|(go_at_call 307;refine Jqa HK1.out ?_;rintro e w3 ⟨rfl,x3,s3⟩;have hS3:=HT.out _ _ _ _ (by rfl) s3;have S3:=Ja s3;clear s3))
 clear hS hS3 HT HK1
 go_wp2_with fail
 have SB:=Ja ((S3.out.box (.cells #[.int .i64 0,.int .i64 0,.int .i64 0,.int .u64 0,.int .u64 0,.int .i64 0] 82)).third.drew)
 have HK:=Ja (Xu S3.out.drew HU.out.1.1 HU.out.1.2 HU.out.2.2)
 have HKB:=Ja (Xu SB.out HU.out.1.1 HU.out.1.2 HU.out.2.2)
 go_cut [5,6] from 13 to 21 (fun sa sb wx=>∃ k y,sa=.pointer (some ⟨k,0,none⟩)/\sb=.int .i64 y/\Sep w0 r wx (kT p { Y with tv:=x3 } (outK K n)::blk q (.cells #[.int .i64 0,.int .i64 n] 80)::blk k (.cells #[.int .i64 c.k,.int .i64 c.o,.int .i64 c.r,.int .u64 c.b,.int .u64 c.g,.int .i64 c.z] 82)::R))
 case first =>
  have hS:=HN.out _ _ _ _ (by rfl) S3.out.drew
  have hSB:=HN.out _ _ _ _ (by rfl) SB.out
  go_region_held3 (fun W=>W.cell? ⟨p,0,none⟩=some (Je Y.n)/\W.cell? ⟨q,0,none⟩=some (.int .i64 0)/\W.cell? ⟨q,1,none⟩=some (.int .i64 n)) (first|with_reducible assumption|with_reducible exact hS|with_reducible exact hSB) (first|(go_at_call 308;(with_reducible refine Jqa HKB.out ?_);rintro e w3 ⟨y,rfl,s3⟩;have hS3:=HN.out _ _ _ _ (by rfl) s3;have s4:=s3.third.third;obtain⟨mf0,mz⟩:=s4.zCp (Jms);obtain⟨z0,z1,z2,z3,z4,z5⟩:=mz;have s5:=s4.putCp c;have s6:=s5.third;have hS6:=HN.out _ _ _ _ (by rfl) s6;have S6:=Ja s6;clear s3 s4 s5 s6)|(go_at_call 308;(with_reducible refine Jqa HK.out ?_);rintro e w3 ⟨y,rfl,s3⟩;have hS3:=HN.out _ _ _ _ (by rfl) s3;have s4:=(s3.box (.cells #[.int .i64 0,.int .i64 0,.int .i64 0,.int .u64 0,.int .u64 0,.int .i64 0] 82)).third;have hS4:=HN.out _ _ _ _ (by rfl) s4;have s6:=(s3.box (.cells #[.int .i64 c.k,.int .i64 c.o,.int .i64 c.r,.int .u64 c.b,.int .u64 c.g,.int .i64 c.z] 82)).third;have hS6:=HN.out _ _ _ _ (by rfl) s6;have S6:=Ja s6;clear s3 s4 s6))
  all_goals go_wp2_with fail
  all_goals go_meet
  all_goals exact⟨_,_,rfl,rfl,S6.out⟩
 case rest =>
  obtain⟨k,y,rfl,rfl,s6⟩:=hcut
  have S6:=Ja s6
  have c0:=S6.out.k0
  clear S1 S3 SB HK HKB HN HU s6
  have HH:=Ja (Ou S6.out)
  have HLA:Hid ((Sl.JX (outK K n).S).any (Z9 c)=lb):=hlb
  clear hlb
  have hmf:=Jhm
  obtain⟨A,hA⟩:∃ A,Sl.JX (outK K n).S=A:=⟨_,rfl⟩
  rw[hA] at HH HLA
  clear hA
  subst hl0
  go_wp2_with (first|(go_at_call 88;refine Jqa HH.out ?_;rintro e w4 ⟨ao,cap,rfl,s4⟩;have S4:=Ja s4;clear s4 c0)|(go_at_call 309;refine Jqa (VQ ((S4.out.perm (Jqn _ _ _)).perm (Jre _ ((Jre _ (Jqn _ _ _)).trans (Jqn _ _ _))))) ?_;rintro e w5 ⟨rfl,s5⟩;rw[HLA.out];have S5:=Ja (s5.perm (List.Perm.trans (Jre _ ((Jqn _ _ _).trans (Jre _ (Jqn _ _ _)))) (Jqn _ _ _)));clear s5)|fail)
  go_ret
  exact⟨rfl,_,S5.out.drop2.drop2.drop2⟩
theorem Jc0 (s:Sep w0 r w (kT p Y K::R)) {n:Int} (h0:0<=n) (h1:n<=63) (hl:K.E.length<=1000) {c:Sl.Cp} (hc:Sl.Vm K.S (sl n)=c) (hlb:(Sl.JX (outK K n).S).any (Z9 c)=false) (hk3:¬ c.k=3) (hk6:¬ c.k=6) (hk7:¬ c.k=7) :
  Calls Tryz.prog 228 #[Je p,.agg #[.int .i64 0,.int .i64 n]] w fun e w'=>e=.returned (.slice none 0 0)/\KS w0 r w' p (outK K n) R:=by
 have S1:=Ja ((s.box (.cells #[.int .i64 0,.int .i64 n] 80)).swap)
 obtain⟨w1,hw⟩:∃ w1,w.alloc (.cells #[.int .i64 0,.int .i64 n] 80)=w1:=⟨_,rfl⟩
 rw[hw] at S1
 have HW:=Ja hw
 have HU:=Ja (And.intro (And.intro h0 h1) (And.intro hl hc))
 clear s hw h0 h1 hl hc
 obtain⟨lb,hl0⟩:∃ lb,lb=false:=⟨_,rfl⟩
 rw[<- hl0] at hlb
 have hq3:(c.k == 3)=false:=by simpa using hk3
 have hd3:decide (c.k=3)=false:=by simpa using hk3
 have hq6:(c.k == 6)=false:=by simpa using hk6
 have hd6:decide (c.k=6)=false:=by simpa using hk6
 have hq7:(c.k == 7)=false:=by simpa using hk7
 have hd7:decide (c.k=7)=false:=by simpa using hk7
 clear hk3 hk6 hk7
 go_enter Tryz.func228,Tryz.ntmps228
 go_wp2_with (first|rw[HW.out]|fail)
 generalize w.heap.size=q at *
 have HT:Hid (∀ (W:World) (Y':Ly) (K':Kr) (R':List Th),Y'.t=Y.t->Sep w0 r W (kT p Y' K'::blk q (.cells #[.int .i64 0,.int .i64 n] 80)::R')->W.cell? ⟨p,1,none⟩=some (Je Y.t)/\W.cell? ⟨q,0,none⟩=some (.int .i64 0)/\W.cell? ⟨q,1,none⟩=some (.int .i64 n)):=fun W Y' K' R' hy s=>by
  have k:=s.k1
  rw[hy] at k
  exact⟨k,(s.blkCell (p:=q) (Jmc (Jms)) 0).1,(s.blkCell (p:=q) (Jmc (Jms)) 1).1⟩
 have HN:Hid (∀ (W:World) (Y':Ly) (K':Kr) (R':List Th),Y'.n=Y.n->Sep w0 r W (kT p Y' K'::blk q (.cells #[.int .i64 0,.int .i64 n] 80)::R')->W.cell? ⟨p,0,none⟩=some (Je Y.n)/\W.cell? ⟨q,0,none⟩=some (.int .i64 0)/\W.cell? ⟨q,1,none⟩=some (.int .i64 n)):=fun W Y' K' R' hy s=>by
  have k:=s.k0
  rw[hy] at k
  exact⟨k,(s.blkCell (p:=q) (Jmc (Jms)) 0).1,(s.blkCell (p:=q) (Jmc (Jms)) 1).1⟩
 have hk:=Jkr S1.out.drew (tr n) HU.out.2.1
 unfold Tr.Jh tr at hk
 have HK1:=Ja hk
 have hS:=HT.out _ _ _ _ (by rfl) S1.out.drew
 clear hk
 go_region_held3 (fun W=>W.cell? ⟨p,1,none⟩=some (Je Y.t)/\W.cell? ⟨q,0,none⟩=some (.int .i64 0)/\W.cell? ⟨q,1,none⟩=some (.int .i64 n)) (first|with_reducible assumption|with_reducible exact hS) (first|(go_at_call 307;refine Jqa HK1.out ?_;rintro e w3 ⟨rfl,x3,s3⟩;have hS3:=HT.out _ _ _ _ (by rfl) s3;have S3:=Ja s3;clear s3))
 clear hS hS3 HT HK1
 go_wp2_with fail
 have SB:=Ja ((S3.out.box (.cells #[.int .i64 0,.int .i64 0,.int .i64 0,.int .u64 0,.int .u64 0,.int .i64 0] 82)).third.drew)
 have HK:=Ja (Xu S3.out.drew HU.out.1.1 HU.out.1.2 HU.out.2.2)
 have HKB:=Ja (Xu SB.out HU.out.1.1 HU.out.1.2 HU.out.2.2)
 go_cut [5,6] from 13 to 21 (fun sa sb wx=>∃ k y,sa=.pointer (some ⟨k,0,none⟩)/\sb=.int .i64 y/\Sep w0 r wx (kT p { Y with tv:=x3 } (outK K n)::blk q (.cells #[.int .i64 0,.int .i64 n] 80)::blk k (.cells #[.int .i64 c.k,.int .i64 c.o,.int .i64 c.r,.int .u64 c.b,.int .u64 c.g,.int .i64 c.z] 82)::R))
 case first =>
  have hS:=HN.out _ _ _ _ (by rfl) S3.out.drew
  have hSB:=HN.out _ _ _ _ (by rfl) SB.out
  go_region_held3 (fun W=>W.cell? ⟨p,0,none⟩=some (Je Y.n)/\W.cell? ⟨q,0,none⟩=some (.int .i64 0)/\W.cell? ⟨q,1,none⟩=some (.int .i64 n)) (first|with_reducible assumption|with_reducible exact hS|with_reducible exact hSB) (first|(go_at_call 308;(with_reducible refine Jqa HKB.out ?_);rintro e w3 ⟨y,rfl,s3⟩;have hS3:=HN.out _ _ _ _ (by rfl) s3;have s4:=s3.third.third;obtain⟨mf0,mz⟩:=s4.zCp (Jms);obtain⟨z0,z1,z2,z3,z4,z5⟩:=mz;have s5:=s4.putCp c;have s6:=s5.third;have hS6:=HN.out _ _ _ _ (by rfl) s6;have S6:=Ja s6;clear s3 s4 s5 s6)|(go_at_call 308;(with_reducible refine Jqa HK.out ?_);rintro e w3 ⟨y,rfl,s3⟩;have hS3:=HN.out _ _ _ _ (by rfl) s3;have s4:=(s3.box (.cells #[.int .i64 0,.int .i64 0,.int .i64 0,.int .u64 0,.int .u64 0,.int .i64 0] 82)).third;have hS4:=HN.out _ _ _ _ (by rfl) s4;have s6:=(s3.box (.cells #[.int .i64 c.k,.int .i64 c.o,.int .i64 c.r,.int .u64 c.b,.int .u64 c.g,.int .i64 c.z] 82)).third;have hS6:=HN.out _ _ _ _ (by rfl) s6;have S6:=Ja s6;clear s3 s4 s6))
  all_goals go_wp2_with fail
  all_goals go_meet
  all_goals exact⟨_,_,rfl,rfl,S6.out⟩
 case rest =>
  obtain⟨k,y,rfl,rfl,s6⟩:=hcut
  have S6:=Ja s6
  have c0:=S6.out.k0
  clear S1 S3 SB HK HKB HN HU s6
  have HH:=Ja (Ou S6.out)
  have HLA:Hid ((Sl.JX (outK K n).S).any (Z9 c)=lb):=hlb
  clear hlb
  have hmf:=Jhm
  obtain⟨A,hA⟩:∃ A,Sl.JX (outK K n).S=A:=⟨_,rfl⟩
  rw[hA] at HH HLA
  clear hA
  subst hl0
  go_wp2_with (first|(go_at_call 88;refine Jqa HH.out ?_;rintro e w4 ⟨ao,cap,rfl,s4⟩;have S4:=Ja s4;clear s4 c0)|(go_at_call 309;refine Jqa (VQ ((S4.out.perm (Jqn _ _ _)).perm (Jre _ ((Jre _ (Jqn _ _ _)).trans (Jqn _ _ _))))) ?_;rintro e w5 ⟨rfl,s5⟩;rw[HLA.out];have S5:=Ja (s5.perm (List.Perm.trans (Jre _ ((Jqn _ _ _).trans (Jre _ (Jqn _ _ _)))) (Jqn _ _ _)));clear s5;have m0:w5.cell? ⟨k,0,none⟩=some (.int .i64 c.k):=(S5.out.blkCell (p:=k) (Jmc (Jmc (Jmc (Jms)))) 0).1;have m1:w5.cell? ⟨k,1,none⟩=some (.int .i64 c.o):=(S5.out.blkCell (p:=k) (Jmc (Jmc (Jmc (Jms)))) 1).1)|fail)
  go_ret
  exact⟨rfl,_,S5.out.drop2.drop2.drop2⟩
theorem Jcz (s:Sep w0 r w (kT p Y K::R)) {n:Int} (h0:0<=n) (h1:n<=63) (hl:K.E.length<=1000) {c:Sl.Cp} (hc:Sl.Vm K.S (sl n)=c) (hlb:(Sl.JX (outK K n).S).any (Z9 c)=false) (hk:c.k=6) (hd:K.D.length<=1000000) :
  Calls Tryz.prog 228 #[Je p,.agg #[.int .i64 0,.int .i64 n]] w fun e w'=>∃ v,e=.returned v/\KS w0 r w' p { outK K n with D:=(outK K n).D.map fun D=>X7 D (Ta.Ve D.f c.o) } (Jv Vq v (ZY c.o 0 (outK K n).D)::R):=by
 have S1:=Ja ((s.box (.cells #[.int .i64 0,.int .i64 n] 80)).swap)
 obtain⟨w1,hw⟩:∃ w1,w.alloc (.cells #[.int .i64 0,.int .i64 n] 80)=w1:=⟨_,rfl⟩
 rw[hw] at S1
 have HW:=Ja hw
 have HU:=Ja (And.intro (And.intro h0 h1) (And.intro hl hc))
 clear s hw h0 h1 hl hc
 obtain⟨lb,hl0⟩:∃ lb,lb=false:=⟨_,rfl⟩
 rw[<- hl0] at hlb
 have hq3:(c.k == 3)=false:=by rw[hk];decide
 have hd3:decide (c.k=3)=false:=by rw[hk];decide
 have hq6:(c.k == 6)=true:=by rw[hk];decide
 have hd6:decide (c.k=6)=true:=by rw[hk];decide
 have hq7:(c.k == 7)=false:=by rw[hk];decide
 have hd7:decide (c.k=7)=false:=by rw[hk];decide
 clear hk
 have HDL:=Ja (show(outK K n).D.length<=1000000 from hd)
 clear hd
 go_enter Tryz.func228,Tryz.ntmps228
 go_wp2_with (first|rw[HW.out]|fail)
 generalize w.heap.size=q at *
 have HT:Hid (∀ (W:World) (Y':Ly) (K':Kr) (R':List Th),Y'.t=Y.t->Sep w0 r W (kT p Y' K'::blk q (.cells #[.int .i64 0,.int .i64 n] 80)::R')->W.cell? ⟨p,1,none⟩=some (Je Y.t)/\W.cell? ⟨q,0,none⟩=some (.int .i64 0)/\W.cell? ⟨q,1,none⟩=some (.int .i64 n)):=fun W Y' K' R' hy s=>by
  have k:=s.k1
  rw[hy] at k
  exact⟨k,(s.blkCell (p:=q) (Jmc (Jms)) 0).1,(s.blkCell (p:=q) (Jmc (Jms)) 1).1⟩
 have HN:Hid (∀ (W:World) (Y':Ly) (K':Kr) (R':List Th),Y'.n=Y.n->Sep w0 r W (kT p Y' K'::blk q (.cells #[.int .i64 0,.int .i64 n] 80)::R')->W.cell? ⟨p,0,none⟩=some (Je Y.n)/\W.cell? ⟨q,0,none⟩=some (.int .i64 0)/\W.cell? ⟨q,1,none⟩=some (.int .i64 n)):=fun W Y' K' R' hy s=>by
  have k:=s.k0
  rw[hy] at k
  exact⟨k,(s.blkCell (p:=q) (Jmc (Jms)) 0).1,(s.blkCell (p:=q) (Jmc (Jms)) 1).1⟩
 have hk:=Jkr S1.out.drew (tr n) HU.out.2.1
 unfold Tr.Jh tr at hk
 have HK1:=Ja hk
 have hS:=HT.out _ _ _ _ (by rfl) S1.out.drew
 clear hk
 go_region_held3 (fun W=>W.cell? ⟨p,1,none⟩=some (Je Y.t)/\W.cell? ⟨q,0,none⟩=some (.int .i64 0)/\W.cell? ⟨q,1,none⟩=some (.int .i64 n)) (first|with_reducible assumption|with_reducible exact hS) (first|(go_at_call 307;refine Jqa HK1.out ?_;rintro e w3 ⟨rfl,x3,s3⟩;have hS3:=HT.out _ _ _ _ (by rfl) s3;have S3:=Ja s3;clear s3))
 clear hS hS3 HT HK1
 go_wp2_with fail
 have SB:=Ja ((S3.out.box (.cells #[.int .i64 0,.int .i64 0,.int .i64 0,.int .u64 0,.int .u64 0,.int .i64 0] 82)).third.drew)
 have HK:=Ja (Xu S3.out.drew HU.out.1.1 HU.out.1.2 HU.out.2.2)
 have HKB:=Ja (Xu SB.out HU.out.1.1 HU.out.1.2 HU.out.2.2)
 go_cut [5,6] from 13 to 21 (fun sa sb wx=>∃ k y,sa=.pointer (some ⟨k,0,none⟩)/\sb=.int .i64 y/\Sep w0 r wx (kT p { Y with tv:=x3 } (outK K n)::blk q (.cells #[.int .i64 0,.int .i64 n] 80)::blk k (.cells #[.int .i64 c.k,.int .i64 c.o,.int .i64 c.r,.int .u64 c.b,.int .u64 c.g,.int .i64 c.z] 82)::R))
 case first =>
  have hS:=HN.out _ _ _ _ (by rfl) S3.out.drew
  have hSB:=HN.out _ _ _ _ (by rfl) SB.out
  go_region_held3 (fun W=>W.cell? ⟨p,0,none⟩=some (Je Y.n)/\W.cell? ⟨q,0,none⟩=some (.int .i64 0)/\W.cell? ⟨q,1,none⟩=some (.int .i64 n)) (first|with_reducible assumption|with_reducible exact hS|with_reducible exact hSB) (first|(go_at_call 308;(with_reducible refine Jqa HKB.out ?_);rintro e w3 ⟨y,rfl,s3⟩;have hS3:=HN.out _ _ _ _ (by rfl) s3;have s4:=s3.third.third;obtain⟨mf0,mz⟩:=s4.zCp (Jms);obtain⟨z0,z1,z2,z3,z4,z5⟩:=mz;have s5:=s4.putCp c;have s6:=s5.third;have hS6:=HN.out _ _ _ _ (by rfl) s6;have S6:=Ja s6;clear s3 s4 s5 s6)|(go_at_call 308;(with_reducible refine Jqa HK.out ?_);rintro e w3 ⟨y,rfl,s3⟩;have hS3:=HN.out _ _ _ _ (by rfl) s3;have s4:=(s3.box (.cells #[.int .i64 0,.int .i64 0,.int .i64 0,.int .u64 0,.int .u64 0,.int .i64 0] 82)).third;have hS4:=HN.out _ _ _ _ (by rfl) s4;have s6:=(s3.box (.cells #[.int .i64 c.k,.int .i64 c.o,.int .i64 c.r,.int .u64 c.b,.int .u64 c.g,.int .i64 c.z] 82)).third;have hS6:=HN.out _ _ _ _ (by rfl) s6;have S6:=Ja s6;clear s3 s4 s6))
  all_goals go_wp2_with fail
  all_goals go_meet
  all_goals exact⟨_,_,rfl,rfl,S6.out⟩
 case rest =>
  obtain⟨k,y,rfl,rfl,s6⟩:=hcut
  have S6:=Ja s6
  have c0:=S6.out.k0
  clear S1 S3 SB HK HKB HN HU s6
  have HH:=Ja (Ou S6.out)
  have HLA:Hid ((Sl.JX (outK K n).S).any (Z9 c)=lb):=hlb
  clear hlb
  have hmf:=Jhm
  obtain⟨A,hA⟩:∃ A,Sl.JX (outK K n).S=A:=⟨_,rfl⟩
  rw[hA] at HH HLA
  clear hA
  subst hl0
  go_wp2_with (first|(go_at_call 88;refine Jqa HH.out ?_;rintro e w4 ⟨ao,cap,rfl,s4⟩;have S4:=Ja s4;clear s4 c0)|(go_at_call 309;refine Jqa (VQ ((S4.out.perm (Jqn _ _ _)).perm (Jre _ ((Jre _ (Jqn _ _ _)).trans (Jqn _ _ _))))) ?_;rintro e w5 ⟨rfl,s5⟩;rw[HLA.out];have S5:=Ja (s5.perm (List.Perm.trans (Jre _ ((Jqn _ _ _).trans (Jre _ (Jqn _ _ _)))) (Jqn _ _ _)));clear s5;have m0:w5.cell? ⟨k,0,none⟩=some (.int .i64 c.k):=(S5.out.blkCell (p:=k) (Jmc (Jmc (Jmc (Jms)))) 0).1;have m1:w5.cell? ⟨k,1,none⟩=some (.int .i64 c.o):=(S5.out.blkCell (p:=k) (Jmc (Jmc (Jmc (Jms)))) 1).1)|(go_at_call 312;refine Jqa (EA S5.out HDL.out c.o) ?_;rintro e w6 ⟨v,rfl,Y6,s6⟩;have S6:=Ja s6;clear s6 m0 m1)|fail)
  go_ret
  exact⟨v,rfl,_,S6.out.del3.del3.del3⟩
theorem Jc1 (s:Sep w0 r w (kT p Y K::R)) {n:Int} (h0:0<=n) (h1:n<=63) (hl:K.E.length<=1000) {c:Sl.Cp} (hc:Sl.Vm K.S (sl n)=c) (hlb:(Sl.JX (outK K n).S).any (Z9 c)=false) (hk:c.k=7) (hd:K.D.length<=1000000) :
  Calls Tryz.prog 228 #[Je p,.agg #[.int .i64 0,.int .i64 n]] w fun e w'=>∃ v,e=.returned v/\KS w0 r w' p { outK K n with D:=(outK K n).D.map fun D=>(XM c.o D 64).1 } (Jv Vq v (ZP c.o 0 (outK K n).D)::R):=by
 have S1:=Ja ((s.box (.cells #[.int .i64 0,.int .i64 n] 80)).swap)
 obtain⟨w1,hw⟩:∃ w1,w.alloc (.cells #[.int .i64 0,.int .i64 n] 80)=w1:=⟨_,rfl⟩
 rw[hw] at S1
 have HW:=Ja hw
 have HU:=Ja (And.intro (And.intro h0 h1) (And.intro hl hc))
 clear s hw h0 h1 hl hc
 obtain⟨lb,hl0⟩:∃ lb,lb=false:=⟨_,rfl⟩
 rw[<- hl0] at hlb
 have hq3:(c.k == 3)=false:=by rw[hk];decide
 have hd3:decide (c.k=3)=false:=by rw[hk];decide
 have hq6:(c.k == 6)=false:=by rw[hk];decide
 have hd6:decide (c.k=6)=false:=by rw[hk];decide
 have hq7:(c.k == 7)=true:=by rw[hk];decide
 have hd7:decide (c.k=7)=true:=by rw[hk];decide
 clear hk
 have HDL:=Ja (show(outK K n).D.length<=1000000 from hd)
 clear hd
 go_enter Tryz.func228,Tryz.ntmps228
 go_wp2_with (first|rw[HW.out]|fail)
 generalize w.heap.size=q at *
 have HT:Hid (∀ (W:World) (Y':Ly) (K':Kr) (R':List Th),Y'.t=Y.t->Sep w0 r W (kT p Y' K'::blk q (.cells #[.int .i64 0,.int .i64 n] 80)::R')->W.cell? ⟨p,1,none⟩=some (Je Y.t)/\W.cell? ⟨q,0,none⟩=some (.int .i64 0)/\W.cell? ⟨q,1,none⟩=some (.int .i64 n)):=fun W Y' K' R' hy s=>by
  have k:=s.k1
  rw[hy] at k
  exact⟨k,(s.blkCell (p:=q) (Jmc (Jms)) 0).1,(s.blkCell (p:=q) (Jmc (Jms)) 1).1⟩
 have HN:Hid (∀ (W:World) (Y':Ly) (K':Kr) (R':List Th),Y'.n=Y.n->Sep w0 r W (kT p Y' K'::blk q (.cells #[.int .i64 0,.int .i64 n] 80)::R')->W.cell? ⟨p,0,none⟩=some (Je Y.n)/\W.cell? ⟨q,0,none⟩=some (.int .i64 0)/\W.cell? ⟨q,1,none⟩=some (.int .i64 n)):=fun W Y' K' R' hy s=>by
  have k:=s.k0
  rw[hy] at k
  exact⟨k,(s.blkCell (p:=q) (Jmc (Jms)) 0).1,(s.blkCell (p:=q) (Jmc (Jms)) 1).1⟩
 have hk:=Jkr S1.out.drew (tr n) HU.out.2.1
 unfold Tr.Jh tr at hk
 have HK1:=Ja hk
 have hS:=HT.out _ _ _ _ (by rfl) S1.out.drew
 clear hk
 go_region_held3 (fun W=>W.cell? ⟨p,1,none⟩=some (Je Y.t)/\W.cell? ⟨q,0,none⟩=some (.int .i64 0)/\W.cell? ⟨q,1,none⟩=some (.int .i64 n)) (first|with_reducible assumption|with_reducible exact hS) (first|(go_at_call 307;refine Jqa HK1.out ?_;rintro e w3 ⟨rfl,x3,s3⟩;have hS3:=HT.out _ _ _ _ (by rfl) s3;have S3:=Ja s3;clear s3))
 clear hS hS3 HT HK1
 go_wp2_with fail
 have SB:=Ja ((S3.out.box (.cells #[.int .i64 0,.int .i64 0,.int .i64 0,.int .u64 0,.int .u64 0,.int .i64 0] 82)).third.drew)
 have HK:=Ja (Xu S3.out.drew HU.out.1.1 HU.out.1.2 HU.out.2.2)
 have HKB:=Ja (Xu SB.out HU.out.1.1 HU.out.1.2 HU.out.2.2)
 go_cut [5,6] from 13 to 21 (fun sa sb wx=>∃ k y,sa=.pointer (some ⟨k,0,none⟩)/\sb=.int .i64 y/\Sep w0 r wx (kT p { Y with tv:=x3 } (outK K n)::blk q (.cells #[.int .i64 0,.int .i64 n] 80)::blk k (.cells #[.int .i64 c.k,.int .i64 c.o,.int .i64 c.r,.int .u64 c.b,.int .u64 c.g,.int .i64 c.z] 82)::R))
 case first =>
  have hS:=HN.out _ _ _ _ (by rfl) S3.out.drew
  have hSB:=HN.out _ _ _ _ (by rfl) SB.out
  go_region_held3 (fun W=>W.cell? ⟨p,0,none⟩=some (Je Y.n)/\W.cell? ⟨q,0,none⟩=some (.int .i64 0)/\W.cell? ⟨q,1,none⟩=some (.int .i64 n)) (first|with_reducible assumption|with_reducible exact hS|with_reducible exact hSB) (first|(go_at_call 308;(with_reducible refine Jqa HKB.out ?_);rintro e w3 ⟨y,rfl,s3⟩;have hS3:=HN.out _ _ _ _ (by rfl) s3;have s4:=s3.third.third;obtain⟨mf0,mz⟩:=s4.zCp (Jms);obtain⟨z0,z1,z2,z3,z4,z5⟩:=mz;have s5:=s4.putCp c;have s6:=s5.third;have hS6:=HN.out _ _ _ _ (by rfl) s6;have S6:=Ja s6;clear s3 s4 s5 s6)|(go_at_call 308;(with_reducible refine Jqa HK.out ?_);rintro e w3 ⟨y,rfl,s3⟩;have hS3:=HN.out _ _ _ _ (by rfl) s3;have s4:=(s3.box (.cells #[.int .i64 0,.int .i64 0,.int .i64 0,.int .u64 0,.int .u64 0,.int .i64 0] 82)).third;have hS4:=HN.out _ _ _ _ (by rfl) s4;have s6:=(s3.box (.cells #[.int .i64 c.k,.int .i64 c.o,.int .i64 c.r,.int .u64 c.b,.int .u64 c.g,.int .i64 c.z] 82)).third;have hS6:=HN.out _ _ _ _ (by rfl) s6;have S6:=Ja s6;clear s3 s4 s6))
  all_goals go_wp2_with fail
  all_goals go_meet
  all_goals exact⟨_,_,rfl,rfl,S6.out⟩
 case rest =>
  obtain⟨k,y,rfl,rfl,s6⟩:=hcut
  have S6:=Ja s6
  have c0:=S6.out.k0
  clear S1 S3 SB HK HKB HN HU s6
  have HH:=Ja (Ou S6.out)
  have HLA:Hid ((Sl.JX (outK K n).S).any (Z9 c)=lb):=hlb
  clear hlb
  have hmf:=Jhm
  obtain⟨A,hA⟩:∃ A,Sl.JX (outK K n).S=A:=⟨_,rfl⟩
  rw[hA] at HH HLA
  clear hA
  subst hl0
  go_wp2_with (first|(go_at_call 88;refine Jqa HH.out ?_;rintro e w4 ⟨ao,cap,rfl,s4⟩;have S4:=Ja s4;clear s4 c0)|(go_at_call 309;refine Jqa (VQ ((S4.out.perm (Jqn _ _ _)).perm (Jre _ ((Jre _ (Jqn _ _ _)).trans (Jqn _ _ _))))) ?_;rintro e w5 ⟨rfl,s5⟩;rw[HLA.out];have S5:=Ja (s5.perm (List.Perm.trans (Jre _ ((Jqn _ _ _).trans (Jre _ (Jqn _ _ _)))) (Jqn _ _ _)));clear s5;have m0:w5.cell? ⟨k,0,none⟩=some (.int .i64 c.k):=(S5.out.blkCell (p:=k) (Jmc (Jmc (Jmc (Jms)))) 0).1;have m1:w5.cell? ⟨k,1,none⟩=some (.int .i64 c.o):=(S5.out.blkCell (p:=k) (Jmc (Jmc (Jmc (Jms)))) 1).1)|(go_at_call 313;refine Jqa (EH S5.out HDL.out c.o) ?_;rintro e w6 ⟨v,rfl,Y6,s6⟩;have S6:=Ja s6;clear s6 m0 m1)|fail)
  go_ret
  exact⟨v,rfl,_,S6.out.del3.del3.del3⟩
theorem Jaf (s:Sep w0 r w (kT p Y K::R)) {n:Int} (h0:0<=n) (h1:n<=63) (hl:K.E.length<=1000) {c:Sl.Cp} (hc:Sl.Vm K.S (sl n)=c) (hlb:(Sl.JX (outK K n).S).any (Z9 c)=false) (hk:c.k=3) (hf:Few K) :
  Calls Tryz.prog 228 #[Je p,.agg #[.int .i64 0,.int .i64 n]] w fun e w'=>e=.returned (.slice none 0 0)/\KS w0 r w' p { freed (outK K n) c.o with h:=Th.JM (outK K n).h c.o } R:=by
 have S1:=Ja ((s.box (.cells #[.int .i64 0,.int .i64 n] 80)).swap)
 obtain⟨w1,hw⟩:∃ w1,w.alloc (.cells #[.int .i64 0,.int .i64 n] 80)=w1:=⟨_,rfl⟩
 rw[hw] at S1
 have HW:=Ja hw
 have HU:=Ja (And.intro (And.intro h0 h1) (And.intro hl hc))
 clear s hw h0 h1 hl hc
 obtain⟨lb,hl0⟩:∃ lb,lb=false:=⟨_,rfl⟩
 rw[<- hl0] at hlb
 have hq3:(c.k == 3)=true:=by rw[hk];decide
 have hd3:decide (c.k=3)=true:=by rw[hk];decide
 have hq6:(c.k == 6)=false:=by rw[hk];decide
 have hd6:decide (c.k=6)=false:=by rw[hk];decide
 have hq7:(c.k == 7)=false:=by rw[hk];decide
 have hd7:decide (c.k=7)=false:=by rw[hk];decide
 clear hk
 have HFW:=Ja (show Few (outK K n) from hf)
 clear hf
 go_enter Tryz.func228,Tryz.ntmps228
 go_wp2_with (first|rw[HW.out]|fail)
 generalize w.heap.size=q at *
 have HT:Hid (∀ (W:World) (Y':Ly) (K':Kr) (R':List Th),Y'.t=Y.t->Sep w0 r W (kT p Y' K'::blk q (.cells #[.int .i64 0,.int .i64 n] 80)::R')->W.cell? ⟨p,1,none⟩=some (Je Y.t)/\W.cell? ⟨q,0,none⟩=some (.int .i64 0)/\W.cell? ⟨q,1,none⟩=some (.int .i64 n)):=fun W Y' K' R' hy s=>by
  have k:=s.k1
  rw[hy] at k
  exact⟨k,(s.blkCell (p:=q) (Jmc (Jms)) 0).1,(s.blkCell (p:=q) (Jmc (Jms)) 1).1⟩
 have HN:Hid (∀ (W:World) (Y':Ly) (K':Kr) (R':List Th),Y'.n=Y.n->Sep w0 r W (kT p Y' K'::blk q (.cells #[.int .i64 0,.int .i64 n] 80)::R')->W.cell? ⟨p,0,none⟩=some (Je Y.n)/\W.cell? ⟨q,0,none⟩=some (.int .i64 0)/\W.cell? ⟨q,1,none⟩=some (.int .i64 n)):=fun W Y' K' R' hy s=>by
  have k:=s.k0
  rw[hy] at k
  exact⟨k,(s.blkCell (p:=q) (Jmc (Jms)) 0).1,(s.blkCell (p:=q) (Jmc (Jms)) 1).1⟩
 have hk:=Jkr S1.out.drew (tr n) HU.out.2.1
 unfold Tr.Jh tr at hk
 have HK1:=Ja hk
 have hS:=HT.out _ _ _ _ (by rfl) S1.out.drew
 clear hk
 go_region_held3 (fun W=>W.cell? ⟨p,1,none⟩=some (Je Y.t)/\W.cell? ⟨q,0,none⟩=some (.int .i64 0)/\W.cell? ⟨q,1,none⟩=some (.int .i64 n)) (first|with_reducible assumption|with_reducible exact hS) (first|(go_at_call 307;refine Jqa HK1.out ?_;rintro e w3 ⟨rfl,x3,s3⟩;have hS3:=HT.out _ _ _ _ (by rfl) s3;have S3:=Ja s3;clear s3))
 clear hS hS3 HT HK1
 go_wp2_with fail
 have SB:=Ja ((S3.out.box (.cells #[.int .i64 0,.int .i64 0,.int .i64 0,.int .u64 0,.int .u64 0,.int .i64 0] 82)).third.drew)
 have HK:=Ja (Xu S3.out.drew HU.out.1.1 HU.out.1.2 HU.out.2.2)
 have HKB:=Ja (Xu SB.out HU.out.1.1 HU.out.1.2 HU.out.2.2)
 go_cut [5,6] from 13 to 21 (fun sa sb wx=>∃ k y,sa=.pointer (some ⟨k,0,none⟩)/\sb=.int .i64 y/\Sep w0 r wx (kT p { Y with tv:=x3 } (outK K n)::blk q (.cells #[.int .i64 0,.int .i64 n] 80)::blk k (.cells #[.int .i64 c.k,.int .i64 c.o,.int .i64 c.r,.int .u64 c.b,.int .u64 c.g,.int .i64 c.z] 82)::R))
 case first =>
  have hS:=HN.out _ _ _ _ (by rfl) S3.out.drew
  have hSB:=HN.out _ _ _ _ (by rfl) SB.out
  go_region_held3 (fun W=>W.cell? ⟨p,0,none⟩=some (Je Y.n)/\W.cell? ⟨q,0,none⟩=some (.int .i64 0)/\W.cell? ⟨q,1,none⟩=some (.int .i64 n)) (first|with_reducible assumption|with_reducible exact hS|with_reducible exact hSB) (first|(go_at_call 308;(with_reducible refine Jqa HKB.out ?_);rintro e w3 ⟨y,rfl,s3⟩;have hS3:=HN.out _ _ _ _ (by rfl) s3;have s4:=s3.third.third;obtain⟨mf0,mz⟩:=s4.zCp (Jms);obtain⟨z0,z1,z2,z3,z4,z5⟩:=mz;have s5:=s4.putCp c;have s6:=s5.third;have hS6:=HN.out _ _ _ _ (by rfl) s6;have S6:=Ja s6;clear s3 s4 s5 s6)|(go_at_call 308;(with_reducible refine Jqa HK.out ?_);rintro e w3 ⟨y,rfl,s3⟩;have hS3:=HN.out _ _ _ _ (by rfl) s3;have s4:=(s3.box (.cells #[.int .i64 0,.int .i64 0,.int .i64 0,.int .u64 0,.int .u64 0,.int .i64 0] 82)).third;have hS4:=HN.out _ _ _ _ (by rfl) s4;have s6:=(s3.box (.cells #[.int .i64 c.k,.int .i64 c.o,.int .i64 c.r,.int .u64 c.b,.int .u64 c.g,.int .i64 c.z] 82)).third;have hS6:=HN.out _ _ _ _ (by rfl) s6;have S6:=Ja s6;clear s3 s4 s6))
  all_goals go_wp2_with fail
  all_goals go_meet
  all_goals exact⟨_,_,rfl,rfl,S6.out⟩
 case rest =>
  obtain⟨k,y,rfl,rfl,s6⟩:=hcut
  have S6:=Ja s6
  have c0:=S6.out.k0
  clear S1 S3 SB HK HKB HN HU s6
  have HH:=Ja (Ou S6.out)
  have HLA:Hid ((Sl.JX (outK K n).S).any (Z9 c)=lb):=hlb
  clear hlb
  have hmf:=Jhm
  obtain⟨A,hA⟩:∃ A,Sl.JX (outK K n).S=A:=⟨_,rfl⟩
  rw[hA] at HH HLA
  clear hA
  subst hl0
  go_wp2_with (first|(go_at_call 88;refine Jqa HH.out ?_;rintro e w4 ⟨ao,cap,rfl,s4⟩;have S4:=Ja s4;clear s4 c0)|(go_at_call 309;refine Jqa (VQ ((S4.out.perm (Jqn _ _ _)).perm (Jre _ ((Jre _ (Jqn _ _ _)).trans (Jqn _ _ _))))) ?_;rintro e w5 ⟨rfl,s5⟩;rw[HLA.out];have S5:=Ja (s5.perm (List.Perm.trans (Jre _ ((Jqn _ _ _).trans (Jre _ (Jqn _ _ _)))) (Jqn _ _ _)));clear s5;have m0:w5.cell? ⟨k,0,none⟩=some (.int .i64 c.k):=(S5.out.blkCell (p:=k) (Jmc (Jmc (Jmc (Jms)))) 0).1;have m1:w5.cell? ⟨k,1,none⟩=some (.int .i64 c.o):=(S5.out.blkCell (p:=k) (Jmc (Jmc (Jmc (Jms)))) 1).1)|(go_at_call 231;refine Jqa (Fs S5.out HFW.out c.o) ?_;rintro e w6 ⟨rfl,Y6,s6⟩;have S7:=Ja s6;clear s6 m0 m1)|fail)
  have HS:Hid (∀ (W:World) (Y':Ly) (K':Kr) (t1 t2:Th) (R':List Th),Y'.h=Y6.h->Sep w0 r W (kT p Y' K'::t1::t2::blk k (.cells #[.int .i64 c.k,.int .i64 c.o,.int .i64 c.r,.int .u64 c.b,.int .u64 c.g,.int .i64 c.z] 82)::R')->W.cell? ⟨p,2,none⟩=some (Je Y6.h)/\W.cell? ⟨k,1,none⟩=some (.int .i64 c.o)):=fun W Y' K' t1 t2 R' hy s=>by
   have kk:=s.k2
   rw[hy] at kk
   exact⟨kk,(s.blkCell (p:=k) (Jmc (Jmc (Jmc (Jms)))) 1).1⟩
  have hS:=HS.out _ _ _ _ _ _ (by rfl) S7.out.drew
  have HC:=Ja (Fr S7.out.drew c.o)
  go_region_held3 (fun W=>W.cell? ⟨p,2,none⟩=some (Je Y6.h)/\W.cell? ⟨k,1,none⟩=some (.int .i64 c.o)) (first|with_reducible assumption|with_reducible exact hS) (first|(go_at_call 232;refine Jqa HC.out ?_;rintro e w7 ⟨rfl,x7,s7⟩;have hS7:=HS.out _ _ _ _ _ _ (by rfl) s7;have S8:=Ja s7;clear s7))
  clear hS hS7 HS
  go_wp2
  go_ret
  exact⟨rfl,_,S8.out.drop2.drop2.drop2⟩
theorem Jv8 (s:Sep w0 r w (kT p Y K::R)) :
  Calls Tryz.prog 23 #[Je p] w fun e w'=>∃ ao cap,e=.returned (.slice ao (Sl.JX K.S).length cap)/\Sep w0 r w' (kT p Y K::Jv elH (.slice ao (Sl.JX K.S).length cap) (Sl.JX K.S)::R):=by
 have c:=s.k0
 have HC:=Ja (Ou s)
 clear s
 go_enter Tryz.func23,Tryz.ntmps23
 go_wp2_with (go_at_call 88;refine Jqa HC.out ?_;rintro e w3 ⟨ao,cap,rfl,s3⟩)
 go_ret
 exact⟨ao,cap,rfl,s3⟩
end
end
end Go.Proofs.YtbfjjpdnoalojaaGreatDoor
