/-
  What stands below: KI3 KI4 KJ1; no condition but what each says.
-/
import Derived.Test.YtilnjnblpeeigaaGreatDoorPb16
import Derived.Test.YtilnjnblpeeigaaGreatDoorPb17
import Derived.Test.YtilnjnblpeeigaaGreatDoorPb18
import Derived.Test.YtilnjnblpeeigaaGreatDoorPb20
import Derived.Test.YtilnjnblpeeigaaGreatDoorPb21
namespace Go.Proofs.YtilnjnblpeeigaaGreatDoor
open Go.RowKit Go.Deep Go.Shelf
open Classical
def sameH (c:Sl.Cp) (x:Sl.Sl×Sl.Cp):Bool:=Ca.sameB (toCa x.2) (toCa c)
section
variable {w0 w w':World} {r p:Nat} {R:List Th}
set_option maxHeartbeats 4000000 in
theorem same_clo {qc:Nat} {c:Sl.Cp} (s:Sep w0 r w (blk qc (.cells #[.int .i64 c.k,.int .i64 c.o,.int .i64 c.r,.int .u64 c.b,.int .u64 c.g,.int .i64 c.z] 75)::R)) (x:Sl.Sl×Sl.Cp) :
  Calls Tryz.prog 182 #[.agg #[.int .i64 x.1.n,.int .i64 x.1.i,.int .i64 x.2.k,.int .i64 x.2.o,.int .i64 x.2.r,.int .u64 x.2.b,.int .u64 x.2.g,.int .i64 x.2.z],ptr qc] w fun e w'=>e = .returned (.bool (sameH c x))/\Sep w0 r w' (blk qc (.cells #[.int .i64 c.k,.int .i64 c.o,.int .i64 c.r,.int .u64 c.b,.int .u64 c.g,.int .i64 c.z] 75)::R):=by
 have s1:=(s.box (.cells #[.int .i64 x.1.n,.int .i64 x.1.i,.int .i64 x.2.k,.int .i64 x.2.o,.int .i64 x.2.r,.int .u64 x.2.b,.int .u64 x.2.g,.int .i64 x.2.z] 238)).swap
 obtain ⟨c0,c1,c2,c3,c4,c5,-⟩:=s1.cells6 (List.mem_cons_self)
 have hm:=fun j=>(s1.blkCell (p:=w.heap.size) (List.mem_cons_of_mem _ (List.mem_cons_self)) j).1
 have S1:=hid s1
 have HC1:Hid (∀ W:World,Calls Tryz.prog 183 #[.agg #[.int .i64 x.2.k,.int .i64 x.2.o,.int .i64 x.2.r,.int .u64 x.2.b,.int .u64 x.2.g,.int .i64 x.2.z],.agg #[.int .i64 c.k,.int .i64 c.o,.int .i64 c.r,.int .u64 c.b,.int .u64 c.g,.int .i64 c.z]] W fun e w'=>e = .returned (.bool (sameH c x))/\Below W.heap.size W w'):=fun W=>Ca.same_any (toCa x.2) (toCa c) W
 clear s s1
 obtain ⟨⟨xn,xi⟩,⟨xk,xo,xr,xb,xg,xz⟩⟩:=x
 generalize sameH c _=sb at *
 have hm0:(w.alloc (.cells #[.int .i64 xn,.int .i64 xi,.int .i64 xk,.int .i64 xo,.int .i64 xr,.int .u64 xb,.int .u64 xg,.int .i64 xz] 238)).cell? ⟨w.heap.size,0,none⟩=some (.int .i64 xn):=hm 0
 have hm1:(w.alloc (.cells #[.int .i64 xn,.int .i64 xi,.int .i64 xk,.int .i64 xo,.int .i64 xr,.int .u64 xb,.int .u64 xg,.int .i64 xz] 238)).cell? ⟨w.heap.size,1,none⟩=some (.int .i64 xi):=hm 1
 have hm2:(w.alloc (.cells #[.int .i64 xn,.int .i64 xi,.int .i64 xk,.int .i64 xo,.int .i64 xr,.int .u64 xb,.int .u64 xg,.int .i64 xz] 238)).cell? ⟨w.heap.size,2,none⟩=some (.int .i64 xk):=hm 2
 have hm3:(w.alloc (.cells #[.int .i64 xn,.int .i64 xi,.int .i64 xk,.int .i64 xo,.int .i64 xr,.int .u64 xb,.int .u64 xg,.int .i64 xz] 238)).cell? ⟨w.heap.size,3,none⟩=some (.int .i64 xo):=hm 3
 have hm4:(w.alloc (.cells #[.int .i64 xn,.int .i64 xi,.int .i64 xk,.int .i64 xo,.int .i64 xr,.int .u64 xb,.int .u64 xg,.int .i64 xz] 238)).cell? ⟨w.heap.size,4,none⟩=some (.int .i64 xr):=hm 4
 have hm5:(w.alloc (.cells #[.int .i64 xn,.int .i64 xi,.int .i64 xk,.int .i64 xo,.int .i64 xr,.int .u64 xb,.int .u64 xg,.int .i64 xz] 238)).cell? ⟨w.heap.size,5,none⟩=some (.int .u64 xb):=hm 5
 have hm6:(w.alloc (.cells #[.int .i64 xn,.int .i64 xi,.int .i64 xk,.int .i64 xo,.int .i64 xr,.int .u64 xb,.int .u64 xg,.int .i64 xz] 238)).cell? ⟨w.heap.size,6,none⟩=some (.int .u64 xg):=hm 6
 have hm7:(w.alloc (.cells #[.int .i64 xn,.int .i64 xi,.int .i64 xk,.int .i64 xo,.int .i64 xr,.int .u64 xb,.int .u64 xg,.int .i64 xz] 238)).cell? ⟨w.heap.size,7,none⟩=some (.int .i64 xz):=hm 7
 clear hm
 generalize hw:w.alloc (.cells #[.int .i64 xn,.int .i64 xi,.int .i64 xk,.int .i64 xo,.int .i64 xr,.int .u64 xb,.int .u64 xg,.int .i64 xz] 238)=w1 at *
 have HW:=hid hw
 clear hw
 go_enter Tryz.func182,Tryz.ntmps182
 go_wp2_with (first | rw [HW.out] | (go_at_call 183;refine Calls.mono (HC1.out _) ?_;rintro e w3 ⟨rfl,b3⟩;have S3:=hid (S1.out.below b3).drop2;clear b3) | fail)
 go_ret
 exact ⟨rfl,S3.out⟩
set_option maxHeartbeats 4000000 in
theorem index_h {v:Value} {Z:List (Sl.Sl×Sl.Cp)} {qc:Nat} {c:Sl.Cp} (s:Sep w0 r w (lst elH v Z::blk qc (.cells #[.int .i64 c.k,.int .i64 c.o,.int .i64 c.r,.int .u64 c.b,.int .u64 c.g,.int .i64 c.z] 75)::R)) :
  Calls Tryz.prog 216 #[v,.func (.func 182) #[] #[ptr qc]] w fun e w'=>e = .returned (.int .i64 (idxG (sameH c) Z))/\Sep w0 r w' (lst elH v Z::blk qc (.cells #[.int .i64 c.k,.int .i64 c.o,.int .i64 c.r,.int .u64 c.b,.int .u64 c.g,.int .i64 c.z] 75)::R):=by
 obtain ⟨ao,cap,rfl⟩:=s.listIs (E:=elH) (v:=v) (A:=Z) (by simp)
 have hzm:Z.length<=9223372036854775807:=by
  obtain ⟨ao',cap',e,h1,h2,-⟩:=Row.slice (s.each (lst elH (.slice ao Z.length cap) Z) (by simp)).1
  exact Nat.le_trans h1 h2
 have S1:=hid s
 have eg:=enters_of Tryz.func182 (by kernel_rfl) rfl
 clear s
 generalize hN:Z.length=N at *
 have HN:=hid hN
 clear hN
 go_enter Tryz.func216,Tryz.ntmps216
 go_wp2
 go_loopw [5,8] (fun _ s8 wr=>∃ kk:Nat,kk<=N/\s8 = .int .i64 kk/\Sep w0 r wr (lst elH (.slice ao N cap) Z::blk qc (.cells #[.int .i64 c.k,.int .i64 c.o,.int .i64 c.r,.int .u64 c.b,.int .u64 c.g,.int .i64 c.z] 75)::R)/\Hid (∀ j y,j<kk->Z[j]? = some y->sameH c y=false)) (fun _ s8 _=>N - (intOf s8).toNat)
 case atStart=>exact ⟨0,Nat.zero_le _,rfl,S1.out,fun j y hj=>absurd hj (Nat.not_lt_zero _)⟩
 case round =>
  clear S1
  obtain ⟨kk,hkk,rfl,s2,A⟩:=hrel
  by_cases hlt:kk<N
  ·have hltz:(kk:Int)<(N:Int):=by omega
   obtain ⟨x,hx⟩:∃ x,Z[kk]? = some x:=⟨_,List.getElem?_eq_getElem (by have:=HN.out;omega)⟩
   obtain ⟨g,rfl,hc⟩:=s2.listAt okH (ao:=ao) (n:=N) (cap:=cap) (A:=Z) (by simp) hx
   have d0:wr.cell? ⟨g,kk*8,none⟩=some (.int .i64 x.1.n):=hc 0 _ rfl
   have d1:wr.cell? ⟨g,kk*8+1,none⟩=some (.int .i64 x.1.i):=hc 1 _ rfl
   have d2:wr.cell? ⟨g,kk*8+2,none⟩=some (.int .i64 x.2.k):=hc 2 _ rfl
   have d3:wr.cell? ⟨g,kk*8+3,none⟩=some (.int .i64 x.2.o):=hc 3 _ rfl
   have d4:wr.cell? ⟨g,kk*8+4,none⟩=some (.int .i64 x.2.r):=hc 4 _ rfl
   have d5:wr.cell? ⟨g,kk*8+5,none⟩=some (.int .u64 x.2.b):=hc 5 _ rfl
   have d6:wr.cell? ⟨g,kk*8+6,none⟩=some (.int .u64 x.2.g):=hc 6 _ rfl
   have d7:wr.cell? ⟨g,kk*8+7,none⟩=some (.int .i64 x.2.z):=hc 7 _ rfl
   have HX:=hid hx
   have HL:=hid hlt
   have hcall:=same_clo s2.swap x
   clear s2 hc hx hlt
   cases hq:sameH c x with
   | true =>
    rw [hq] at hcall
    have HC:=hid hcall
    have HR:=hid (idxG_hit HX.out (hq) A.out)
    clear hcall hq
    go_wp2_with (go_at_call 182;refine HC.out.mono ?_;rintro e w3 ⟨rfl,s3⟩;have S3:=hid s3.swap;clear s3)
    go_ret
    exact ⟨ret_int HR.out.symm,S3.out⟩
   | false =>
    rw [hq] at hcall
    have HC:=hid hcall
    have HQ:Hid (sameH c x=false):=hq
    clear hcall hq
    go_wp2_with (go_at_call 182;refine HC.out.mono ?_;rintro e w3 ⟨rfl,s3⟩;have S3:=hid s3.swap;clear s3)
    go_roundw
    case rel =>
     refine ⟨kk+1,by have:=HL.out;omega,by go_num,S3.out,fun j z hj hz=>?_⟩
     by_cases e:j=kk
     ·subst e
      rw [HX.out] at hz
      cases hz
      exact HQ.out
     ·exact A.out j z (by omega) hz
    case measure=>simp [intOf];have:=HL.out;omega
  ·have hltz:¬ (kk:Int)<(N:Int):=by omega
   have HE:=hid (idxG_miss (p:=sameH c) (Z:=Z) fun j y hj=>A.out j y (by have:=(List.getElem?_eq_some_iff.1 hj).1;have:=HN.out;omega) hj)
   have S2:=hid s2
   clear hlt hkk A s2
   go_wp2
   go_ret
   exact ⟨ret_int HE.out.symm,S2.out⟩
theorem contains_h {v:Value} {Z:List (Sl.Sl×Sl.Cp)} {qc:Nat} {c:Sl.Cp} (s:Sep w0 r w (lst elH v Z::blk qc (.cells #[.int .i64 c.k,.int .i64 c.o,.int .i64 c.r,.int .u64 c.b,.int .u64 c.g,.int .i64 c.z] 75)::R)) :
  Calls Tryz.prog 181 #[v,.func (.func 182) #[] #[ptr qc]] w fun e w'=>e = .returned (.bool (Z.any (sameH c)))/\Sep w0 r w' (lst elH v Z::blk qc (.cells #[.int .i64 c.k,.int .i64 c.o,.int .i64 c.r,.int .u64 c.b,.int .u64 c.g,.int .i64 c.z] 75)::R):=by
 have HI:=hid (index_h s)
 have hd:=idxG_any (sameH c) Z
 obtain ⟨ao,cap,rfl⟩:=s.listIs (E:=elH) (v:=v) (A:=Z) (by simp)
 clear s
 generalize Z.any (sameH c)=b at *
 generalize idxG (sameH c) Z=z at *
 generalize Z.length=N at *
 go_enter Tryz.func181,Tryz.ntmps181
 go_wp2_with (go_at_call 216;refine Calls.mono HI.out ?_;rintro e w3 ⟨rfl,s3⟩;have S3:=hid s3;clear s3)
 go_ret
 exact ⟨rfl,S3.out⟩
end
end Go.Proofs.YtilnjnblpeeigaaGreatDoor
namespace Go.Proofs.YtilnjnblpeeigaaGreatDoor
open Go.RowKit Go.Deep Go.Shelf
open Classical
section
variable {w0 w w':World} {r p:Nat} {Y:Ly} {K:Kr} {R:List Th}
theorem nd_takes (s:Sep w0 r w (kT p Y K::R)) {n:Int} (h0:0<=n) (h1:n<=63) {c:Sl.Cp} (hc:Sl.takeC K.S (sl n)=c) :
  Calls Tryz.prog 180 #[ptr Y.n,.agg #[.int .i64 0,.int .i64 n]] w fun e w'=>∃ x,e = .returned (.tuple #[.agg #[.int .i64 c.k,.int .i64 c.o,.int .i64 c.r,.int .u64 c.b,.int .u64 c.g,.int .i64 c.z],.int .i64 x])/\Sep w0 r w' (kT p Y { K with S:=Sl.takeS K.S (sl n) }::R):=by
 have h:=k_take s ⟨0,n⟩ ⟨⟨by show _<=(0:Int);omega,by show (0:Int)<=_;omega⟩,⟨by show _<=n;omega,by show n<=_;omega⟩⟩
 rw [show Sl.takeC K.S ⟨0,n⟩=c from hc] at h
 exact h.mono fun e w' k=>⟨_,k.1,k.2⟩
theorem k_held (s:Sep w0 r w (kT p Y K::R)):Calls Tryz.prog 88 #[ptr Y.n] w fun e w'=>∃ ao cap,e = .returned (.slice ao (Sl.held K.S).length cap)/\Sep w0 r w' (kT p Y K::lst elH (.slice ao (Sl.held K.S).length cap) (Sl.held K.S)::R):=by
 obtain ⟨Q,s1,bk⟩:=s.kN
 refine Calls.mono (nd_held s1) ?_
 rintro e w' ⟨v,rfl,h⟩
 have h2:=bk w' _ _ [_] h
 obtain ⟨ao,cap,rfl⟩:=h2.listIs (E:=elH) (v:=v) (A:=Sl.held K.S) (by simp)
 exact ⟨ao,cap,rfl,h2⟩
set_option maxHeartbeats 4000000 in
set_option maxRecDepth 100000 in
theorem drop_kept (s:Sep w0 r w (kT p Y K::R)) {n:Int} (h0:0<=n) (h1:n<=63) (hl:K.E.length<=1000) {c:Sl.Cp} (hc:Sl.takeC K.S (sl n)=c) (hlb:(Sl.held (outK K n).S).any (sameH c)=true) :
  Calls Tryz.prog 120 #[ptr p,.agg #[.int .i64 0,.int .i64 n]] w fun e w'=>e = .returned (.slice none 0 0)/\KS w0 r w' p (outK K n) R:=by
 have S1:=hid ((s.box (.cells #[.int .i64 0,.int .i64 n] 88)).swap)
 obtain ⟨w1,hw⟩:∃ w1,w.alloc (.cells #[.int .i64 0,.int .i64 n] 88)=w1:=⟨_,rfl⟩
 rw [hw] at S1
 have HW:=hid hw
 have HU:=hid (And.intro (And.intro h0 h1) (And.intro hl hc))
 clear s hw h0 h1 hl hc
 obtain ⟨lb,hl0⟩:∃ lb,lb=true:=⟨_,rfl⟩
 rw [<- hl0] at hlb
 go_enter Tryz.func120,Tryz.ntmps120
 go_wp2_with (first | rw [HW.out] | fail)
 generalize w.heap.size=q at *
 have HT:Hid (∀ (W:World) (Y':Ly) (K':Kr) (R':List Th),Y'.t=Y.t->Sep w0 r W (kT p Y' K'::blk q (.cells #[.int .i64 0,.int .i64 n] 88)::R')->W.cell? ⟨p,1,none⟩=some (ptr Y.t)/\W.cell? ⟨q,0,none⟩=some (.int .i64 0)/\W.cell? ⟨q,1,none⟩=some (.int .i64 n)):=fun W Y' K' R' hy s=>by
  have k:=s.k1
  rw [hy] at k
  exact ⟨k,(s.blkCell (p:=q) (List.mem_cons_of_mem _ (List.mem_cons_self)) 0).1,(s.blkCell (p:=q) (List.mem_cons_of_mem _ (List.mem_cons_self)) 1).1⟩
 have HN:Hid (∀ (W:World) (Y':Ly) (K':Kr) (R':List Th),Y'.n=Y.n->Sep w0 r W (kT p Y' K'::blk q (.cells #[.int .i64 0,.int .i64 n] 88)::R')->W.cell? ⟨p,0,none⟩=some (ptr Y.n)/\W.cell? ⟨q,0,none⟩=some (.int .i64 0)/\W.cell? ⟨q,1,none⟩=some (.int .i64 n)):=fun W Y' K' R' hy s=>by
  have k:=s.k0
  rw [hy] at k
  exact ⟨k,(s.blkCell (p:=q) (List.mem_cons_of_mem _ (List.mem_cons_self)) 0).1,(s.blkCell (p:=q) (List.mem_cons_of_mem _ (List.mem_cons_self)) 1).1⟩
 have hk:=k_tk S1.out.drew (tr n) HU.out.2.1
 unfold Tr.encS tr at hk
 have HK1:=hid hk
 have hS:=HT.out _ _ _ _ (by rfl) S1.out.drew
 clear hk
 go_region_held3 (fun W=>W.cell? ⟨p,1,none⟩=some (ptr Y.t)/\W.cell? ⟨q,0,none⟩=some (.int .i64 0)/\W.cell? ⟨q,1,none⟩=some (.int .i64 n)) (first | with_reducible assumption | with_reducible exact hS) (first | (go_at_call 179;refine Calls.mono HK1.out ?_;rintro e w3 ⟨rfl,x3,s3⟩;have hS3:=HT.out _ _ _ _ (by rfl) s3;have S3:=hid s3;clear s3))
 clear hS hS3 HT HK1
 go_wp2_with fail
 have SB:=hid ((S3.out.box (.cells #[.int .i64 0,.int .i64 0,.int .i64 0,.int .u64 0,.int .u64 0,.int .i64 0] 75)).third.drew)
 have HK:=hid (nd_takes S3.out.drew HU.out.1.1 HU.out.1.2 HU.out.2.2)
 have HKB:=hid (nd_takes SB.out HU.out.1.1 HU.out.1.2 HU.out.2.2)
 go_cut [5,6] from 13 to 21 (fun sa sb wx=>∃ k y,sa = .pointer (some ⟨k,0,none⟩)/\sb = .int .i64 y/\Sep w0 r wx (kT p { Y with tv:=x3 } (outK K n)::blk q (.cells #[.int .i64 0,.int .i64 n] 88)::blk k (.cells #[.int .i64 c.k,.int .i64 c.o,.int .i64 c.r,.int .u64 c.b,.int .u64 c.g,.int .i64 c.z] 75)::R))
 case first =>
  have hS:=HN.out _ _ _ _ (by rfl) S3.out.drew
  have hSB:=HN.out _ _ _ _ (by rfl) SB.out
  go_region_held3 (fun W=>W.cell? ⟨p,0,none⟩=some (ptr Y.n)/\W.cell? ⟨q,0,none⟩=some (.int .i64 0)/\W.cell? ⟨q,1,none⟩=some (.int .i64 n)) (first | with_reducible assumption | with_reducible exact hS | with_reducible exact hSB) (first | (go_at_call 180;(with_reducible refine Calls.mono HKB.out ?_);rintro e w3 ⟨y,rfl,s3⟩;have hS3:=HN.out _ _ _ _ (by rfl) s3;have s4:=s3.third.third;obtain ⟨mf0,mz⟩:=s4.zCp (List.mem_cons_self);obtain ⟨z0,z1,z2,z3,z4,z5⟩:=mz;have s5:=s4.putCp c;have s6:=s5.third;have hS6:=HN.out _ _ _ _ (by rfl) s6;have S6:=hid s6;clear s3 s4 s5 s6) | (go_at_call 180;(with_reducible refine Calls.mono HK.out ?_);rintro e w3 ⟨y,rfl,s3⟩;have hS3:=HN.out _ _ _ _ (by rfl) s3;have s4:=(s3.box (.cells #[.int .i64 0,.int .i64 0,.int .i64 0,.int .u64 0,.int .u64 0,.int .i64 0] 75)).third;have hS4:=HN.out _ _ _ _ (by rfl) s4;have s6:=(s3.box (.cells #[.int .i64 c.k,.int .i64 c.o,.int .i64 c.r,.int .u64 c.b,.int .u64 c.g,.int .i64 c.z] 75)).third;have hS6:=HN.out _ _ _ _ (by rfl) s6;have S6:=hid s6;clear s3 s4 s6))
  all_goals go_wp2_with fail
  all_goals go_meet
  all_goals exact ⟨_,_,rfl,rfl,S6.out⟩
 case rest =>
  obtain ⟨k,y,rfl,rfl,s6⟩:=hcut
  have S6:=hid s6
  have c0:=S6.out.k0
  clear S1 S3 SB HK HKB HN HU s6
  have HH:=hid (k_held S6.out)
  have HLA:Hid ((Sl.held (outK K n).S).any (sameH c)=lb):=hlb
  clear hlb
  have hmf:∀ (fn:Fn) (first cap:Array Value) (w:World),(Instr.makeFunc fn first cap).run Tryz.prog w = .ok (.func fn first cap) w:=fun _ _ _ _=>rfl
  obtain ⟨A,hA⟩:∃ A,Sl.held (outK K n).S=A:=⟨_,rfl⟩
  rw [hA] at HH HLA
  clear hA
  subst hl0
  go_wp2_with (first | (go_at_call 88;refine Calls.mono HH.out ?_;rintro e w4 ⟨ao,cap,rfl,s4⟩;have S4:=hid s4;clear s4 c0) | (go_at_call 181;refine Calls.mono (contains_h ((S4.out.perm (List.Perm.swap _ _ _)).perm (List.Perm.cons _ ((List.Perm.cons _ (List.Perm.swap _ _ _)).trans (List.Perm.swap _ _ _))))) ?_;rintro e w5 ⟨rfl,s5⟩;rw [HLA.out];have S5:=hid (s5.perm (List.Perm.trans (List.Perm.cons _ ((List.Perm.swap _ _ _).trans (List.Perm.cons _ (List.Perm.swap _ _ _)))) (List.Perm.swap _ _ _)));clear s5) | fail)
  go_ret
  exact ⟨rfl,_,S5.out.drop2.drop2.drop2⟩
set_option maxHeartbeats 4000000 in
set_option maxRecDepth 100000 in
theorem drop_other (s:Sep w0 r w (kT p Y K::R)) {n:Int} (h0:0<=n) (h1:n<=63) (hl:K.E.length<=1000) {c:Sl.Cp} (hc:Sl.takeC K.S (sl n)=c) (hlb:(Sl.held (outK K n).S).any (sameH c)=false) (hk3:¬ c.k=3) (hk6:¬ c.k=6) (hk7:¬ c.k=7) :
  Calls Tryz.prog 120 #[ptr p,.agg #[.int .i64 0,.int .i64 n]] w fun e w'=>e = .returned (.slice none 0 0)/\KS w0 r w' p (outK K n) R:=by
 have S1:=hid ((s.box (.cells #[.int .i64 0,.int .i64 n] 88)).swap)
 obtain ⟨w1,hw⟩:∃ w1,w.alloc (.cells #[.int .i64 0,.int .i64 n] 88)=w1:=⟨_,rfl⟩
 rw [hw] at S1
 have HW:=hid hw
 have HU:=hid (And.intro (And.intro h0 h1) (And.intro hl hc))
 clear s hw h0 h1 hl hc
 obtain ⟨lb,hl0⟩:∃ lb,lb=false:=⟨_,rfl⟩
 rw [<- hl0] at hlb
 have hq3:(c.k == 3)=false:=by simpa using hk3
 have hd3:decide (c.k=3)=false:=by simpa using hk3
 have hq6:(c.k == 6)=false:=by simpa using hk6
 have hd6:decide (c.k=6)=false:=by simpa using hk6
 have hq7:(c.k == 7)=false:=by simpa using hk7
 have hd7:decide (c.k=7)=false:=by simpa using hk7
 clear hk3 hk6 hk7
 go_enter Tryz.func120,Tryz.ntmps120
 go_wp2_with (first | rw [HW.out] | fail)
 generalize w.heap.size=q at *
 have HT:Hid (∀ (W:World) (Y':Ly) (K':Kr) (R':List Th),Y'.t=Y.t->Sep w0 r W (kT p Y' K'::blk q (.cells #[.int .i64 0,.int .i64 n] 88)::R')->W.cell? ⟨p,1,none⟩=some (ptr Y.t)/\W.cell? ⟨q,0,none⟩=some (.int .i64 0)/\W.cell? ⟨q,1,none⟩=some (.int .i64 n)):=fun W Y' K' R' hy s=>by
  have k:=s.k1
  rw [hy] at k
  exact ⟨k,(s.blkCell (p:=q) (List.mem_cons_of_mem _ (List.mem_cons_self)) 0).1,(s.blkCell (p:=q) (List.mem_cons_of_mem _ (List.mem_cons_self)) 1).1⟩
 have HN:Hid (∀ (W:World) (Y':Ly) (K':Kr) (R':List Th),Y'.n=Y.n->Sep w0 r W (kT p Y' K'::blk q (.cells #[.int .i64 0,.int .i64 n] 88)::R')->W.cell? ⟨p,0,none⟩=some (ptr Y.n)/\W.cell? ⟨q,0,none⟩=some (.int .i64 0)/\W.cell? ⟨q,1,none⟩=some (.int .i64 n)):=fun W Y' K' R' hy s=>by
  have k:=s.k0
  rw [hy] at k
  exact ⟨k,(s.blkCell (p:=q) (List.mem_cons_of_mem _ (List.mem_cons_self)) 0).1,(s.blkCell (p:=q) (List.mem_cons_of_mem _ (List.mem_cons_self)) 1).1⟩
 have hk:=k_tk S1.out.drew (tr n) HU.out.2.1
 unfold Tr.encS tr at hk
 have HK1:=hid hk
 have hS:=HT.out _ _ _ _ (by rfl) S1.out.drew
 clear hk
 go_region_held3 (fun W=>W.cell? ⟨p,1,none⟩=some (ptr Y.t)/\W.cell? ⟨q,0,none⟩=some (.int .i64 0)/\W.cell? ⟨q,1,none⟩=some (.int .i64 n)) (first | with_reducible assumption | with_reducible exact hS) (first | (go_at_call 179;refine Calls.mono HK1.out ?_;rintro e w3 ⟨rfl,x3,s3⟩;have hS3:=HT.out _ _ _ _ (by rfl) s3;have S3:=hid s3;clear s3))
 clear hS hS3 HT HK1
 go_wp2_with fail
 have SB:=hid ((S3.out.box (.cells #[.int .i64 0,.int .i64 0,.int .i64 0,.int .u64 0,.int .u64 0,.int .i64 0] 75)).third.drew)
 have HK:=hid (nd_takes S3.out.drew HU.out.1.1 HU.out.1.2 HU.out.2.2)
 have HKB:=hid (nd_takes SB.out HU.out.1.1 HU.out.1.2 HU.out.2.2)
 go_cut [5,6] from 13 to 21 (fun sa sb wx=>∃ k y,sa = .pointer (some ⟨k,0,none⟩)/\sb = .int .i64 y/\Sep w0 r wx (kT p { Y with tv:=x3 } (outK K n)::blk q (.cells #[.int .i64 0,.int .i64 n] 88)::blk k (.cells #[.int .i64 c.k,.int .i64 c.o,.int .i64 c.r,.int .u64 c.b,.int .u64 c.g,.int .i64 c.z] 75)::R))
 case first =>
  have hS:=HN.out _ _ _ _ (by rfl) S3.out.drew
  have hSB:=HN.out _ _ _ _ (by rfl) SB.out
  go_region_held3 (fun W=>W.cell? ⟨p,0,none⟩=some (ptr Y.n)/\W.cell? ⟨q,0,none⟩=some (.int .i64 0)/\W.cell? ⟨q,1,none⟩=some (.int .i64 n)) (first | with_reducible assumption | with_reducible exact hS | with_reducible exact hSB) (first | (go_at_call 180;(with_reducible refine Calls.mono HKB.out ?_);rintro e w3 ⟨y,rfl,s3⟩;have hS3:=HN.out _ _ _ _ (by rfl) s3;have s4:=s3.third.third;obtain ⟨mf0,mz⟩:=s4.zCp (List.mem_cons_self);obtain ⟨z0,z1,z2,z3,z4,z5⟩:=mz;have s5:=s4.putCp c;have s6:=s5.third;have hS6:=HN.out _ _ _ _ (by rfl) s6;have S6:=hid s6;clear s3 s4 s5 s6) | (go_at_call 180;(with_reducible refine Calls.mono HK.out ?_);rintro e w3 ⟨y,rfl,s3⟩;have hS3:=HN.out _ _ _ _ (by rfl) s3;have s4:=(s3.box (.cells #[.int .i64 0,.int .i64 0,.int .i64 0,.int .u64 0,.int .u64 0,.int .i64 0] 75)).third;have hS4:=HN.out _ _ _ _ (by rfl) s4;have s6:=(s3.box (.cells #[.int .i64 c.k,.int .i64 c.o,.int .i64 c.r,.int .u64 c.b,.int .u64 c.g,.int .i64 c.z] 75)).third;have hS6:=HN.out _ _ _ _ (by rfl) s6;have S6:=hid s6;clear s3 s4 s6))
  all_goals go_wp2_with fail
  all_goals go_meet
  all_goals exact ⟨_,_,rfl,rfl,S6.out⟩
 case rest =>
  obtain ⟨k,y,rfl,rfl,s6⟩:=hcut
  have S6:=hid s6
  have c0:=S6.out.k0
  clear S1 S3 SB HK HKB HN HU s6
  have HH:=hid (k_held S6.out)
  have HLA:Hid ((Sl.held (outK K n).S).any (sameH c)=lb):=hlb
  clear hlb
  have hmf:∀ (fn:Fn) (first cap:Array Value) (w:World),(Instr.makeFunc fn first cap).run Tryz.prog w = .ok (.func fn first cap) w:=fun _ _ _ _=>rfl
  obtain ⟨A,hA⟩:∃ A,Sl.held (outK K n).S=A:=⟨_,rfl⟩
  rw [hA] at HH HLA
  clear hA
  subst hl0
  go_wp2_with (first | (go_at_call 88;refine Calls.mono HH.out ?_;rintro e w4 ⟨ao,cap,rfl,s4⟩;have S4:=hid s4;clear s4 c0) | (go_at_call 181;refine Calls.mono (contains_h ((S4.out.perm (List.Perm.swap _ _ _)).perm (List.Perm.cons _ ((List.Perm.cons _ (List.Perm.swap _ _ _)).trans (List.Perm.swap _ _ _))))) ?_;rintro e w5 ⟨rfl,s5⟩;rw [HLA.out];have S5:=hid (s5.perm (List.Perm.trans (List.Perm.cons _ ((List.Perm.swap _ _ _).trans (List.Perm.cons _ (List.Perm.swap _ _ _)))) (List.Perm.swap _ _ _)));clear s5;have m0:w5.cell? ⟨k,0,none⟩=some (.int .i64 c.k):=(S5.out.blkCell (p:=k) (List.mem_cons_of_mem _ (List.mem_cons_of_mem _ (List.mem_cons_of_mem _ (List.mem_cons_self)))) 0).1;have m1:w5.cell? ⟨k,1,none⟩=some (.int .i64 c.o):=(S5.out.blkCell (p:=k) (List.mem_cons_of_mem _ (List.mem_cons_of_mem _ (List.mem_cons_of_mem _ (List.mem_cons_self)))) 1).1) | fail)
  go_ret
  exact ⟨rfl,_,S5.out.drop2.drop2.drop2⟩
set_option maxHeartbeats 4000000 in
set_option maxRecDepth 100000 in
theorem drop_frame (s:Sep w0 r w (kT p Y K::R)) {n:Int} (h0:0<=n) (h1:n<=63) (hl:K.E.length<=1000) {c:Sl.Cp} (hc:Sl.takeC K.S (sl n)=c) (hlb:(Sl.held (outK K n).S).any (sameH c)=false) (hk:c.k=6) (hd:K.D.length<=1000000) :
  Calls Tryz.prog 120 #[ptr p,.agg #[.int .i64 0,.int .i64 n]] w fun e w'=>∃ v,e = .returned v/\KS w0 r w' p { outK K n with D:=(outK K n).D.map fun D=>unmL D (Ta.frmL D.f c.o) } (lst elR v (goneF c.o 0 (outK K n).D)::R):=by
 have S1:=hid ((s.box (.cells #[.int .i64 0,.int .i64 n] 88)).swap)
 obtain ⟨w1,hw⟩:∃ w1,w.alloc (.cells #[.int .i64 0,.int .i64 n] 88)=w1:=⟨_,rfl⟩
 rw [hw] at S1
 have HW:=hid hw
 have HU:=hid (And.intro (And.intro h0 h1) (And.intro hl hc))
 clear s hw h0 h1 hl hc
 obtain ⟨lb,hl0⟩:∃ lb,lb=false:=⟨_,rfl⟩
 rw [<- hl0] at hlb
 have hq3:(c.k == 3)=false:=by rw [hk];decide
 have hd3:decide (c.k=3)=false:=by rw [hk];decide
 have hq6:(c.k == 6)=true:=by rw [hk];decide
 have hd6:decide (c.k=6)=true:=by rw [hk];decide
 have hq7:(c.k == 7)=false:=by rw [hk];decide
 have hd7:decide (c.k=7)=false:=by rw [hk];decide
 clear hk
 have HDL:=hid (show (outK K n).D.length<=1000000 from hd)
 clear hd
 go_enter Tryz.func120,Tryz.ntmps120
 go_wp2_with (first | rw [HW.out] | fail)
 generalize w.heap.size=q at *
 have HT:Hid (∀ (W:World) (Y':Ly) (K':Kr) (R':List Th),Y'.t=Y.t->Sep w0 r W (kT p Y' K'::blk q (.cells #[.int .i64 0,.int .i64 n] 88)::R')->W.cell? ⟨p,1,none⟩=some (ptr Y.t)/\W.cell? ⟨q,0,none⟩=some (.int .i64 0)/\W.cell? ⟨q,1,none⟩=some (.int .i64 n)):=fun W Y' K' R' hy s=>by
  have k:=s.k1
  rw [hy] at k
  exact ⟨k,(s.blkCell (p:=q) (List.mem_cons_of_mem _ (List.mem_cons_self)) 0).1,(s.blkCell (p:=q) (List.mem_cons_of_mem _ (List.mem_cons_self)) 1).1⟩
 have HN:Hid (∀ (W:World) (Y':Ly) (K':Kr) (R':List Th),Y'.n=Y.n->Sep w0 r W (kT p Y' K'::blk q (.cells #[.int .i64 0,.int .i64 n] 88)::R')->W.cell? ⟨p,0,none⟩=some (ptr Y.n)/\W.cell? ⟨q,0,none⟩=some (.int .i64 0)/\W.cell? ⟨q,1,none⟩=some (.int .i64 n)):=fun W Y' K' R' hy s=>by
  have k:=s.k0
  rw [hy] at k
  exact ⟨k,(s.blkCell (p:=q) (List.mem_cons_of_mem _ (List.mem_cons_self)) 0).1,(s.blkCell (p:=q) (List.mem_cons_of_mem _ (List.mem_cons_self)) 1).1⟩
 have hk:=k_tk S1.out.drew (tr n) HU.out.2.1
 unfold Tr.encS tr at hk
 have HK1:=hid hk
 have hS:=HT.out _ _ _ _ (by rfl) S1.out.drew
 clear hk
 go_region_held3 (fun W=>W.cell? ⟨p,1,none⟩=some (ptr Y.t)/\W.cell? ⟨q,0,none⟩=some (.int .i64 0)/\W.cell? ⟨q,1,none⟩=some (.int .i64 n)) (first | with_reducible assumption | with_reducible exact hS) (first | (go_at_call 179;refine Calls.mono HK1.out ?_;rintro e w3 ⟨rfl,x3,s3⟩;have hS3:=HT.out _ _ _ _ (by rfl) s3;have S3:=hid s3;clear s3))
 clear hS hS3 HT HK1
 go_wp2_with fail
 have SB:=hid ((S3.out.box (.cells #[.int .i64 0,.int .i64 0,.int .i64 0,.int .u64 0,.int .u64 0,.int .i64 0] 75)).third.drew)
 have HK:=hid (nd_takes S3.out.drew HU.out.1.1 HU.out.1.2 HU.out.2.2)
 have HKB:=hid (nd_takes SB.out HU.out.1.1 HU.out.1.2 HU.out.2.2)
 go_cut [5,6] from 13 to 21 (fun sa sb wx=>∃ k y,sa = .pointer (some ⟨k,0,none⟩)/\sb = .int .i64 y/\Sep w0 r wx (kT p { Y with tv:=x3 } (outK K n)::blk q (.cells #[.int .i64 0,.int .i64 n] 88)::blk k (.cells #[.int .i64 c.k,.int .i64 c.o,.int .i64 c.r,.int .u64 c.b,.int .u64 c.g,.int .i64 c.z] 75)::R))
 case first =>
  have hS:=HN.out _ _ _ _ (by rfl) S3.out.drew
  have hSB:=HN.out _ _ _ _ (by rfl) SB.out
  go_region_held3 (fun W=>W.cell? ⟨p,0,none⟩=some (ptr Y.n)/\W.cell? ⟨q,0,none⟩=some (.int .i64 0)/\W.cell? ⟨q,1,none⟩=some (.int .i64 n)) (first | with_reducible assumption | with_reducible exact hS | with_reducible exact hSB) (first | (go_at_call 180;(with_reducible refine Calls.mono HKB.out ?_);rintro e w3 ⟨y,rfl,s3⟩;have hS3:=HN.out _ _ _ _ (by rfl) s3;have s4:=s3.third.third;obtain ⟨mf0,mz⟩:=s4.zCp (List.mem_cons_self);obtain ⟨z0,z1,z2,z3,z4,z5⟩:=mz;have s5:=s4.putCp c;have s6:=s5.third;have hS6:=HN.out _ _ _ _ (by rfl) s6;have S6:=hid s6;clear s3 s4 s5 s6) | (go_at_call 180;(with_reducible refine Calls.mono HK.out ?_);rintro e w3 ⟨y,rfl,s3⟩;have hS3:=HN.out _ _ _ _ (by rfl) s3;have s4:=(s3.box (.cells #[.int .i64 0,.int .i64 0,.int .i64 0,.int .u64 0,.int .u64 0,.int .i64 0] 75)).third;have hS4:=HN.out _ _ _ _ (by rfl) s4;have s6:=(s3.box (.cells #[.int .i64 c.k,.int .i64 c.o,.int .i64 c.r,.int .u64 c.b,.int .u64 c.g,.int .i64 c.z] 75)).third;have hS6:=HN.out _ _ _ _ (by rfl) s6;have S6:=hid s6;clear s3 s4 s6))
  all_goals go_wp2_with fail
  all_goals go_meet
  all_goals exact ⟨_,_,rfl,rfl,S6.out⟩
 case rest =>
  obtain ⟨k,y,rfl,rfl,s6⟩:=hcut
  have S6:=hid s6
  have c0:=S6.out.k0
  clear S1 S3 SB HK HKB HN HU s6
  have HH:=hid (k_held S6.out)
  have HLA:Hid ((Sl.held (outK K n).S).any (sameH c)=lb):=hlb
  clear hlb
  have hmf:∀ (fn:Fn) (first cap:Array Value) (w:World),(Instr.makeFunc fn first cap).run Tryz.prog w = .ok (.func fn first cap) w:=fun _ _ _ _=>rfl
  obtain ⟨A,hA⟩:∃ A,Sl.held (outK K n).S=A:=⟨_,rfl⟩
  rw [hA] at HH HLA
  clear hA
  subst hl0
  go_wp2_with (first | (go_at_call 88;refine Calls.mono HH.out ?_;rintro e w4 ⟨ao,cap,rfl,s4⟩;have S4:=hid s4;clear s4 c0) | (go_at_call 181;refine Calls.mono (contains_h ((S4.out.perm (List.Perm.swap _ _ _)).perm (List.Perm.cons _ ((List.Perm.cons _ (List.Perm.swap _ _ _)).trans (List.Perm.swap _ _ _))))) ?_;rintro e w5 ⟨rfl,s5⟩;rw [HLA.out];have S5:=hid (s5.perm (List.Perm.trans (List.Perm.cons _ ((List.Perm.swap _ _ _).trans (List.Perm.cons _ (List.Perm.swap _ _ _)))) (List.Perm.swap _ _ _)));clear s5;have m0:w5.cell? ⟨k,0,none⟩=some (.int .i64 c.k):=(S5.out.blkCell (p:=k) (List.mem_cons_of_mem _ (List.mem_cons_of_mem _ (List.mem_cons_of_mem _ (List.mem_cons_self)))) 0).1;have m1:w5.cell? ⟨k,1,none⟩=some (.int .i64 c.o):=(S5.out.blkCell (p:=k) (List.mem_cons_of_mem _ (List.mem_cons_of_mem _ (List.mem_cons_of_mem _ (List.mem_cons_self)))) 1).1) | (go_at_call 184;refine Calls.mono (unmapFrame_sep S5.out HDL.out c.o) ?_;rintro e w6 ⟨v,rfl,Y6,s6⟩;have S6:=hid s6;clear s6 m0 m1) | fail)
  go_ret
  exact ⟨v,rfl,_,S6.out.del3.del3.del3⟩
set_option maxHeartbeats 4000000 in
set_option maxRecDepth 100000 in
theorem drop_table (s:Sep w0 r w (kT p Y K::R)) {n:Int} (h0:0<=n) (h1:n<=63) (hl:K.E.length<=1000) {c:Sl.Cp} (hc:Sl.takeC K.S (sl n)=c) (hlb:(Sl.held (outK K n).S).any (sameH c)=false) (hk:c.k=7) (hd:K.D.length<=1000000) :
  Calls Tryz.prog 120 #[ptr p,.agg #[.int .i64 0,.int .i64 n]] w fun e w'=>∃ v,e = .returned v/\KS w0 r w' p { outK K n with D:=(outK K n).D.map fun D=>(drpJ c.o D 64).1 } (lst elR v (goneT c.o 0 (outK K n).D)::R):=by
 have S1:=hid ((s.box (.cells #[.int .i64 0,.int .i64 n] 88)).swap)
 obtain ⟨w1,hw⟩:∃ w1,w.alloc (.cells #[.int .i64 0,.int .i64 n] 88)=w1:=⟨_,rfl⟩
 rw [hw] at S1
 have HW:=hid hw
 have HU:=hid (And.intro (And.intro h0 h1) (And.intro hl hc))
 clear s hw h0 h1 hl hc
 obtain ⟨lb,hl0⟩:∃ lb,lb=false:=⟨_,rfl⟩
 rw [<- hl0] at hlb
 have hq3:(c.k == 3)=false:=by rw [hk];decide
 have hd3:decide (c.k=3)=false:=by rw [hk];decide
 have hq6:(c.k == 6)=false:=by rw [hk];decide
 have hd6:decide (c.k=6)=false:=by rw [hk];decide
 have hq7:(c.k == 7)=true:=by rw [hk];decide
 have hd7:decide (c.k=7)=true:=by rw [hk];decide
 clear hk
 have HDL:=hid (show (outK K n).D.length<=1000000 from hd)
 clear hd
 go_enter Tryz.func120,Tryz.ntmps120
 go_wp2_with (first | rw [HW.out] | fail)
 generalize w.heap.size=q at *
 have HT:Hid (∀ (W:World) (Y':Ly) (K':Kr) (R':List Th),Y'.t=Y.t->Sep w0 r W (kT p Y' K'::blk q (.cells #[.int .i64 0,.int .i64 n] 88)::R')->W.cell? ⟨p,1,none⟩=some (ptr Y.t)/\W.cell? ⟨q,0,none⟩=some (.int .i64 0)/\W.cell? ⟨q,1,none⟩=some (.int .i64 n)):=fun W Y' K' R' hy s=>by
  have k:=s.k1
  rw [hy] at k
  exact ⟨k,(s.blkCell (p:=q) (List.mem_cons_of_mem _ (List.mem_cons_self)) 0).1,(s.blkCell (p:=q) (List.mem_cons_of_mem _ (List.mem_cons_self)) 1).1⟩
 have HN:Hid (∀ (W:World) (Y':Ly) (K':Kr) (R':List Th),Y'.n=Y.n->Sep w0 r W (kT p Y' K'::blk q (.cells #[.int .i64 0,.int .i64 n] 88)::R')->W.cell? ⟨p,0,none⟩=some (ptr Y.n)/\W.cell? ⟨q,0,none⟩=some (.int .i64 0)/\W.cell? ⟨q,1,none⟩=some (.int .i64 n)):=fun W Y' K' R' hy s=>by
  have k:=s.k0
  rw [hy] at k
  exact ⟨k,(s.blkCell (p:=q) (List.mem_cons_of_mem _ (List.mem_cons_self)) 0).1,(s.blkCell (p:=q) (List.mem_cons_of_mem _ (List.mem_cons_self)) 1).1⟩
 have hk:=k_tk S1.out.drew (tr n) HU.out.2.1
 unfold Tr.encS tr at hk
 have HK1:=hid hk
 have hS:=HT.out _ _ _ _ (by rfl) S1.out.drew
 clear hk
 go_region_held3 (fun W=>W.cell? ⟨p,1,none⟩=some (ptr Y.t)/\W.cell? ⟨q,0,none⟩=some (.int .i64 0)/\W.cell? ⟨q,1,none⟩=some (.int .i64 n)) (first | with_reducible assumption | with_reducible exact hS) (first | (go_at_call 179;refine Calls.mono HK1.out ?_;rintro e w3 ⟨rfl,x3,s3⟩;have hS3:=HT.out _ _ _ _ (by rfl) s3;have S3:=hid s3;clear s3))
 clear hS hS3 HT HK1
 go_wp2_with fail
 have SB:=hid ((S3.out.box (.cells #[.int .i64 0,.int .i64 0,.int .i64 0,.int .u64 0,.int .u64 0,.int .i64 0] 75)).third.drew)
 have HK:=hid (nd_takes S3.out.drew HU.out.1.1 HU.out.1.2 HU.out.2.2)
 have HKB:=hid (nd_takes SB.out HU.out.1.1 HU.out.1.2 HU.out.2.2)
 go_cut [5,6] from 13 to 21 (fun sa sb wx=>∃ k y,sa = .pointer (some ⟨k,0,none⟩)/\sb = .int .i64 y/\Sep w0 r wx (kT p { Y with tv:=x3 } (outK K n)::blk q (.cells #[.int .i64 0,.int .i64 n] 88)::blk k (.cells #[.int .i64 c.k,.int .i64 c.o,.int .i64 c.r,.int .u64 c.b,.int .u64 c.g,.int .i64 c.z] 75)::R))
 case first =>
  have hS:=HN.out _ _ _ _ (by rfl) S3.out.drew
  have hSB:=HN.out _ _ _ _ (by rfl) SB.out
  go_region_held3 (fun W=>W.cell? ⟨p,0,none⟩=some (ptr Y.n)/\W.cell? ⟨q,0,none⟩=some (.int .i64 0)/\W.cell? ⟨q,1,none⟩=some (.int .i64 n)) (first | with_reducible assumption | with_reducible exact hS | with_reducible exact hSB) (first | (go_at_call 180;(with_reducible refine Calls.mono HKB.out ?_);rintro e w3 ⟨y,rfl,s3⟩;have hS3:=HN.out _ _ _ _ (by rfl) s3;have s4:=s3.third.third;obtain ⟨mf0,mz⟩:=s4.zCp (List.mem_cons_self);obtain ⟨z0,z1,z2,z3,z4,z5⟩:=mz;have s5:=s4.putCp c;have s6:=s5.third;have hS6:=HN.out _ _ _ _ (by rfl) s6;have S6:=hid s6;clear s3 s4 s5 s6) | (go_at_call 180;(with_reducible refine Calls.mono HK.out ?_);rintro e w3 ⟨y,rfl,s3⟩;have hS3:=HN.out _ _ _ _ (by rfl) s3;have s4:=(s3.box (.cells #[.int .i64 0,.int .i64 0,.int .i64 0,.int .u64 0,.int .u64 0,.int .i64 0] 75)).third;have hS4:=HN.out _ _ _ _ (by rfl) s4;have s6:=(s3.box (.cells #[.int .i64 c.k,.int .i64 c.o,.int .i64 c.r,.int .u64 c.b,.int .u64 c.g,.int .i64 c.z] 75)).third;have hS6:=HN.out _ _ _ _ (by rfl) s6;have S6:=hid s6;clear s3 s4 s6))
  all_goals go_wp2_with fail
  all_goals go_meet
  all_goals exact ⟨_,_,rfl,rfl,S6.out⟩
 case rest =>
  obtain ⟨k,y,rfl,rfl,s6⟩:=hcut
  have S6:=hid s6
  have c0:=S6.out.k0
  clear S1 S3 SB HK HKB HN HU s6
  have HH:=hid (k_held S6.out)
  have HLA:Hid ((Sl.held (outK K n).S).any (sameH c)=lb):=hlb
  clear hlb
  have hmf:∀ (fn:Fn) (first cap:Array Value) (w:World),(Instr.makeFunc fn first cap).run Tryz.prog w = .ok (.func fn first cap) w:=fun _ _ _ _=>rfl
  obtain ⟨A,hA⟩:∃ A,Sl.held (outK K n).S=A:=⟨_,rfl⟩
  rw [hA] at HH HLA
  clear hA
  subst hl0
  go_wp2_with (first | (go_at_call 88;refine Calls.mono HH.out ?_;rintro e w4 ⟨ao,cap,rfl,s4⟩;have S4:=hid s4;clear s4 c0) | (go_at_call 181;refine Calls.mono (contains_h ((S4.out.perm (List.Perm.swap _ _ _)).perm (List.Perm.cons _ ((List.Perm.cons _ (List.Perm.swap _ _ _)).trans (List.Perm.swap _ _ _))))) ?_;rintro e w5 ⟨rfl,s5⟩;rw [HLA.out];have S5:=hid (s5.perm (List.Perm.trans (List.Perm.cons _ ((List.Perm.swap _ _ _).trans (List.Perm.cons _ (List.Perm.swap _ _ _)))) (List.Perm.swap _ _ _)));clear s5;have m0:w5.cell? ⟨k,0,none⟩=some (.int .i64 c.k):=(S5.out.blkCell (p:=k) (List.mem_cons_of_mem _ (List.mem_cons_of_mem _ (List.mem_cons_of_mem _ (List.mem_cons_self)))) 0).1;have m1:w5.cell? ⟨k,1,none⟩=some (.int .i64 c.o):=(S5.out.blkCell (p:=k) (List.mem_cons_of_mem _ (List.mem_cons_of_mem _ (List.mem_cons_of_mem _ (List.mem_cons_self)))) 1).1) | (go_at_call 185;refine Calls.mono (dropTable_sep S5.out HDL.out c.o) ?_;rintro e w6 ⟨v,rfl,Y6,s6⟩;have S6:=hid s6;clear s6 m0 m1) | fail)
  go_ret
  exact ⟨v,rfl,_,S6.out.del3.del3.del3⟩
set_option maxHeartbeats 4000000 in
set_option maxRecDepth 100000 in
theorem drop_thread (s:Sep w0 r w (kT p Y K::R)) {n:Int} (h0:0<=n) (h1:n<=63) (hl:K.E.length<=1000) {c:Sl.Cp} (hc:Sl.takeC K.S (sl n)=c) (hlb:(Sl.held (outK K n).S).any (sameH c)=false) (hk:c.k=3) (hf:Few K) :
  Calls Tryz.prog 120 #[ptr p,.agg #[.int .i64 0,.int .i64 n]] w fun e w'=>e = .returned (.slice none 0 0)/\KS w0 r w' p { freed (outK K n) c.o with h:=Th.suspendH (outK K n).h c.o } R:=by
 have S1:=hid ((s.box (.cells #[.int .i64 0,.int .i64 n] 88)).swap)
 obtain ⟨w1,hw⟩:∃ w1,w.alloc (.cells #[.int .i64 0,.int .i64 n] 88)=w1:=⟨_,rfl⟩
 rw [hw] at S1
 have HW:=hid hw
 have HU:=hid (And.intro (And.intro h0 h1) (And.intro hl hc))
 clear s hw h0 h1 hl hc
 obtain ⟨lb,hl0⟩:∃ lb,lb=false:=⟨_,rfl⟩
 rw [<- hl0] at hlb
 have hq3:(c.k == 3)=true:=by rw [hk];decide
 have hd3:decide (c.k=3)=true:=by rw [hk];decide
 have hq6:(c.k == 6)=false:=by rw [hk];decide
 have hd6:decide (c.k=6)=false:=by rw [hk];decide
 have hq7:(c.k == 7)=false:=by rw [hk];decide
 have hd7:decide (c.k=7)=false:=by rw [hk];decide
 clear hk
 have HFW:=hid (show Few (outK K n) from hf)
 clear hf
 go_enter Tryz.func120,Tryz.ntmps120
 go_wp2_with (first | rw [HW.out] | fail)
 generalize w.heap.size=q at *
 have HT:Hid (∀ (W:World) (Y':Ly) (K':Kr) (R':List Th),Y'.t=Y.t->Sep w0 r W (kT p Y' K'::blk q (.cells #[.int .i64 0,.int .i64 n] 88)::R')->W.cell? ⟨p,1,none⟩=some (ptr Y.t)/\W.cell? ⟨q,0,none⟩=some (.int .i64 0)/\W.cell? ⟨q,1,none⟩=some (.int .i64 n)):=fun W Y' K' R' hy s=>by
  have k:=s.k1
  rw [hy] at k
  exact ⟨k,(s.blkCell (p:=q) (List.mem_cons_of_mem _ (List.mem_cons_self)) 0).1,(s.blkCell (p:=q) (List.mem_cons_of_mem _ (List.mem_cons_self)) 1).1⟩
 have HN:Hid (∀ (W:World) (Y':Ly) (K':Kr) (R':List Th),Y'.n=Y.n->Sep w0 r W (kT p Y' K'::blk q (.cells #[.int .i64 0,.int .i64 n] 88)::R')->W.cell? ⟨p,0,none⟩=some (ptr Y.n)/\W.cell? ⟨q,0,none⟩=some (.int .i64 0)/\W.cell? ⟨q,1,none⟩=some (.int .i64 n)):=fun W Y' K' R' hy s=>by
  have k:=s.k0
  rw [hy] at k
  exact ⟨k,(s.blkCell (p:=q) (List.mem_cons_of_mem _ (List.mem_cons_self)) 0).1,(s.blkCell (p:=q) (List.mem_cons_of_mem _ (List.mem_cons_self)) 1).1⟩
 have hk:=k_tk S1.out.drew (tr n) HU.out.2.1
 unfold Tr.encS tr at hk
 have HK1:=hid hk
 have hS:=HT.out _ _ _ _ (by rfl) S1.out.drew
 clear hk
 go_region_held3 (fun W=>W.cell? ⟨p,1,none⟩=some (ptr Y.t)/\W.cell? ⟨q,0,none⟩=some (.int .i64 0)/\W.cell? ⟨q,1,none⟩=some (.int .i64 n)) (first | with_reducible assumption | with_reducible exact hS) (first | (go_at_call 179;refine Calls.mono HK1.out ?_;rintro e w3 ⟨rfl,x3,s3⟩;have hS3:=HT.out _ _ _ _ (by rfl) s3;have S3:=hid s3;clear s3))
 clear hS hS3 HT HK1
 go_wp2_with fail
 have SB:=hid ((S3.out.box (.cells #[.int .i64 0,.int .i64 0,.int .i64 0,.int .u64 0,.int .u64 0,.int .i64 0] 75)).third.drew)
 have HK:=hid (nd_takes S3.out.drew HU.out.1.1 HU.out.1.2 HU.out.2.2)
 have HKB:=hid (nd_takes SB.out HU.out.1.1 HU.out.1.2 HU.out.2.2)
 go_cut [5,6] from 13 to 21 (fun sa sb wx=>∃ k y,sa = .pointer (some ⟨k,0,none⟩)/\sb = .int .i64 y/\Sep w0 r wx (kT p { Y with tv:=x3 } (outK K n)::blk q (.cells #[.int .i64 0,.int .i64 n] 88)::blk k (.cells #[.int .i64 c.k,.int .i64 c.o,.int .i64 c.r,.int .u64 c.b,.int .u64 c.g,.int .i64 c.z] 75)::R))
 case first =>
  have hS:=HN.out _ _ _ _ (by rfl) S3.out.drew
  have hSB:=HN.out _ _ _ _ (by rfl) SB.out
  go_region_held3 (fun W=>W.cell? ⟨p,0,none⟩=some (ptr Y.n)/\W.cell? ⟨q,0,none⟩=some (.int .i64 0)/\W.cell? ⟨q,1,none⟩=some (.int .i64 n)) (first | with_reducible assumption | with_reducible exact hS | with_reducible exact hSB) (first | (go_at_call 180;(with_reducible refine Calls.mono HKB.out ?_);rintro e w3 ⟨y,rfl,s3⟩;have hS3:=HN.out _ _ _ _ (by rfl) s3;have s4:=s3.third.third;obtain ⟨mf0,mz⟩:=s4.zCp (List.mem_cons_self);obtain ⟨z0,z1,z2,z3,z4,z5⟩:=mz;have s5:=s4.putCp c;have s6:=s5.third;have hS6:=HN.out _ _ _ _ (by rfl) s6;have S6:=hid s6;clear s3 s4 s5 s6) | (go_at_call 180;(with_reducible refine Calls.mono HK.out ?_);rintro e w3 ⟨y,rfl,s3⟩;have hS3:=HN.out _ _ _ _ (by rfl) s3;have s4:=(s3.box (.cells #[.int .i64 0,.int .i64 0,.int .i64 0,.int .u64 0,.int .u64 0,.int .i64 0] 75)).third;have hS4:=HN.out _ _ _ _ (by rfl) s4;have s6:=(s3.box (.cells #[.int .i64 c.k,.int .i64 c.o,.int .i64 c.r,.int .u64 c.b,.int .u64 c.g,.int .i64 c.z] 75)).third;have hS6:=HN.out _ _ _ _ (by rfl) s6;have S6:=hid s6;clear s3 s4 s6))
  all_goals go_wp2_with fail
  all_goals go_meet
  all_goals exact ⟨_,_,rfl,rfl,S6.out⟩
 case rest =>
  obtain ⟨k,y,rfl,rfl,s6⟩:=hcut
  have S6:=hid s6
  have c0:=S6.out.k0
  clear S1 S3 SB HK HKB HN HU s6
  have HH:=hid (k_held S6.out)
  have HLA:Hid ((Sl.held (outK K n).S).any (sameH c)=lb):=hlb
  clear hlb
  have hmf:∀ (fn:Fn) (first cap:Array Value) (w:World),(Instr.makeFunc fn first cap).run Tryz.prog w = .ok (.func fn first cap) w:=fun _ _ _ _=>rfl
  obtain ⟨A,hA⟩:∃ A,Sl.held (outK K n).S=A:=⟨_,rfl⟩
  rw [hA] at HH HLA
  clear hA
  subst hl0
  go_wp2_with (first | (go_at_call 88;refine Calls.mono HH.out ?_;rintro e w4 ⟨ao,cap,rfl,s4⟩;have S4:=hid s4;clear s4 c0) | (go_at_call 181;refine Calls.mono (contains_h ((S4.out.perm (List.Perm.swap _ _ _)).perm (List.Perm.cons _ ((List.Perm.cons _ (List.Perm.swap _ _ _)).trans (List.Perm.swap _ _ _))))) ?_;rintro e w5 ⟨rfl,s5⟩;rw [HLA.out];have S5:=hid (s5.perm (List.Perm.trans (List.Perm.cons _ ((List.Perm.swap _ _ _).trans (List.Perm.cons _ (List.Perm.swap _ _ _)))) (List.Perm.swap _ _ _)));clear s5;have m0:w5.cell? ⟨k,0,none⟩=some (.int .i64 c.k):=(S5.out.blkCell (p:=k) (List.mem_cons_of_mem _ (List.mem_cons_of_mem _ (List.mem_cons_of_mem _ (List.mem_cons_self)))) 0).1;have m1:w5.cell? ⟨k,1,none⟩=some (.int .i64 c.o):=(S5.out.blkCell (p:=k) (List.mem_cons_of_mem _ (List.mem_cons_of_mem _ (List.mem_cons_of_mem _ (List.mem_cons_self)))) 1).1) | (go_at_call 123;refine Calls.mono (letGo_sep S5.out HFW.out c.o) ?_;rintro e w6 ⟨rfl,Y6,s6⟩;have S7:=hid s6;clear s6 m0 m1) | fail)
  have HS:Hid (∀ (W:World) (Y':Ly) (K':Kr) (t1 t2:Th) (R':List Th),Y'.h=Y6.h->Sep w0 r W (kT p Y' K'::t1::t2::blk k (.cells #[.int .i64 c.k,.int .i64 c.o,.int .i64 c.r,.int .u64 c.b,.int .u64 c.g,.int .i64 c.z] 75)::R')->W.cell? ⟨p,2,none⟩=some (ptr Y6.h)/\W.cell? ⟨k,1,none⟩=some (.int .i64 c.o)):=fun W Y' K' t1 t2 R' hy s=>by
   have kk:=s.k2
   rw [hy] at kk
   exact ⟨kk,(s.blkCell (p:=k) (List.mem_cons_of_mem _ (List.mem_cons_of_mem _ (List.mem_cons_of_mem _ (List.mem_cons_self)))) 1).1⟩
  have hS:=HS.out _ _ _ _ _ _ (by rfl) S7.out.drew
  have HC:=hid (k_suspend S7.out.drew c.o)
  go_region_held3 (fun W=>W.cell? ⟨p,2,none⟩=some (ptr Y6.h)/\W.cell? ⟨k,1,none⟩=some (.int .i64 c.o)) (first | with_reducible assumption | with_reducible exact hS) (first | (go_at_call 124;refine Calls.mono HC.out ?_;rintro e w7 ⟨rfl,x7,s7⟩;have hS7:=HS.out _ _ _ _ _ _ (by rfl) s7;have S8:=hid s7;clear s7))
  clear hS hS7 HS
  go_wp2
  go_ret
  exact ⟨rfl,_,S8.out.drop2.drop2.drop2⟩
end
end Go.Proofs.YtilnjnblpeeigaaGreatDoor
namespace Go.Proofs.YtilnjnblpeeigaaGreatDoor
open Go.RowKit Go.Deep Go.Shelf
open Classical
section
variable {w0 w w':World} {r p:Nat} {Y:Ly} {K:Kr} {R:List Th}
set_option maxHeartbeats 4000000 in
theorem Held_sep (s:Sep w0 r w (kT p Y K::R)) :
  Calls Tryz.prog 36 #[ptr p] w fun e w'=>∃ ao cap,e = .returned (.slice ao (Sl.held K.S).length cap)/\Sep w0 r w' (kT p Y K::lst elH (.slice ao (Sl.held K.S).length cap) (Sl.held K.S)::R):=by
 have c:=s.k0
 have HC:=hid (k_held s)
 clear s
 go_enter Tryz.func36,Tryz.ntmps36
 go_wp2_with (go_at_call 88;refine Calls.mono HC.out ?_;rintro e w3 ⟨ao,cap,rfl,s3⟩)
 go_ret
 exact ⟨ao,cap,rfl,s3⟩
end
end Go.Proofs.YtilnjnblpeeigaaGreatDoor
