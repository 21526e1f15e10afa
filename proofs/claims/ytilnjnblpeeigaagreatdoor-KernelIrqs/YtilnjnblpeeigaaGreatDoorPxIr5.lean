/- Below: KT KL KG KrCall KM KJ1 KF6 KJ2 KrErr KrFull KrBr KH1 KH4 KH8 KDo1 KDo5 KLaw KrRuns; no condition. -/
import Derived.Test.YtilnjnblpeeigaaGreatDoorPb32
import Derived.Test.YtilnjnblpeeigaaGreatDoorPxIr2
import Derived.Test.YtilnjnblpeeigaaGreatDoorPxIr3
import Derived.Test.YtilnjnblpeeigaaGreatDoorPxIr4
set_option maxHeartbeats 16000000
set_option maxRecDepth 100000
set_option linter.unusedSectionVars false
namespace Go.Proofs.YtilnjnblpeeigaaGreatDoor
section
open Go.RowKit Go.Deep Go.Shelf
open Classical
section
variable {w0 w w':World} {r p:Nat} {Y:Ly} {K:Kr} {R:List Th}
theorem Sep.k3 (s:Sep w0 r w (kT p Y K::R)):w.cell? ⟨p,3,none⟩=some (ptr Y.l):=by simp[World.cell?,s.obj,objK]
theorem Sep.kL (s:Sep w0 r w (kT p Y K::R)):∃ Q,Sep w0 r w (Ir.lnT Y.l Y.lv K.l::Q)/\∀ w' v' S' E,Sep w0 r w' (Ir.lnT Y.l v' S'::(E++Q))->Sep w0 r w' (kT p { Y with lv:=v' } { K with l:=S' }::(E++R)):=
 ⟨_,Sep.into (A:=[blk p (objK Y K.fr K.tb),nT Y.n Y.F K.S,eT Y.t Y.tv K.E,Th.tT Y.h Y.hF K.h]) s,fun _ v' S' _ h=>Sep.back (A:=[blk p (objK Y K.fr K.tb),nT Y.n Y.F K.S,eT Y.t Y.tv K.E,Th.tT Y.h Y.hF K.h]) (P':=Lens { Y with lv:=v' } { K with l:=S' }) s.fact h⟩
theorem Zo (s:Sep w0 r w (kT p Y K::R)) (a:Int):Calls Tryz.prog 34 #[ptr Y.h,.int .i64 a] w fun e w'=>e=.returned (.tuple #[.int .i64 (Th.runsN K.h a),.bool (Th.runsB K.h a)])/\Below w.heap.size w w':=by
 obtain⟨Q,s1,bk⟩:=s.kH
 obtain⟨v,u,qs,t⟩:=s1.head.1.at
 exact Th.runs_any t (by have:=s1.head.2.few;omega) a
theorem Zn (s:Sep w0 r w (kT p Y K::R)) (n a g:Int):Calls Tryz.prog 134 #[ptr Y.l,.int .i64 n,.int .i64 a,.int .u64 g] w fun e w'=>e=.returned (.int .i64 (Ir.bindE K.l n a))/\Sep w0 r w' (kT p Y { K with l:=Ir.bindS K.l n a g }::R):=by
 obtain⟨Q,s1,bk⟩:=s.kL
 refine Calls.mono (Ir.J3 s1 n a g rfl rfl) ?_
 rintro e w' ⟨rfl,h⟩
 exact⟨rfl,bk w' _ _ [] h⟩
theorem Jr (s:Sep w0 r w (kT p Y K::R)) (n:Int):Calls Tryz.prog 41 #[ptr Y.l,.int .i64 n] w fun e w'=>e=.returned (.tuple #[.int .i64 (Ir.telA Ir.isO K.l n),.int .u64 (Ir.telG Ir.isO K.l n),.bool (Ir.telB Ir.isO K.l n),.int .i64 (Ir.telE K.l n)])/\Sep w0 r w' (kT p Y { K with l:=Ir.telS Ir.Jd K.l n }::R):=by
 obtain⟨Q,s1,bk⟩:=s.kL
 refine Calls.mono (Ir.JT s1 n rfl rfl rfl rfl rfl) ?_
 rintro e w' ⟨rfl,h⟩
 exact⟨rfl,bk w' _ _ [] h⟩
theorem JR (s:Sep w0 r w (kT p Y K::R)) (n:Int):Calls Tryz.prog 135 #[ptr Y.l,.int .i64 n] w fun e w'=>e=.returned (.tuple #[.int .i64 (Ir.telA Ir.isM K.l n),.int .u64 (Ir.telG Ir.isM K.l n),.bool (Ir.telB Ir.isM K.l n),.int .i64 (Ir.telE K.l n)])/\Sep w0 r w' (kT p Y { K with l:=Ir.telS Ir.ackX K.l n }::R):=by
 obtain⟨Q,s1,bk⟩:=s.kL
 refine Calls.mono (Ir.Zf s1 n rfl rfl rfl rfl rfl) ?_
 rintro e w' ⟨rfl,h⟩
 exact⟨rfl,bk w' _ _ [] h⟩
theorem Sep.zTh {q:Nat} (s:Sep w0 r w R) (h:blk q (.cells #[.int .i64 0,.int .i64 0,.int .i64 0,.int .i64 0,.int .u64 0,.int .u64 0,.int .u64 0,.int .u64 0,.int .u64 0,.int .u64 0,.int .u64 0,.int .u64 0] 39)∈R):(∀ j,w.frozen? ⟨q,j,none⟩=false)/\w.cell? ⟨q,0,none⟩=some (.int .i64 0)/\w.cell? ⟨q,1,none⟩=some (.int .i64 0)/\w.cell? ⟨q,2,none⟩=some (.int .i64 0)/\w.cell? ⟨q,3,none⟩=some (.int .i64 0)/\w.cell? ⟨q,4,none⟩=some (.int .u64 0)/\w.cell? ⟨q,5,none⟩=some (.int .u64 0)/\w.cell? ⟨q,6,none⟩=some (.int .u64 0)/\w.cell? ⟨q,7,none⟩=some (.int .u64 0)/\w.cell? ⟨q,8,none⟩=some (.int .u64 0)/\w.cell? ⟨q,9,none⟩=some (.int .u64 0)/\w.cell? ⟨q,10,none⟩=some (.int .u64 0)/\w.cell? ⟨q,11,none⟩=some (.int .u64 0):=
 ⟨fun j=>(s.blkCell h j).2,(s.blkCell h 0).1,(s.blkCell h 1).1,(s.blkCell h 2).1,(s.blkCell h 3).1,(s.blkCell h 4).1,(s.blkCell h 5).1,(s.blkCell h 6).1,(s.blkCell h 7).1,(s.blkCell h 8).1,(s.blkCell h 9).1,(s.blkCell h 10).1,(s.blkCell h 11).1⟩
theorem Sep.putTh {q:Nat} (s:Sep w0 r w (blk q (.cells #[.int .i64 0,.int .i64 0,.int .i64 0,.int .i64 0,.int .u64 0,.int .u64 0,.int .u64 0,.int .u64 0,.int .u64 0,.int .u64 0,.int .u64 0,.int .u64 0] 39)::R)) (x:Th.Td):Sep w0 r ((((((((((((w.setCell ⟨q,0,none⟩ (.int .i64 x.st)).setCell ⟨q,1,none⟩ (.int .i64 x.p)).setCell ⟨q,2,none⟩ (.int .i64 x.c)).setCell ⟨q,3,none⟩ (.int .i64 x.l)).setCell ⟨q,4,none⟩ (.int .u64 (Th.rg x 0))).setCell ⟨q,5,none⟩ (.int .u64 (Th.rg x 1))).setCell ⟨q,6,none⟩ (.int .u64 (Th.rg x 2))).setCell ⟨q,7,none⟩ (.int .u64 (Th.rg x 3))).setCell ⟨q,8,none⟩ (.int .u64 (Th.rg x 4))).setCell ⟨q,9,none⟩ (.int .u64 (Th.rg x 5))).setCell ⟨q,10,none⟩ (.int .u64 (Th.rg x 6))).setCell ⟨q,11,none⟩ (.int .u64 (Th.rg x 7))) (blk q (.cells #[.int .i64 x.st,.int .i64 x.p,.int .i64 x.c,.int .i64 x.l,.int .u64 (Th.rg x 0),.int .u64 (Th.rg x 1),.int .u64 (Th.rg x 2),.int .u64 (Th.rg x 3),.int .u64 (Th.rg x 4),.int .u64 (Th.rg x 5),.int .u64 (Th.rg x 6),.int .u64 (Th.rg x 7)] 39)::R):=by
 have:=(((((((((((s.putB 0 (.int .i64 x.st)).putB 1 (.int .i64 x.p)).putB 2 (.int .i64 x.c)).putB 3 (.int .i64 x.l)).putB 4 (.int .u64 (Th.rg x 0))).putB 5 (.int .u64 (Th.rg x 1))).putB 6 (.int .u64 (Th.rg x 2))).putB 7 (.int .u64 (Th.rg x 3))).putB 8 (.int .u64 (Th.rg x 4))).putB 9 (.int .u64 (Th.rg x 5))).putB 10 (.int .u64 (Th.rg x 6))).putB 11 (.int .u64 (Th.rg x 7))
 simpa using this
end
end
section
section
variable [dCp:DecidableEq Sl.Cp] [dLim:∀ k,Decidable (Sl.Lim k)] [dBad:∀ k,Decidable (Sl.Bad k)] [dFit:∀ g z,Decidable (Sl.Fit g z)] [dF:∀ c:Sl.Cp,Decidable (Sl.Fine c)] [dMi:∀ c v,Decidable (Sl.MintR c v)] [dWho:∀ x y,Decidable (Sl.Whose x y)] [dSl:DecidableEq Sl.Sl] [dLt:∀ a b,Decidable (Sl.ltS a b)]
variable [dT:DecidableEq Tr.Sl] [dL:∀ k:Int,Decidable (Ca.Lim k)] [dC:∀ c:Ca.Cp,Decidable (Ca.Fine c)] [dM:∀ (c:Ca.Cp) (v:Int),Decidable (Ca.MintR c v)] [dCc:DecidableEq Ca.Cp] [dCb:∀ k,Decidable (Ca.Bad k)] [dCf:∀ g z,Decidable (Ca.Fit g z)] [dCw:∀ x y,Decidable (Ca.Whose x y)]
variable {n m:Nat} {K:Kr}
theorem JU (x:Ir.Ln):(Ir.Jd x).a=x.a/\(Ir.Jd x).g=x.g/\((Ir.Jd x).s≠none->x.s≠none):=by
 obtain⟨s,a,g⟩:=x
 rcases s with _|_|_|_<;>exact⟨rfl,rfl,fun h=>(by first|exact h|(intro e;cases e))⟩
theorem Jl (x:Ir.Ln) (h:Ir.isO x=true):x.s≠none:=by
 intro e
 unfold Ir.isO at h
 rw[e] at h
 cases h
theorem Iv.irq (v:Iv n m K) (o:Int):Iv n m (Jf K o):=by
 have v1:Iv n m (Jb K o):=v.lines (l:=Ir.telS Ir.Jd K.l o) ((Ir.tel_len _ _ _).trans v.ll) (tel_ok v JU o)
 unfold Jf
 split
 ·exact v1.sig _ (telG_ok v Jl o)
 ·exact v1
end
end
section
open Go.RowKit Go.Deep Go.Shelf
open Classical
section
variable {w0 w w':World} {r p:Nat} {Y:Ly} {K:Kr} {R:List Th}
theorem Sep.ntIn (s:Sep w0 r w (kT p Y K::R)) {i q:Nat} {v:Value} {S:No.Ns} (hi:K.N[i]? = some S) (hy:Y.N[i]? = some (q,v)) :
  ∃ Q,Sep w0 r w (No.ntT q v S::Q)/\∀ w' v' T E,Sep w0 r w' (No.ntT q v' T::(E++Q))->Sep w0 r w' (kT p { Y with N:=Y.N.set i (q,v') } { K with N:=K.N.set i T }::(E++R)):=by
 obtain⟨q',v',Q,h1,h2,h3⟩:=s.ntOf hi
 rw[hy] at h1
 cases h1
 exact⟨Q,h2,h3⟩
theorem Sep.ntWay {Y':Ly} (s:Sep w0 r w (kT p Y' K::R)) {g z cap i q:Nat} {v:Value} (hv:Y'.nv=.slice (some ⟨g,0,none⟩) z cap) (hi:Y'.N[i]? = some (q,v)):w.cell? ⟨g,i,none⟩=some (ptr q):=by
 obtain⟨ao,cap',e,-,h⟩:=s.ntPtr
 rw[hv] at e
 simp only[Value.slice.injEq] at e
 obtain⟨rfl,-,-⟩:=e
 obtain⟨g',e2,h5⟩:=h i q v hi
 cases e2
 exact h5
theorem Jw {L:List (Nat×Value)} {i q:Nat} {v:Value} (h:L[i]? = some (q,v)) (v':Value):(L.set i (q,v'))[i]? = some (q,v'):=by
 rw[List.getElem?_set_self (List.getElem?_eq_some_iff.1 h).1]
theorem Jv (s:Sep w0 r w (kT p Y K::R)) {i q:Nat} {v:Value} {S:No.Ns} (hi:K.N[i]? = some S) (hy:Y.N[i]? = some (q,v)) (n:Int) (z:Bool) (hl:S.l.length<=1000) :
  Calls Tryz.prog 129 #[ptr q,.int .i64 n,.bool z] w fun e w'=>e=.returned (.tuple #[.int .u64 (No.waitW S n),.bool (No.waitB S n),.int .i64 (No.waitE S n)])/\∃ v',Sep w0 r w' (kT p { Y with N:=Y.N.set i (q,v') } { K with N:=K.N.set i (No.waitS S n z) }::R):=by
 obtain⟨Q,s1,bk⟩:=s.ntIn hi hy
 refine Calls.mono (No.J8 s1 n z hl rfl rfl rfl rfl) ?_
 rintro e w' ⟨rfl,v',h⟩
 exact⟨rfl,_,bk w' _ _ [] h⟩
theorem Ju (s:Sep w0 r w (kT p Y K::R)) (i:Int) :
  Calls Tryz.prog 10 #[ptr p,.int .i64 i] w fun e w'=>e=.returned (.tuple #[Th.encT (Th.getT K.h i),.int .i64 (Th.getE K.h i)])/\Sep w0 r w' (kT p Y K::R):=by
 obtain⟨x,hx⟩:∃ x,Th.getT K.h i=x:=⟨_,rfl⟩
 obtain⟨E,hE⟩:∃ E,Th.getE K.h i=E:=⟨_,rfl⟩
 have s1:=(s.box (.cells #[.int .i64 0,.int .i64 0,.int .i64 0,.int .i64 0,.int .u64 0,.int .u64 0,.int .u64 0,.int .u64 0,.int .u64 0,.int .u64 0,.int .u64 0,.int .u64 0] 39)).swap
 have c:=s1.k2
 have hk:=k_tget s1 i
 rw[hx,hE] at hk ⊢
 unfold Th.encT at hk ⊢
 have HC:=hid hk
 have S1:=hid s1
 obtain⟨w1,hw⟩:∃ w1,w.alloc (.cells #[.int .i64 0,.int .i64 0,.int .i64 0,.int .i64 0,.int .u64 0,.int .u64 0,.int .u64 0,.int .u64 0,.int .u64 0,.int .u64 0,.int .u64 0,.int .u64 0] 39)=w1:=⟨_,rfl⟩
 rw[hw] at HC S1 c
 have HW:=hid hw
 clear s s1 hk hx hE hw
 go_enter Tryz.func10,Tryz.ntmps10
 go_wp2_with (first|rw[HW.out]|fail)
 refine Calls.mono HC.out ?_
 rintro e w3 ⟨rfl,b3⟩
 have s4:=(S1.out.below b3).swap
 obtain⟨mf0,mz⟩:=s4.zTh (List.mem_cons_self)
 obtain⟨z0,z1,z2,z3,z4,z5,z6,z7,z8,z9,z10,z11⟩:=mz
 have s5:=s4.putTh x
 have hg:=fun j=>(s5.blkCell (List.mem_cons_self) j).1
 have g0:=hid (hg 0)
 have g1:=hid (hg 1)
 have g2:=hid (hg 2)
 have g3:=hid (hg 3)
 have g4:=hid (hg 4)
 have g5:=hid (hg 5)
 have g6:=hid (hg 6)
 have g7:=hid (hg 7)
 have g8:=hid (hg 8)
 have g9:=hid (hg 9)
 have g10:=hid (hg 10)
 have g11:=hid (hg 11)
 have S5:=hid s5.drop
 clear s4 s5 S1 b3 c HC hg
 go_wp2
 refine bodyPost_ret (v:=.tuple #[.agg #[.int .i64 x.st,.int .i64 x.p,.int .i64 x.c,.int .i64 x.l,.int .u64 (Th.rg x 0),.int .u64 (Th.rg x 1),.int .u64 (Th.rg x 2),.int .u64 (Th.rg x 3),.int .u64 (Th.rg x 4),.int .u64 (Th.rg x 5),.int .u64 (Th.rg x 6),.int .u64 (Th.rg x 7)],.int .i64 E]) ?_ rfl ⟨rfl,S5.out⟩
 simp[results,Tryz.f10,go_sem,g0.out,g1.out,g2.out,g3.out,g4.out,g5.out,g6.out,g7.out,g8.out,g9.out,g10.out,g11.out]
theorem JI (s:Sep w0 r w (kT p Y K::R)) (i:Int) :
  Calls Tryz.prog 11 #[ptr p,.int .i64 i] w fun e w'=>e=.returned (.tuple #[.int .i64 (Th.runsN K.h i),.bool (Th.runsB K.h i)])/\Sep w0 r w' (kT p Y K::R):=by
 have c:=s.k2
 have s0:=s
 have HC:=hid (Zo s i)
 clear s
 have S0:=hid s0
 clear s0
 go_enter Tryz.func11,Tryz.ntmps11
 go_wp2_with (go_at_call 34;refine Calls.mono HC.out ?_;rintro e w3 ⟨rfl,b3⟩)
 go_ret2
 exact⟨rfl,S0.out.below b3⟩
theorem Zq {n:Int} {i:Nat} (hn:n=(i:Int)) {S:No.Ns} (hi:K.N[i]? = some S):ntN K n=S/\∀ T,setN K n T={ K with N:=K.N.set i T }:=by
 subst hn
 unfold ntN setN
 rw[Int.toNat_natCast,List.getD_eq_getElem?_getD,hi]
 exact⟨rfl,fun T=>rfl⟩
theorem Jg (s:Sep w0 r w (kT p Y K::R)) (hf:Few K) {n g:Int} (h0:0<=n) (h1:n<(K.N.length:Int)) (hg:0<=g/\g<=18446744073709551615) (hsg:0<=No.sigW (ntN K n) g/\No.sigW (ntN K n) g<=18446744073709551615) :
  Calls Tryz.prog 91 #[ptr p,.int .i64 n,.int .u64 g] w fun e w'=>e=.returned (.int .i64 (sigN K n))/\KS w0 r w' p (sigK K n g) R:=by
 obtain⟨i,rfl⟩:=Int.eq_ofNat_of_zero_le h0
 have hil:i<K.N.length:=by omega
 obtain⟨S,hS⟩:∃ S,K.N[i]? = some S:=⟨_,List.getElem?_eq_getElem hil⟩
 obtain⟨eS,eT⟩:=Zq (K:=K) rfl hS
 rw[eS] at hsg
 have c6:=s.k6
 obtain⟨ao,cap,hnv,hzm,-⟩:=s.ntPtr
 rw[hnv] at c6
 obtain⟨gg,q,v,Q,rfl,cq,s3,bk⟩:=s.ntAt hnv hS
 have hil2:(i:Int)<(K.N.length:Int):=h1
 have hl:=hf.2 S (List.mem_of_getElem? hS)
 generalize hT:No.sigS S g=T
 generalize ha:No.sigN S=a
 generalize hx:No.sigW S g=x at hsg
 have BK:=hid bk
 have HG:=hid hsg
 have HX:Hid (∀ y∈[x],0<=y/\y<=18446744073709551615):=fun y hy=>by
  obtain rfl:y=x:=by simpa using hy
  exact hsg
 have H6:=hid c6
 have HQ:Hid (sigN K (i:Int)=(if No.sigB S=true then a else -1)/\sigK K (i:Int) g=if No.sigB S=true then { K with N:=K.N.set i T,h:=Th.resumeH (Th.regH K.h a 0 x) a } else { K with N:=K.N.set i T }):=by
  refine⟨?_,?_⟩
  ·unfold sigN
   rw[eS,ha]
  ·unfold sigK
   rw[eS,eT,hT,ha,hx]
 clear s bk hnv hf hS eS eT h1 h0 hil c6
 generalize K.N.length=z at *
 by_cases hb:No.sigB S=true
 ·have HC:=hid (No.Jn s3 g hg hl ha hx hb hT)
  have HQ2:=hid (HQ.out)
  rw[if_pos hb,if_pos hb] at HQ2
  clear HQ s3 hT ha hx hb hg hl
  have c6:=H6.out
  go_enter Tryz.func91,Tryz.ntmps91
  go_wp2_with (first
   | (go_at_call 145;refine Calls.mono HC.out ?_;rintro e w3 ⟨rfl,v',h3⟩;have S3:=hid ((BK.out w3 v' _ [] h3).box (.cells #[.int .u64 x] 32));have S4:=hid (Sep.lit (E:=elW) okW (BK.out w3 v' _ [] h3) [x] (by simp) #[.int .u64 x] rfl).swap;clear h3 c6 cq)
   | (go_at_call 146;refine Calls.mono (words_sep S4.out HX.out (by simp) a) ?_;rintro e w5 ⟨rfl,Y5,s5⟩;have S5:=hid s5;clear s5)
   | (go_at_call 147;refine Calls.mono (wake_sep S5.out a) ?_;rintro e w6 ⟨rfl,s6⟩;have S6:=hid s6;clear s6)
   | fail)
  go_ret
  rw[HQ2.out.1,HQ2.out.2]
  exact⟨rfl,S6.out⟩
 ·have hb2:No.sigB S=false:=by simpa using hb
  have HC:=hid (No.Jn s3 g hg hl ha hx hb2 hT)
  have HQ2:=hid (HQ.out)
  rw[if_neg hb,if_neg hb] at HQ2
  clear HQ s3 hT ha hx hb hb2 hg hl
  have c6:=H6.out
  go_enter Tryz.func91,Tryz.ntmps91
  go_wp2_with (first
   | (go_at_call 145;refine Calls.mono HC.out ?_;rintro e w3 ⟨rfl,v',h3⟩;have S3:=hid (BK.out w3 v' _ [] h3);clear h3 c6 cq)
   | fail)
  go_ret
  rw[HQ2.out.1,HQ2.out.2]
  exact⟨rfl,_,S3.out⟩
theorem Js (s:Sep w0 r w (kT p Y K::R)) (hf:Few K) {n g:Int} (e:Int) (h0:0<=n) (h1:n<(K.N.length:Int)) (hg:0<=g/\g<=18446744073709551615) (hsg:0<=No.sigW (ntN K n) g/\No.sigW (ntN K n) g<=18446744073709551615) :
  Calls Tryz.prog 40 #[ptr p,.int .i64 n,.int .u64 g,.bool true,.int .i64 e] w fun x w'=>x=.returned (.tuple #[.int .i64 (sigN K n),.int .i64 e])/\KS w0 r w' p (sigK K n g) R:=by
 have HC:=hid (Jg s hf h0 h1 hg hsg)
 clear s hf h0 h1 hg hsg
 generalize sigN K n=a at *
 generalize sigK K n g=T at *
 go_enter Tryz.func40,Tryz.ntmps40
 go_wp2_with (go_at_call 91;refine Calls.mono HC.out ?_;rintro e w3 ⟨rfl,s3⟩;have S3:=hid s3;clear s3)
 go_ret2
 exact⟨rfl,S3.out⟩
theorem JB (n g e:Int) (v:Value) (w:World) :
  Calls Tryz.prog 40 #[v,.int .i64 n,.int .u64 g,.bool false,.int .i64 e] w fun x w'=>x=.returned (.tuple #[.int .i64 (-1),.int .i64 e])/\w'=w:=by
 go_enter Tryz.func40,Tryz.ntmps40
 go_wp2
 go_ret2
 exact⟨rfl,rfl⟩
theorem Zp (s:Sep w0 r w (kT p Y K::R)) {i q:Nat} {v:Value} {S:No.Ns} (hi:K.N[i]? = some S) (hy:Y.N[i]? = some (q,v)) :
  Calls Tryz.prog 43 #[ptr q] w fun e w'=>e=.returned (.tuple #[.int .u64 S.w,.bool S.b])/\Sep w0 r w' (kT p Y K::R):=by
 obtain⟨Q,s1,bk⟩:=s.ntIn hi hy
 refine Calls.mono (No.Za s1 rfl rfl) ?_
 rintro e w' ⟨rfl,h⟩
 have h2:=bk w' _ _ [] h
 rw[set_same hi,set_same hy] at h2
 exact⟨rfl,h2⟩
theorem Jj (s:Sep w0 r w (kT p Y K::R)) {n:Int} {i:Nat} (hn:n=(i:Int)) {S:No.Ns} (hi:K.N[i]? = some S) :
  Calls Tryz.prog 15 #[ptr p,.int .i64 n] w fun e w'=>e=.returned (.tuple #[.int .u64 S.w,.bool S.b])/\Sep w0 r w' (kT p Y K::R):=by
 subst hn
 have c:=s.k6
 obtain⟨q,v,Q,hy,-,-⟩:=s.ntOf hi
 obtain⟨ao,cap,hv,-,hp⟩:=s.ntPtr
 obtain⟨g,rfl,cq⟩:=hp i q v hy
 rw[hv] at c
 have hil:(i:Int)<(K.N.length:Int):=by have:=(List.getElem?_eq_some_iff.1 hi).1;omega
 have hnum:(decide (0<=(i:Int)) && decide ((i:Int)<(K.N.length:Int)))=true:=by simp only[Bool.and_eq_true,decide_eq_true_eq];omega
 have HC:=hid (Zp s hi hy)
 clear s hv hp hi hy Q
 generalize K.N.length=z at *
 go_enter Tryz.func15,Tryz.ntmps15
 go_wp2_with (first|(go_at_call 42;refine Calls.mono (JS _ _ _ _ _) ?_;rintro e w2 ⟨rfl,rfl⟩;rw[hnum])|(go_at_call 43;refine Calls.mono HC.out ?_;rintro e w3 ⟨rfl,s3⟩)|fail)
 go_ret2
 exact⟨rfl,s3⟩
theorem Ze (s:Sep w0 r w (kT p Y K::R)) {n:Int} (hb:Ir.telB Ir.isO K.l n=false) :
  Calls Tryz.prog 14 #[ptr p,.int .i64 n] w fun e w'=>e=.returned (.tuple #[.int .i64 (-1),.int .i64 (Ir.telE K.l n)])/\KS w0 r w' p (Jb K n) R:=by
 obtain⟨E,hE⟩:∃ E,Ir.telE K.l n=E:=⟨_,rfl⟩
 obtain⟨a,ha⟩:∃ a,Ir.telA Ir.isO K.l n=a:=⟨_,rfl⟩
 obtain⟨g,hg⟩:∃ g,Ir.telG Ir.isO K.l n=g:=⟨_,rfl⟩
 have hk:=Jr s n
 rw[hE,ha,hg,hb] at hk
 have HK:=hid hk
 have c3:=s.k3
 clear hk hb s
 rw[hE]
 clear hE ha hg
 go_enter Tryz.func14,Tryz.ntmps14
 go_wp2_with (first|(go_at_call 41;refine Calls.mono HK.out ?_;rintro e w3 ⟨rfl,s3⟩;have S3:Hid (Sep w0 r w3 (kT p Y (Jb K n)::R)):=s3;clear s3)|(go_at_call 40;refine Calls.mono (JB a g E (ptr p) _) ?_;rintro e w4 ⟨rfl,rfl⟩)|fail)
 go_ret2
 exact⟨rfl,_,S3.out⟩
theorem J0 (s:Sep w0 r w (kT p Y K::R)) {n:Int} (hb:Ir.telB Ir.isO K.l n=true) (hf:Few K) (h0:0<=Ir.telA Ir.isO K.l n) (h1:Ir.telA Ir.isO K.l n<(K.N.length:Int)) (h2:0<=Ir.telG Ir.isO K.l n/\Ir.telG Ir.isO K.l n<=18446744073709551615) (h3:0<=No.sigW (ntN K (Ir.telA Ir.isO K.l n)) (Ir.telG Ir.isO K.l n)/\No.sigW (ntN K (Ir.telA Ir.isO K.l n)) (Ir.telG Ir.isO K.l n)<=18446744073709551615) :
  Calls Tryz.prog 14 #[ptr p,.int .i64 n] w fun e w'=>e=.returned (.tuple #[.int .i64 (sigN (Jb K n) (Ir.telA Ir.isO K.l n)),.int .i64 (Ir.telE K.l n)])/\KS w0 r w' p (sigK (Jb K n) (Ir.telA Ir.isO K.l n) (Ir.telG Ir.isO K.l n)) R:=by
 obtain⟨E,hE⟩:∃ E,Ir.telE K.l n=E:=⟨_,rfl⟩
 obtain⟨a,ha⟩:∃ a,Ir.telA Ir.isO K.l n=a:=⟨_,rfl⟩
 obtain⟨g,hg⟩:∃ g,Ir.telG Ir.isO K.l n=g:=⟨_,rfl⟩
 have hk:=Jr s n
 rw[hE,ha,hg,hb] at hk
 have HK:=hid hk
 have c3:=s.k3
 clear hk hb s
 rw[ha] at h0 h1 h3 ⊢
 rw[hg] at h2 h3 ⊢
 rw[hE]
 have HC:=hid (And.intro (show Few (Jb K n) from hf) (And.intro h0 (And.intro (show a<((Jb K n).N.length:Int) from h1) (And.intro h2 (show 0<=No.sigW (ntN (Jb K n) a) g/\No.sigW (ntN (Jb K n) a) g<=18446744073709551615 from h3)))))
 clear hf h0 h1 h2 h3 hE ha hg
 go_enter Tryz.func14,Tryz.ntmps14
 go_wp2_with (first|(go_at_call 41;refine Calls.mono HK.out ?_;rintro e w3 ⟨rfl,s3⟩;have S3:Hid (Sep w0 r w3 (kT p Y (Jb K n)::R)):=s3;clear s3)|(go_at_call 40;refine Calls.mono (Js S3.out HC.out.1 E HC.out.2.1 HC.out.2.2.1 HC.out.2.2.2.1 HC.out.2.2.2.2) ?_;rintro e w4 ⟨rfl,Y4,s4⟩;have S4:=hid s4;clear s4)|fail)
 go_ret2
 exact⟨rfl,_,S4.out⟩
end
end
section
section
variable [dCp:DecidableEq Sl.Cp] [dLim:∀ k,Decidable (Sl.Lim k)] [dBad:∀ k,Decidable (Sl.Bad k)] [dFit:∀ g z,Decidable (Sl.Fit g z)] [dF:∀ c:Sl.Cp,Decidable (Sl.Fine c)] [dMi:∀ c v,Decidable (Sl.MintR c v)] [dWho:∀ x y,Decidable (Sl.Whose x y)] [dSl:DecidableEq Sl.Sl] [dLt:∀ a b,Decidable (Sl.ltS a b)]
variable [dT:DecidableEq Tr.Sl] [dL:∀ k:Int,Decidable (Ca.Lim k)] [dC:∀ c:Ca.Cp,Decidable (Ca.Fine c)] [dM:∀ (c:Ca.Cp) (v:Int),Decidable (Ca.MintR c v)] [dCc:DecidableEq Ca.Cp] [dCb:∀ k,Decidable (Ca.Bad k)] [dCf:∀ g z,Decidable (Ca.Fit g z)] [dCw:∀ x y,Decidable (Ca.Whose x y)]
variable {n m:Nat} {K:Kr}
structure Calm (K K':Kr):Prop where
 S:K'.S=K.S
 E:K'.E=K.E
 U:K'.U=K.U
 D:K'.D=K.D
theorem Calm.then {A B C:Kr} (h:Calm A B) (k:Calm B C):Calm A C:=⟨k.S.trans h.S,k.E.trans h.E,k.U.trans h.U,k.D.trans h.D⟩
end
section
variable [dCp:DecidableEq Sl.Cp] [dLim:∀ k,Decidable (Sl.Lim k)] [dBad:∀ k,Decidable (Sl.Bad k)] [dFit:∀ g z,Decidable (Sl.Fit g z)] [dF:∀ c:Sl.Cp,Decidable (Sl.Fine c)] [dMi:∀ c v,Decidable (Sl.MintR c v)] [dWho:∀ x y,Decidable (Sl.Whose x y)] [dSl:DecidableEq Sl.Sl] [dLt:∀ a b,Decidable (Sl.ltS a b)]
variable [dT:DecidableEq Tr.Sl] [dL:∀ k:Int,Decidable (Ca.Lim k)] [dC:∀ c:Ca.Cp,Decidable (Ca.Fine c)] [dM:∀ (c:Ca.Cp) (v:Int),Decidable (Ca.MintR c v)] [dCc:DecidableEq Ca.Cp] [dCb:∀ k,Decidable (Ca.Bad k)] [dCf:∀ g z,Decidable (Ca.Fit g z)] [dCw:∀ x y,Decidable (Ca.Whose x y)]
variable {K:Kr}
theorem JN (h:Full K.S) (o:Int):Full (Jf K o).S:=by
 unfold Jf
 split
 ·exact full_sig (K:=Jb K o) h _ _
 ·exact h
end
end
section
open Classical
variable {n m:Nat} {K:Kr}
theorem Zr {i:Nat} {S:No.Ns} (h:K.N[i]? = some S):ntN K (i:Int)=S:=by unfold ntN;rw[Int.toNat_natCast,List.getD_eq_getElem?_getD,h];rfl
theorem J9 {S:No.Ns} {who:Int} (h:No.waitE S who≠0) (z:Bool):No.waitS S who z=S:=by
 unfold No.waitE at h
 unfold No.waitS
 split at h
 ·rename_i e
  rw[if_pos e]
 ·exact absurd rfl h
end
section
open Go.RowKit Go.Deep Go.Shelf
open Classical
section
variable {w0 w w':World} {r p:Nat} {Y:Ly} {K:Kr} {R:List Th}
theorem JD (s:Sep w0 r w (kT p Y K::R)) (d:De) :
  Calls Tryz.prog 79 #[ptr p,encD d] w fun e w'=>e=.returned (encTl (Ir.bindE K.l d.x.o d.y.o) 0 (-1) (.slice none 0 0))/\KS w0 r w' p { K with l:=Ir.bindS K.l d.x.o d.y.o d.y.b } R:=by
 have S1:=hid (s.deed d)
 obtain⟨w1,hw⟩:∃ w1,(w.alloc (objD d)).alloc (objTl 0 0 0 (.slice none 0 0))=w1:=⟨_,rfl⟩
 rw[hw] at S1
 have HW:=hid hw
 unfold objD objTl at HW
 clear s hw
 generalize hE:Ir.bindE K.l d.x.o d.y.o=E
 have HE:=hid hE
 clear hE
 unfold encD
 go_enter Tryz.func79,Tryz.ntmps79
 go_wp2_with (first|rw[HW.out]|fail)
 generalize w.heap.size+1=q2 at *
 generalize w.heap.size=q at *
 have HS:Hid (∀ (W:World) (Y':Ly) (K':Kr) (o:Obj),Y'.l=Y.l->Sep w0 r W (kT p Y' K'::blk q2 o::blk q (objD d)::R)->W.cell? ⟨p,3,none⟩=some (ptr Y.l)/\W.cell? ⟨q,11,none⟩=some (.int .i64 d.x.o)/\W.cell? ⟨q,17,none⟩=some (.int .i64 d.y.o)/\W.cell? ⟨q,19,none⟩=some (.int .u64 d.y.b)):=fun W Y' K' o hy s=>by
  have k:=s.k3
  rw[hy] at k
  exact⟨k,(s.blkCell (p:=q) (List.mem_cons_of_mem _ (List.mem_cons_of_mem _ (List.mem_cons_self))) 11).1,(s.blkCell (p:=q) (List.mem_cons_of_mem _ (List.mem_cons_of_mem _ (List.mem_cons_self))) 17).1,(s.blkCell (p:=q) (List.mem_cons_of_mem _ (List.mem_cons_of_mem _ (List.mem_cons_self))) 19).1⟩
 have hS:=HS.out _ _ _ _ (by rfl) S1.out.drew
 have HC1:=hid (Zn S1.out.drew d.x.o d.y.o d.y.b)
 go_region_held3 (fun W=>W.cell? ⟨p,3,none⟩=some (ptr Y.l)/\W.cell? ⟨q,11,none⟩=some (.int .i64 d.x.o)/\W.cell? ⟨q,17,none⟩=some (.int .i64 d.y.o)/\W.cell? ⟨q,19,none⟩=some (.int .u64 d.y.b)) (first|with_reducible assumption|with_reducible exact hS) (first|(go_at_call 134;refine Calls.mono HC1.out ?_;rintro e w3 ⟨rfl,s3⟩;have hS3:=HS.out _ _ _ _ (by rfl) s3;rw[HE.out];have SP1:=hid s3;clear s3)|(go_at_call 30;refine Calls.mono (told_any _ _) ?_;rintro e w9 ⟨rfl,b9⟩;have s9:=(SP1.out.below b9);have hS9:=HS.out _ _ _ _ (by rfl) s9;obtain⟨t0,t1,t2,t3,f0,f1,f2,f3⟩:=s9.swap.cells4 (List.mem_cons_self);have s10:=s9.swap.put4 E 0 (-1) (.slice none 0 0);have hS10:=HS.out _ _ _ _ (by rfl) s10.swap;have S10:=hid s10;clear s9 s10;simp only[encTl]))
 clear hS
 obtain⟨g0,g1,g2,g3,-⟩:=S10.out.cells4 (List.mem_cons_self)
 have G10:=hid (And.intro (And.intro g0 g1) (And.intro g2 g3))
 clear g0 g1 g2 g3
 go_wp2
 refine bodyPost_ret (v:=encTl E 0 (-1) (.slice none 0 0)) ?_ rfl ⟨rfl,_,S10.out.drop.drop2⟩
 simp[results,Tryz.f79,go_sem,encTl,G10.out.1.1,G10.out.1.2,G10.out.2.1,G10.out.2.2]
theorem JX (s:Sep w0 r w (kT p Y K::R)) (d:De) {i:Nat} {S:No.Ns} (hi:K.N[i]? = some S) (hxo:d.x.o=(i:Int)) (hl:S.l.length<=1000) (ht:∀ u,Below r w0 u->Th.Tab u) (he:No.waitE S d.who≠0) :
  Calls Tryz.prog 75 #[ptr p,encD d] w fun e w'=>e=.returned (encTl (No.waitE S d.who) 0 (-1) (.slice none 0 0))/\KS w0 r w' p { K with N:=K.N.set i (No.waitS S d.who (d.c.C != 0)) } R:=by
 obtain⟨qn,vn,Q,hyi,-,-⟩:=s.ntOf hi
 obtain⟨ao,cap,hnv,hzm,hpt⟩:=s.ntPtr
 obtain⟨g,rfl,-⟩:=hpt i qn vn hyi
 have hil:(i:Int)<(K.N.length:Int):=by have:=(List.getElem?_eq_some_iff.1 hi).1;omega
 have HI:=hid (And.intro hi hyi)
 have HX:=hid hxo
 clear Q hpt
 have hz:∃ z,K.N.length=z:=⟨_,rfl⟩
 obtain⟨z,hz⟩:=hz
 rw[hz] at hnv hil hzm
 clear hz hi hyi hxo
 have S1:=hid (s.deed d)
 obtain⟨w1,hw⟩:∃ w1,(w.alloc (objD d)).alloc (objTl 0 0 0 (.slice none 0 0))=w1:=⟨_,rfl⟩
 rw[hw] at S1
 have HW:=hid hw
 unfold objD objTl at HW
 clear s hw
 have hx:∃ x,No.waitW S d.who=x:=⟨_,rfl⟩
 obtain⟨x,hx⟩:=hx
 have hE:∃ E,No.waitE S d.who=E:=⟨_,rfl⟩
 obtain⟨E,hE⟩:=hE
 have hT:∃ T,No.waitS S d.who (d.c.C != 0)=T:=⟨_,rfl⟩
 obtain⟨T,hT⟩:=hT
 have hzb:∃ zb,(d.c.C != 0)=zb:=⟨_,rfl⟩
 obtain⟨zb,hzb⟩:=hzb
 have HX3:=hid (And.intro hx (And.intro hE hT))
 rw[hzb] at HX3
 have HTB:=hid ht
 have HL:=hid hl
 clear hx hE hT ht hl
 have hq:∃ b,No.waitB S d.who=b:=⟨_,rfl⟩
 obtain⟨b,hq⟩:=hq
 have HQ:=hid hq
 rw[HX3.out.2.1] at he ⊢
 rw[hzb,HX3.out.2.2]
 have hne:(E == 0)=false:=by simpa using he
 have hne2:(E != 0)=true:=by simpa using he
 clear he hq
 unfold encD
 go_enter Tryz.func75,Tryz.ntmps75
 go_wp2_with (first|rw[HW.out]|fail)
 generalize w.heap.size+1=q2 at *
 generalize w.heap.size=q at *
 have HS:Hid (∀ (W:World) (Y':Ly) (K':Kr) (o:Obj) (R':List Th),Y'.nv=Y.nv->(∃ v',Y'.N[i]? = some (qn,v'))->Sep w0 r W (kT p Y' K'::blk q2 o::blk q (objD d)::R')->W.cell? ⟨p,6,none⟩=some (.slice (some ⟨g,0,none⟩) z cap)/\W.cell? ⟨g,i,none⟩=some (ptr qn)/\W.cell? ⟨q,11,none⟩=some (.int .i64 (i:Int))/\W.cell? ⟨q,7,none⟩=some (.int .i64 d.who)/\W.cell? ⟨q,5,none⟩=some (.int .i64 d.c.C)):=fun W Y' K' o R' hy ⟨v',hv⟩ s=>by
  have k:=s.k6
  rw[hy,hnv] at k
  have k2:=s.ntWay (hy.trans hnv) hv
  have c11:W.cell? ⟨q,11,none⟩=some (.int .i64 d.x.o):=(s.blkCell (p:=q) (List.mem_cons_of_mem _ (List.mem_cons_of_mem _ (List.mem_cons_self))) 11).1
  rw[HX.out] at c11
  have c7:W.cell? ⟨q,7,none⟩=some (.int .i64 d.who):=(s.blkCell (p:=q) (List.mem_cons_of_mem _ (List.mem_cons_of_mem _ (List.mem_cons_self))) 7).1
  have c5:W.cell? ⟨q,5,none⟩=some (.int .i64 d.c.C):=(s.blkCell (p:=q) (List.mem_cons_of_mem _ (List.mem_cons_of_mem _ (List.mem_cons_self))) 5).1
  exact⟨k,k2,c11,c7,c5⟩
 have hk:=Jv S1.out.drew HI.out.1 HI.out.2 d.who zb HL.out
 rw[HX3.out.1,HX3.out.2.1,HX3.out.2.2,HQ.out] at hk
 have HK:=hid hk
 clear hk
 have hS:=HS.out _ _ _ _ _ (by rfl) ⟨_,HI.out.2⟩ S1.out.drew
 have HC1:=hid (HK.out)
 go_region_held3 (fun W=>W.cell? ⟨p,6,none⟩=some (.slice (some ⟨g,0,none⟩) z cap)/\W.cell? ⟨g,i,none⟩=some (ptr qn)/\W.cell? ⟨q,11,none⟩=some (.int .i64 (i:Int))/\W.cell? ⟨q,7,none⟩=some (.int .i64 d.who)/\W.cell? ⟨q,5,none⟩=some (.int .i64 d.c.C)) (first|with_reducible assumption|with_reducible exact hS) (first|(go_at_call 129;refine Calls.mono HC1.out ?_;rintro e w3 ⟨rfl,x3,s3⟩;have hS3:=HS.out _ _ _ _ _ (by rfl) ⟨_,Jw HI.out.2 _⟩ s3;have SP1:=hid s3;clear s3))
 clear hS
 clear HS hS3
 go_wp2_with (first|(go_at_call 30;refine Calls.mono (told_any _ _) ?_;rintro e w9 ⟨rfl,b9⟩;have s9:=(SP1.out.below b9);obtain⟨t0,t1,t2,t3,f0,f1,f2,f3⟩:=s9.swap.cells4 (List.mem_cons_self);have s10:=s9.swap.put4 E 0 (-1) (.slice none 0 0);have S10:=hid s10;clear s9 s10;simp only[encTl])|fail)
 obtain⟨g0,g1,g2,g3,-⟩:=S10.out.cells4 (List.mem_cons_self)
 have G10:=hid (And.intro (And.intro g0 g1) (And.intro g2 g3))
 clear g0 g1 g2 g3
 go_wp2
 refine bodyPost_ret (v:=encTl E 0 (-1) (.slice none 0 0)) ?_ rfl ⟨rfl,_,S10.out.drop.drop2⟩
 simp[results,Tryz.f75,go_sem,encTl,G10.out.1.1,G10.out.1.2,G10.out.2.1,G10.out.2.2]
theorem JF (s:Sep w0 r w (kT p Y K::R)) (d:De) {i:Nat} {S:No.Ns} (hi:K.N[i]? = some S) (hxo:d.x.o=(i:Int)) (hl:S.l.length<=1000) (ht:∀ u,Below r w0 u->Th.Tab u) (he:No.waitE S d.who=0) (hb:No.waitB S d.who=false) :
  Calls Tryz.prog 75 #[ptr p,encD d] w fun e w'=>e=.returned (encTl 0 0 (-1) (.slice none 0 0))/\KS w0 r w' p (restK { K with N:=K.N.set i (No.waitS S d.who (d.c.C != 0)) } d.core d.who d.c.C) R:=by
 obtain⟨qn,vn,Q,hyi,-,-⟩:=s.ntOf hi
 obtain⟨ao,cap,hnv,hzm,hpt⟩:=s.ntPtr
 obtain⟨g,rfl,-⟩:=hpt i qn vn hyi
 have hil:(i:Int)<(K.N.length:Int):=by have:=(List.getElem?_eq_some_iff.1 hi).1;omega
 have HI:=hid (And.intro hi hyi)
 have HX:=hid hxo
 clear Q hpt
 have hz:∃ z,K.N.length=z:=⟨_,rfl⟩
 obtain⟨z,hz⟩:=hz
 rw[hz] at hnv hil hzm
 clear hz hi hyi hxo
 have S1:=hid (s.deed d)
 obtain⟨w1,hw⟩:∃ w1,(w.alloc (objD d)).alloc (objTl 0 0 0 (.slice none 0 0))=w1:=⟨_,rfl⟩
 rw[hw] at S1
 have HW:=hid hw
 unfold objD objTl at HW
 clear s hw
 have hx:∃ x,No.waitW S d.who=x:=⟨_,rfl⟩
 obtain⟨x,hx⟩:=hx
 have hE:∃ E,No.waitE S d.who=E:=⟨_,rfl⟩
 obtain⟨E,hE⟩:=hE
 have hT:∃ T,No.waitS S d.who (d.c.C != 0)=T:=⟨_,rfl⟩
 obtain⟨T,hT⟩:=hT
 have hzb:∃ zb,(d.c.C != 0)=zb:=⟨_,rfl⟩
 obtain⟨zb,hzb⟩:=hzb
 have HX3:=hid (And.intro hx (And.intro hE hT))
 rw[hzb] at HX3
 have HTB:=hid ht
 have HL:=hid hl
 clear hx hE hT ht hl
 rw[HX3.out.2.1] at he
 rw[hzb,HX3.out.2.2]
 have HQ:=hid hb
 have hne:(E == 0)=true:=by simpa using he
 have hne2:(E != 0)=false:=by simpa using he
 clear he hb
 unfold encD
 go_enter Tryz.func75,Tryz.ntmps75
 go_wp2_with (first|rw[HW.out]|fail)
 generalize w.heap.size+1=q2 at *
 generalize w.heap.size=q at *
 have HS:Hid (∀ (W:World) (Y':Ly) (K':Kr) (o:Obj) (R':List Th),Y'.nv=Y.nv->(∃ v',Y'.N[i]? = some (qn,v'))->Sep w0 r W (kT p Y' K'::blk q2 o::blk q (objD d)::R')->W.cell? ⟨p,6,none⟩=some (.slice (some ⟨g,0,none⟩) z cap)/\W.cell? ⟨g,i,none⟩=some (ptr qn)/\W.cell? ⟨q,11,none⟩=some (.int .i64 (i:Int))/\W.cell? ⟨q,7,none⟩=some (.int .i64 d.who)/\W.cell? ⟨q,5,none⟩=some (.int .i64 d.c.C)):=fun W Y' K' o R' hy ⟨v',hv⟩ s=>by
  have k:=s.k6
  rw[hy,hnv] at k
  have k2:=s.ntWay (hy.trans hnv) hv
  have c11:W.cell? ⟨q,11,none⟩=some (.int .i64 d.x.o):=(s.blkCell (p:=q) (List.mem_cons_of_mem _ (List.mem_cons_of_mem _ (List.mem_cons_self))) 11).1
  rw[HX.out] at c11
  have c7:W.cell? ⟨q,7,none⟩=some (.int .i64 d.who):=(s.blkCell (p:=q) (List.mem_cons_of_mem _ (List.mem_cons_of_mem _ (List.mem_cons_self))) 7).1
  have c5:W.cell? ⟨q,5,none⟩=some (.int .i64 d.c.C):=(s.blkCell (p:=q) (List.mem_cons_of_mem _ (List.mem_cons_of_mem _ (List.mem_cons_self))) 5).1
  exact⟨k,k2,c11,c7,c5⟩
 have hk:=Jv S1.out.drew HI.out.1 HI.out.2 d.who zb HL.out
 rw[HX3.out.1,HX3.out.2.1,HX3.out.2.2,HQ.out] at hk
 have HK:=hid hk
 clear hk
 have hS:=HS.out _ _ _ _ _ (by rfl) ⟨_,HI.out.2⟩ S1.out.drew
 have HC1:=hid (HK.out)
 go_region_held3 (fun W=>W.cell? ⟨p,6,none⟩=some (.slice (some ⟨g,0,none⟩) z cap)/\W.cell? ⟨g,i,none⟩=some (ptr qn)/\W.cell? ⟨q,11,none⟩=some (.int .i64 (i:Int))/\W.cell? ⟨q,7,none⟩=some (.int .i64 d.who)/\W.cell? ⟨q,5,none⟩=some (.int .i64 d.c.C)) (first|with_reducible assumption|with_reducible exact hS) (first|(go_at_call 129;refine Calls.mono HC1.out ?_;rintro e w3 ⟨rfl,x3,s3⟩;have hS3:=HS.out _ _ _ _ _ (by rfl) ⟨_,Jw HI.out.2 _⟩ s3;have SP1:=hid s3;clear s3))
 clear hS
 clear HS hS3
 have HLd:=hid (load_deed (q:=q) (d:=d) SP1.out (by simp))
 go_wp2_with (first|(refine Ta.wpList_load_run rfl 99 (.tmp 3) rfl ⟨q,0,none⟩ (encD d) rfl HLd.out ?_)|(go_at_call 130;refine Calls.mono (rest_deed SP1.out d HTB.out) ?_;rintro e w9 ⟨rfl,Y9,s9⟩;obtain⟨t0,t1,t2,t3,f0,f1,f2,f3⟩:=s9.swap.cells4 (List.mem_cons_self);have s10:=s9.swap.put4 0 0 (-1) (.slice none 0 0);have S10:=hid s10;clear s9 s10;simp only[encTl])|fail)
 obtain⟨g0,g1,g2,g3,-⟩:=S10.out.cells4 (List.mem_cons_self)
 have G10:=hid (And.intro (And.intro g0 g1) (And.intro g2 g3))
 clear g0 g1 g2 g3
 go_wp2
 refine bodyPost_ret (v:=encTl 0 0 (-1) (.slice none 0 0)) ?_ rfl ⟨rfl,_,S10.out.drop.drop2⟩
 simp[results,Tryz.f75,go_sem,encTl,G10.out.1.1,G10.out.1.2,G10.out.2.1,G10.out.2.2]
theorem JG (s:Sep w0 r w (kT p Y K::R)) (d:De) {i:Nat} {S:No.Ns} (hi:K.N[i]? = some S) (hxo:d.x.o=(i:Int)) (hl:S.l.length<=1000) (ht:∀ u,Below r w0 u->Th.Tab u) (he:No.waitE S d.who=0) (hb:No.waitB S d.who=true) :
  Calls Tryz.prog 75 #[ptr p,encD d] w fun e w'=>e=.returned (encTl 0 (No.waitW S d.who) (-1) (.slice none 0 0))/\KS w0 r w' p { K with N:=K.N.set i (No.waitS S d.who (d.c.C != 0)) } R:=by
 obtain⟨qn,vn,Q,hyi,-,-⟩:=s.ntOf hi
 obtain⟨ao,cap,hnv,hzm,hpt⟩:=s.ntPtr
 obtain⟨g,rfl,-⟩:=hpt i qn vn hyi
 have hil:(i:Int)<(K.N.length:Int):=by have:=(List.getElem?_eq_some_iff.1 hi).1;omega
 have HI:=hid (And.intro hi hyi)
 have HX:=hid hxo
 clear Q hpt
 have hz:∃ z,K.N.length=z:=⟨_,rfl⟩
 obtain⟨z,hz⟩:=hz
 rw[hz] at hnv hil hzm
 clear hz hi hyi hxo
 have S1:=hid (s.deed d)
 obtain⟨w1,hw⟩:∃ w1,(w.alloc (objD d)).alloc (objTl 0 0 0 (.slice none 0 0))=w1:=⟨_,rfl⟩
 rw[hw] at S1
 have HW:=hid hw
 unfold objD objTl at HW
 clear s hw
 have hx:∃ x,No.waitW S d.who=x:=⟨_,rfl⟩
 obtain⟨x,hx⟩:=hx
 have hE:∃ E,No.waitE S d.who=E:=⟨_,rfl⟩
 obtain⟨E,hE⟩:=hE
 have hT:∃ T,No.waitS S d.who (d.c.C != 0)=T:=⟨_,rfl⟩
 obtain⟨T,hT⟩:=hT
 have hzb:∃ zb,(d.c.C != 0)=zb:=⟨_,rfl⟩
 obtain⟨zb,hzb⟩:=hzb
 have HX3:=hid (And.intro hx (And.intro hE hT))
 rw[hzb] at HX3
 have HTB:=hid ht
 have HL:=hid hl
 clear hx hE hT ht hl
 rw[HX3.out.2.1] at he
 rw[HX3.out.1,hzb,HX3.out.2.2]
 have HQ:=hid hb
 have hne:(E == 0)=true:=by simpa using he
 have hne2:(E != 0)=false:=by simpa using he
 clear he hb
 unfold encD
 go_enter Tryz.func75,Tryz.ntmps75
 go_wp2_with (first|rw[HW.out]|fail)
 generalize w.heap.size+1=q2 at *
 generalize w.heap.size=q at *
 have HS:Hid (∀ (W:World) (Y':Ly) (K':Kr) (o:Obj) (R':List Th),Y'.nv=Y.nv->(∃ v',Y'.N[i]? = some (qn,v'))->Sep w0 r W (kT p Y' K'::blk q2 o::blk q (objD d)::R')->W.cell? ⟨p,6,none⟩=some (.slice (some ⟨g,0,none⟩) z cap)/\W.cell? ⟨g,i,none⟩=some (ptr qn)/\W.cell? ⟨q,11,none⟩=some (.int .i64 (i:Int))/\W.cell? ⟨q,7,none⟩=some (.int .i64 d.who)/\W.cell? ⟨q,5,none⟩=some (.int .i64 d.c.C)):=fun W Y' K' o R' hy ⟨v',hv⟩ s=>by
  have k:=s.k6
  rw[hy,hnv] at k
  have k2:=s.ntWay (hy.trans hnv) hv
  have c11:W.cell? ⟨q,11,none⟩=some (.int .i64 d.x.o):=(s.blkCell (p:=q) (List.mem_cons_of_mem _ (List.mem_cons_of_mem _ (List.mem_cons_self))) 11).1
  rw[HX.out] at c11
  have c7:W.cell? ⟨q,7,none⟩=some (.int .i64 d.who):=(s.blkCell (p:=q) (List.mem_cons_of_mem _ (List.mem_cons_of_mem _ (List.mem_cons_self))) 7).1
  have c5:W.cell? ⟨q,5,none⟩=some (.int .i64 d.c.C):=(s.blkCell (p:=q) (List.mem_cons_of_mem _ (List.mem_cons_of_mem _ (List.mem_cons_self))) 5).1
  exact⟨k,k2,c11,c7,c5⟩
 have hk:=Jv S1.out.drew HI.out.1 HI.out.2 d.who zb HL.out
 rw[HX3.out.1,HX3.out.2.1,HX3.out.2.2,HQ.out] at hk
 have HK:=hid hk
 clear hk
 have hS:=HS.out _ _ _ _ _ (by rfl) ⟨_,HI.out.2⟩ S1.out.drew
 have HC1:=hid (HK.out)
 go_region_held3 (fun W=>W.cell? ⟨p,6,none⟩=some (.slice (some ⟨g,0,none⟩) z cap)/\W.cell? ⟨g,i,none⟩=some (ptr qn)/\W.cell? ⟨q,11,none⟩=some (.int .i64 (i:Int))/\W.cell? ⟨q,7,none⟩=some (.int .i64 d.who)/\W.cell? ⟨q,5,none⟩=some (.int .i64 d.c.C)) (first|with_reducible assumption|with_reducible exact hS) (first|(go_at_call 129;refine Calls.mono HC1.out ?_;rintro e w3 ⟨rfl,x3,s3⟩;have hS3:=HS.out _ _ _ _ _ (by rfl) ⟨_,Jw HI.out.2 _⟩ s3;have SP1:=hid s3;clear s3))
 clear hS
 clear HS hS3
 go_wp2_with (first|(go_at_call 30;refine Calls.mono (told_any _ _) ?_;rintro e w9 ⟨rfl,b9⟩;have sv:=((SP1.out.below b9).box (objTl 0 x (-1) (.slice none 0 0)));change Sep w0 r (w9.alloc (.cells #[.int .i64 0,.int .u64 x,.int .i64 (-1),(.slice none 0 0)] 35)) _ at sv;have sx:=sv.third.swap;obtain⟨u0,u1,u2,u3,g0,g1,g2,g3⟩:=sx.cells4 (List.mem_cons_self);have s10:=sx.put4 0 x (-1) (.slice none 0 0);have S10:=hid s10;clear sv sx s10 b9;simp only[encTl])|fail)
 obtain⟨h0,h1,h2,h3,-⟩:=S10.out.cells4 (List.mem_cons_self)
 have G10:=hid (And.intro (And.intro h0 h1) (And.intro h2 h3))
 clear h0 h1 h2 h3
 go_wp2
 refine bodyPost_ret (v:=encTl 0 x (-1) (.slice none 0 0)) ?_ rfl ⟨rfl,_,S10.out.drop.drop2.drop2⟩
 simp[results,Tryz.f75,go_sem,encTl,G10.out.1.1,G10.out.1.2,G10.out.2.1,G10.out.2.2]
theorem J2 (s:Sep w0 r w (kT p Y K::R)) (d:De) (hb:Ir.telB Ir.isM K.l d.x.o=true) (hf:Few K) (h0:0<=Ir.telA Ir.isM K.l d.x.o) (h1:Ir.telA Ir.isM K.l d.x.o<(K.N.length:Int)) (h2:0<=Ir.telG Ir.isM K.l d.x.o/\Ir.telG Ir.isM K.l d.x.o<=18446744073709551615) (h3:0<=No.sigW (ntN K (Ir.telA Ir.isM K.l d.x.o)) (Ir.telG Ir.isM K.l d.x.o)/\No.sigW (ntN K (Ir.telA Ir.isM K.l d.x.o)) (Ir.telG Ir.isM K.l d.x.o)<=18446744073709551615) :
  Calls Tryz.prog 80 #[ptr p,encD d] w fun e w'=>e=.returned (encTl (Ir.telE K.l d.x.o) 0 (sigN (ackedK K d.x.o) (Ir.telA Ir.isM K.l d.x.o)) (.slice none 0 0))/\KS w0 r w' p (sigK (ackedK K d.x.o) (Ir.telA Ir.isM K.l d.x.o) (Ir.telG Ir.isM K.l d.x.o)) R:=by
 have S1:=hid (s.deed d)
 obtain⟨w1,hw⟩:∃ w1,(w.alloc (objD d)).alloc (objTl 0 0 0 (.slice none 0 0))=w1:=⟨_,rfl⟩
 rw[hw] at S1
 have HW:=hid hw
 unfold objD objTl at HW
 clear s hw
 obtain⟨E,hE⟩:∃ E,Ir.telE K.l d.x.o=E:=⟨_,rfl⟩
 obtain⟨a,ha⟩:∃ a,Ir.telA Ir.isM K.l d.x.o=a:=⟨_,rfl⟩
 obtain⟨g,hg⟩:∃ g,Ir.telG Ir.isM K.l d.x.o=g:=⟨_,rfl⟩
 have hk:=JR S1.out.drew d.x.o
 rw[hE,ha,hg,hb] at hk
 have HK:=hid hk
 have c3:=S1.out.k3
 clear hk hb
 rw[ha] at h0 h1 h3 ⊢
 rw[hg] at h2 h3 ⊢
 rw[hE]
 have HC:=hid (And.intro (show Few (ackedK K d.x.o) from hf) (And.intro h0 (And.intro (show a<((ackedK K d.x.o).N.length:Int) from h1) (And.intro h2 (show 0<=No.sigW (ntN (ackedK K d.x.o) a) g/\No.sigW (ntN (ackedK K d.x.o) a) g<=18446744073709551615 from h3)))))
 obtain⟨b,hs⟩:∃ b,sigN (ackedK K d.x.o) a=b:=⟨_,rfl⟩
 rw[hs]
 have HSN:=hid hs
 clear hf h0 h1 h2 h3 hs ha hg hE
 unfold encD
 go_enter Tryz.func80,Tryz.ntmps80
 go_wp2_with (first|rw[HW.out]|fail)
 generalize w.heap.size+1=q2 at *
 generalize w.heap.size=q at *
 have dc11:w1.cell? ⟨q,11,none⟩=some (.int .i64 d.x.o):=(S1.out.blkCell (p:=q) (List.mem_cons_of_mem _ (List.mem_cons_of_mem _ (List.mem_cons_self))) 11).1
 go_cut [5,6] from 9 to 24 (fun sa sb wx=>∃ Y4,sa=.int .i64 b/\sb=.int .i64 E/\Sep w0 r wx (kT p Y4 (sigK (ackedK K d.x.o) a g)::blk q2 (objTl 0 0 0 (.slice none 0 0))::blk q (objD d)::R))
 case first =>
  go_region_with (first|(go_at_call 135;(with_reducible refine Calls.mono HK.out ?_);rintro e w3 ⟨rfl,s3⟩;have S3:Hid (Sep w0 r w3 (kT p Y (ackedK K d.x.o)::blk q2 (objTl 0 0 0 (.slice none 0 0))::blk q (objD d)::R)):=s3;clear s3)|(go_at_call 40;(with_reducible refine Calls.mono (Js S3.out HC.out.1 E HC.out.2.1 HC.out.2.2.1 HC.out.2.2.2.1 HC.out.2.2.2.2) ?_);rintro e w4 ⟨rfl,Y4,s4⟩;rw[HSN.out];have S4:=hid s4;clear s4))
  all_goals go_wp2_with fail
  all_goals go_meet
  all_goals exact⟨_,rfl,rfl,S4.out⟩
 case rest =>
  obtain⟨Y4,rfl,rfl,s4⟩:=hcut
  have S4:=hid s4
  clear s4 S1 HK c3 dc11
  go_wp2_with (first|(go_at_call 30;refine Calls.mono (told_any _ _) ?_;rintro e w9 ⟨rfl,b9⟩;have sv:=((S4.out.below b9).box (objTl E 0 b (.slice none 0 0)));change Sep w0 r (w9.alloc (.cells #[.int .i64 E,.int .u64 0,.int .i64 b,(.slice none 0 0)] 35)) _ at sv;have sx:=sv.third.swap;obtain⟨u0,u1,u2,u3,g0,g1,g2,g3⟩:=sx.cells4 (List.mem_cons_self);have s10:=sx.put4 E 0 b (.slice none 0 0);have S10:=hid s10;clear sv sx s10 b9;simp only[encTl])|fail)
  obtain⟨h0,h1,h2,h3,-⟩:=S10.out.cells4 (List.mem_cons_self)
  have G10:=hid (And.intro (And.intro h0 h1) (And.intro h2 h3))
  clear h0 h1 h2 h3
  go_wp2
  refine bodyPost_ret (v:=encTl E 0 b (.slice none 0 0)) ?_ rfl ⟨rfl,_,S10.out.drop.drop2.drop2⟩
  simp[results,Tryz.f80,go_sem,encTl,G10.out.1.1,G10.out.1.2,G10.out.2.1,G10.out.2.2]
theorem Zg (s:Sep w0 r w (kT p Y K::R)) (d:De) (hb:Ir.telB Ir.isM K.l d.x.o=false) :
  Calls Tryz.prog 80 #[ptr p,encD d] w fun e w'=>e=.returned (encTl (Ir.telE K.l d.x.o) 0 (-1) (.slice none 0 0))/\KS w0 r w' p (ackedK K d.x.o) R:=by
 have S1:=hid (s.deed d)
 obtain⟨w1,hw⟩:∃ w1,(w.alloc (objD d)).alloc (objTl 0 0 0 (.slice none 0 0))=w1:=⟨_,rfl⟩
 rw[hw] at S1
 have HW:=hid hw
 unfold objD objTl at HW
 clear s hw
 obtain⟨E,hE⟩:∃ E,Ir.telE K.l d.x.o=E:=⟨_,rfl⟩
 obtain⟨a,ha⟩:∃ a,Ir.telA Ir.isM K.l d.x.o=a:=⟨_,rfl⟩
 obtain⟨g,hg⟩:∃ g,Ir.telG Ir.isM K.l d.x.o=g:=⟨_,rfl⟩
 have hk:=JR S1.out.drew d.x.o
 rw[hE,ha,hg,hb] at hk
 have HK:=hid hk
 have c3:=S1.out.k3
 clear hk hb
 rw[hE]
 clear ha hg hE
 unfold encD
 go_enter Tryz.func80,Tryz.ntmps80
 go_wp2_with (first|rw[HW.out]|fail)
 generalize w.heap.size+1=q2 at *
 generalize w.heap.size=q at *
 have dc11:w1.cell? ⟨q,11,none⟩=some (.int .i64 d.x.o):=(S1.out.blkCell (p:=q) (List.mem_cons_of_mem _ (List.mem_cons_of_mem _ (List.mem_cons_self))) 11).1
 go_cut [5,6] from 9 to 24 (fun sa sb wx=>∃ Y4,sa=.int .i64 (-1)/\sb=.int .i64 E/\Sep w0 r wx (kT p Y4 (ackedK K d.x.o)::blk q2 (objTl 0 0 0 (.slice none 0 0))::blk q (objD d)::R))
 case first =>
  go_region_with (first|(go_at_call 135;(with_reducible refine Calls.mono HK.out ?_);rintro e w3 ⟨rfl,s3⟩;have S3:Hid (Sep w0 r w3 (kT p Y (ackedK K d.x.o)::blk q2 (objTl 0 0 0 (.slice none 0 0))::blk q (objD d)::R)):=s3;clear s3)|(go_at_call 40;(with_reducible refine Calls.mono (JB a g E (ptr p) _) ?_);rintro e w4 ⟨rfl,rfl⟩;have S4:=hid S3.out))
  all_goals go_wp2_with fail
  all_goals go_meet
  all_goals exact⟨_,rfl,rfl,S4.out⟩
 case rest =>
  obtain⟨Y4,rfl,rfl,s4⟩:=hcut
  have S4:=hid s4
  clear s4 S1 HK c3 dc11
  go_wp2_with (first|(go_at_call 30;refine Calls.mono (told_any _ _) ?_;rintro e w9 ⟨rfl,b9⟩;have sv:=((S4.out.below b9).box (objTl E 0 (-1) (.slice none 0 0)));change Sep w0 r (w9.alloc (.cells #[.int .i64 E,.int .u64 0,.int .i64 (-1),(.slice none 0 0)] 35)) _ at sv;have sx:=sv.third.swap;obtain⟨u0,u1,u2,u3,g0,g1,g2,g3⟩:=sx.cells4 (List.mem_cons_self);have s10:=sx.put4 E 0 (-1) (.slice none 0 0);have S10:=hid s10;clear sv sx s10 b9;simp only[encTl])|fail)
  obtain⟨h0,h1,h2,h3,-⟩:=S10.out.cells4 (List.mem_cons_self)
  have G10:=hid (And.intro (And.intro h0 h1) (And.intro h2 h3))
  clear h0 h1 h2 h3
  go_wp2
  refine bodyPost_ret (v:=encTl E 0 (-1) (.slice none 0 0)) ?_ rfl ⟨rfl,_,S10.out.drop.drop2.drop2⟩
  simp[results,Tryz.f80,go_sem,encTl,G10.out.1.1,G10.out.1.2,G10.out.2.1,G10.out.2.2]
end
section
variable {w0 w w':World} {r p n m:Nat} {Y:Ly} {K:Kr} {R:List Th} {d:De}
theorem Zj (s:Sep w0 r w (kT p Y K::R)) (o:Dd w0 r n m K d) (hk:d.x.k=5):Calls Tryz.prog 75 #[ptr p,encD d] w (DR w0 r p R (waitK K d.core d.who d.c d.x)):=by
 obtain⟨i,hi⟩:=o.nat
 have hlt:d.x.o<(K.N.length:Int):=by
  have h:=(cap_ref o.v o.k).n
  rw[<- o.x] at h
  exact h hk
 obtain⟨S,hS⟩:∃ S,K.N[i]? = some S:=⟨_,List.getElem?_eq_getElem (by omega)⟩
 have hl:=nt_few o.v.th (o.v.nt S (List.mem_of_getElem? hS))
 unfold waitK setN
 rw[hi,Zr hS,Int.toNat_natCast,<- bne_dec]
 by_cases he:No.waitE S d.who=0
 ·rw[if_pos he]
  by_cases hb:No.waitB S d.who=true
  ·rw[if_pos hb]
   exact DR.plain (JG s d hS hi (by omega) o.ht he hb)
  ·rw[if_neg hb]
   exact DR.plain (JF s d hS hi (by omega) o.ht he (by simpa using hb))
 ·rw[if_neg he]
  have h:=DR.plain (JX s d hS hi (by omega) o.ht he)
  rw[J9 he,set_at_self hS] at h
  exact h
theorem Zi (s:Sep w0 r w (kT p Y K::R)):Calls Tryz.prog 79 #[ptr p,encD d] w (DR w0 r p R ({ K with l:=Ir.bindS K.l d.x.o d.y.o d.y.b },tlE (Ir.bindE K.l d.x.o d.y.o))):=
 DR.plain (JD s d)
theorem JW (v:Iv n m K) {f:Ir.Ln->Bool} (hf:∀ x,f x=true->x.s≠none) {o:Int} (hb:Ir.telB f K.l o=true):0<=Ir.telA f K.l o/\Ir.telA f K.l o<(K.N.length:Int):=by
 unfold Ir.telB at hb
 unfold Ir.telA
 cases e:Ir.atI K.l o with
 | none=>rw[e] at hb;cases hb
 | some x =>
  rw[e] at hb
  simp only at hb ⊢
  have hx:x∈K.l:=by
   unfold Ir.atI at e
   split at e
   ·exact List.mem_of_getElem? e
   ·cases e
  have h:=v.ln x hx (hf x hb)
  rw[if_pos hb]
  exact⟨h.1,h.2.1⟩
theorem Zu (s:Sep w0 r w (kT p Y K::R)) (o:Dd w0 r n m K d):Calls Tryz.prog 80 #[ptr p,encD d] w (DR w0 r p R (if Ir.telB Ir.isM K.l d.x.o=true then (sigK (ackedK K d.x.o) (Ir.telA Ir.isM K.l d.x.o) (Ir.telG Ir.isM K.l d.x.o),⟨Ir.telE K.l d.x.o,0,sigN (ackedK K d.x.o) (Ir.telA Ir.isM K.l d.x.o),[]⟩) else (ackedK K d.x.o,tlE (Ir.telE K.l d.x.o)))):=by
 by_cases hb:Ir.telB Ir.isM K.l d.x.o=true
 ·rw[if_pos hb]
  have h:=JW o.v isM_some hb
  have hg:=telG_ok o.v isM_some d.x.o
  exact DR.plain (J2 s d hb o.v.few h.1 h.2 hg (sigW_ok hg))
 ·rw[if_neg hb]
  exact DR.plain (Zg s d (by simpa using hb))
def Zh:List Nat:=[0,1,4,6,9,11,15,16]
def ZJ (q:Int):Bool:=decide (q<0) || decide (17<=q) || Zh.contains q.toNat
structure Cd (c:Cl):Prop where
 w:I64 c.w
 A:I64 c.A
 B:I64 c.B
 C:I64 c.C
 q:ZJ c.q=true
theorem Zt {i:Nat} (h:ZJ (i:Int)=true) (hi:i<17):Zh.contains i=true:=by
 unfold ZJ at h
 rw[decide_eq_false (by omega),decide_eq_false (by omega)] at h
 exact h
theorem JL (s:Sep w0 r w (kT p Y K::R)) (o:Dd w0 r n m K d) {i:Nat} (hq:d.c.q=(i:Int)) (hi:i<17) (hin:Zh.contains i=true) (hB:findB K d.c i=true) (hy:d.y=if nW i=0 then Sl.no else capN K d.c.w) :
  Calls Tryz.prog (fnL.getD i 0) #[ptr p,encD d] w (DR w0 r p R (if mayB d.c d.x=true then doesK K d.core d.who d.c d.x else (K,tlE 181))):=by
 have hat:atB d.x i=true:=by
  rw[findB_at,<- o.x] at hB
  exact(Bool.and_eq_true_iff.1 hB).1
 have hkk:=atB_k hat
 have hrr:0<=d.x.r/\d.x.r<=7:=by rw[o.x];exact cap_r o.v
 have hmay:=may_find (c:=d.c) (x:=d.x) hq hi hrr
 rw[hat,Bool.true_and] at hmay
 have hwy:nW i≠0->d.y=capN K d.c.w/\(capN K d.c.w).k=nW i:=fun h=>by
  rw[if_neg h] at hy
  rw[findB_at] at hB
  have h2:=(Bool.and_eq_true_iff.1 hB).2
  simp only[Bool.or_eq_true,Bool.and_eq_true,beq_iff_eq] at h2
  refine⟨hy,?_⟩
  rcases h2 with h2|⟨_,h2|h2⟩
  ·exact absurd h2 h
  ·exact absurd h2 h
  ·exact h2
 have hcs:i=0\/i=1\/i=2\/i=3\/i=4\/i=5\/i=6\/i=7\/i=8\/i=9\/i=10\/i=11\/i=12\/i=13\/i=14\/i=15\/i=16:=by omega
 rw[hmay]
 clear hmay hB hat
 have hd:∀ X,doesK K d.core d.who d.c d.x=X->X=doesK K d.core d.who d.c d.x:=fun X h=>h.symm
 rcases hcs with rfl|rfl|rfl|rfl|rfl|rfl|rfl|rfl|rfl|rfl|rfl|rfl|rfl|rfl|rfl|rfl|rfl
 ·rw[hq,if_pos (by rfl)]
  unfold doesK
  rw[hq]
  exact d_retype s o (hkk.2.resolve_left (by decide))
 ·by_cases hk:d.x.k=1
  ·have h:=d_mint s o
   rw[if_pos hk] at h
   rw[hq,hk,if_neg (by decide)]
   exact h
  ·have h:=d_mint s o
   rw[if_neg hk] at h
   have e:(d.x.k == 1)=false:=by simpa using hk
   rw[hq,e,if_pos (by rfl)]
   unfold doesK
   rw[hq]
   exact h
 ·exact absurd hin (by decide)
 ·exact absurd hin (by decide)
 ·rw[hq,if_pos (by rfl)]
  unfold doesK
  rw[hq]
  exact d_revoke s o
 ·exact absurd hin (by decide)
 ·rw[hq,if_pos (by rfl)]
  unfold doesK
  rw[hq]
  exact d_suspend s o
 ·exact absurd hin (by decide)
 ·exact absurd hin (by decide)
 ·rw[hq,if_pos (by rfl)]
  unfold doesK
  rw[hq]
  exact d_recv s o (hkk.2.resolve_left (by decide))
 ·exact absurd hin (by decide)
 ·rw[hq,if_pos (by rfl)]
  unfold doesK
  rw[hq]
  exact Zj s o (hkk.2.resolve_left (by decide))
 ·exact absurd hin (by decide)
 ·exact absurd hin (by decide)
 ·exact absurd hin (by decide)
 ·obtain⟨h1,h2⟩:=hwy (by decide)
  have h:=Zi (d:=d) s
  rw[hq,if_pos (by rfl)]
  unfold doesK
  rw[hq]
  show Calls _ _ _ _ (DR w0 r p R (if (capN K d.c.w).k=5 then _ else _))
  rw[if_pos (show(capN K d.c.w).k=5 from h2),<- h1]
  exact h
 ·rw[hq,if_pos (by rfl)]
  unfold doesK
  rw[hq]
  exact Zu s o
theorem Zd (s:Sep w0 r w (kT p Y K::R)) (o:Kd w0 r n m K) (core:Int) {c:Cl} (b:Cd c) :
  Calls Tryz.prog 9 #[ptr p,.int .i64 core,encCl c] w (DR w0 r p R (doK K core c)):=by
 unfold doK
 by_cases hb:Th.runsB (pickedK K core).h core=true
 ·rw[if_pos hb]
  by_cases hq:0<=c.q/\c.q<=17
  ·rw[if_pos hq]
   obtain⟨i,hi⟩:∃ i:Nat,c.q=(i:Int):=⟨c.q.toNat,by omega⟩
   obtain⟨t1,t2⟩:=runs_tid (o.v.picked core) hb
   by_cases h17:c.q=17
   ·rw[if_pos h17]
    exact Do_yield s o.ht core c hb hi (by omega) _ rfl fun Y2 W T s2=>by
     obtain rfl:i=17:=by omega
     exact DR.plain (yield_deed s2 (de0 c core _) o.ht)
   ·rw[if_neg h17]
    have hi17:i<17:=by omega
    have vp:=o.v.picked core
    have ec:∀ a,capN (pickedK K core) a=capN K a:=fun _=>rfl
    rw[<- ec]
    by_cases hB:findB (pickedK K core) c i=true
    ·refine Do_call s o.ht core c hb hi hi17 o.v.ts.n0 o.N o.hn hB _ rfl fun Y2 W T s2=>?_
     have hk:(capN (pickedK K core) c.a).k≠0:=by
      rw[findB_at] at hB
      exact(atB_k (Bool.and_eq_true_iff.1 hB).1).1
     exact JL s2 (d:=de1 c core (Th.runsN (Th.pickH K.h core) core) (capN (pickedK K core) c.a) (if nW i=0 then Sl.no else capN (pickedK K core) c.w)) ⟨vp,o.hm,o.fu,o.T,o.hr,o.ht,t1,t2,b.A,b.B,b.C,b.w,rfl,rfl,hk⟩ hi hi17 (Zt (by rw[<- hi];exact b.q) hi17) hB rfl
    ·rw[find_not vp hi hi17 (by simpa using hB)]
     exact DR.plain (Do_cap s o.ht core c hb hi hi17 o.v.ts.n0 o.N o.hn (by simpa using hB))
  ·rw[if_neg hq]
   exact DR.plain (Do_label s o.ht core c hb hq)
 ·rw[if_neg hb]
  have hb2:Th.runsB (pickedK K core).h core=false:=by simpa using hb
  exact DR.plain (Do_state s o.ht core c hb2)
end
theorem Lt.below {w w':World} (h:Lt w) (b:Below w.heap.size w w'):Lt w':=⟨h.u.below b h.u.size,h.n.below b h.n.size,h.t.below b⟩
theorem Kv.irq {n m:Nat} {K:Kr} (h:Kv n m K) (o:Int):Kv n m (Jf K o):=⟨h.v.irq o,JN h.fu o⟩
section
variable {w0 w w':World} {p n m:Nat} {Y:Ly} {K K':Kr} {R:List Th}
theorem JM (s:Sep w0 w0.heap.size w (kT p Y K::R)) (L:Lt w0) (v:Kv n m K) (hm:m<=100000) (core:Int) {c:Cl} (b:Cd c) {e x k:Int} {f:List Lr} (hX:doK K core c=(K',⟨e,x,k,f⟩)) :
  Calls Tryz.prog 9 #[ptr p,.int .i64 core,.agg #[.int .i64 c.q,.int .i64 c.a,.int .i64 c.w,.int .i64 c.A,.int .i64 c.B,.int .i64 c.C]] w fun r w'=>∃ ao cap Y',r=.returned (.agg #[.int .i64 e,.int .u64 x,.int .i64 k,.slice ao f.length cap])/\Sep w0 w0.heap.size w' (kT p Y' K'::lst elR (.slice ao f.length cap) f::R):=by
 have h:=Zd s ⟨v.v,hm,v.fu,L.u,L.u.size,L.n,L.n.size,fun u b=>L.t.below b⟩ core b
 rw[hX] at h
 refine Calls.mono h ?_
 rintro r w' ⟨u,rfl,Y',s'⟩
 obtain⟨ao,cap,rfl⟩:=s'.listIs (E:=elR) (v:=u) (A:=f) (by simp)
 exact⟨ao,cap,Y',rfl,s'⟩
end
end
section
def K0:Kr:=begK 1 12 0 [5]
end
end Go.Proofs.YtilnjnblpeeigaaGreatDoor
