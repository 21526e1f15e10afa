/- Below: KFi KDo2; no condition. -/
import Derived.Test.YtbfjjpdnoalojaaGreatDoorPa23
set_option maxHeartbeats 16000000
set_option maxRecDepth 100000
namespace Go.Proofs.YtbfjjpdnoalojaaGreatDoor
section
open Go.RowKit Go.Deep Go.Shelf
open Classical
def IL:List Int:=[1,0,0,0,0,0,0,0,0,0,0,0,0,0,0,3,0,0,3,0,0,3,0,0,4,2,0,4,1,0,5,2,0,5,1,0,7,0,8,6,0,8,8,0,0,9,0,5,9,0,0,0,0,0]
structure NTab (w:World):Prop where
 size:0 < w.heap.size
 cell:∀ i,i<54->w.cell? ⟨0,i,none⟩=some (.int .i64 (IL.getD i 0))
theorem NTab.below {w w':World} {B:Nat} (h:NTab w) (b:Below B w w') (hB:0 < B):NTab w':=
 ⟨Jrb h.size b.size,fun i hi=>(b.cell (p:=⟨0,i,none⟩) hB).trans (h.cell i hi)⟩
abbrev nK (i:Nat):Int:=IL.getD (i*3) 0
abbrev nR (i:Nat):Int:=IL.getD (i*3+1) 0
abbrev nW (i:Nat):Int:=IL.getD (i*3+2) 0
def IA (K:Kr) (c:Cl) (i:Nat):Bool:=
 ((Jk K c.a).k != 0) && (nK i == 0 || (Jk K c.a).k == nK i) && !(bits .and .i64 (Jk K c.a).r (nR i) != nR i) && (nW i == 0 || (((Jk K c.w).k != 0) && (nW i == 0 || (Jk K c.w).k == nW i)))
section
variable {w0 w w':World} {r p q:Nat} {Y:Ly} {K:Kr} {R:List Th} {d:De}
theorem Sep.putFrom (s:Sep w0 r w (blk q (Jp d)::R)) (f:Int) (x:Sl.Cp):Sep w0 r ((((((((w.setCell ⟨q,8,none⟩ (.int .i64 0)).setCell ⟨q,9,none⟩ (.int .i64 f)).setCell ⟨q,10,none⟩ (.int .i64 x.k)).setCell ⟨q,11,none⟩ (.int .i64 x.o)).setCell ⟨q,12,none⟩ (.int .i64 x.r)).setCell ⟨q,13,none⟩ (.int .u64 x.b)).setCell ⟨q,14,none⟩ (.int .u64 x.g)).setCell ⟨q,15,none⟩ (.int .i64 x.z)) (blk q (Jp { d with f:=f,x:=x })::R):=by
 have:=(((((((s.putB 8 (.int .i64 0)).putB 9 (.int .i64 f)).putB 10 (.int .i64 x.k)).putB 11 (.int .i64 x.o)).putB 12 (.int .i64 x.r)).putB 13 (.int .u64 x.b)).putB 14 (.int .u64 x.g)).putB 15 (.int .i64 x.z)
 simpa [Jp] using this
theorem Sep.putOther (s:Sep w0 r w (blk q (Jp d)::R)) (x:Sl.Cp):Sep w0 r ((((((w.setCell ⟨q,16,none⟩ (.int .i64 x.k)).setCell ⟨q,17,none⟩ (.int .i64 x.o)).setCell ⟨q,18,none⟩ (.int .i64 x.r)).setCell ⟨q,19,none⟩ (.int .u64 x.b)).setCell ⟨q,20,none⟩ (.int .u64 x.g)).setCell ⟨q,21,none⟩ (.int .i64 x.z)) (blk q (Jp { d with y:=x })::R):=by
 have:=(((((s.putB 16 (.int .i64 x.k)).putB 17 (.int .i64 x.o)).putB 18 (.int .i64 x.r)).putB 19 (.int .u64 x.b)).putB 20 (.int .u64 x.g)).putB 21 (.int .i64 x.z)
 simpa [Jp] using this
theorem IH (s:Sep w0 r w (kT p Y K::R)) (h6:(K.S.getD 0 []).length=64) (n:Int) {c:Sl.Cp} (hc:Jk K n=c) {b:Bool} (hb:(c.k != 0)=b) :
  Calls Tryz.prog 143 #[Je p,.int .i64 n] w fun e w'=>e=.returned (.tuple #[.agg #[.int .i64 0,.int .i64 (if 0<=n/\n<=63 then n else 0)],.agg #[.int .i64 c.k,.int .i64 c.o,.int .i64 c.r,.int .u64 c.b,.int .u64 c.g,.int .i64 c.z],.bool b])/\Sep w0 r w' (kT p Y K::R):=by
 by_cases h:0<=n/\n<=63
 ·rw[if_pos h,<- hb]
  exact Jj8 s h6 h.1 h.2 hc
 ·rw[if_neg h]
  have:c=Sl.no:=by
   rw[<- hc]
   unfold Jk
   rw[if_neg h]
  subst this
  obtain rfl:b=false:=by rw[<- hb];rfl
  exact Jn8 s h
theorem Jaj (s:Sep w0 r w (kT p Y K::blk q (Jp d)::R)) (h6:(K.S.getD 0 []).length=64) {iq:Nat} (hq:d.c.q=(iq:Int)) (hi:iq<18) (N:NTab w0) (hr:0 < r) :
  Calls Tryz.prog 62 #[Je p,Je q] w fun e w'=>e=.returned (.bool (IA K d.c iq))/\∃ d',Sep w0 r w' (kT p Y K::blk q (Jp d')::R)/\(IA K d.c iq=true->d'={ d with f:=d.c.a,x:=Jk K d.c.a,y:=if nW iq=0 then d.y else Jk K d.c.w }):=by
 have hNC:∀ (W:World) (T:List Th),Sep w0 r W T->W.cell? ⟨0,iq*3,none⟩=some (.int .i64 (nK iq))/\W.cell? ⟨0,iq*3+1,none⟩=some (.int .i64 (nR iq))/\W.cell? ⟨0,iq*3+2,none⟩=some (.int .i64 (nW iq)):=fun W T s=>by
  have n:=N.below s.low hr
  exact⟨n.cell _ (by omega),n.cell _ (by omega),n.cell _ (by omega)⟩
 unfold IA
 generalize nK iq=nk at *
 generalize nR iq=nr at *
 generalize nW iq=nw at *
 obtain⟨x,hx⟩:∃ x,Jk K d.c.a=x:=⟨_,rfl⟩
 obtain⟨y,hy⟩:∃ y,Jk K d.c.w=y:=⟨_,rfl⟩
 rw[hx,hy]
 obtain⟨b1,hb1⟩:∃ b,(x.k != 0)=b:=⟨_,rfl⟩
 obtain⟨b2,hb2⟩:∃ b,(nk == 0 || x.k == nk)=b:=⟨_,rfl⟩
 obtain⟨b3,hb3⟩:∃ b,(bits .and .i64 x.r nr != nr)=b:=⟨_,rfl⟩
 obtain⟨b5,hb5⟩:∃ b,(y.k != 0)=b:=⟨_,rfl⟩
 obtain⟨b6,hb6⟩:∃ b,(nw == 0 || y.k == nw)=b:=⟨_,rfl⟩
 rw[hb1,hb2,hb3,hb5,hb6]
 obtain⟨BB,hBB⟩:∃ BB,(b1 && b2 && !b3 && (nw == 0 || (b5 && b6)))=BB:=⟨_,rfl⟩
 rw[hBB]
 have HBB:=Ja hBB
 clear hBB
 obtain⟨PP,hPP⟩:∃ PP:World->Prop,(∀ W,PP W->∃ d',Sep w0 r W (kT p Y K::blk q (Jp d')::R)/\(BB=true->d'={ d with f:=d.c.a,x:=x,y:=if nw=0 then d.y else y }))/\(∀ W d',Sep w0 r W (kT p Y K::blk q (Jp d')::R)->(BB=true->d'={ d with f:=d.c.a,x:=x,y:=if nw=0 then d.y else y })->PP W):=⟨_,fun _ h=>h,fun W d' h1 h2=>⟨d',h1,h2⟩⟩
 refine Jqa (show Calls Tryz.prog 62 #[Je p,Je q] w fun e w'=>e=.returned (.bool BB)/\PP w' from ?_) (fun e w' h=>⟨h.1,hPP.1 w' h.2⟩)
 have HP:=Ja hPP.2
 clear hPP
 have HB3:=Ja hb3
 have HX:=Ja (And.intro hx hb1)
 have HYY:=Ja (And.intro hy hb5)
 have HA:Hid (∀ (W:World) (T:List Th),Sep w0 r W (kT p Y K::T)->Calls Tryz.prog 143 #[Je p,.int .i64 d.c.a] W fun e w'=>e=.returned (.tuple #[.agg #[.int .i64 0,.int .i64 (if 0<=d.c.a/\d.c.a<=63 then d.c.a else 0)],.agg #[.int .i64 x.k,.int .i64 x.o,.int .i64 x.r,.int .u64 x.b,.int .u64 x.g,.int .i64 x.z],.bool b1])/\Sep w0 r w' (kT p Y K::T)):=fun W T s=>IH s h6 d.c.a hx hb1
 have HW:Hid (∀ (W:World) (T:List Th),Sep w0 r W (kT p Y K::T)->Calls Tryz.prog 143 #[Je p,.int .i64 d.c.w] W fun e w'=>e=.returned (.tuple #[.agg #[.int .i64 0,.int .i64 (if 0<=d.c.w/\d.c.w<=63 then d.c.w else 0)],.agg #[.int .i64 y.k,.int .i64 y.o,.int .i64 y.r,.int .u64 y.b,.int .u64 y.g,.int .i64 y.z],.bool b5])/\Sep w0 r w' (kT p Y K::T)):=fun W T s=>IH s h6 d.c.w hy hb5
 have HO1:Hid (∀ W:World,Calls Tryz.prog 144 #[.agg #[.int .i64 x.k,.int .i64 x.o,.int .i64 x.r,.int .u64 x.b,.int .u64 x.g,.int .i64 x.z],.int .i64 nk] W fun e w'=>e=.returned (.bool b2)/\Below W.heap.size W w'):=fun W=>by
  have h:=Ef x nk W
  rw[hb2] at h
  exact h
 have HO2:Hid (∀ W:World,Calls Tryz.prog 144 #[.agg #[.int .i64 y.k,.int .i64 y.o,.int .i64 y.r,.int .u64 y.b,.int .u64 y.g,.int .i64 y.z],.int .i64 nw] W fun e w'=>e=.returned (.bool b6)/\Below W.heap.size W w'):=fun W=>by
  have h:=Ef y nw W
  rw[hb6] at h
  exact h
 have HF1:Hid (b1=true->(if 0<=d.c.a/\d.c.a<=63 then d.c.a else 0)=d.c.a):=fun e=>by
  by_cases h:0<=d.c.a/\d.c.a<=63
  ·rw[if_pos h]
  ·exfalso
   unfold Jk at hx
   rw[if_neg h] at hx
   subst hx
   rw[<- hb1] at e
   cases e
 generalize(if 0<=d.c.a/\d.c.a<=63 then d.c.a else 0)=fa at *
 generalize(if 0<=d.c.w/\d.c.w<=63 then d.c.w else 0)=fw at *
 obtain⟨n0,n1,n2⟩:=hNC _ _ s
 have i0:(0:Int)<=(iq:Int):=by omega
 have i1:(iq:Int)<18:=by omega
 have i2:(iq:Int).toNat=iq:=by omega
 have dq:=(s.blkCell (p:=q) (Jmc (Jms)) 0).1
 change w.cell? ⟨q,0,none⟩=some (.int .i64 d.c.q) at dq
 rw[hq] at dq
 have HQ:=Ja hq
 have S1:=Ja s
 have S2:=Ja ((s.box (.cells #[.int .i64 nk,.int .i64 nr,.int .i64 nw] 237)).third)
 have da:=(S2.out.blkCell (p:=q) (Jmc (Jms)) 1).1
 change (w.alloc (.cells #[.int .i64 nk,.int .i64 nr,.int .i64 nw] 237)).cell? ⟨q,1,none⟩=some (.int .i64 d.c.a) at da
 clear s hNC hx hy hb1 hb2 hb3 hb5 hb6 hq hi N hr h6
 go_enter Tryz.func62,Tryz.ntmps62
 go_wp2_with (first|(go_at_call 143;refine Jqa (HA.out _ _ S2.out) ?_;rintro e w4 ⟨rfl,s4⟩;have S4:=Ja s4;obtain⟨c8,f8⟩:=s4.blkCell (p:=q) (Jmc (Jms)) 8;obtain⟨c9,f9⟩:=s4.blkCell (p:=q) (Jmc (Jms)) 9;obtain⟨c10,f10⟩:=s4.blkCell (p:=q) (Jmc (Jms)) 10;obtain⟨c11,f11⟩:=s4.blkCell (p:=q) (Jmc (Jms)) 11;obtain⟨c12,f12⟩:=s4.blkCell (p:=q) (Jmc (Jms)) 12;obtain⟨c13,f13⟩:=s4.blkCell (p:=q) (Jmc (Jms)) 13;obtain⟨c14,f14⟩:=s4.blkCell (p:=q) (Jmc (Jms)) 14;obtain⟨c15,f15⟩:=s4.blkCell (p:=q) (Jmc (Jms)) 15; have S5:=Ja (s4.swap.putFrom fa x).swap;clear s4 da dq n0 n1 n2)|fail)
 generalize w.heap.size=qn at *
 generalize(World.setCell (World.setCell (World.setCell (World.setCell (World.setCell (World.setCell (World.setCell (World.setCell w4 ⟨q,8,none⟩ (.int .i64 0)) ⟨q,9,none⟩ (.int .i64 fa)) ⟨q,10,none⟩ (.int .i64 x.k)) ⟨q,11,none⟩ (.int .i64 x.o)) ⟨q,12,none⟩ (.int .i64 x.r)) ⟨q,13,none⟩ (.int .u64 x.b)) ⟨q,14,none⟩ (.int .u64 x.g)) ⟨q,15,none⟩ (.int .i64 x.z))=w5 at *
 clear c8 f8 c9 f9 c10 f10 c11 f11 c12 f12 c13 f13 c14 f14 c15 f15 S4
 have hgi:∀ u:World,Inhabited (Grw u):=J02
 have HC1:∀ p:Grw w5,Calls Tryz.prog 144 #[.agg #[.int .i64 x.k,.int .i64 x.o,.int .i64 x.r,.int .u64 x.b,.int .u64 x.g,.int .i64 x.z],.int .i64 nk] p.val fun e w'=>e=.returned (.bool b2)/\Below p.val.heap.size p.val w':=fun p=>HO1.out p.val
 have CN:=Ja HC1
 clear HC1
 have g10:∀ p:Grw w5,p.val.cell? ⟨q,10,none⟩=some (.int .i64 x.k):=fun p=>((S5.out.grw p).blkCell (p:=q) (Jmc (Jms)) 10).1
 have g11:∀ p:Grw w5,p.val.cell? ⟨q,11,none⟩=some (.int .i64 x.o):=fun p=>((S5.out.grw p).blkCell (p:=q) (Jmc (Jms)) 11).1
 have g12:∀ p:Grw w5,p.val.cell? ⟨q,12,none⟩=some (.int .i64 x.r):=fun p=>((S5.out.grw p).blkCell (p:=q) (Jmc (Jms)) 12).1
 have g13:∀ p:Grw w5,p.val.cell? ⟨q,13,none⟩=some (.int .u64 x.b):=fun p=>((S5.out.grw p).blkCell (p:=q) (Jmc (Jms)) 13).1
 have g14:∀ p:Grw w5,p.val.cell? ⟨q,14,none⟩=some (.int .u64 x.g):=fun p=>((S5.out.grw p).blkCell (p:=q) (Jmc (Jms)) 14).1
 have g15:∀ p:Grw w5,p.val.cell? ⟨q,15,none⟩=some (.int .i64 x.z):=fun p=>((S5.out.grw p).blkCell (p:=q) (Jmc (Jms)) 15).1
 have gn0:∀ p:Grw w5,p.val.cell? ⟨qn,0,none⟩=some (.int .i64 nk):=fun p=>((S5.out.grw p).blkCell (p:=qn) (Jmc (Jmc (Jms))) 0).1
 have gn1:∀ p:Grw w5,p.val.cell? ⟨qn,1,none⟩=some (.int .i64 nr):=fun p=>((S5.out.grw p).blkCell (p:=qn) (Jmc (Jmc (Jms))) 1).1
 cases b1
 ·(try simp only[List.append_eq,List.cons_append,List.nil_append])
  refine ZU (by kernel_rfl) (by kernel_rfl) ?_
  repeat (go_big_quiet_step (fail))
  refine wpQuiet_nil ?_
  intro _ hw'
  obtain⟨p9,hw2⟩:=hw'
  subst hw2
  have S6:=Ja (S5.out.grw p9)
  clear S5
  go_wp2_with fail
  go_ret
  exact⟨by rw[<- HBB.out];rfl,HP.out _ _ S6.out.del3 (fun h=>by rw[<- HBB.out] at h;cases h)⟩
 ·have HFA:=HF1.out rfl
  cases b2
  ·(try simp only[List.append_eq,List.cons_append,List.nil_append])
   refine ZU (by kernel_rfl) (by kernel_rfl) ?_
   repeat (go_big_quiet_step ((go_at_call 144;exact Gh (CN.out _))))
   refine wpQuiet_nil ?_
   intro _ hw'
   obtain⟨p9,hw2⟩:=hw'
   subst hw2
   have S6:=Ja (S5.out.grw p9)
   clear S5
   go_wp2_with fail
   go_ret
   exact⟨by rw[<- HBB.out];rfl,HP.out _ _ S6.out.del3 (fun h=>by rw[<- HBB.out] at h;cases h)⟩
  ·have g3:(bits .and .i64 x.r nr != nr)=b3:=HB3.out
   have g4:(bits .and .i64 x.r nr == nr) = !b3:=by rw[<- g3];cases h:(bits .and .i64 x.r nr == nr)<;>simp[bne,h]
   cases b3
   ·simp only[Bool.not_false] at g4
    (try simp only[List.append_eq,List.cons_append,List.nil_append])
    refine ZU (by kernel_rfl) (by kernel_rfl) ?_
    repeat (go_big_quiet_step ((go_at_call 144;exact Gh (CN.out _))))
    refine wpQuiet_nil ?_
    intro _ hw'
    obtain⟨p9,hw2⟩:=hw'
    subst hw2
    have S6:=Ja (S5.out.grw p9)
    clear S5 g10 g11 g12 g13 g14 g15 gn0 gn1
    generalize p9.val=w6 at *
    have cn2:w6.cell? ⟨qn,2,none⟩=some (.int .i64 nw):=(S6.out.blkCell (p:=qn) (Jmc (Jmc (Jms))) 2).1
    have HFB:=Ja HFA
    clear HFA
    by_cases hw:nw=0
    ·subst hw
     go_wp2_with fail
     go_ret
     exact⟨by rw[<- HBB.out];rfl,HP.out _ _ S6.out.del3 (fun _=>by rw[HFB.out];simp)⟩
    ·have hw1:(nw == 0)=false:=by simpa using hw
     have hw2:decide (nw=0)=false:=by simpa using hw
     have HWN:=Ja hw
     clear hw
     have cq2:w6.cell? ⟨q,2,none⟩=some (.int .i64 d.c.w):=(S6.out.blkCell (p:=q) (Jmc (Jms)) 2).1
     go_wp2_with (first|(go_at_call 143;refine Jqa (HW.out _ _ S6.out) ?_;rintro e w7 ⟨rfl,s7⟩;have S7:=Ja s7;obtain⟨c16,f16⟩:=s7.blkCell (p:=q) (Jmc (Jms)) 16;obtain⟨c17,f17⟩:=s7.blkCell (p:=q) (Jmc (Jms)) 17;obtain⟨c18,f18⟩:=s7.blkCell (p:=q) (Jmc (Jms)) 18;obtain⟨c19,f19⟩:=s7.blkCell (p:=q) (Jmc (Jms)) 19;obtain⟨c20,f20⟩:=s7.blkCell (p:=q) (Jmc (Jms)) 20;obtain⟨c21,f21⟩:=s7.blkCell (p:=q) (Jmc (Jms)) 21; have S8:=Ja (s7.swap.putOther y).swap;clear s7 cq2 cn2)|fail)
     generalize(World.setCell (World.setCell (World.setCell (World.setCell (World.setCell (World.setCell w7 ⟨q,16,none⟩ (.int .i64 y.k)) ⟨q,17,none⟩ (.int .i64 y.o)) ⟨q,18,none⟩ (.int .i64 y.r)) ⟨q,19,none⟩ (.int .u64 y.b)) ⟨q,20,none⟩ (.int .u64 y.g)) ⟨q,21,none⟩ (.int .i64 y.z))=w8 at *
     clear c16 f16 c17 f17 c18 f18 c19 f19 c20 f20 c21 f21 S7 S6 CN
     have HC2:∀ p:Grw w8,Calls Tryz.prog 144 #[.agg #[.int .i64 y.k,.int .i64 y.o,.int .i64 y.r,.int .u64 y.b,.int .u64 y.g,.int .i64 y.z],.int .i64 nw] p.val fun e w'=>e=.returned (.bool b6)/\Below p.val.heap.size p.val w':=fun p=>HO2.out p.val
     have CN:=Ja HC2
     clear HC2
     have g16:∀ p:Grw w8,p.val.cell? ⟨q,16,none⟩=some (.int .i64 y.k):=fun p=>((S8.out.grw p).blkCell (p:=q) (Jmc (Jms)) 16).1
     have g17:∀ p:Grw w8,p.val.cell? ⟨q,17,none⟩=some (.int .i64 y.o):=fun p=>((S8.out.grw p).blkCell (p:=q) (Jmc (Jms)) 17).1
     have g18:∀ p:Grw w8,p.val.cell? ⟨q,18,none⟩=some (.int .i64 y.r):=fun p=>((S8.out.grw p).blkCell (p:=q) (Jmc (Jms)) 18).1
     have g19:∀ p:Grw w8,p.val.cell? ⟨q,19,none⟩=some (.int .u64 y.b):=fun p=>((S8.out.grw p).blkCell (p:=q) (Jmc (Jms)) 19).1
     have g20:∀ p:Grw w8,p.val.cell? ⟨q,20,none⟩=some (.int .u64 y.g):=fun p=>((S8.out.grw p).blkCell (p:=q) (Jmc (Jms)) 20).1
     have g21:∀ p:Grw w8,p.val.cell? ⟨q,21,none⟩=some (.int .i64 y.z):=fun p=>((S8.out.grw p).blkCell (p:=q) (Jmc (Jms)) 21).1
     have gn2:∀ p:Grw w8,p.val.cell? ⟨qn,2,none⟩=some (.int .i64 nw):=fun p=>((S8.out.grw p).blkCell (p:=qn) (Jmc (Jmc (Jms))) 2).1
     cases b5
     ·(try simp only[List.append_eq,List.cons_append,List.nil_append])
      refine ZU (by kernel_rfl) (by kernel_rfl) ?_
      repeat (go_big_quiet_step (fail))
      refine wpQuiet_nil ?_
      intro _ hw'
      obtain⟨p10,hw2⟩:=hw'
      subst hw2
      have S9:=Ja (S8.out.grw p10)
      clear S8
      go_wp2_with fail
      go_ret
      exact⟨by rw[<- HBB.out,hw1];rfl,HP.out _ _ S9.out.del3 (fun h=>by rw[<- HBB.out,hw1] at h;cases h)⟩
     ·(try simp only[List.append_eq,List.cons_append,List.nil_append])
      refine ZU (by kernel_rfl) (by kernel_rfl) ?_
      repeat (go_big_quiet_step ((go_at_call 144;exact Gh (CN.out _))))
      refine wpQuiet_nil ?_
      intro _ hw'
      obtain⟨p10,hw2⟩:=hw'
      subst hw2
      have S9:=Ja (S8.out.grw p10)
      clear S8
      go_wp2_with fail
      go_ret
      exact⟨by rw[<- HBB.out,hw1];cases b6<;>rfl,HP.out _ _ S9.out.del3 (fun _=>by rw[HFB.out,if_neg HWN.out])⟩
   ·simp only[Bool.not_true] at g4
    (try simp only[List.append_eq,List.cons_append,List.nil_append])
    refine ZU (by kernel_rfl) (by kernel_rfl) ?_
    repeat (go_big_quiet_step ((go_at_call 144;exact Gh (CN.out _))))
    refine wpQuiet_nil ?_
    intro _ hw'
    obtain⟨p9,hw2⟩:=hw'
    subst hw2
    have S6:=Ja (S5.out.grw p9)
    clear S5
    go_wp2_with fail
    go_ret
    exact⟨by rw[<- HBB.out];rfl,HP.out _ _ S6.out.del3 (fun h=>by rw[<- HBB.out] at h;cases h)⟩
end
section
variable {w0 w w':World} {r p n m:Nat} {Y:Ly} {K:Kr} {R:List Th}
def DR (w0:World) (r p:Nat) (R:List Th) (X:Kr×Tl) (e:Ending) (w':World):Prop:=∃ v,e=.returned (Jf X.2.e X.2.w X.2.k v)/\KS w0 r w' p X.1 (Jv Vq v X.2.f::R)
def ZI (c:Cl):Value:=.agg #[.int .i64 c.q,.int .i64 c.a,.int .i64 c.w,.int .i64 c.A,.int .i64 c.B,.int .i64 c.C]
def Xv (c:Cl):Obj:=.cells #[.int .i64 c.q,.int .i64 c.a,.int .i64 c.w,.int .i64 c.A,.int .i64 c.B,.int .i64 c.C] 36
def F5 (c:Cl) (core who:Int):De:=⟨c,core,who,0,Sl.no,Sl.no⟩
theorem Sep.callIn (s:Sep w0 r w (kT p Y K::R)) (c:Cl):Sep w0 r ((w.alloc (Xv c)).alloc (Ji 0 0 0 (.slice none 0 0))) (kT p Y K::blk (w.heap.size+1) (Ji 0 0 0 (.slice none 0 0))::blk w.heap.size (Xv c)::R):=by
 have h:=((s.box (Xv c)).swap.box (Ji 0 0 0 (.slice none 0 0))).swap
 rw[show(w.alloc (Xv c)).heap.size=w.heap.size+1 by simp] at h
 exact h
theorem Jv6 (s:Sep w0 r w (kT p Y K::R)) (ht:∀ u,Below r w0 u->Th.Tab u) (core:Int) (c:Cl) (hb:Th.Xm (Th.JB K.h core) core=false) :
  Calls Tryz.prog 13 #[Je p,.int .i64 core,ZI c] w fun e w'=>e=.returned (Jf 182 0 (-1) (.slice none 0 0))/\KS w0 r w' p (JQ K core) R:=by
 have S1:=Ja (s.callIn c)
 obtain⟨w1,hw⟩:∃ w1,(w.alloc (Xv c)).alloc (Ji 0 0 0 (.slice none 0 0))=w1:=⟨_,rfl⟩
 rw[hw] at S1
 have HW:=Ja hw
 unfold Xv Ji at HW
 clear s hw
 have k2:=S1.out.k2
 have hpk:=Ic S1.out ht core
 obtain⟨rn,hrn⟩:∃ rn,Th.XE (Th.JB K.h core) core=rn:=⟨_,rfl⟩
 rw[hrn,hb] at hpk
 have HPK:=Ja hpk
 clear hpk hrn hb
 unfold ZI
 go_enter Tryz.func13,Tryz.ntmps13
 go_wp2_with (first|rw[HW.out]|(go_at_call 59;refine Jqa HPK.out ?_;rintro e w3 ⟨rfl,x3,s3⟩;have S3:=Ja s3;clear s3)|(go_at_call 60;refine Jqa (JI _ _) ?_;rintro e w9 ⟨rfl,b9⟩;have s9:=(S3.out.below b9);obtain⟨t0,t1,t2,t3,f0,f1,f2,f3⟩:=s9.swap.cells4 (Jms);have s10:=s9.swap.put4 182 0 (-1) (.slice none 0 0);have S10:=Ja s10;clear s9 s10;simp only[Jf])|fail)
 obtain⟨g0,g1,g2,g3,-⟩:=S10.out.cells4 (Jms)
 have G10:=Ja (And.intro (And.intro g0 g1) (And.intro g2 g3))
 clear g0 g1 g2 g3
 go_wp2
 refine bodyPost_ret (v:=Jf 182 0 (-1) (.slice none 0 0)) ?_ rfl ⟨rfl,_,S10.out.drop.drop2⟩
 simp[results,Tryz.f13,go_sem,Jf,G10.out.1.1,G10.out.1.2,G10.out.2.1,G10.out.2.2]
theorem Jv5 (s:Sep w0 r w (kT p Y K::R)) (ht:∀ u,Below r w0 u->Th.Tab u) (core:Int) (c:Cl) (hb:Th.Xm (Th.JB K.h core) core=true) (hq:¬ (0<=c.q/\c.q<=17)) :
  Calls Tryz.prog 13 #[Je p,.int .i64 core,ZI c] w fun e w'=>e=.returned (Jf 180 0 (-1) (.slice none 0 0))/\KS w0 r w' p (JQ K core) R:=by
 have S1:=Ja (s.callIn c)
 obtain⟨w1,hw⟩:∃ w1,(w.alloc (Xv c)).alloc (Ji 0 0 0 (.slice none 0 0))=w1:=⟨_,rfl⟩
 rw[hw] at S1
 have HW:=Ja hw
 unfold Xv Ji at HW
 clear s hw
 have k2:=S1.out.k2
 have hpk:=Ic S1.out ht core
 obtain⟨rn,hrn⟩:∃ rn,Th.XE (Th.JB K.h core) core=rn:=⟨_,rfl⟩
 rw[hrn,hb] at hpk
 have HPK:=Ja hpk
 have HQ:=Ja hq
 clear hpk hrn hb hq
 unfold ZI
 go_enter Tryz.func13,Tryz.ntmps13
 go_wp2_with (first|rw[HW.out]|(go_at_call 59;refine Jqa HPK.out ?_;rintro e w3 ⟨rfl,x3,s3⟩;have S3:=Ja s3;clear s3)|fail)
 generalize w.heap.size+1=q2 at *
 generalize w.heap.size=q at *
 have HS:Hid (∀ (W:World) (T:List Th),Sep w0 r W T->blk q (Xv c)∈T->W.cell? ⟨q,0,none⟩=some (.int .i64 c.q)):=fun W T s h=>(s.blkCell h 0).1
 have hS:=HS.out _ _ S3.out.drew (by simp)
 go_region_held3 (fun W=>W.cell? ⟨q,0,none⟩=some (.int .i64 c.q)) (first|with_reducible assumption|with_reducible exact hS) (first|(go_at_call 61;refine Jqa (UJ S3.out.drew p) ?_;rintro e w4 ⟨b,rfl,s4⟩;have hS4:=HS.out _ _ s4 (by simp);have hl:=Jop w4 p b (s4.head) c.q HQ.out;have S4:=Ja s4.swap;clear s4))
 go_wp2_with (first|(go_at_call 60;refine Jqa (JI _ _) ?_;rintro e w9 ⟨rfl,b9⟩;have s9:=(S4.out.third.third.swap.below b9);obtain⟨t0,t1,t2,t3,f0,f1,f2,f3⟩:=s9.swap.cells4 (Jms);have s10:=s9.swap.put4 180 0 (-1) (.slice none 0 0);have S10:=Ja s10;clear s9 s10;simp only[Jf])|fail)
 obtain⟨g0,g1,g2,g3,-⟩:=S10.out.cells4 (Jms)
 have G10:=Ja (And.intro (And.intro g0 g1) (And.intro g2 g3))
 clear g0 g1 g2 g3
 go_wp2
 refine bodyPost_ret (v:=Jf 180 0 (-1) (.slice none 0 0)) ?_ rfl ⟨rfl,_,S10.out.drop.drop2.drop2⟩
 simp[results,Tryz.f13,go_sem,Jf,G10.out.1.1,G10.out.1.2,G10.out.2.1,G10.out.2.2]
end
end
end Go.Proofs.YtbfjjpdnoalojaaGreatDoor
