/- Below: KDo3 KrBoot KrRevoke KrFull; no condition. -/
import Derived.Test.YtbfjjpdnoalojaaGreatDoorPa24
import Derived.Deep.WholeRow
set_option maxHeartbeats 16000000
set_option maxRecDepth 100000
set_option linter.unusedSectionVars false
namespace Go.Proofs.YtbfjjpdnoalojaaGreatDoor
section
open Go.RowKit Go.Deep Go.Shelf
open Classical
section
variable {w0 w w':World} {r p n m:Nat} {Y:Ly} {K:Kr} {R:List Th}
theorem Vb {w w':World} {ops:Array Oper} {rest:List Oper} {o:Oper} {a:Act} {Q:Exit->Act->World->Prop} (hgd:o.guard=none) (t:TypeId) (x y:Operand) (ho:o.op=.store t x y) (va vb:Value) (hx:a.eval x=va) (hy:a.eval y=vb) (hrun:(Instr.storeAt t va vb).run Tryz.prog w=.ok () w') (h:wpList Tryz.prog ops Q rest (a.put o.dst undef) w'):wpList Tryz.prog ops Q (o::rest) a w:=by
 refine wpList_plain hgd fun K' hK'=>?_
 unfold Oper.wp
 simp[execOp,ho,hx,hy,hrun,Result.andThen]
 exact hK' _ _ h
theorem Zp {w:World} {ops:Array Oper} {rest:List Oper} {o:Oper} {a:Act} {Q:Exit->Act->World->Prop} (hgd:o.guard=none) (x:Operand) (ho:o.op=.move x) (v:Value) (hx:a.eval x=v) (h:wpList Tryz.prog ops Q rest (a.put o.dst v) w):wpList Tryz.prog ops Q (o::rest) a w:=by
 refine wpList_plain hgd fun K' hK'=>?_
 unfold Oper.wp
 simp[execOp,ho,hx]
 exact hK' _ _ h
theorem Va {w:World} {ops:Array Oper} {rest:List Oper} {o:Oper} {a:Act} {Q:Exit->Act->World->Prop} (hgd:o.guard=none) (t:TypeId) (parts:Array (Nat×Operand)) (ho:o.op=.build t parts) (vals:Array (Nat×Value)) (v:Value) (hv:parts.map (fun (i,x)=>(i,a.eval x))=vals) (hrun:(Instr.build t vals).run Tryz.prog w=.ok v w) (h:wpList Tryz.prog ops Q rest (a.put o.dst v) w):wpList Tryz.prog ops Q (o::rest) a w:=by
 refine wpList_plain hgd fun K' hK'=>?_
 unfold Oper.wp
 simp only[execOp,ho,hv]
 simp[hrun,Result.andThen]
 exact hK' _ _ h
theorem X9 {w w':World} {ops:Array Oper} {rest:List Oper} {o:Oper} {a:Act} {Q:Exit->Act->World->Prop} (hgd:o.guard=none) (t:TypeId) (ho:o.op=.alloc t) (v:Value) (hrun:(Instr.alloc t true (.tuple #[])).run Tryz.prog w=.ok v w') (h:wpList Tryz.prog ops Q rest (a.put o.dst v) w'):wpList Tryz.prog ops Q (o::rest) a w:=by
 refine wpList_plain hgd fun K' hK'=>?_
 unfold Oper.wp
 simp[execOp,ho,hrun,Result.andThen]
 exact hK' _ _ h
theorem Oy {q:Nat} {c:Cl} (s:Sep w0 r w R) (h:blk q (Xv c)∈R):(loadVar 36 ⟨q,0,none⟩).run Tryz.prog w=.ok (ZI c) w:=by
 have hb:w.heap[q]? = some (Xv c):=(s.each _ h).1
 have h1:=run_loadCells_list (P:=Tryz.prog) w ⟨q,0,none⟩ [.int .i64 c.q,.int .i64 c.a,.int .i64 c.w,.int .i64 c.A,.int .i64 c.B,.int .i64 c.C] (fun j v hj=>by
  rw[JG,Nat.zero_add]
  simp only[World.cell?]
  rw[hb]
  simp only[Xv]
  rw[<- hj]
  simp only[Option.isSome_none,Bool.false_eq_true,if_false,List.getElem?_toArray])
 simp only[loadVar,Sem.run_bind,Tryz.isAgg36,Tryz.sizeOf36,Result.andThen_ok,if_true]
 rw[show(6:Nat)=List.length [Value.int .i64 c.q,.int .i64 c.a,.int .i64 c.w,.int .i64 c.A,.int .i64 c.B,.int .i64 c.C] from rfl,h1]
 rfl
theorem Ol (i:Nat) (h:i<18):∀ args w,(callFunc (fnL.getD i 0) args).run Tryz.prog w=.ok (.enter (fnL.getD i 0) args) w:=by
 have hcs:i=0\/i=1\/i=2\/i=3\/i=4\/i=5\/i=6\/i=7\/i=8\/i=9\/i=10\/i=11\/i=12\/i=13\/i=14\/i=15\/i=16\/i=17:=by omega
 rcases hcs with rfl|rfl|rfl|rfl|rfl|rfl|rfl|rfl|rfl|rfl|rfl|rfl|rfl|rfl|rfl|rfl|rfl|rfl
 ·exact enters_of Tryz.func125 (by kernel_rfl) rfl
 ·exact enters_of Tryz.func126 (by kernel_rfl) rfl
 ·exact enters_of Tryz.func127 (by kernel_rfl) rfl
 ·exact enters_of Tryz.func128 (by kernel_rfl) rfl
 ·exact enters_of Tryz.func129 (by kernel_rfl) rfl
 ·exact enters_of Tryz.func130 (by kernel_rfl) rfl
 ·exact enters_of Tryz.func131 (by kernel_rfl) rfl
 ·exact enters_of Tryz.func132 (by kernel_rfl) rfl
 ·exact enters_of Tryz.func133 (by kernel_rfl) rfl
 ·exact enters_of Tryz.func134 (by kernel_rfl) rfl
 ·exact enters_of Tryz.func135 (by kernel_rfl) rfl
 ·exact enters_of Tryz.func136 (by kernel_rfl) rfl
 ·exact enters_of Tryz.func137 (by kernel_rfl) rfl
 ·exact enters_of Tryz.func138 (by kernel_rfl) rfl
 ·exact enters_of Tryz.func139 (by kernel_rfl) rfl
 ·exact enters_of Tryz.func140 (by kernel_rfl) rfl
 ·exact enters_of Tryz.func141 (by kernel_rfl) rfl
 ·exact enters_of Tryz.func142 (by kernel_rfl) rfl
theorem U0 (c:Cl) (core who:Int) (w:World):(Instr.build 151 #[(0,ZI c),(1,.int .i64 core),(2,.int .i64 who)]).run Tryz.prog w=.ok (JD (F5 c core who)) w:=by kernel_rfl
theorem UX (w:World):(Instr.alloc 151 true (.tuple #[])).run Tryz.prog w=.ok (.pointer (some ⟨w.heap.size,0,none⟩)) (w.alloc (.cells #[.int .i64 0,.int .i64 0,.int .i64 0,.int .i64 0,.int .i64 0,.int .i64 0,.int .i64 0,.int .i64 0,.int .i64 0,.int .i64 0,.int .i64 0,.int .i64 0,.int .i64 0,.int .u64 0,.int .u64 0,.int .i64 0,.int .i64 0,.int .i64 0,.int .i64 0,.int .u64 0,.int .u64 0,.int .i64 0] 151)):=by kernel_rfl
def de1 (c:Cl) (core who:Int) (x y:Sl.Cp):De:=⟨c,core,who,c.a,x,y⟩
theorem J0w (s:Sep w0 r w (kT p Y K::R)) (ht:∀ u,Below r w0 u->Th.Tab u) (core:Int) (c:Cl) (hb:Th.Xm (Th.JB K.h core) core=true) {iq:Nat} (hq:c.q=(iq:Int)) (hi:iq<17) (h6:(K.S.getD 0 []).length=64) (N:NTab w0) (hrn2:0 < r) (hB:IA (JQ K core) c iq=false) :
  Calls Tryz.prog 13 #[Je p,.int .i64 core,ZI c] w fun e w'=>e=.returned (Jf 181 0 (-1) (.slice none 0 0))/\KS w0 r w' p (JQ K core) R:=by
 have S1:=Ja (s.callIn c)
 obtain⟨w1,hw⟩:∃ w1,(w.alloc (Xv c)).alloc (Ji 0 0 0 (.slice none 0 0))=w1:=⟨_,rfl⟩
 rw[hw] at S1
 have HW:=Ja hw
 unfold Xv Ji at HW
 clear s hw
 have k2:=S1.out.k2
 have hpk:=Ic S1.out ht core
 obtain⟨rn,hrn⟩:∃ rn,Th.XE (Th.JB K.h core) core=rn:=⟨_,rfl⟩
 rw[hrn,hb] at hpk
 have HPK:=Ja hpk
 have HI:Hid (c.q=(iq:Int)/\iq<18):=Ja (And.intro hq (by omega))
 have hn17:(c.q == 17)=false:=by
  have:c.q≠17:=by omega
  simpa using this
 have hn17b:(c.q != 17)=true:=by
  have:c.q≠17:=by omega
  simpa using this
 have eg:=Ol iq HI.out.2
 obtain⟨g,hg⟩:∃ g,fnL.getD iq 0=g:=⟨_,rfl⟩
 have HFV:Hid (fnV p iq=.func (.func g) #[Je p] #[]):=by
  show fnV p iq=.func (.func g) #[Je p] #[]
  unfold fnV
  rw[hg]
 rw[hg] at eg
 clear hg
 clear hpk hrn hb hq hi 
 unfold ZI
 go_enter Tryz.func13,Tryz.ntmps13
 go_wp2_with (first|rw[HW.out]|(go_at_call 59;refine Jqa HPK.out ?_;rintro e w3 ⟨rfl,x3,s3⟩;have S3:=Ja s3;clear s3)|fail)
 generalize w.heap.size+1=q2 at *
 generalize w.heap.size=q at *
 have HS:Hid (∀ (W:World) (T:List Th),Sep w0 r W T->blk q (Xv c)∈T->W.cell? ⟨q,0,none⟩=some (.int .i64 c.q)):=fun W T s h=>(s.blkCell h 0).1
 have hS:=HS.out _ _ S3.out.drew (by simp)
 go_region_held3 (fun W=>W.cell? ⟨q,0,none⟩=some (.int .i64 c.q)) (first|with_reducible assumption|with_reducible exact hS) (first|(go_at_call 61;refine Jqa (UJ S3.out.drew p) ?_;rintro e w4 ⟨b,rfl,s4⟩;have hS4:=HS.out _ _ s4 (by simp);have hl:(Instr.lookup 148 (.map (some b)) (.int .i64 c.q) true).run Tryz.prog w4=.ok (.tuple #[.func (.func g) #[Je p] #[],.bool true]) w4:=(by have h:=AW w4 p b s4.head iq HI.out.2;rw[HI.out.1];rw[HFV.out] at h;exact h);have S4:=Ja s4.swap;clear s4))
 have S5:=Ja ((S4.out.box (Jp (F5 c core rn))).swap)
 change Hid (Sep w0 r (w4.alloc (.cells #[.int .i64 c.q,.int .i64 c.a,.int .i64 c.w,.int .i64 c.A,.int .i64 c.B,.int .i64 c.C,.int .i64 core,.int .i64 rn,.int .i64 0,.int .i64 0,.int .i64 0,.int .i64 0,.int .i64 0,.int .u64 0,.int .u64 0,.int .i64 0,.int .i64 0,.int .i64 0,.int .i64 0,.int .u64 0,.int .u64 0,.int .i64 0] 151)) _) at S5
 obtain⟨w5,hw5⟩:∃ w5,w4.alloc (.cells #[.int .i64 c.q,.int .i64 c.a,.int .i64 c.w,.int .i64 c.A,.int .i64 c.B,.int .i64 c.C,.int .i64 core,.int .i64 rn,.int .i64 0,.int .i64 0,.int .i64 0,.int .i64 0,.int .i64 0,.int .u64 0,.int .u64 0,.int .i64 0,.int .i64 0,.int .i64 0,.int .i64 0,.int .u64 0,.int .u64 0,.int .i64 0] 151)=w5:=⟨_,rfl⟩
 rw[hw5] at S5
 have HW5:=Ja hw5
 clear hw5
 have dd0:w5.cell? ⟨q,0,none⟩=some (.int .i64 c.q):=HS.out _ _ S5.out (by simp)
 obtain⟨wz,hwz⟩:∃ wz,w4.alloc (.cells #[.int .i64 0,.int .i64 0,.int .i64 0,.int .i64 0,.int .i64 0,.int .i64 0,.int .i64 0,.int .i64 0,.int .i64 0,.int .i64 0,.int .i64 0,.int .i64 0,.int .i64 0,.int .u64 0,.int .u64 0,.int .i64 0,.int .i64 0,.int .i64 0,.int .i64 0,.int .u64 0,.int .u64 0,.int .i64 0] 151)=wz:=⟨_,rfl⟩
 have HST:Hid ((Instr.storeAt 151 (.pointer (some ⟨w4.heap.size,0,none⟩)) (JD (F5 c core rn))).run Tryz.prog wz=.ok () w5):=by
  rw[<- HW5.out,<- hwz]
  exact run_storeAt_new w4 151 #[.int .i64 0,.int .i64 0,.int .i64 0,.int .i64 0,.int .i64 0,.int .i64 0,.int .i64 0,.int .i64 0,.int .i64 0,.int .i64 0,.int .i64 0,.int .i64 0,.int .i64 0,.int .u64 0,.int .u64 0,.int .i64 0,.int .i64 0,.int .i64 0,.int .i64 0,.int .u64 0,.int .u64 0,.int .i64 0] #[.int .i64 c.q,.int .i64 c.a,.int .i64 c.w,.int .i64 c.A,.int .i64 c.B,.int .i64 c.C,.int .i64 core,.int .i64 rn,.int .i64 0,.int .i64 0,.int .i64 0,.int .i64 0,.int .i64 0,.int .u64 0,.int .u64 0,.int .i64 0,.int .i64 0,.int .i64 0,.int .i64 0,.int .u64 0,.int .u64 0,.int .i64 0] (by kernel_rfl) rfl (by simp[Value.oneCell'])
 have HAL:Hid ((Instr.alloc 151 true (.tuple #[])).run Tryz.prog w4=.ok (.pointer (some ⟨w4.heap.size,0,none⟩)) wz):=by
  rw[<- hwz]
  exact UX w4
 have HBD:Hid ((Instr.build 151 #[(0,ZI c),(1,.int .i64 core),(2,.int .i64 rn)]).run Tryz.prog w4=.ok (JD (F5 c core rn)) w4):=U0 c core rn w4
 have HLC:Hid ((loadVar 36 ⟨q,0,none⟩).run Tryz.prog w4=.ok (ZI c) w4):=Oy S4.out (by simp)
 clear hS hS4 hl hwz
 have hfd:=Jaj (K:=JQ K core) S5.out h6 (iq:=iq) HI.out.1 (by have:=HI.out.2;omega) N hrn2
 rw[show IA (JQ K core) (F5 c core rn).c iq=false from hB] at hfd
 have HFD:=Ja hfd
 clear hfd hB N hrn2 h6
 generalize w4.heap.size=qd at *
 go_wp2_with (first|rw[HW5.out]|(refine Ta.JP rfl 36 (.tmp 5) rfl ⟨q,0,none⟩ (ZI c) rfl HLC.out ?_;refine Zp rfl (.tmp 1) rfl (.int .i64 core) rfl ?_;refine Zp rfl (.tmp 7) rfl (.int .i64 rn) rfl ?_;refine Va rfl 151 #[(0,.tmp 34),(1,.tmp 35),(2,.tmp 36)] rfl #[(0,ZI c),(1,.int .i64 core),(2,.int .i64 rn)] (JD (F5 c core rn)) (by simp[Act.eval,Act.put]) HBD.out ?_;refine X9 rfl 151 rfl _ HAL.out ?_;refine Vb rfl 151 (.tmp 10) (.tmp 37) rfl (.pointer (some ⟨qd,0,none⟩)) (JD (F5 c core rn)) (by simp[Act.eval,Act.put]) (by simp[Act.eval,Act.put]) HST.out ?_)|(go_at_call 62;refine Jqa HFD.out ?_;rintro e w6 ⟨rfl,d2,s6,hd2⟩;have S6:=Ja s6;have HD2:=Ja hd2;clear s6 hd2)|(go_at_call 60;refine Jqa (JI _ _) ?_;rintro e w9 ⟨rfl,b9⟩;have s9:=(((S6.out.perm (.cons _ (List.perm_middle (l₁:=[_,_]))))).below b9);obtain⟨t0,t1,t2,t3,f0,f1,f2,f3⟩:=s9.swap.cells4 (Jms);have s10:=s9.swap.put4 181 0 (-1) (.slice none 0 0);have S10:=Ja s10;clear s9 s10;simp only[Jf])|fail)
 obtain⟨g0,g1,g2,g3,-⟩:=S10.out.cells4 (Jms)
 have G10:=Ja (And.intro (And.intro g0 g1) (And.intro g2 g3))
 clear g0 g1 g2 g3
 go_wp2
 refine bodyPost_ret (v:=Jf 181 0 (-1) (.slice none 0 0)) ?_ rfl ⟨rfl,_,S10.out.drop.drop2.drop2.drop2⟩
 simp[results,Tryz.f13,go_sem,Jf,G10.out.1.1,G10.out.1.2,G10.out.2.1,G10.out.2.2]
theorem J0s (s:Sep w0 r w (kT p Y K::R)) (ht:∀ u,Below r w0 u->Th.Tab u) (core:Int) (c:Cl) (hb:Th.Xm (Th.JB K.h core) core=true) {iq:Nat} (hq:c.q=(iq:Int)) (hi:iq<17) (h6:(K.S.getD 0 []).length=64) (N:NTab w0) (hrn2:0 < r) (hB:IA (JQ K core) c iq=true) (X:Kr×Tl) {D1:De} (hD:de1 c core (Th.XE (Th.JB K.h core) core) (Jk (JQ K core) c.a) (if nW iq=0 then Sl.no else Jk (JQ K core) c.w)=D1)
  (hdd:∀ (Y2:Ly) (W:World) (T:List Th),Sep w0 r W (kT p Y2 (JQ K core)::T)->Calls Tryz.prog (fnL.getD iq 0) #[Je p,JD D1] W (DR w0 r p T X)) :
  Calls Tryz.prog 13 #[Je p,.int .i64 core,ZI c] w (DR w0 r p R X):=by
 obtain⟨PP,hPP⟩:∃ PP:Ending->World->Prop,(∀ e W,PP e W->DR w0 r p R X e W)/\(∀ W v,True->KS w0 r W p X.1 (Jv Vq v X.2.f::R)->PP (.returned (Jf X.2.e X.2.w X.2.k v)) W):=⟨_,fun _ _ h=>h,fun W v _ h=>⟨v,rfl,h⟩⟩
 refine Jqa (show Calls Tryz.prog 13 #[Je p,.int .i64 core,ZI c] w PP from ?_) hPP.1
 have HPP:Hid (∀ W v,True=True->KS w0 r W p X.1 (Jv Vq v X.2.f::R)->PP (.returned (Jf X.2.e X.2.w X.2.k v)) W):=fun W v _ h=>hPP.2 W v trivial h
 clear hPP
 have S1:=Ja (s.callIn c)
 obtain⟨w1,hw⟩:∃ w1,(w.alloc (Xv c)).alloc (Ji 0 0 0 (.slice none 0 0))=w1:=⟨_,rfl⟩
 rw[hw] at S1
 have HW:=Ja hw
 unfold Xv Ji at HW
 clear s hw
 have k2:=S1.out.k2
 have hpk:=Ic S1.out ht core
 obtain⟨rn,hrn⟩:∃ rn,Th.XE (Th.JB K.h core) core=rn:=⟨_,rfl⟩
 rw[hrn] at hD
 rw[hrn,hb] at hpk
 have HPK:=Ja hpk
 have HD1:=Ja hD
 have HI:Hid (c.q=(iq:Int)/\iq<18):=Ja (And.intro hq (by omega))
 have HI17:=Ja hi
 have hn17:(c.q == 17)=false:=by
  have:c.q≠17:=by omega
  simpa using this
 have hn17b:(c.q != 17)=true:=by
  have:c.q≠17:=by omega
  simpa using this
 have eg:=Ol iq HI.out.2
 obtain⟨g,hg⟩:∃ g,fnL.getD iq 0=g:=⟨_,rfl⟩
 have HFV:Hid (fnV p iq=.func (.func g) #[Je p] #[]):=by
  show fnV p iq=.func (.func g) #[Je p] #[]
  unfold fnV
  rw[hg]
 rw[hg] at eg hdd
 clear hg
 clear hpk hrn hb hq hi hD
 unfold ZI
 go_enter Tryz.func13,Tryz.ntmps13
 go_wp2_with (first|rw[HW.out]|(go_at_call 59;refine Jqa HPK.out ?_;rintro e w3 ⟨rfl,x3,s3⟩;have S3:=Ja s3;clear s3)|fail)
 generalize w.heap.size+1=q2 at *
 generalize w.heap.size=q at *
 have HS:Hid (∀ (W:World) (T:List Th),Sep w0 r W T->blk q (Xv c)∈T->W.cell? ⟨q,0,none⟩=some (.int .i64 c.q)):=fun W T s h=>(s.blkCell h 0).1
 have hS:=HS.out _ _ S3.out.drew (by simp)
 go_region_held3 (fun W=>W.cell? ⟨q,0,none⟩=some (.int .i64 c.q)) (first|with_reducible assumption|with_reducible exact hS) (first|(go_at_call 61;refine Jqa (UJ S3.out.drew p) ?_;rintro e w4 ⟨b,rfl,s4⟩;have hS4:=HS.out _ _ s4 (by simp);have hl:(Instr.lookup 148 (.map (some b)) (.int .i64 c.q) true).run Tryz.prog w4=.ok (.tuple #[.func (.func g) #[Je p] #[],.bool true]) w4:=(by have h:=AW w4 p b s4.head iq HI.out.2;rw[HI.out.1];rw[HFV.out] at h;exact h);have S4:=Ja s4.swap;clear s4))
 have S5:=Ja ((S4.out.box (Jp (F5 c core rn))).swap)
 change Hid (Sep w0 r (w4.alloc (.cells #[.int .i64 c.q,.int .i64 c.a,.int .i64 c.w,.int .i64 c.A,.int .i64 c.B,.int .i64 c.C,.int .i64 core,.int .i64 rn,.int .i64 0,.int .i64 0,.int .i64 0,.int .i64 0,.int .i64 0,.int .u64 0,.int .u64 0,.int .i64 0,.int .i64 0,.int .i64 0,.int .i64 0,.int .u64 0,.int .u64 0,.int .i64 0] 151)) _) at S5
 obtain⟨w5,hw5⟩:∃ w5,w4.alloc (.cells #[.int .i64 c.q,.int .i64 c.a,.int .i64 c.w,.int .i64 c.A,.int .i64 c.B,.int .i64 c.C,.int .i64 core,.int .i64 rn,.int .i64 0,.int .i64 0,.int .i64 0,.int .i64 0,.int .i64 0,.int .u64 0,.int .u64 0,.int .i64 0,.int .i64 0,.int .i64 0,.int .i64 0,.int .u64 0,.int .u64 0,.int .i64 0] 151)=w5:=⟨_,rfl⟩
 rw[hw5] at S5
 have HW5:=Ja hw5
 clear hw5
 have dd0:w5.cell? ⟨q,0,none⟩=some (.int .i64 c.q):=HS.out _ _ S5.out (by simp)
 obtain⟨wz,hwz⟩:∃ wz,w4.alloc (.cells #[.int .i64 0,.int .i64 0,.int .i64 0,.int .i64 0,.int .i64 0,.int .i64 0,.int .i64 0,.int .i64 0,.int .i64 0,.int .i64 0,.int .i64 0,.int .i64 0,.int .i64 0,.int .u64 0,.int .u64 0,.int .i64 0,.int .i64 0,.int .i64 0,.int .i64 0,.int .u64 0,.int .u64 0,.int .i64 0] 151)=wz:=⟨_,rfl⟩
 have HST:Hid ((Instr.storeAt 151 (.pointer (some ⟨w4.heap.size,0,none⟩)) (JD (F5 c core rn))).run Tryz.prog wz=.ok () w5):=by
  rw[<- HW5.out,<- hwz]
  exact run_storeAt_new w4 151 #[.int .i64 0,.int .i64 0,.int .i64 0,.int .i64 0,.int .i64 0,.int .i64 0,.int .i64 0,.int .i64 0,.int .i64 0,.int .i64 0,.int .i64 0,.int .i64 0,.int .i64 0,.int .u64 0,.int .u64 0,.int .i64 0,.int .i64 0,.int .i64 0,.int .i64 0,.int .u64 0,.int .u64 0,.int .i64 0] #[.int .i64 c.q,.int .i64 c.a,.int .i64 c.w,.int .i64 c.A,.int .i64 c.B,.int .i64 c.C,.int .i64 core,.int .i64 rn,.int .i64 0,.int .i64 0,.int .i64 0,.int .i64 0,.int .i64 0,.int .u64 0,.int .u64 0,.int .i64 0,.int .i64 0,.int .i64 0,.int .i64 0,.int .u64 0,.int .u64 0,.int .i64 0] (by kernel_rfl) rfl (by simp[Value.oneCell'])
 have HAL:Hid ((Instr.alloc 151 true (.tuple #[])).run Tryz.prog w4=.ok (.pointer (some ⟨w4.heap.size,0,none⟩)) wz):=by
  rw[<- hwz]
  exact UX w4
 have HBD:Hid ((Instr.build 151 #[(0,ZI c),(1,.int .i64 core),(2,.int .i64 rn)]).run Tryz.prog w4=.ok (JD (F5 c core rn)) w4):=U0 c core rn w4
 have HLC:Hid ((loadVar 36 ⟨q,0,none⟩).run Tryz.prog w4=.ok (ZI c) w4):=Oy S4.out (by simp)
 clear hS hS4 hl hwz
 have hfd:=Jaj (K:=JQ K core) S5.out h6 (iq:=iq) HI.out.1 (by have:=HI.out.2;omega) N hrn2
 rw[show IA (JQ K core) (F5 c core rn).c iq=true from hB] at hfd
 have HFD:=Ja hfd
 clear hfd hB N hrn2 h6
 generalize w4.heap.size=qd at *
 have HDD:=Ja hdd
 clear hdd
 go_wp2_with (first|rw[HW5.out]|(refine Ta.JP rfl 36 (.tmp 5) rfl ⟨q,0,none⟩ (ZI c) rfl HLC.out ?_;refine Zp rfl (.tmp 1) rfl (.int .i64 core) rfl ?_;refine Zp rfl (.tmp 7) rfl (.int .i64 rn) rfl ?_;refine Va rfl 151 #[(0,.tmp 34),(1,.tmp 35),(2,.tmp 36)] rfl #[(0,ZI c),(1,.int .i64 core),(2,.int .i64 rn)] (JD (F5 c core rn)) (by simp[Act.eval,Act.put]) HBD.out ?_;refine X9 rfl 151 rfl _ HAL.out ?_;refine Vb rfl 151 (.tmp 10) (.tmp 37) rfl (.pointer (some ⟨qd,0,none⟩)) (JD (F5 c core rn)) (by simp[Act.eval,Act.put]) (by simp[Act.eval,Act.put]) HST.out ?_)|(go_at_call 62;refine Jqa HFD.out ?_;rintro e w6 ⟨rfl,d2,s6,hd2⟩;obtain rfl:=hd2 rfl;have S6:=Ja s6;have HLd:=Ja (Mp (d:=D1) s6 (by rw[<- HD1.out];exact Jmc (Jms)));clear s6 hd2)|(refine Ta.JP rfl 151 (.tmp 10) rfl ⟨qd,0,none⟩ (JD D1) rfl HLd.out ?_)|(go_at_fn g;refine Jqa (HDD.out _ _ _ S6.out) ?_;rintro e w7 ⟨v,rfl,Y7,s7⟩;obtain⟨av,cv,rfl⟩:=s7.listIs (E:=Vq) (v:=v) (A:=X.2.f) (by simp);obtain⟨t0,t1,t2,t3,f0,f1,f2,f3⟩:=s7.cells4 (q:=q2) (e:=0) (x:=0) (k:=0) (v:=.slice none 0 0) (by simp);have s8:=(s7.perm (List.perm_middle (l₁:=[_,_,_,_]))).put4 X.2.e X.2.w X.2.k (.slice av X.2.f.length cv);have S10:=Ja s8;clear s7 s8;simp only[Jf])|fail)
 obtain⟨g0,g1,g2,g3,-⟩:=S10.out.cells4 (Jms)
 have G10:=Ja (And.intro (And.intro g0 g1) (And.intro g2 g3))
 clear g0 g1 g2 g3
 go_wp2
 refine bodyPost_ret (v:=Jf X.2.e X.2.w X.2.k (.slice av X.2.f.length cv)) ?_ ?_ ?_
 rotate_left
 ·rfl
 ·exact HPP.out _ (.slice av X.2.f.length cv) (by trivial) ⟨_,S10.out.drop.del3.del3.del3⟩
 simp[results,Tryz.f13,go_sem,Jf,G10.out.1.1,G10.out.1.2,G10.out.2.1,G10.out.2.2]
theorem Jv7 (s:Sep w0 r w (kT p Y K::R)) (ht:∀ u,Below r w0 u->Th.Tab u) (core:Int) (c:Cl) (hb:Th.Xm (Th.JB K.h core) core=true) {iq:Nat} (hq:c.q=(iq:Int)) (hi:iq=17) (X:Kr×Tl) {D1:De} (hD:F5 c core (Th.XE (Th.JB K.h core) core)=D1)
  (hdd:∀ (Y2:Ly) (W:World) (T:List Th),Sep w0 r W (kT p Y2 (JQ K core)::T)->Calls Tryz.prog (fnL.getD iq 0) #[Je p,JD D1] W (DR w0 r p T X)) :
  Calls Tryz.prog 13 #[Je p,.int .i64 core,ZI c] w (DR w0 r p R X):=by
 obtain⟨PP,hPP⟩:∃ PP:Ending->World->Prop,(∀ e W,PP e W->DR w0 r p R X e W)/\(∀ W v,True->KS w0 r W p X.1 (Jv Vq v X.2.f::R)->PP (.returned (Jf X.2.e X.2.w X.2.k v)) W):=⟨_,fun _ _ h=>h,fun W v _ h=>⟨v,rfl,h⟩⟩
 refine Jqa (show Calls Tryz.prog 13 #[Je p,.int .i64 core,ZI c] w PP from ?_) hPP.1
 have HPP:Hid (∀ W v,True=True->KS w0 r W p X.1 (Jv Vq v X.2.f::R)->PP (.returned (Jf X.2.e X.2.w X.2.k v)) W):=fun W v _ h=>hPP.2 W v trivial h
 clear hPP
 have S1:=Ja (s.callIn c)
 obtain⟨w1,hw⟩:∃ w1,(w.alloc (Xv c)).alloc (Ji 0 0 0 (.slice none 0 0))=w1:=⟨_,rfl⟩
 rw[hw] at S1
 have HW:=Ja hw
 unfold Xv Ji at HW
 clear s hw
 have k2:=S1.out.k2
 have hpk:=Ic S1.out ht core
 obtain⟨rn,hrn⟩:∃ rn,Th.XE (Th.JB K.h core) core=rn:=⟨_,rfl⟩
 rw[hrn] at hD
 rw[hrn,hb] at hpk
 have HPK:=Ja hpk
 have HD1:=Ja hD
 have HI:Hid (c.q=(iq:Int)/\iq<18):=Ja (And.intro hq (by omega))
 have hn17:(c.q == 17)=true:=by
  have:c.q=17:=by omega
  simpa using this
 have hn17b:(c.q != 17)=false:=by
  have:c.q=17:=by omega
  simpa using this
 have hn17c:decide (c.q=17)=true:=by
  have:c.q=17:=by omega
  simpa using this
 have eg:=Ol iq HI.out.2
 obtain⟨g,hg⟩:∃ g,fnL.getD iq 0=g:=⟨_,rfl⟩
 have HFV:Hid (fnV p iq=.func (.func g) #[Je p] #[]):=by
  show fnV p iq=.func (.func g) #[Je p] #[]
  unfold fnV
  rw[hg]
 rw[hg] at eg hdd
 clear hg
 clear hpk hrn hb hq hi hD
 unfold ZI
 go_enter Tryz.func13,Tryz.ntmps13
 go_wp2_with (first|rw[HW.out]|(go_at_call 59;refine Jqa HPK.out ?_;rintro e w3 ⟨rfl,x3,s3⟩;have S3:=Ja s3;clear s3)|fail)
 generalize w.heap.size+1=q2 at *
 generalize w.heap.size=q at *
 have HS:Hid (∀ (W:World) (T:List Th),Sep w0 r W T->blk q (Xv c)∈T->W.cell? ⟨q,0,none⟩=some (.int .i64 c.q)):=fun W T s h=>(s.blkCell h 0).1
 have hS:=HS.out _ _ S3.out.drew (by simp)
 go_region_held3 (fun W=>W.cell? ⟨q,0,none⟩=some (.int .i64 c.q)) (first|with_reducible assumption|with_reducible exact hS) (first|(go_at_call 61;refine Jqa (UJ S3.out.drew p) ?_;rintro e w4 ⟨b,rfl,s4⟩;have hS4:=HS.out _ _ s4 (by simp);have hl:(Instr.lookup 148 (.map (some b)) (.int .i64 c.q) true).run Tryz.prog w4=.ok (.tuple #[.func (.func g) #[Je p] #[],.bool true]) w4:=(by have h:=AW w4 p b s4.head iq HI.out.2;rw[HI.out.1];rw[HFV.out] at h;exact h);have S4:=Ja s4.swap;clear s4))
 have S5:=Ja ((S4.out.box (Jp (F5 c core rn))).swap)
 change Hid (Sep w0 r (w4.alloc (.cells #[.int .i64 c.q,.int .i64 c.a,.int .i64 c.w,.int .i64 c.A,.int .i64 c.B,.int .i64 c.C,.int .i64 core,.int .i64 rn,.int .i64 0,.int .i64 0,.int .i64 0,.int .i64 0,.int .i64 0,.int .u64 0,.int .u64 0,.int .i64 0,.int .i64 0,.int .i64 0,.int .i64 0,.int .u64 0,.int .u64 0,.int .i64 0] 151)) _) at S5
 obtain⟨w5,hw5⟩:∃ w5,w4.alloc (.cells #[.int .i64 c.q,.int .i64 c.a,.int .i64 c.w,.int .i64 c.A,.int .i64 c.B,.int .i64 c.C,.int .i64 core,.int .i64 rn,.int .i64 0,.int .i64 0,.int .i64 0,.int .i64 0,.int .i64 0,.int .u64 0,.int .u64 0,.int .i64 0,.int .i64 0,.int .i64 0,.int .i64 0,.int .u64 0,.int .u64 0,.int .i64 0] 151)=w5:=⟨_,rfl⟩
 rw[hw5] at S5
 have HW5:=Ja hw5
 clear hw5
 have dd0:w5.cell? ⟨q,0,none⟩=some (.int .i64 c.q):=HS.out _ _ S5.out (by simp)
 obtain⟨wz,hwz⟩:∃ wz,w4.alloc (.cells #[.int .i64 0,.int .i64 0,.int .i64 0,.int .i64 0,.int .i64 0,.int .i64 0,.int .i64 0,.int .i64 0,.int .i64 0,.int .i64 0,.int .i64 0,.int .i64 0,.int .i64 0,.int .u64 0,.int .u64 0,.int .i64 0,.int .i64 0,.int .i64 0,.int .i64 0,.int .u64 0,.int .u64 0,.int .i64 0] 151)=wz:=⟨_,rfl⟩
 have HST:Hid ((Instr.storeAt 151 (.pointer (some ⟨w4.heap.size,0,none⟩)) (JD (F5 c core rn))).run Tryz.prog wz=.ok () w5):=by
  rw[<- HW5.out,<- hwz]
  exact run_storeAt_new w4 151 #[.int .i64 0,.int .i64 0,.int .i64 0,.int .i64 0,.int .i64 0,.int .i64 0,.int .i64 0,.int .i64 0,.int .i64 0,.int .i64 0,.int .i64 0,.int .i64 0,.int .i64 0,.int .u64 0,.int .u64 0,.int .i64 0,.int .i64 0,.int .i64 0,.int .i64 0,.int .u64 0,.int .u64 0,.int .i64 0] #[.int .i64 c.q,.int .i64 c.a,.int .i64 c.w,.int .i64 c.A,.int .i64 c.B,.int .i64 c.C,.int .i64 core,.int .i64 rn,.int .i64 0,.int .i64 0,.int .i64 0,.int .i64 0,.int .i64 0,.int .u64 0,.int .u64 0,.int .i64 0,.int .i64 0,.int .i64 0,.int .i64 0,.int .u64 0,.int .u64 0,.int .i64 0] (by kernel_rfl) rfl (by simp[Value.oneCell'])
 have HAL:Hid ((Instr.alloc 151 true (.tuple #[])).run Tryz.prog w4=.ok (.pointer (some ⟨w4.heap.size,0,none⟩)) wz):=by
  rw[<- hwz]
  exact UX w4
 have HBD:Hid ((Instr.build 151 #[(0,ZI c),(1,.int .i64 core),(2,.int .i64 rn)]).run Tryz.prog w4=.ok (JD (F5 c core rn)) w4):=U0 c core rn w4
 have HLC:Hid ((loadVar 36 ⟨q,0,none⟩).run Tryz.prog w4=.ok (ZI c) w4):=Oy S4.out (by simp)
 clear hS hS4 hl hwz
 have HLd:=Ja (Mp (d:=D1) S5.out (by rw[<- HD1.out];exact Jmc (Jms)))
 generalize w4.heap.size=qd at *
 have HDD:=Ja hdd
 clear hdd
 go_wp2_with (first|rw[HW5.out]|(refine Ta.JP rfl 36 (.tmp 5) rfl ⟨q,0,none⟩ (ZI c) rfl HLC.out ?_;refine Zp rfl (.tmp 1) rfl (.int .i64 core) rfl ?_;refine Zp rfl (.tmp 7) rfl (.int .i64 rn) rfl ?_;refine Va rfl 151 #[(0,.tmp 34),(1,.tmp 35),(2,.tmp 36)] rfl #[(0,ZI c),(1,.int .i64 core),(2,.int .i64 rn)] (JD (F5 c core rn)) (by simp[Act.eval,Act.put]) HBD.out ?_;refine X9 rfl 151 rfl _ HAL.out ?_;refine Vb rfl 151 (.tmp 10) (.tmp 37) rfl (.pointer (some ⟨qd,0,none⟩)) (JD (F5 c core rn)) (by simp[Act.eval,Act.put]) (by simp[Act.eval,Act.put]) HST.out ?_)|(refine Ta.JP rfl 151 (.tmp 10) rfl ⟨qd,0,none⟩ (JD D1) rfl HLd.out ?_)|(go_at_fn g;refine Jqa (HDD.out _ _ _ S5.out) ?_;rintro e w7 ⟨v,rfl,Y7,s7⟩;obtain⟨av,cv,rfl⟩:=s7.listIs (E:=Vq) (v:=v) (A:=X.2.f) (by simp);obtain⟨t0,t1,t2,t3,f0,f1,f2,f3⟩:=s7.cells4 (q:=q2) (e:=0) (x:=0) (k:=0) (v:=.slice none 0 0) (by simp);have s8:=(s7.perm (List.perm_middle (l₁:=[_,_,_,_]))).put4 X.2.e X.2.w X.2.k (.slice av X.2.f.length cv);have S10:=Ja s8;clear s7 s8;simp only[Jf])|fail)
 obtain⟨g0,g1,g2,g3,-⟩:=S10.out.cells4 (Jms)
 have G10:=Ja (And.intro (And.intro g0 g1) (And.intro g2 g3))
 clear g0 g1 g2 g3
 go_wp2
 refine bodyPost_ret (v:=Jf X.2.e X.2.w X.2.k (.slice av X.2.f.length cv)) ?_ ?_ ?_
 rotate_left
 ·rfl
 ·exact HPP.out _ (.slice av X.2.f.length cv) (by trivial) ⟨_,S10.out.drop.del3.del3.del3⟩
 simp[results,Tryz.f13,go_sem,Jf,G10.out.1.1,G10.out.1.2,G10.out.2.1,G10.out.2.2]
end
end
section
section
variable [dCp:DecidableEq Sl.Cp] [dLim:∀ k,Decidable (Sl.ZV k)] [dBad:∀ k,Decidable (Sl.Xn k)] [dFit:∀ g z,Decidable (Sl.Fit g z)] [dF:∀ c:Sl.Cp,Decidable (Sl.Fine c)] [dMi:∀ c v,Decidable (Sl.JK c v)] [dWho:∀ x y,Decidable (Sl.Zx x y)] [dSl:DecidableEq Sl.Sl] [dLt:∀ a b,Decidable (Sl.MC a b)]
variable [dT:DecidableEq Tr.Sl] [dL:∀ k:Int,Decidable (Ca.ZV k)] [dC:∀ c:Ca.Cp,Decidable (Ca.Fine c)] [dM:∀ (c:Ca.Cp) (v:Int),Decidable (Ca.JK c v)] [dCc:DecidableEq Ca.Cp] [dCb:∀ k,Decidable (Ca.Xn k)] [dCf:∀ g z,Decidable (Ca.Fit g z)] [dCw:∀ x y,Decidable (Ca.Zx x y)]
variable {n m:Nat} {K:Kr}
theorem Ts.rooted {S:Sl.St} {E:Tr.St} (h:Ts S E) {j:Int} {d c:Sl.Cp} (hd:Sl.JZ S (sl j)=some d) (hdk:d.k=0) (hf:c.Fits) (hk:c.k≠0) (hc:Sl.Fine c):Ts (Sl.ZL S (sl j) c) (Tr.rootS E (tr j)):=by
 have hE:Sl.VX S (sl j) c=0:=by
  unfold Sl.VX
  rw[hd]
  simp only[hc,hk,hdk,if_true,if_false]
 have hS:Sl.ZL S (sl j) c=Sl.Xj S (sl j) c:=by
  unfold Sl.ZL
  rw[hE]
  rfl
 rw[hS]
 have htn:¬ tr j∈Tr.JA E:=fun hm=>by
  obtain⟨_,x,hx,hxk⟩:=(h.tm _).1 hm
  have:Sl.JZ S (sl j)=some x:=hx
  rw[hd] at this
  cases this
  exact hxk hdk
 refine h.over hd hf (fun e=>absurd e hk) hc (h.tg.rootS _) fun t=>?_
 rw[Ji7 htn,h.tm]
 constructor
 ·rintro(rfl|⟨h1,x,hx,hxk⟩)
  ·exact⟨rfl,c,if_pos rfl,hk⟩
  ·refine⟨h1,x,?_,hxk⟩
   rw[if_neg]
   ·exact hx
   ·intro e
    rw[e,hd] at hx
    cases hx
    exact hxk hdk
 ·rintro⟨h1,x,hx,hxk⟩
  by_cases e:t.i=j
  ·left
   rw[Ew h1,e]
  ·rw[if_neg e] at hx
   exact .inr ⟨h1,x,hx,hxk⟩
structure Bt (n:Nat) (K:Kr):Prop where
 iv:Iv n 0 K
 fr:∀ i:Int,(K.E.length:Int)<=i->i<=63->∃ d,Sl.JZ K.S (sl i)=some d/\d.k=0
theorem Jl1 {E:Tr.St} {s:Tr.Sl} (h:¬ s∈Tr.JA E):(Tr.rootS E s).length=E.length+1:=by
 unfold Tr.rootS
 rw[if_neg fun hh=>h ((Tr.VF _ _).2 hh)]
 simp
theorem Bt.root (b:Bt n K) {k o:Int} (hk:1<=k/\k<=9) (ho:0<=o/\o<=1000) (hl:K.E.length<=63) (r:Ref K ⟨k,o,7,0,0,0⟩):Bt n (Xw K k o)/\(Xw K k o).E.length=K.E.length+1:=by
 obtain⟨d,hd,hdk⟩:=b.fr K.E.length (Int.le_refl _) (by omega)
 have hfin:Sl.Fine ⟨k,o,7,0,0,0⟩:=.inr ⟨⟨by simp only;omega,by simp only;omega⟩,⟨ho.1,by simp only;omega⟩,⟨by simp only;omega,by simp only;omega⟩,.inl rfl,.inl rfl,.inl ⟨rfl,rfl⟩,by unfold Sl.Fit Sl.Jr;simp⟩
 have hfit:(⟨k,o,7,0,0,0⟩:Sl.Cp).Fits:=⟨by simp only;omega,by simp only;omega,by simp only;omega,by simp only;omega,by simp only;omega,by simp only;omega⟩
 have hk0:(⟨k,o,7,0,0,0⟩:Sl.Cp).k≠0:=by show k≠0;omega
 have t:=b.iv.ts.rooted hd hdk hfit hk0 hfin
 have htn:¬ tr (K.E.length:Int)∈Tr.JA K.E:=fun hm=>by
  obtain⟨_,x,hx,hxk⟩:=(b.iv.ts.tm _).1 hm
  have:Sl.JZ K.S (sl K.E.length)=some x:=hx
  rw[hd] at this
  cases this
  exact hxk hdk
 have hlen:(Xw K k o).E.length=K.E.length+1:=Jl1 htn
 refine⟨⟨b.iv.slots t (Nat.le_of_eq (UO _ _ _).symm) fun i x hx=>(Jku hd i hx).elim (fun e=>e ▸ r) fun h=>b.iv.ref i x h,fun i hi hi2=>?_⟩,hlen⟩
 rw[hlen] at hi
 obtain⟨e,he,hek⟩:=b.fr i (by omega) hi2
 refine⟨e,?_,hek⟩
 show Sl.JZ (Sl.ZL K.S (sl K.E.length) _) (sl i)=some e
 unfold Sl.ZL
 split
 ·rw[Sl.XL hd,if_neg (Jb7 (by omega))]
  exact he
 ·exact he
theorem Jjn {n:Nat} (h1:1<=n) (h8:n<=8) {b:Int} (hb:4<=b/\b<=20):Bt n (Mi n b):=by
 have hS:Sl.Zq [] 6=[List.replicate 64 Sl.no]:=rfl
 have hat:∀ s c,Sl.JZ (Sl.Zq [] 6) s=some c->c=Sl.no:=fun s c h=>by
  obtain⟨_,_,_,hm,h5,_⟩:=Sl.VD h
  rw[hS] at hm h5
  have:([List.replicate 64 Sl.no]:Sl.St).getD s.n.toNat []=List.replicate 64 Sl.no:=by simpa using hm
  rw[this] at h5
  exact List.eq_of_mem_replicate (Jqi h5)
 have ok:Sl.Okay (Sl.Zq [] 6):=by
  rw[hS]
  refine⟨by simp,fun l hl=>?_,fun l hl c hc=>?_⟩
  ·have:l=List.replicate 64 Sl.no:=by simpa using hl
   subst this
   exact .inr ⟨6,by decide,by decide,by simp⟩
  ·have:l=List.replicate 64 Sl.no:=by simpa using hl
   subst this
   have:=List.eq_of_mem_replicate hc
   subst this
   exact⟨Sl.MW,fun _=>rfl⟩
 have n0:((Sl.Zq [] 6).getD 0 []).length=64:=by
  rw[hS]
  simp
 refine⟨⟨⟨ok,n0,fun s c h _=>hat s c h,fun i c h=>by rw[hat _ c h];exact Ga,Tr.Vg,fun t=>?_⟩,Th.Je9 h1 h8,?_,?_,fun x hx=>?_,fun i c h=>by rw[hat _ c h];exact Jea _,fun S hS=>?_,fun S hS=>?_,fun D hD=>?_,fun u hu=>?_,?_,?_,?_,?_,?_,?_⟩,fun i h0 h2=>?_⟩
 ·constructor
  ·intro h
   cases h
  ·rintro⟨_,x,hx,hxk⟩
   rw[hat _ x hx] at hxk
   exact absurd Jle hxk
 ·show(List.replicate n _).length=n
  simp
 ·show(List.replicate 8 _).length=8
  simp
 ·have:=List.eq_of_mem_replicate hx
  subst this
  exact fun h=>absurd rfl h
 ·cases hS
 ·cases hS
 ·have:D=Ta.FN:=by simpa [Mi] using hD
  subst this
  exact Ta.Je5
 ·have:u=⟨0,b,0⟩:=by simpa [Mi] using hu
  subst this
  exact⟨⟨Int.le_refl 0,by show(0:Int)<=_;decide⟩,⟨by simp only;omega,by simp only;omega⟩,⟨Int.le_refl 0,by show(0:Int)<=_;decide⟩⟩
 ·simp[Mi]
 ·simp[Mi]
 ·simp[Mi]
 ·simp[Mi]
 ·simp[Mi]
 ·simp[Mi]
 ·obtain⟨c,hc⟩:=(GV n0 i).1 ⟨by simp[Mi] at h0;omega,h2⟩
  exact⟨c,hc,by rw[hat _ c hc];rfl⟩
theorem Bt.thr (b:Bt n K) {h':Th.Hs} (i:Th.Inv h') (e:SameL K.h h'):Bt n { K with h:=h' }:=⟨b.iv.thr i e,b.fr⟩
theorem G3 (hn:n<=8):∀ (L:List Int) {K:Kr} {i:Nat},Bt n K->K.h.L.length=i->i+L.length<=n->(∀ p∈L,0<=p/\p<256)->K.E.length+L.length<=60->Bt n (OL K i L)/\(OL K i L).E.length=K.E.length+L.length/\(OL K i L).D=K.D
 | [],_,_,b,_,_,_,_=>⟨b,rfl,rfl⟩
 | p::L,K,i,b,hi,hl,hp,he=>by
  rw[List.length_cons] at hl he
  have hp0:=hp p (by simp)
  have hmk:Th.JV K.h p (i:Int)=0:=by
   unfold Th.JV
   have:=b.iv.co
   rw[if_pos ⟨hp0,by unfold Th.OQ;omega⟩,if_neg (by omega)]
  have hL:(Th.JS K.h p (i:Int)).L.length=K.h.L.length+1/\(Th.JS K.h p (i:Int)).Q.length=K.h.Q.length:=by
   unfold Th.JS
   rw[if_pos hmk]
   simp
  have hle:K.h.L.length<=(Th.JS K.h p (i:Int)).L.length:=by omega
  have b1:Bt n { K with h:=Th.JS K.h p (i:Int) }:=⟨{ b.iv with th:=Th.AT b.iv.th _ _,co:=hL.2.trans b.iv.co,ref:=fun j c hc=>(b.iv.ref j c hc).mono ⟨Jqd _,Jqd _,hle,Jqd _,Jqd _,Jqd _⟩,ep:=fun S hS=>(b.iv.ep S hS).same hle,nt:=fun S hS=>(b.iv.nt S hS).same hle },b.fr⟩
  have b2:Bt n { K with h:=Th.JB (Th.JR (Th.JS K.h p (i:Int)) (i:Int)) (i:Int) }:=b1.thr (Th.Mo (Th.MS b1.iv.th _) _) ((VY _ _).then (VU _ _))
  have hlen:(Th.JB (Th.JR (Th.JS K.h p (i:Int)) (i:Int)) (i:Int)).L.length=i+1:=by
   rw[(VU _ _).1,(VY _ _).1,hL.1,hi]
  obtain⟨b3,e3⟩:=b2.root (k:=3) (o:=(i:Int)) (by omega) (by omega) (by show K.E.length<=63;omega) ⟨fun e=>(by cases e),fun e=>(by cases e),fun _=>by show(i:Int)<((Th.JB (Th.JR (Th.JS K.h p (i:Int)) (i:Int)) (i:Int)).L.length:Int);rw[hlen];omega,fun e=>(by cases e),fun e=>(by cases e),fun e=>(by cases e),fun e=>(by cases e)⟩
  obtain⟨r1,r2,r3⟩:=G3 hn L (K:=Xw { K with h:=Th.JB (Th.JR (Th.JS K.h p (i:Int)) (i:Int)) (i:Int) } 3 (i:Int)) (i:=i+1) b3 hlen (by omega) (fun q hq=>hp q (by simp[hq])) (by rw[e3];show K.E.length+1+L.length<=60;omega)
  refine⟨r1,?_,r3⟩
  show(OL (Xw _ 3 (i:Int)) (i+1) L).E.length=_
  rw[r2,e3,List.length_cons]
  show K.E.length+1+L.length=_
  omega
theorem G1:∀ (k:Nat) {K:Kr} {i:Nat},Bt n K->i+k<=8->K.E.length+k<=60->Bt n (G0 K i k)
 | 0,_,_,b,_,_=>b
 | k+1,K,i,b,hi,he=>by
  obtain⟨b1,e1⟩:=b.root (k:=9) (o:=(i:Int)) (by omega) (by omega) (by omega) ⟨fun e=>(by cases e),fun e=>(by cases e),fun e=>(by cases e),fun e=>(by cases e),fun e=>(by cases e),fun e=>(by cases e),fun _=>by show(i:Int)<8;omega⟩
  exact G1 k (K:=Xw K 9 (i:Int)) (i:=i+1) b1 (by omega) (by rw[e1];omega)
theorem Jnr {Q:List Int} (h1:1<=n) (h8:n<=8) {b:Int} (hb:4<=b/\b<=20) {k:Nat} (hk:k<=8) (hQ:Q.length=n) (hp:∀ p∈Q,0<=p/\p<256):Iv n 0 (Aq n b k Q):=by
 have b0:=Jjn h1 h8 hb
 have e0:(Mi n b).E.length=0:=rfl
 obtain⟨b1,e1⟩:=b0.root (k:=2) (o:=0) (by omega) (by omega) (by omega) ⟨fun e=>(by cases e),fun _=>by show(0:Int)<((Sl.Zq [] 6).length:Int);decide,fun e=>(by cases e),fun e=>(by cases e),fun e=>(by cases e),fun e=>(by cases e),fun e=>(by cases e)⟩
 obtain⟨b2,e2⟩:=b1.root (k:=1) (o:=0) (by omega) (by omega) (by omega) ⟨fun _=>by show(0:Int)<(([⟨0,b,0⟩]:List Un.Un).length:Int);simp,fun e=>(by cases e),fun e=>(by cases e),fun e=>(by cases e),fun e=>(by cases e),fun e=>(by cases e),fun e=>(by cases e)⟩
 obtain⟨b3,e3,d3⟩:=G3 h8 Q (i:=0) b2 rfl (by omega) hp (by omega)
 obtain⟨b4,e4⟩:=b3.root (k:=8) (o:=0) (by omega) (by omega) (by omega) ⟨fun e=>(by cases e),fun e=>(by cases e),fun e=>(by cases e),fun e=>(by cases e),fun e=>(by cases e),fun _=>by rw[d3];show(0:Int)<(([Ta.FN]:List Ta.Sp).length:Int);simp,fun e=>(by cases e)⟩
 exact(G1 k (i:=0) b4 (by omega) (by omega)).iv
theorem Jnv (K:Kr) (c:Sl.Cp):(UT K c).S=K.S/\(UT K c).E=K.E:=by
 unfold UT
 split
 ·exact⟨rfl,rfl⟩
 ·split
  ·exact⟨rfl,rfl⟩
  ·split
   ·exact⟨rfl,rfl⟩
   ·exact⟨rfl,rfl⟩
theorem Jn4 (K:Kr) (j:Int):(ZE K j).S=Sl.takeS K.S (sl j)/\(ZE K j).E=Tr.takeS K.E (tr j):=by
 unfold ZE
 split
 ·exact Jnv _ _
 ·exact⟨rfl,rfl⟩
theorem Jhy (K:Kr) (j:Int) (x:Sl.Cp):(V9 K j x).S=(goneAll K (Zc K j)).1.S/\(V9 K j x).E=(goneAll K (Zc K j)).1.E:=by
 unfold V9
 split
 ·exact⟨rfl,rfl⟩
 ·exact⟨rfl,rfl⟩
end
section
variable [dCp:DecidableEq Sl.Cp] [dLim:∀ k,Decidable (Sl.ZV k)] [dBad:∀ k,Decidable (Sl.Xn k)] [dFit:∀ g z,Decidable (Sl.Fit g z)] [dF:∀ c:Sl.Cp,Decidable (Sl.Fine c)] [dMi:∀ c v,Decidable (Sl.JK c v)] [dWho:∀ x y,Decidable (Sl.Zx x y)] [dSl:DecidableEq Sl.Sl] [dLt:∀ a b,Decidable (Sl.MC a b)]
variable [dT:DecidableEq Tr.Sl] [dL:∀ k:Int,Decidable (Ca.ZV k)] [dC:∀ c:Ca.Cp,Decidable (Ca.Fine c)] [dM:∀ (c:Ca.Cp) (v:Int),Decidable (Ca.JK c v)] [dCc:DecidableEq Ca.Cp] [dCb:∀ k,Decidable (Ca.Xn k)] [dCf:∀ g z,Decidable (Ca.Fit g z)] [dCw:∀ x y,Decidable (Ca.Zx x y)]
variable {K:Kr}
def Full (S:Sl.St):Prop:=∀ l∈S,l≠[]
theorem ID {S:Sl.St} (h:Full S) (s:Sl.Sl) (c:Sl.Cp):Full (Sl.Xj S s c):=by
 unfold Sl.Xj
 intro l hl
 by_cases hn:s.n.toNat<S.length
 ·rcases List.mem_or_eq_of_mem_set hl with hl|rfl
  ·exact h l hl
  ·rw[List.getD_eq_getElem?_getD,List.getElem?_eq_getElem hn]
   have:=h _ (List.getElem_mem hn)
   simpa using this
 ·rw[List.set_eq_of_length_le (by omega)] at hl
  exact h l hl
theorem AN {S:Sl.St} (h:Full S) (s:Sl.Sl) (c:Sl.Cp):Full (Sl.ZL S s c):=by
 unfold Sl.ZL
 split
 ·exact ID h s c
 ·exact h
theorem Jgo {S:Sl.St} (h:Full S) (s:Sl.Sl):Full (Sl.takeS S s):=by
 unfold Sl.takeS
 split
 ·exact ID h s _
 ·exact h
theorem Jgn {S:Sl.St} (h:Full S) (s t:Sl.Sl):Full (Sl.moveS S s t):=by
 unfold Sl.moveS
 split
 ·exact ID (ID h t _) s _
 ·exact h
theorem Fb {S:Sl.St} (h:Full S) (B:Int):Full (Sl.Zq S B):=by
 unfold Sl.Zq
 split
 ·intro l hl
  rcases Jrc.1 hl with hl|hl
  ·exact h l hl
  ·have:l=List.replicate (2 ^ B.toNat) Sl.no:=by simpa using hl
   subst this
   intro e
   have:=congrArg List.length e
   rw[List.length_replicate] at this
   exact absurd this (Nat.pos_iff_ne_zero.1 (Nat.pow_pos (by decide)))
 ·exact h
theorem Jgm (h:Full K.S) (A B core x:Int):Full (Zh K A B core x).S:=by
 unfold Zh
 repeat' split
 all_goals first|exact h|exact Fb h B
theorem AM (a core A B:Int):∀ (L:List Int) {K:Kr} (n:Int),Full K.S->Full (Xe a core A B K n L).S
 | [],_,_,h=>h
 | x::L,K,n,h=>AM a core A B L (n+1) (K:=Id (Zh K A B core x) a n ⟨A,madeN K A B core,7,0,0,0⟩) (AN (Jgm h A B core x) _ _)
theorem Fa (h:Full K.S) (n:Int):Full (ZE K n).S:=by
 rw[(Jn4 K n).1]
 exact Jgo h _
theorem IC:∀ (L:List Int) {K:Kr},Full K.S->Full (goneAll K L).1.S
 | [],_,h=>h
 | n::L,_,h=>IC L (Fa h n)
theorem Fc (h:Full K.S) (core who:Int) (c:Cl) (m:En.Mt) (wk:Int):Full (OW K core who c m wk).1.S:=by
 unfold OW
 by_cases e:m.i=true
 ·rw[if_pos e]
  exact h
 ·rw[if_neg e]
  unfold Mz
  split<;>exact h
theorem Jap (h:Full K.S) (o g:Int):Full (Jh4 K o g).S:=by
 unfold Jh4
 by_cases e:No.Jt4 (ntN K o)=true
 ·rw[if_pos e]
  exact h
 ·rw[if_neg e]
  exact h
theorem Jgl (h:Full K.S) (core who:Int) (c:Cl) (x:Sl.Cp):Full (Ay K core who c x).1.S:=by
 unfold Ay
 by_cases h0:c.q=0
 ·rw[if_pos h0]
  unfold Ze
  split
  ·exact AM _ _ _ _ _ _ h
  ·exact h
 rw[if_neg h0]
 by_cases h1:c.q=1
 ·rw[if_pos h1]
  unfold Fy
  split
  ·exact AN h _ _
  ·exact h
 rw[if_neg h1]
 by_cases h2:c.q=2
 ·rw[if_pos h2]
  unfold Jfj
  split
  ·exact Jgn h _ _
  ·exact h
 rw[if_neg h2]
 by_cases h3:c.q=3
 ·rw[if_pos h3]
  split
  ·exact h
  ·exact Fa h _
 rw[if_neg h3]
 by_cases h4:c.q=4
 ·rw[if_pos h4]
  rw[show(V9 K c.a x).S=_ from (Jhy K c.a x).1]
  exact IC _ h
 rw[if_neg h4]
 by_cases h5:c.q=5
 ·rw[if_pos h5]
  unfold AC EB
  split<;>exact h
 rw[if_neg h5]
 by_cases h6:c.q=6
 ·rw[if_pos h6]
  exact h
 rw[if_neg h6]
 by_cases h7:c.q=7
 ·rw[if_pos h7]
  exact h
 rw[if_neg h7]
 by_cases h8:c.q=8
 ·rw[if_pos h8]
  unfold FK
  split
  ·exact Fc (K:=setP K _ _) h _ _ _ _ _
  ·exact h
 rw[if_neg h8]
 by_cases h9:c.q=9
 ·rw[if_pos h9]
  unfold FH
  split
  ·exact Fc (K:=setP K _ _) h _ _ _ _ _
  ·exact h
 rw[if_neg h9]
 by_cases h10:c.q=10
 ·rw[if_pos h10]
  exact Jap h _ _
 rw[if_neg h10]
 by_cases h11:c.q=11
 ·rw[if_pos h11]
  unfold Jf3
  split
  ·split
   ·exact h
   ·unfold Mz
    split<;>exact h
  ·exact h
 rw[if_neg h11]
 by_cases h12:c.q=12
 ·rw[if_pos h12]
  split<;>exact h
 rw[if_neg h12]
 by_cases h13:c.q=13
 ·rw[if_pos h13]
  split<;>exact h
 rw[if_neg h13]
 by_cases h14:c.q=14
 ·rw[if_pos h14]
  split<;>exact h
 rw[if_neg h14]
 by_cases h15:c.q=15
 ·rw[if_pos h15]
  split<;>exact h
 ·rw[if_neg h15]
  split
  ·exact Jap (K:=Aj K _) h _ _
  ·exact h
theorem Jgk (h:Full K.S) (core:Int) (c:Cl):Full (doK K core c).1.S:=by
 unfold doK
 split
 ·split
  ·split
   ·exact h
   ·split
    ·exact Jgl (K:=JQ K core) h _ _ _ _
    ·exact h
  ·exact h
 ·exact h
end
end
end Go.Proofs.YtbfjjpdnoalojaaGreatDoor
