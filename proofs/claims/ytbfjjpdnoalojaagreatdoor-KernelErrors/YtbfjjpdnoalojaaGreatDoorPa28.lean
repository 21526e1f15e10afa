/- Below: KJ8 KJ6 KF7 KJ9; no condition. -/
import Derived.Test.YtbfjjpdnoalojaaGreatDoorPa26
import Derived.Test.YtbfjjpdnoalojaaGreatDoorPa27
set_option maxHeartbeats 16000000
set_option maxRecDepth 100000
namespace Go.Proofs.YtbfjjpdnoalojaaGreatDoor
section
open Go.RowKit Go.Deep Go.Shelf
open Classical
section
variable {w0 w w':World} {r p:Nat} {Y:Ly} {K:Kr} {R:List Th}
structure Objs (K:Kr):Prop where
 u:K.U.length<=1000000
 p:K.P.length<=1000000
 n:K.N.length<=1000000
 d:K.D.length<=1000000
 f:K.fr<=1000000
 t:K.tb<=1000000
theorem Iv.objs {n m:Nat} (v:Iv n m K) (h:m<=999999):Objs K:=⟨by have:=v.cu;omega,by have:=v.cp;omega,by have:=v.cn;omega,by have:=v.cd;omega,by have:=v.cf;omega,by have:=v.ct;omega⟩
theorem Iv.few {n m:Nat} (v:Iv n m K):Few K:=⟨fun S h=>by have:=Jc4 v.th (v.ep S h);omega,fun S h=>by have:=Jts v.th (v.nt S h);omega⟩
theorem Jd2 (s:Sep w0 r w (kT p Y K::R)) {A:Int} (hA:1<=A/\A<=8) (B base core:Int) (o:Objs K) :
  Calls Tryz.prog 224 #[Je p,.int .i64 A,.int .i64 B,.int .u64 base,.int .i64 core] w fun e w'=>e=.returned (.int .i64 (madeN K A B core))/\KS w0 r w' p (Zh K A B core base) R:=by
 have hAA:A=1\/A=2\/A=3\/A=4\/A=5\/A=6\/A=7\/A=8:=by omega
 rcases hAA with rfl|rfl|rfl|rfl|rfl|rfl|rfl|rfl
 ·exact Jho s B base core o.u
 ·exact Jbt s B base core
 ·exact EO s B base core
 ·exact Jhk s B base core o.p
 ·exact Jhl s B base core o.n
 ·exact Gz s B base core o.f
 ·exact GA s B base core o.t
 ·exact Jhn s B base core o.d
theorem Jh7 {S:Sl.St} (h:∀ l∈S,l≠[]) (n:Int):Sl.XH S n=decide (0<=n/\n<(S.length:Int)):=by
 unfold Sl.XH Sl.J5
 by_cases h0:0<=n
 ·rw[if_pos h0,List.getD_eq_getElem?_getD]
  by_cases h1:n<(S.length:Int)
  ·have hl:n.toNat<S.length:=by omega
   rw[List.getElem?_eq_getElem hl,decide_eq_true ⟨h0,h1⟩]
   have:=h _ (List.getElem_mem hl)
   simpa using this
  ·rw[List.getElem?_eq_none (by omega),decide_eq_false (fun h=>h1 h.2)]
   rfl
 ·rw[if_neg h0,decide_eq_false (fun h=>h0 h.1)]
  rfl
theorem Jay (s:Sep w0 r w (kT p Y K::R)) (hF:∀ l∈K.S,l≠[]) (A:Int) {C:Int} (h:1<=C/\C<=64) :
  Calls Tryz.prog 222 #[Je p,.int .i64 A,.int .i64 C] w fun e w'=>e=.returned (.bool (!((A == 2 && decide (64<(K.S.length:Int)+C)) || (A == 3 && decide (64<(K.h.L.length:Int)+C)))))/\Sep w0 r w' (kT p Y K::R):=by
 by_cases h2:A=2
 ·subst h2
  refine Jqa (Gj s C (by omega)) ?_
  rintro e w' ⟨rfl,s'⟩
  refine⟨?_,s'⟩
  rw[Jh7 hF]
  by_cases hb:64<(K.S.length:Int)+C
  ·rw[decide_eq_true hb,decide_eq_true (by omega)]
   rfl
  ·rw[decide_eq_false hb,decide_eq_false (by omega)]
   rfl
 ·by_cases h3:A=3
  ·subst h3
   refine Jqa (AP s C (by omega)) ?_
   rintro e w' ⟨rfl,s'⟩
   refine⟨?_,s'⟩
   unfold Th.UQ
   by_cases hb:64<(K.h.L.length:Int)+C
   ·rw[decide_eq_true hb,if_pos (by constructor<;>omega)]
    rfl
   ·rw[decide_eq_false hb,if_neg (by omega)]
    rfl
  ·refine Jqa (Gk s C h2 h3) ?_
   rintro e w' ⟨rfl,s'⟩
   refine⟨?_,s'⟩
   have e2:(A == 2)=false:=by simpa using h2
   have e3:(A == 3)=false:=by simpa using h3
   rw[e2,e3]
   rfl
def tlT (ao:Option Addr) (L:List Int):Th where
 F:=fun x=>L≠[]/\∃ a,ao=some a/\a.block=x
 H:=fun w=>Un.Told w ao L
 lt:=fun w h x hx=>by
  obtain⟨hn,a,rfl,rfl⟩:=hx
  rcases h with h|⟨b,o,e,hb,-⟩
  ·exact absurd h hn
  ·cases e
   exact hb
 keep:=fun w w' h k=>by
  rcases h with h|⟨b,o,e,hb,hc⟩
  ·exact .inl h
  ·by_cases hn:L=[]
   ·exact .inl hn
   ·have hk:=k b ⟨hn,_,e,rfl⟩
    refine .inr ⟨b,o,e,?_,fun j hj=>?_⟩
    ·have hh:b<w.heap.size:=hb
     have:w'.heap[b]? = some w.heap[b]:=by rw[hk];exact Array.getElem?_eq_getElem hh
     exact(Jqf.1 this).1
    ·have:=hc j hj
     simp only[World.cell?] at this ⊢
     rw[hk]
     exact this
theorem Jfc (s:Sep w0 r w (kT p Y K::R)) (T:Un.Tab w0) (hr:2 < r) {u:Un.Un} (hf:u.Fits) (A:Int) {B C:Int} (hB:VC B) (hC:VC C) {E:Int} (hE:Un.plE u A B C=E) {x:Un.Un} (hx:Un.plU u A B C=x) {L:List Int} (hL:Un.GF u A B C=L) {n:Nat} (hn:L.length=n) :
  Calls Tryz.prog 220 #[.agg #[.int .u64 u.base,.int .i64 u.bits,.int .u64 u.used],.int .i64 A,.int .i64 B,.int .i64 C] w fun e w'=>∃ ao cap,e=.returned (.tuple #[.slice ao n cap,.agg #[.int .u64 x.base,.int .i64 x.bits,.int .u64 x.used],.int .i64 E])/\Sep w0 r w' (kT p Y K::tlT ao L::R):=by
 subst hE
 subst hx
 subst hL
 subst hn
 refine Jqa (Un.X0 u A B C w (T.below s.low hr) hf hB hC) ?_
 rintro e w' ⟨ao,cap,rfl,ht,hn,hb⟩
 refine⟨ao,cap,rfl,(s.new (t:=tlT ao (Un.GF u A B C)) ht hb fun x hx=>?_).swap⟩
 obtain⟨-,a,e,rfl⟩:=hx
 exact hn a e
theorem Sep.setL {α:Type} {E:El α} {L:List α} (ok:El.Ok E) {g n cap i j:Nat} {x y:α} {c:Value} (h:Sep w0 r w (Jv E (.slice (some ⟨g,0,none⟩) n cap) L::R)) (hi:L[i]? = some x) (hj:j<E.k) (e:E.enc y=(E.enc x).set j c) :
  Sep w0 r (w.setCell ⟨g,i*E.k+j,none⟩ c) (Jv E (.slice (some ⟨g,0,none⟩) n cap) (L.set i y)::R):=
 h.turn (t:=Jv E (.slice (some ⟨g,0,none⟩) n cap) L) (t':=Jv E (.slice (some ⟨g,0,none⟩) n cap) (L.set i y)) (Row.set ok h.head hi hj e) (Turn.setCell _ _ _ _ rfl) (fun _ hy=>.inl hy)
theorem Jed {α:Type} {L:List α} {i:Nat} {x:α} (h:L[i]? = some x) (y:α):(L.set i y)[i]? = some y:=by
 obtain⟨hl,-⟩:=Jqb.1 h
 simp[hl]
theorem Sep.putMem (s:Sep w0 r w (kT p Y K::R)) {g n cap i:Nat} (hv:Y.uv=.slice (some ⟨g,0,none⟩) n cap) {u:Un.Un} (hi:K.U[i]? = some u) (x:Un.Un) :
  Sep w0 r (((w.setCell ⟨g,i*3,none⟩ (.int .u64 x.base)).setCell ⟨g,i*3+1,none⟩ (.int .i64 x.bits)).setCell ⟨g,i*3+2,none⟩ (.int .u64 x.used)) (kT p Y { K with U:=K.U.set i x }::R):=by
 obtain⟨Q,s1,bk⟩:=s.kU
 rw[hv] at s1
 have s2:=Sep.setL OU s1 hi (j:=0) (y:=⟨x.base,u.bits,u.used⟩) (c:=.int .u64 x.base) (by decide) rfl
 have s3:=Sep.setL OU s2 (Jed hi _) (j:=1) (y:=⟨x.base,x.bits,u.used⟩) (c:=.int .i64 x.bits) (by decide) rfl
 have s4:=Sep.setL OU s3 (Jed (Jed hi _) _) (j:=2) (y:=x) (c:=.int .u64 x.used) (by decide) rfl
 rw[List.set_set,List.set_set] at s4
 rw[<- hv] at s4
 exact bk _ Y.uv (K.U.set i x) [] s4
end
def ZN (n:Int) (m:Nat):List Sl.Sl:=(List.range m).map fun i:Nat=>⟨0,n+(i:Int)⟩
theorem Er (n:Int) (m:Nat):(ZN n m).length=m:=by simp[ZN]
theorem Jb8 (n:Int) (m:Nat):ZN n (m+1)=ZN n m++[⟨0,n+(m:Int)⟩]:=by
 unfold ZN
 rw[List.range_succ,List.map_append]
 rfl
theorem Jh8 {n:Int} {m:Nat} (h0:0<=n) (h1:n+(m:Int)<=64):∀ x∈ZN n m,x.n=0/\0<=x.i/\x.i<=63:=fun x hx=>by
 obtain⟨i,hi,rfl⟩:=List.mem_map.1 hx
 have:=List.mem_range.1 hi
 exact⟨rfl,by show 0<=n+(i:Int);omega,by show n+(i:Int)<=63;omega⟩
theorem Jie (K:Kr) (n:Int) (m:Nat):(ZN n m).any (Mg K) = !((List.range m).all fun i:Nat=>(Jk K (n+(i:Int))).k == 0):=by
 unfold ZN
 rw[List.any_map,List.all_eq_not_any_not,Bool.not_not]
 congr 1
section
variable {w0 w w':World} {r p:Nat} {Y:Ly} {K:Kr} {R:List Th}
theorem Jam (s:Sep w0 r w (kT p Y K::R)) (h6:(K.S.getD 0 []).length=64) {n:Int} {m:Nat} (h1:1<=m) (hm:m<=1000000) (hn:VC n) :
  Calls Tryz.prog 221 #[Je p,.int .i64 n,.int .i64 (m:Int)] w fun e w'=>∃ v,e=.returned (.tuple #[v,.int .i64 (J4 K n m)])/\∃ L,(J4 K n m=0->L=ZN n m)/\Sep w0 r w' (kT p Y K::Jv Vr v L::R):=by
 have hmf:=Jhm
 have S1:=Ja (s.nil (E:=Vr))
 have HM:=Ja (And.intro h1 hm)
 have HN:=Ja hn
 have hmm:(m:Int)<=1000000:=by omega
 clear s h1 hm hn
 go_enter Tryz.func221,Tryz.ntmps221
 go_wp2_with fail
 go_loopw [8,9,10,11,13] (fun s8 _ _ _ s13 wr=>∃ k:Nat,k<=m/\s13=.int .i64 k/\(0<k->0<=n/\n+(k:Int)<=64)/\Sep w0 r wr (kT p Y K::Jv Vr s8 (ZN n k)::R)) (fun _ _ _ _ s13 _=>m - (intOf s13).toNat)
 case atStart=>exact⟨0,Jqp _,rfl,fun h=>absurd h (Nat.lt_irrefl 0),S1.out.swap⟩
 case round =>
  clear S1
  obtain⟨k,hk,rfl,hk2,s2⟩:=hrel
  by_cases hlt:k<m
  ·have hltz:(k:Int)<(m:Int):=by omega
   have S2:=Ja s2
   have HK:=Ja hk2
   clear s2 hk2
   by_cases hin:0<=n+(k:Int)/\n+(k:Int)<=63
   ·obtain⟨d,hd⟩:∃ d,n+(k:Int)=d:=⟨_,rfl⟩
    have hw1:IntKind.i64.wrap (n+(k:Int))=d:=by
     rw[IntKind.wrap_i64]
     omega
    rw[hd] at hin
    have HI:=Ja hin
    have HL:=Ja hlt
    have HD:=Ja hd
    clear hin hlt hd
    go_wp2_with fail
    refine Jqa (Eq S2.out h6 HI.out.1 HI.out.2) ?_
    rintro e w3 ⟨rfl,s3⟩
    have S3:=Ja (s3.box (.cells #[.int .i64 0,.int .i64 d] 80))
    clear s3
    obtain⟨a5,c5,rfl⟩:=S3.out.listIs (E:=Vr) (v:=u8) (A:=ZN n k) (by simp)
    obtain⟨z0,z1,-,-⟩:=S3.out.cells2 (Jms)
    have s4:=S3.out.third.swap
    obtain⟨v4,w4,r4,s5⟩:=s4.more Jli 67 ⟨0,d⟩ (C:=#[.int .i64 0,.int .i64 d]) rfl (by rw[Er];omega)
    have R4:=Ja r4
    have S5:=Ja s5
    clear s4 s5 r4 S3
    rw[show(w3.alloc (.cells #[.int .i64 0,.int .i64 d] 80)).heap.size=w3.heap.size+1 by simp] at R4
    simp only[Vr] at R4
    generalize(ZN n k).length=ln at *
    go_wp2_with (at_builtin;refine Jd rfl _ _ _ _ rfl _ _ _ _ rfl rfl R4.out ?_)
    go_roundw
    case rel=>exact⟨k+1,by have:=HL.out;omega,by go_num,fun _=>⟨by have:=HI.out;have:=HD.out;by_cases hk0:0<k;exact(HK.out hk0).1;omega,by have:=HI.out;have:=HD.out;omega⟩,by rw[Jb8,HD.out];exact S5.out.third.drop2⟩
    case measure=>simp[intOf];have:=HL.out;omega
   ·obtain⟨d,hd⟩:∃ d,IntKind.i64.wrap (n+(k:Int))=d:=⟨_,rfl⟩
    have hnn:=HN.out
    have hd2:¬ (0<=d/\d<=63):=by
     rw[IntKind.wrap_i64] at hd
     have h1:=hnn.1
     have h2:=hnn.2
     omega
    have HE:Hid (J4 K n (m:Int)=181):=by
     have:¬ (0<=n/\n<=63/\n+(m:Int)<=64):=by omega
     show J4 K n (m:Int)=181
     unfold J4
     rw[if_neg this]
    have HD2:=Ja hd2
    clear hin hlt hd2 hnn
    go_wp2_with fail
    refine Jqa (Jfx S2.out HD2.out) ?_
    rintro e w3 ⟨rfl,s3⟩
    have S3:=Ja ((s3.box (.cells #[.int .i64 0,.int .i64 0] 80)).drop.drop2.nil (E:=Vr)).swap
    clear s3 S2
    go_wp2
    go_ret2
    rw[HE.out]
    exact⟨_,rfl,[],fun e=>(by cases e),S3.out⟩
  ·have hltz:¬ (k:Int)<(m:Int):=by omega
   obtain rfl:k=m:=by omega
   obtain⟨hz1,hz2⟩:=hk2 (by have:=HM.out.1;omega)
   have hC:=Jad s2 (Jh8 hz1 hz2)
   rw[Jie] at hC
   have HC:=Ja hC
   have HE:Hid (J4 K n (k:Int)=if ((List.range k).all fun i:Nat=>(Jk K (n+(i:Int))).k == 0)=true then 0 else 51):=by
    show J4 K n (k:Int)=_
    have h1:=HM.out.1
    unfold J4
    rw[if_pos ⟨hz1,by omega,hz2⟩,Int.toNat_natCast]
   clear hC s2 hk2 hz1 hz2 hlt hmm hk
   generalize((List.range k).all fun i:Nat=>(Jk K (n+(i:Int))).k == 0)=b at *
   cases b with
   | true =>
    have HE2:Hid (J4 K n (k:Int)=0):=HE.out
    clear HE
    go_wp2_with (go_at_call 298;refine Jqa HC.out ?_;rintro e w3 ⟨rfl,s3⟩;have S3:=Ja s3;clear s3)
    go_ret2
    rw[HE2.out]
    exact⟨_,rfl,_,fun _=>rfl,S3.out⟩
   | false =>
    have HE2:Hid (J4 K n (k:Int)=51):=HE.out
    clear HE
    go_wp2_with (go_at_call 298;refine Jqa HC.out ?_;rintro e w3 ⟨rfl,s3⟩;have S3:=Ja (s3.drop2.nil (E:=Vr)).swap;clear s3)
    go_ret2
    rw[HE2.out]
    exact⟨_,rfl,[],fun e=>(by cases e),S3.out⟩
theorem Ja2 (s:Sep w0 r w (kT p Y K::R)) (hl:K.E.length<=1000) {a n:Int} (c:Sl.Cp) (ha:0<=a/\a<=63) (hn:0<=n/\n<=63) (hc:c.Fits) :
  Calls Tryz.prog 223 #[Je p,.agg #[.int .i64 0,.int .i64 a],.agg #[.int .i64 0,.int .i64 n],.agg #[.int .i64 c.k,.int .i64 c.o,.int .i64 c.r,.int .u64 c.b,.int .u64 c.g,.int .i64 c.z]] w fun e w'=>e=.returned (.tuple #[])/\KS w0 r w' p (Id K a n c) R:=by
 have s1:=(((s.box (.cells #[.int .i64 0,.int .i64 a] 80)).swap.box (.cells #[.int .i64 0,.int .i64 n] 80)).swap.box (.cells #[.int .i64 c.k,.int .i64 c.o,.int .i64 c.r,.int .u64 c.b,.int .u64 c.g,.int .i64 c.z] 82)).swap
 have S1:=Ja s1
 rw[show(w.alloc (.cells #[.int .i64 0,.int .i64 a] 80)).heap.size=w.heap.size+1 by simp,show((w.alloc (.cells #[.int .i64 0,.int .i64 a] 80)).alloc (.cells #[.int .i64 0,.int .i64 n] 80)).heap.size=w.heap.size+2 by simp] at S1
 have HL:=Ja hl
 have HF:=Ja hc
 have HA:=Ja (And.intro ha hn)
 clear s s1 hl hc ha hn
 generalize hw:((w.alloc (.cells #[.int .i64 0,.int .i64 a] 80)).alloc (.cells #[.int .i64 0,.int .i64 n] 80)).alloc (.cells #[.int .i64 c.k,.int .i64 c.o,.int .i64 c.r,.int .u64 c.b,.int .u64 c.g,.int .i64 c.z] 82)=w1 at *
 have HW:=Ja hw
 clear hw
 have c0:=S1.out.k0
 obtain⟨a0,a1,-,-⟩:=S1.out.cells2 (q:=w.heap.size) (a:=.int .i64 0) (b:=.int .i64 a) (ty:=80) (by simp)
 obtain⟨n0,n1,-,-⟩:=S1.out.cells2 (q:=w.heap.size+1) (a:=.int .i64 0) (b:=.int .i64 n) (ty:=80) (by simp)
 obtain⟨e0,e1,e2,e3,e4,e5,-⟩:=S1.out.cells6 (q:=w.heap.size+2) (a:=.int .i64 c.k) (b:=.int .i64 c.o) (c:=.int .i64 c.r) (d:=.int .u64 c.b) (e:=.int .u64 c.g) (f:=.int .i64 c.z) (ty:=82) (by simp)
 have hp:=Jq7 S1.out.drew ⟨0,n⟩ c ⟨⟨by show _<=(0:Int);omega,by show(0:Int)<=_;omega⟩,⟨by have:=HA.out.2.1;show _<=n;omega,by have:=HA.out.2.2;show n<=_;omega⟩⟩ HF.out
 simp only[Sl.Jh,Sl.Jg] at hp
 have HP:=Ja hp
 clear hp
 go_enter Tryz.func223,Tryz.ntmps223
 go_wp2_with (first|rw[HW.out]|fail)
 generalize w.heap.size+2=q3 at *
 generalize w.heap.size+1=q2 at *
 generalize w.heap.size=q at *
 have HA2:Hid (∀ W:World,∀ K',Sep w0 r W (kT p Y K'::blk q3 (.cells #[.int .i64 c.k,.int .i64 c.o,.int .i64 c.r,.int .u64 c.b,.int .u64 c.g,.int .i64 c.z] 82)::blk q2 (.cells #[.int .i64 0,.int .i64 n] 80)::blk q (.cells #[.int .i64 0,.int .i64 a] 80)::R)->W.cell? ⟨p,0,none⟩=some (Je Y.n)/\W.cell? ⟨q2,0,none⟩=some (.int .i64 0)/\W.cell? ⟨q2,1,none⟩=some (.int .i64 n)/\W.cell? ⟨q3,0,none⟩=some (.int .i64 c.k)/\W.cell? ⟨q3,1,none⟩=some (.int .i64 c.o)/\W.cell? ⟨q3,2,none⟩=some (.int .i64 c.r)/\W.cell? ⟨q3,3,none⟩=some (.int .u64 c.b)/\W.cell? ⟨q3,4,none⟩=some (.int .u64 c.g)/\W.cell? ⟨q3,5,none⟩=some (.int .i64 c.z)):=fun W K' s=>by
  obtain⟨n0,n1,-,-⟩:=s.cells2 (q:=q2) (a:=.int .i64 0) (b:=.int .i64 n) (ty:=80) (by simp)
  obtain⟨e0,e1,e2,e3,e4,e5,-⟩:=s.cells6 (q:=q3) (a:=.int .i64 c.k) (b:=.int .i64 c.o) (c:=.int .i64 c.r) (d:=.int .u64 c.b) (e:=.int .u64 c.g) (f:=.int .i64 c.z) (ty:=82) (by simp)
  exact⟨s.k0,n0,n1,e0,e1,e2,e3,e4,e5⟩
 have HB2:Hid (∀ W:World,∀ x K',Sep w0 r W (kT p { Y with tv:=x } K'::blk q3 (.cells #[.int .i64 c.k,.int .i64 c.o,.int .i64 c.r,.int .u64 c.b,.int .u64 c.g,.int .i64 c.z] 82)::blk q2 (.cells #[.int .i64 0,.int .i64 n] 80)::blk q (.cells #[.int .i64 0,.int .i64 a] 80)::R)->W.cell? ⟨p,1,none⟩=some (Je Y.t)/\W.cell? ⟨q,0,none⟩=some (.int .i64 0)/\W.cell? ⟨q,1,none⟩=some (.int .i64 a)/\W.cell? ⟨q2,0,none⟩=some (.int .i64 0)/\W.cell? ⟨q2,1,none⟩=some (.int .i64 n)):=fun W x K' s=>by
  obtain⟨a0,a1,-,-⟩:=s.cells2 (q:=q) (a:=.int .i64 0) (b:=.int .i64 a) (ty:=80) (by simp)
  obtain⟨n0,n1,-,-⟩:=s.cells2 (q:=q2) (a:=.int .i64 0) (b:=.int .i64 n) (ty:=80) (by simp)
  exact⟨s.k1,a0,a1,n0,n1⟩
 have hS:=HA2.out _ _ S1.out.drew
 clear c0 a0 a1 n0 n1 e0 e1 e2 e3 e4 e5
 go_region_held3 (fun W=>W.cell? ⟨p,0,none⟩=some (Je Y.n)/\W.cell? ⟨q2,0,none⟩=some (.int .i64 0)/\W.cell? ⟨q2,1,none⟩=some (.int .i64 n)/\W.cell? ⟨q3,0,none⟩=some (.int .i64 c.k)/\W.cell? ⟨q3,1,none⟩=some (.int .i64 c.o)/\W.cell? ⟨q3,2,none⟩=some (.int .i64 c.r)/\W.cell? ⟨q3,3,none⟩=some (.int .u64 c.b)/\W.cell? ⟨q3,4,none⟩=some (.int .u64 c.g)/\W.cell? ⟨q3,5,none⟩=some (.int .i64 c.z)) (first|with_reducible assumption|with_reducible exact hS) (first|(go_at_call 40;refine Jqa HP.out ?_;rintro e w3 ⟨rfl,s3⟩;have hS3:=HA2.out _ _ s3;have S3:=Ja s3;clear s3))
 clear hS hS3 HA2
 go_wp2_with fail
 have hp:=Jy4 S3.out.drew ⟨0,a⟩ ⟨0,n⟩ HL.out
 simp only[Tr.Jh] at hp
 have HP2:=Ja hp
 have hT:=HB2.out _ _ _ S3.out.drew
 clear hp
 go_region_held3 (fun W=>W.cell? ⟨p,1,none⟩=some (Je Y.t)/\W.cell? ⟨q,0,none⟩=some (.int .i64 0)/\W.cell? ⟨q,1,none⟩=some (.int .i64 a)/\W.cell? ⟨q2,0,none⟩=some (.int .i64 0)/\W.cell? ⟨q2,1,none⟩=some (.int .i64 n)) (first|with_reducible assumption|with_reducible exact hT) (first|(go_at_call 300;refine Jqa HP2.out ?_;rintro e w4 ⟨rfl,x4,s4⟩;have hT4:=HB2.out _ _ _ s4;have S4:=Ja s4.drop2.drop2.drop2;clear s4))
 clear hT hT4
 go_wp2
 exact bodyPost_end (v:=.tuple #[]) (by simp[results,Tryz.results223,go_sem]) rfl ⟨rfl,_,S4.out⟩
theorem Sep.tlM {ao:Option Addr} {L:List Int} (s:Sep w0 r w R) (hm:tlT ao L∈R) {j:Nat} {x:Int} (h:L[j]? = some x):∃ g o,ao=some ⟨g,o,none⟩/\w.cell? ⟨g,o+j,none⟩=some (.int .u64 x):=by
 obtain⟨hl,rfl⟩:=Jqb.1 h
 rcases(s.each _ hm).1 with e|⟨b,o,e,-,hc⟩
 ·rw[e] at hl
  exact absurd hl (Nat.not_lt_zero _)
 ·refine⟨b,o,e,?_⟩
  rw[hc j hl,List.getD_eq_getElem?_getD,h]
  rfl
theorem Sep.fzU (s:Sep w0 r w (kT p Y K::R)) {g n cap:Nat} (hv:Y.uv=.slice (some ⟨g,0,none⟩) n cap) (j:Nat):w.frozen? ⟨g,j,none⟩=false:=by
 obtain⟨Q,s9,-⟩:=s.kU
 rw[hv] at s9
 exact Row.frozen s9.head j
theorem Sep.uncells {q:Nat} {u:Un.Un} (s:Sep w0 r w R) (h:blk q (.cells #[.int .u64 u.base,.int .i64 u.bits,.int .u64 u.used] 70)∈R):w.cell? ⟨q,0,none⟩=some (.int .u64 u.base)/\w.cell? ⟨q,1,none⟩=some (.int .i64 u.bits)/\w.cell? ⟨q,2,none⟩=some (.int .u64 u.used):=
 ⟨(s.blkCell h 0).1,(s.blkCell h 1).1,(s.blkCell h 2).1⟩
theorem Jbz (s:Sep w0 r w (kT p Y K::R)) (d:De) (T:Un.Tab w0) (hr:2 < r) {n m:Nat} (v:Iv n m K) (hm:m<=900000) (hF:∀ l∈K.S,l≠[]) {o:Nat} (ho:d.x.o=(o:Int)) {u:Un.Un} (hu:K.U[o]? = some u) (hf:d.f=d.c.a) (hx:(Jk K d.c.a).k≠0) (hw:VC d.c.w) (hB:VC d.c.B) (hC:VC d.c.C) (hcore:Th.OQ K.h d.core) :
  Calls Tryz.prog 125 #[Je p,JD d] w fun e w'=>e=.returned (Jf (Zt K d.c o) 0 (-1) (.slice none 0 0))/\KS w0 r w' p (Ze K d.core d.c o) R:=by
 have S1:=Ja (s.deed d)
 obtain⟨w1,hw⟩:∃ w1,(w.alloc (Jp d)).alloc (Ji 0 0 0 (.slice none 0 0))=w1:=⟨_,rfl⟩
 rw[hw] at S1
 have HW:=Ja hw
 unfold Jp Ji at HW
 clear s hw
 obtain⟨E,hE⟩:∃ E,Un.plE u d.c.A d.c.B d.c.C=E:=⟨_,rfl⟩
 obtain⟨x,hxu⟩:∃ x,Un.plU u d.c.A d.c.B d.c.C=x:=⟨_,rfl⟩
 obtain⟨L,hL⟩:∃ L,Un.GF u d.c.A d.c.B d.c.C=L:=⟨_,rfl⟩
 obtain⟨z,hz⟩:∃ z,L.length=z:=⟨_,rfl⟩
 have huN:FQ K (o:Int)=u:=by unfold FQ;rw[Int.toNat_natCast,List.getD_eq_getElem?_getD,hu];rfl
 have HU:=Ja (And.intro hE (And.intro hxu (And.intro hL (And.intro hz huN))))
 have HV:=Ja (And.intro v (And.intro hm (And.intro hF (And.intro hx (And.intro hcore hf)))))
 have HI:=Ja (And.intro hw (And.intro hB hC))
 have HO:=Ja hu
 have HT:=Ja (And.intro T hr)
 have hol:(o:Int)<(K.U.length:Int):=by have:=(Jqb.1 hu).1;omega
 have hoz:(0:Int)<=(o:Int):=by omega
 have hon:(o:Int).toNat=o:=by omega
 have HX:=Ja ho
 obtain⟨ao3,cap3,hv3,hp3⟩:=S1.out.unPtr
 obtain⟨g3,rfl,-⟩:=hp3 o u hu
 have HG:=Ja hv3
 obtain⟨ku,hku⟩:∃ ku,K.U.length=ku:=⟨_,rfl⟩
 rw[hku] at hv3 hol
 have HKU:=Ja hku
 have HY:=Ja hv3
 clear v hm hF hE hxu hL hz huN hx hw hB hC hcore hu T hr ho hf hp3 hv3 HG hku
 unfold JD
 go_enter Tryz.func125,Tryz.ntmps125
 go_wp2_with (first|rw[HW.out]|fail)
 generalize w.heap.size+1=q2 at *
 generalize w.heap.size=q at *
 have HS:Hid (∀ (W:World) (T:List Th),Sep w0 r W (kT p Y K::T)->blk q (Jp d)∈T->W.cell? ⟨p,4,none⟩=some (.slice (some ⟨g3,0,none⟩) ku cap3)/\W.cell? ⟨q,11,none⟩=some (.int .i64 (o:Int))/\W.cell? ⟨g3,o*3,none⟩=some (.int .u64 u.base)/\W.cell? ⟨g3,o*3+1,none⟩=some (.int .i64 u.bits)/\W.cell? ⟨g3,o*3+2,none⟩=some (.int .u64 u.used)/\W.cell? ⟨q,3,none⟩=some (.int .i64 d.c.A)/\W.cell? ⟨q,4,none⟩=some (.int .i64 d.c.B)/\W.cell? ⟨q,5,none⟩=some (.int .i64 d.c.C)):=by
  refine fun W T s h=>?_
  have k:=s.k4
  rw[HY.out] at k
  have hq:=(s.blkCell (p:=q) (Jmc h) 11).1
  obtain⟨ao4,cap4,hv4,hp4⟩:=s.unPtr
  rw[HY.out] at hv4
  cases hv4
  obtain⟨g4,e4,c0,c1,c2⟩:=hp4 o u HO.out
  cases e4
  refine⟨k,?_,c0,c1,c2,(s.blkCell (p:=q) (Jmc h) 3).1,(s.blkCell (p:=q) (Jmc h) 4).1,(s.blkCell (p:=q) (Jmc h) 5).1⟩
  rw[<- HX.out]
  exact hq
 have HUF:Hid u.Fits:=Ja (HV.out.1.un u (Jqi HO.out))
 have SB:=Ja ((S1.out.box (.cells #[.int .u64 0,.int .i64 0,.int .u64 0] 70)).to4.drew)
 have hk:=Jfc S1.out.drew HT.out.1 HT.out.2 HUF.out d.c.A HI.out.2.1 HI.out.2.2 HU.out.1 HU.out.2.1 HU.out.2.2.1 HU.out.2.2.2.1
 have HK:=Ja hk
 clear hk
 have hk:=Jfc SB.out HT.out.1 HT.out.2 HUF.out d.c.A HI.out.2.1 HI.out.2.2 HU.out.1 HU.out.2.1 HU.out.2.2.1 HU.out.2.2.2.1
 have HKB:=Ja hk
 clear hk
 go_cut [5,6,7] from 12 to 33 (fun sa sb sc wx=>∃ k ao cap,sa=.slice ao z cap/\sb=.pointer (some ⟨k,0,none⟩)/\sc=.int .i64 E/\Sep w0 r wx (kT p Y K::blk q2 (Ji 0 0 0 (.slice none 0 0))::blk q (Jp d)::tlT ao L::blk k (.cells #[.int .u64 x.base,.int .i64 x.bits,.int .u64 x.used] 70)::R))
 case first =>
  have hS:=HS.out _ _ (S1.out.drew) (by simp)
  have hSB:=HS.out _ _ (SB.out) (by simp)
  go_region_held3 (fun W=>W.cell? ⟨p,4,none⟩=some (.slice (some ⟨g3,0,none⟩) ku cap3)/\W.cell? ⟨q,11,none⟩=some (.int .i64 (o:Int))/\W.cell? ⟨g3,o*3,none⟩=some (.int .u64 u.base)/\W.cell? ⟨g3,o*3+1,none⟩=some (.int .i64 u.bits)/\W.cell? ⟨g3,o*3+2,none⟩=some (.int .u64 u.used)/\W.cell? ⟨q,3,none⟩=some (.int .i64 d.c.A)/\W.cell? ⟨q,4,none⟩=some (.int .i64 d.c.B)/\W.cell? ⟨q,5,none⟩=some (.int .i64 d.c.C)) (first|with_reducible assumption|with_reducible exact hS|with_reducible exact hSB) (first|(go_at_call 220;(with_reducible refine Jqa HKB.out ?_);rintro e w3 ⟨ao,cap,rfl,s3⟩;have hS3:=HS.out _ _ (s3) (by simp);have s4:=s3.perm (List.perm_middle (l₁:=[_,_,_,_]));obtain⟨mf0,mz0,mz1,mz2⟩:=s4.zUn (Jms);have s5:=s4.putUn x;have s6:=(s5.perm (List.perm_middle (l₁:=[_,_,_,_])).symm);have hS6:=HS.out _ _ (s6) (by simp);have S6:=Ja (s6.perm (.cons _ ((List.perm_middle (l₁:=[_,_])).symm)));clear s3 s4 s5 s6)|(go_at_call 220;(with_reducible refine Jqa HK.out ?_);rintro e w3 ⟨ao,cap,rfl,s3⟩;have hS3:=HS.out _ _ (s3) (by simp);have s4:=(s3.box (.cells #[.int .u64 0,.int .i64 0,.int .u64 0] 70)).swap;have hS4:=HS.out _ _ (s4) (by simp);have s6:=(s3.box (.cells #[.int .u64 x.base,.int .i64 x.bits,.int .u64 x.used] 70)).swap;have hS6:=HS.out _ _ (s6) (by simp);have S6:=Ja (s6.perm (.cons _ ((List.perm_middle (l₁:=[_,_,_])).symm.trans (List.perm_middle (l₁:=[_,_])).symm)));clear s3 s4 s6))
  all_goals go_wp2_with fail
  all_goals go_meet
  all_goals exact⟨_,_,_,rfl,rfl,rfl,S6.out⟩
 case rest =>
  obtain⟨k,ao,cap,rfl,rfl,rfl,s6⟩:=hcut
  have S6:=Ja s6
  clear S1 SB HK HKB s6
  by_cases hE0:E=0
  ·skip
   subst hE0
   have hpE:=HU.out.1
   have hfd:=(Un.XV u d.c.A d.c.B d.c.C).1 hpE
   have hC64:1<=d.c.C/\d.c.C<=64:=hfd.n0
   have hA8:=Jpx hfd.sz
   have hzC:(z:Int)=d.c.C:=by rw[<- HU.out.2.2.2.1,<- HU.out.2.2.1,Jd6 hfd];omega
   have hz1:1<=z:=by omega
   have h6:(K.S.getD 0 []).length=64:=HV.out.1.ts.n0
   have dc2:_=some (Value.int .i64 d.c.w):=(S6.out.blkCell (p:=q) (Jmc (Jmc (Jms))) 2).1
   obtain⟨FE,hFE⟩:∃ FE,J4 K d.c.w (z:Int)=FE:=⟨_,rfl⟩
   have hfr:=Jam S6.out h6 (n:=d.c.w) (m:=z) hz1 (by omega) HI.out.1
   rw[hFE] at hfr
   have HFR:=Ja hfr
   have HFE:=Ja (And.intro hFE (And.intro hpE (And.intro hC64 (And.intro hA8 (And.intro hzC hfd)))))
   clear hfr hFE hpE hC64 hA8 hfd h6 hz1 hzC
   have hz2:Hid (1<=z/\z<=64):=by have h1:=HFE.out.2.2.1;have h2:=HFE.out.2.2.2.2.1;refine⟨?_,?_⟩<;>omega
   by_cases hF0:FE=0
   ·subst hF0
    obtain⟨bb,hbb⟩:∃ bb,((d.c.A == 2 && decide (64<(K.S.length:Int)+(z:Int))) || (d.c.A == 3 && decide (64<(K.h.L.length:Int)+(z:Int))))=bb:=⟨_,rfl⟩
    have HHR:Hid (∀ (W:World) (T:List Th),Sep w0 r W (kT p Y K::T)->Calls Tryz.prog 222 #[Je p,.int .i64 d.c.A,.int .i64 (z:Int)] W fun e w'=>e=.returned (.bool (!bb))/\Sep w0 r w' (kT p Y K::T)):=fun W T s=>by
     have h:=Jay s HV.out.2.2.1 d.c.A (C:=(z:Int)) (by have:=hz2.out;omega)
     rw[hbb] at h
     exact h
    have HBB:Hid (Jcs K d.c=bb):=by
     show Jcs K d.c=bb
     unfold Jcs
     rw[<- HFE.out.2.2.2.2.1,hbb]
    have HRE:Hid (Zt K d.c o=if bb=true then 2 else 0):=by
     show Zt K d.c o=if bb=true then 2 else 0
     unfold Zt
     rw[HU.out.2.2.2.2,if_neg (by rw[HFE.out.2.1];simp),<- HFE.out.2.2.2.2.1,HFE.out.1,if_neg (by simp),show Jcs K d.c=bb from HBB.out]
    clear hbb
    cases bb
    ·skip
     simp only[Bool.not_false] at HHR
     rw[if_neg (by decide)] at HRE
     have HIvs:Hid ((0<=d.c.w/\d.c.w<=63/\d.c.w+d.c.C<=64)/\(1<=d.c.A/\d.c.A<=8)/\∀ j,Iv n (m+64) (Xe d.c.a d.core d.c.A d.c.B { K with U:=K.U.set o x } d.c.w (L.take j))):=by
      have h:=HV.out.1.retypes HV.out.2.1 d.core d.c HI.out.2.1 HV.out.2.2.2.2.1 HV.out.2.2.2.1 (o:Int) HRE.out
      rw[HU.out.2.2.2.2,HU.out.2.1,HU.out.2.2.1] at h
      exact h
     have HFR2:Hid (Calls Tryz.prog 221 #[Je p,.int .i64 d.c.w,.int .i64 (z:Int)] _ fun e w'=>∃ ao7 cap7,e=.returned (.tuple #[.slice ao7 z cap7,.int .i64 0])/\Sep w0 r w' (kT p Y K::Jv Vr (.slice ao7 z cap7) (ZN d.c.w z)::blk q2 (Ji 0 0 0 (.slice none 0 0))::blk q (Jp d)::tlT ao L::blk k (.cells #[.int .u64 x.base,.int .i64 x.bits,.int .u64 x.used] 70)::R)):=Ja (Jqa HFR.out (by
      rintro e w' ⟨v7,rfl,L7,hL7,s7⟩
      obtain rfl:=hL7 (by trivial)
      obtain⟨ao7,cap7,rfl⟩:=s7.listIs (E:=Vr) (v:=v7) (A:=ZN d.c.w z) (by simp)
      rw[Er] at s7 ⊢
      exact⟨ao7,cap7,rfl,s7⟩))
     clear HFR
     have HRK:Hid (Ze K d.core d.c o=Xe d.c.a d.core d.c.A d.c.B { K with U:=K.U.set o x } d.c.w L):=by
      show Ze K d.core d.c o=_
      unfold Ze
      rw[HRE.out,if_pos rfl,HU.out.2.2.2.2,HU.out.2.1,HU.out.2.2.1]
      rfl
     go_wp2_with (first|(go_at_call 221;refine Jqa HFR2.out ?_;rintro e w4 ⟨ao7,cap7,rfl,s7⟩;have dc3:_=some (Value.int .i64 d.c.A):=(s7.blkCell (p:=q) (Jmc (Jmc (Jmc (Jms)))) 3).1;have S7:=Ja s7;clear s7)|(go_at_call 222;refine Jqa (HHR.out _ _ S7.out) ?_;rintro e w5 ⟨rfl,s8⟩;have S8:=Ja s8;clear s8 dc3)|fail)
     have S9:=Ja (S8.out.putMem HY.out HO.out x).drew
     obtain⟨k0,k1,k2⟩:=S8.out.uncells (q:=k) (u:=x) (by simp)
     obtain⟨m0,m1,m2,m3,m4,-⟩:=HS.out _ _ S8.out (by simp)
     have hfz:=S8.out.fzU HY.out
     go_region
     go_wp2_with fail
     clear k0 k1 k2 m0 m1 m2 m3 m4 hfz S7 S8 S6
     go_loopw [9,10,72] (fun _ _ s72 wr=>∃ (j:Nat) (Y':Ly),j<=z/\s72=.int .i64 j/\Sep w0 r wr (kT p Y' (Xe d.c.a d.core d.c.A d.c.B { K with U:=K.U.set o x } d.c.w (L.take j))::Jv Vr (.slice ao7 z cap7) (ZN d.c.w z)::blk q2 (Ji 0 0 0 (.slice none 0 0))::blk q (Jp d)::tlT ao L::blk k (.cells #[.int .u64 x.base,.int .i64 x.bits,.int .u64 x.used] 70)::R)) (fun _ _ s72 _=>z - (intOf s72).toNat)
     case atStart=>exact⟨0,_,Jqp _,rfl,S9.out⟩
     case round =>
      clear S9
      obtain⟨j,Y',hj,rfl,s2⟩:=hrel
      by_cases hlt:j<z
      ·have hltz:(j:Int)<(z:Int):=by omega
       have hLz:L.length=z:=HU.out.2.2.2.1
       obtain⟨y,hy⟩:∃ y,L[j]? = some y:=⟨_,Jqc (by omega)⟩
       obtain⟨gt,ot,rfl,-⟩:=s2.tlM (ao:=ao) (L:=L) (by simp) hy
       have hsl:(ZN d.c.w z)[j]? = some ⟨0,d.c.w+(j:Int)⟩:=by
        unfold ZN
        rw[List.getElem?_map,List.getElem?_range hlt]
        rfl
       obtain⟨g7,rfl,hc⟩:=s2.listAt Jli (ao:=ao7) (n:=z) (cap:=cap7) (A:=ZN d.c.w z) (by simp) hsl
       have d0:=hc 0 (.int .i64 0) rfl
       have d1:=hc 1 (.int .i64 (d.c.w+(j:Int))) rfl
       rw[show Vr.k=2 from rfl] at d0 d1
       rw[Nat.add_zero] at d0
       have hmore:Xe d.c.a d.core d.c.A d.c.B { K with U:=K.U.set o x } d.c.w (L.take (j+1))=Id (Zh (Xe d.c.a d.core d.c.A d.c.B { K with U:=K.U.set o x } d.c.w (L.take j)) d.c.A d.c.B d.core y) d.c.a (d.c.w+(j:Int)) ⟨d.c.A,madeN (Xe d.c.a d.core d.c.A d.c.B { K with U:=K.U.set o x } d.c.w (L.take j)) d.c.A d.c.B d.core,7,0,0,0⟩:=by
        obtain⟨hjl,e⟩:=Jqb.1 hy
        rw[List.take_succ_eq_append_getElem hjl,e,OS,show((L.take j).length:Int)=(j:Int) by rw[List.length_take];omega]
       have hvj:=HIvs.out.2.2 j
       obtain⟨Kj,hKj⟩:∃ Kj,Xe d.c.a d.core d.c.A d.c.B { K with U:=K.U.set o x } d.c.w (L.take j)=Kj:=⟨_,rfl⟩
       rw[hKj] at hmore hvj s2
       obtain⟨N1,hN1⟩:∃ N1,madeN Kj d.c.A d.c.B d.core=N1:=⟨_,rfl⟩
       obtain⟨K1,hK1⟩:∃ K1,Zh Kj d.c.A d.c.B d.core y=K1:=⟨_,rfl⟩
       rw[hN1,hK1] at hmore
       have HM:=Ja hmore
       have HOB:Hid (∀ (W:World) (Y2:Ly) (T:List Th),Sep w0 r W (kT p Y2 Kj::T)->Calls Tryz.prog 224 #[Je p,.int .i64 d.c.A,.int .i64 d.c.B,.int .u64 y,.int .i64 d.core] W fun e w'=>e=.returned (.int .i64 N1)/\KS w0 r w' p K1 T):=fun W Y2 T s=>by
        have h:=Jd2 s HIvs.out.2.1 d.c.B y d.core (hvj.objs (by have:=HV.out.2.1;omega))
        rw[hN1,hK1] at h
        exact h
       have HHD:Hid (∀ (W:World) (Y2:Ly) (T:List Th),Sep w0 r W (kT p Y2 K1::T)->Calls Tryz.prog 223 #[Je p,.agg #[.int .i64 0,.int .i64 d.f],.agg #[.int .i64 0,.int .i64 (d.c.w+(j:Int))],.agg #[.int .i64 d.c.A,.int .i64 N1,.int .i64 7,.int .u64 0,.int .u64 0,.int .i64 0]] W fun e w'=>e=.returned (.tuple #[])/\KS w0 r w' p (Id K1 d.c.a (d.c.w+(j:Int)) ⟨d.c.A,N1,7,0,0,0⟩) T):=fun W Y2 T s=>by
        have hbd:=Jot hvj (by have:=HV.out.2.1;omega) d.c.A d.c.B d.core
        rw[hN1] at hbd
        have h:=Ja2 s (by rw[<- hK1,Jor];have:=IX hvj.ts;omega) (a:=d.c.a) (n:=d.c.w+(j:Int)) ⟨d.c.A,N1,7,0,0,0⟩ (Jjq HV.out.2.2.2.1) (by have h1:=HIvs.out.1;have h2:=HFE.out.2.2.2.2.1;omega) (Fw HIvs.out.2.1 hbd).2
        rw[HV.out.2.2.2.2.2]
        exact h
       have HJ:=Ja hlt
       have S3:=Ja ((s2.box (.cells #[.int .i64 0,.int .i64 (d.c.w+(j:Int))] 80)).swap)
       have HS3:Hid (∀ (W:World) (T:List Th),Sep w0 r W T->blk q (Jp d)∈T->blk wr.heap.size (.cells #[.int .i64 0,.int .i64 (d.c.w+(j:Int))] 80)∈T->tlT (some ⟨gt,ot,none⟩) L∈T->W.cell? ⟨q,8,none⟩=some (.int .i64 0)/\W.cell? ⟨q,9,none⟩=some (.int .i64 d.f)/\W.cell? ⟨q,3,none⟩=some (.int .i64 d.c.A)/\W.cell? ⟨q,4,none⟩=some (.int .i64 d.c.B)/\W.cell? ⟨q,6,none⟩=some (.int .i64 d.core)/\W.cell? ⟨wr.heap.size,0,none⟩=some (.int .i64 0)/\W.cell? ⟨wr.heap.size,1,none⟩=some (.int .i64 (d.c.w+(j:Int)))/\W.cell? ⟨gt,ot+j,none⟩=some (.int .u64 y)):=fun W T s h1 h2 h3=>by
        obtain⟨ga,oa,e,ht⟩:=s.tlM h3 hy
        cases e
        exact⟨(s.blkCell h1 8).1,(s.blkCell h1 9).1,(s.blkCell h1 3).1,(s.blkCell h1 4).1,(s.blkCell h1 6).1,(s.blkCell h2 0).1,(s.blkCell h2 1).1,ht⟩
       have hS:=HS3.out _ _ S3.out.drew (by simp) (by simp) (by simp)
       clear s2 hc hsl hy hmore hvj hKj hN1 hK1 hj hlt hLz
       go_wp2_with fail
       generalize wr.heap.size=xb at *
       go_region_held3 (fun W=>W.cell? ⟨q,8,none⟩=some (.int .i64 0)/\W.cell? ⟨q,9,none⟩=some (.int .i64 d.f)/\W.cell? ⟨q,3,none⟩=some (.int .i64 d.c.A)/\W.cell? ⟨q,4,none⟩=some (.int .i64 d.c.B)/\W.cell? ⟨q,6,none⟩=some (.int .i64 d.core)/\W.cell? ⟨xb,0,none⟩=some (.int .i64 0)/\W.cell? ⟨xb,1,none⟩=some (.int .i64 (d.c.w+(j:Int)))/\W.cell? ⟨gt,ot+j,none⟩=some (.int .u64 y)) (first|with_reducible assumption|with_reducible exact hS) (first|(go_at_call 224;refine Jqa (HOB.out _ _ _ S3.out.drew) ?_;rintro e w6 ⟨rfl,Y6,s6⟩;have hS6:=HS3.out _ _ s6 (by simp) (by simp) (by simp);have S6:=Ja s6;clear s6)|(go_at_call 34;refine Jqa (X8 _ _ _) ?_;rintro e w7 ⟨rfl,b7⟩;have s7:=S6.out.below b7;have hS7:=HS3.out _ _ s7 (by simp) (by simp) (by simp);have S7:=Ja s7;clear s7 b7;simp only[EF])|(go_at_call 223;refine Jqa (HHD.out _ _ _ S7.out) ?_;rintro e w8 ⟨rfl,Y8,s8⟩;have hS8:=HS3.out _ _ s8 (by simp) (by simp) (by simp);have S8:=Ja s8.drop2;clear s8))
       have hwj:IntKind.i64.wrap ((j:Int)+1)=(j:Int)+1:=by have h1:=hz2.out;have h2:=HJ.out;rw[IntKind.wrap_i64];omega
       go_wp2_with fail
       go_roundw
       case rel=>exact⟨j+1,Y8,by have:=HJ.out;omega,rfl,by rw[HM.out];exact S8.out⟩
       case measure=>simp[intOf];have:=HJ.out;omega
      ·have hltz:¬ (j:Int)<(z:Int):=by omega
       obtain rfl:j=z:=by omega
       rw[show L.take j=L by rw[<- HU.out.2.2.2.1,List.take_length]] at s2
       have S2:=Ja s2
       clear s2
       go_wp2_with (first|(go_at_call 60;refine Jqa (JI _ _) ?_;rintro e w9 ⟨rfl,b9⟩;have s9:=((S2.out.third.third.swap).below b9);obtain⟨t0,t1,t2,t3,f0,f1,f2,f3⟩:=s9.swap.cells4 (Jms);have s10:=s9.swap.put4 0 0 (-1) (.slice none 0 0);have S10:=Ja s10;clear s9 s10;simp only[Jf])|fail)
       obtain⟨g0,g1,g2,g3,-⟩:=S10.out.cells4 (Jms)
       have G10:=Ja (And.intro (And.intro g0 g1) (And.intro g2 g3))
       clear g0 g1 g2 g3
       go_wp2
       refine bodyPost_ret (v:=Jf 0 0 (-1) (.slice none 0 0)) ?_ rfl ⟨by rw[HRE.out],_,by rw[HRK.out];exact S10.out.drop.drop2.drop2.drop2.drop2⟩
       simp[results,Tryz.f125,go_sem,Jf,G10.out.1.1,G10.out.1.2,G10.out.2.1,G10.out.2.2]
    ·simp only[Bool.not_true] at HHR
     rw[if_pos rfl] at HRE
     have HRK:Hid (Ze K d.core d.c o=K):=by
      show Ze K d.core d.c o=K
      unfold Ze
      rw[HRE.out,if_neg (by decide)]
     go_wp2_with (first|(go_at_call 221;refine Jqa HFR.out ?_;rintro e w4 ⟨v7,rfl,L7,hL7,s7⟩;have dc3:_=some (Value.int .i64 d.c.A):=(s7.blkCell (p:=q) (Jmc (Jmc (Jmc (Jms)))) 3).1;have S7:=Ja s7;have H7:=Ja hL7;clear s7 hL7)|(go_at_call 222;refine Jqa (HHR.out _ _ S7.out) ?_;rintro e w5 ⟨rfl,s8⟩;have S8:=Ja s8;clear s8 dc3)|(go_at_call 60;refine Jqa (JI _ _) ?_;rintro e w9 ⟨rfl,b9⟩;have s9:=((S8.out.third.third.swap).below b9);obtain⟨t0,t1,t2,t3,f0,f1,f2,f3⟩:=s9.swap.cells4 (Jms);have s10:=s9.swap.put4 2 0 (-1) (.slice none 0 0);have S10:=Ja s10;clear s9 s10;simp only[Jf])|fail)
     obtain⟨g0,g1,g2,g3,-⟩:=S10.out.cells4 (Jms)
     have G10:=Ja (And.intro (And.intro g0 g1) (And.intro g2 g3))
     clear g0 g1 g2 g3
     go_wp2
     refine bodyPost_ret (v:=Jf 2 0 (-1) (.slice none 0 0)) ?_ rfl ⟨by rw[HRE.out],_,by rw[HRK.out];exact S10.out.drop.drop2.drop2.drop2.drop2⟩
     simp[results,Tryz.f125,go_sem,Jf,G10.out.1.1,G10.out.1.2,G10.out.2.1,G10.out.2.2]
   ·have hb:(FE == 0)=false:=by simpa using hF0
    have hb2:(FE != 0)=true:=by simpa using hF0
    have HRE:Hid (Zt K d.c o=FE):=by
     show Zt K d.c o=FE
     unfold Zt
     rw[HU.out.2.2.2.2,if_neg (by rw[HFE.out.2.1];simp),<- HFE.out.2.2.2.2.1,HFE.out.1,if_pos hF0]
    have HRK:Hid (Ze K d.core d.c o=K):=by
     show Ze K d.core d.c o=K
     unfold Ze
     rw[HRE.out,if_neg hF0]
    clear hF0
    go_wp2_with (first|(go_at_call 221;refine Jqa HFR.out ?_;rintro e w4 ⟨v7,rfl,L7,hL7,s7⟩;have S7:=Ja s7;have H7:=Ja hL7;clear s7 hL7)|(go_at_call 60;refine Jqa (JI _ _) ?_;rintro e w9 ⟨rfl,b9⟩;have s9:=((S7.out.third.third.swap).below b9);obtain⟨t0,t1,t2,t3,f0,f1,f2,f3⟩:=s9.swap.cells4 (Jms);have s10:=s9.swap.put4 FE 0 (-1) (.slice none 0 0);have S10:=Ja s10;clear s9 s10;simp only[Jf])|fail)
    obtain⟨g0,g1,g2,g3,-⟩:=S10.out.cells4 (Jms)
    have G10:=Ja (And.intro (And.intro g0 g1) (And.intro g2 g3))
    clear g0 g1 g2 g3
    go_wp2
    refine bodyPost_ret (v:=Jf FE 0 (-1) (.slice none 0 0)) ?_ rfl ⟨by rw[HRE.out],_,by rw[HRK.out];exact S10.out.drop.drop2.drop2.drop2.drop2⟩
    simp[results,Tryz.f125,go_sem,Jf,G10.out.1.1,G10.out.1.2,G10.out.2.1,G10.out.2.2]
  ·have hb:(E == 0)=false:=by simpa using hE0
   have hb2:(E != 0)=true:=by simpa using hE0
   have HRE:Hid (Zt K d.c o=E):=by
    show Zt K d.c o=E
    unfold Zt
    rw[HU.out.2.2.2.2,HU.out.1,if_pos hE0]
   have HRK:Hid (Ze K d.core d.c o=K):=by
    show Ze K d.core d.c o=K
    unfold Ze
    rw[HRE.out,if_neg hE0]
   clear hE0
   go_wp2_with (first|(go_at_call 60;refine Jqa (JI _ _) ?_;rintro e w9 ⟨rfl,b9⟩;have s9:=(S6.out.below b9);obtain⟨t0,t1,t2,t3,f0,f1,f2,f3⟩:=s9.swap.cells4 (Jms);have s10:=s9.swap.put4 E 0 (-1) (.slice none 0 0);have S10:=Ja s10;clear s9 s10;simp only[Jf])|fail)
   obtain⟨g0,g1,g2,g3,-⟩:=S10.out.cells4 (Jms)
   have G10:=Ja (And.intro (And.intro g0 g1) (And.intro g2 g3))
   clear g0 g1 g2 g3
   go_wp2
   refine bodyPost_ret (v:=Jf E 0 (-1) (.slice none 0 0)) ?_ rfl ⟨by rw[HRE.out],_,by rw[HRK.out];exact S10.out.drop.drop2.drop2.drop2⟩
   simp[results,Tryz.f125,go_sem,Jf,G10.out.1.1,G10.out.1.2,G10.out.2.1,G10.out.2.2]
end
end
end Go.Proofs.YtbfjjpdnoalojaaGreatDoor
