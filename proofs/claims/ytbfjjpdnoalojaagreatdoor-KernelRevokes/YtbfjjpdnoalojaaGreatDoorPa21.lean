/- Below: KCa; no condition. -/
import Derived.Test.YtbfjjpdnoalojaaGreatDoorPa2
import Derived.Test.YtbfjjpdnoalojaaGreatDoorRows
import Derived.WalkKit
import Derived.WalkLawsBesides
import Derived.Deep.QuietTactic
import Derived.BigQuiet
import Derived.Laws.StructEq
import Derived.Below
import Derived.Deep.OwnRows
import Derived.Deep.RegionWith
import Derived.Deep.RegionHeld3
import Derived.Deep.Cut
set_option maxHeartbeats 16000000
set_option maxRecDepth 100000
set_option linter.unusedSectionVars false
namespace Go.Proofs.YtbfjjpdnoalojaaGreatDoor
namespace Ca
open Go.RowKit
variable [dCp:DecidableEq Cp] [dLim:∀ k,Decidable (ZV k)] [dBad:∀ k,Decidable (Xn k)] [dFit:∀ g z,Decidable (Fit g z)] [dFine:∀ c,Decidable (Fine c)] [dMint:∀ c v,Decidable (JK c v)] [dWho:∀ x y,Decidable (Zx x y)]
theorem Jm {k:IntKind} {a b:Int} (h:a=b):Ending.returned (.int k a)=.returned (.int k b):=by rw[h]
theorem Vi (n:Int) (w:World) (h0:0<=n) (h1:n<=64) :
  Calls Tryz.prog 343 #[.int .i64 n] w fun e w'=>e=.returned (.int .u64 (Jr n))/\w'=w:=by
 go_enter Tryz.func343,Tryz.ntmps343
 go_wp2
 go_ret
 exact⟨Jm (XZ n h0 h1),rfl⟩
theorem AY (n:Int) (w:World) (h0:0<=n) (h1:n<=64) :
  Calls Tryz.prog 344 #[.int .i64 n] w fun e w'=>e=.returned (.tuple #[.int .u64 (Jr n),.int .i64 0])/\w'=w:=by
 go_enter Tryz.func344,Tryz.ntmps344
 go_wp2_with (go_at_call 343;refine(Vi _ _ (by omega) (by omega)).mono ?_;rintro e w' ⟨rfl,rfl⟩)
 go_ret2
 exact⟨rfl,rfl⟩
theorem Gv (n:Int) (w:World) (h:¬ (0<=n/\n<=64)) :
  Calls Tryz.prog 344 #[.int .i64 n] w fun e w'=>e=.returned (.tuple #[.int .u64 0,.int .i64 1])/\w'=w:=by
 by_cases c:0<=n
 ·have c2:64<n:=by omega
  clear h
  go_enter Tryz.func344,Tryz.ntmps344
  go_wp2
  go_ret2
  exact⟨rfl,rfl⟩
 ·clear h
  go_enter Tryz.func344,Tryz.ntmps344
  go_wp2
  go_ret2
  exact⟨rfl,rfl⟩
open Go.Deep
def Jg (c:Cp):Value:=.agg #[.int .i64 c.k,.int .i64 c.o,.int .i64 c.r,.int .u64 c.b,.int .u64 c.g,.int .i64 c.z]
def Jn (c:Cp):Obj:=.cells #[.int .i64 c.k,.int .i64 c.o,.int .i64 c.r,.int .u64 c.b,.int .u64 c.g,.int .i64 c.z] 82
theorem Jb (w:World) (o:Obj):Below w.heap.size w (w.alloc o):=(Below.refl _ _).alloc (Nat.le_refl _) _
theorem Below.then {B:Nat} {a b c:World} (h:Below B a b) (k:Below b.heap.size b c) (hB:B<=b.heap.size):Below B a c:=h.trans (k.mono hB)
def AtC (w:World) (q:Nat) (c:Cp):Prop:=w.heap[q]? = some (Jn c)
theorem AtC.lt {w:World} {q:Nat} {c:Cp} (h:AtC w q c):q<w.heap.size:=(Array.getElem?_eq_some_iff.1 h).1
theorem AtC.new (w:World) (c:Cp):AtC (w.alloc (Jn c)) w.heap.size c:=blk_alloc_new _ _
theorem AtC.below {w w':World} {q:Nat} {c:Cp} (h:AtC w q c) (u:Below w.heap.size w w'):AtC w' q c:=(u.block _ h.lt).trans h
theorem AtC.cells {w:World} {q:Nat} {c:Cp} (h:AtC w q c):w.cell? ⟨q,0,none⟩=some (.int .i64 c.k)/\w.cell? ⟨q,1,none⟩=some (.int .i64 c.o)/\w.cell? ⟨q,2,none⟩=some (.int .i64 c.r)/\w.cell? ⟨q,3,none⟩=some (.int .u64 c.b)/\w.cell? ⟨q,4,none⟩=some (.int .u64 c.g)/\w.cell? ⟨q,5,none⟩=some (.int .i64 c.z):=by
 unfold AtC Jn at h
 refine⟨?_,?_,?_,?_,?_,?_⟩<;>simp[World.cell?,h]
theorem AtC.frozen {w:World} {q:Nat} {c:Cp} (h:AtC w q c) (j:Nat):w.frozen? ⟨q,j,none⟩=false:=by
 unfold AtC Jn at h
 simp[World.frozen?,h]
theorem Iy (w:World) (a c:Cp) :
  (Op.equalIn 10000 82 (.agg #[.int .i64 a.k,.int .i64 a.o,.int .i64 a.r,.int .u64 a.b,.int .u64 a.g,.int .i64 a.z]) (.agg #[.int .i64 c.k,.int .i64 c.o,.int .i64 c.r,.int .u64 c.b,.int .u64 c.g,.int .i64 c.z])).run Tryz.prog w
   = .ok (decide (a=c)) w:=by
 have u3:=Tryz.underlying3
 have u4:=Tryz.underlying39
 have a3:=Tryz.isAgg3
 have a4:=Tryz.isAgg39
 have z3:=Tryz.sizeOf3
 have z4:=Tryz.sizeOf39
 have hS:Tryz.prog.underlying 82 = some (.struct (Tryz.prog.fieldsOf 82)):=by kernel_rfl
 have hp:Tryz.prog.stoodInHeld 82 = false:=by kernel_rfl
 rw[show(10000:Nat)=9999+1 from rfl,run_equalIn_agg w 9999 82 _ _ hS hp]
 simp only[Program.fieldsOf,Tryz.underlying82]
 go_simp
 obtain⟨k,o,r,b,g,z⟩:=a
 obtain⟨k',o',r',b',g',z'⟩:=c
 by_cases h1:k=k'<;>by_cases h2:o=o'<;>by_cases h3:r=r'<;>by_cases h4:b=b'<;>by_cases h5:g=g'<;>by_cases h6:z=z'<;>simp[h1,h2,h3,h4,h5,h6]
theorem Js {a b:Bool} (h:a=true↔b=true):Ending.returned (.bool a)=.returned (.bool b):=by rw[Bool.eq_iff_iff.2 h]
theorem J0 (w:World) (o o':Obj):Below w.heap.size w ((w.alloc o).alloc o'):=((Below.refl _ _).alloc (Nat.le_refl _) _).alloc (by simp) _
theorem Jl6 (a c:Cp) (w:World):Calls Tryz.prog 311 #[Jg a,Jg c] w fun e w'=>e=.returned (.bool (Jfv a c))/\Below w.heap.size w w':=by
 simp only[Jg]
 go_enter Tryz.func311,Tryz.ntmps311
 go_wp2
 all_goals go_ret
 all_goals exact⟨Js (by simp_all [Jfv]),J0 _ _ _⟩
theorem JF (n:Int) (w:World):Calls Tryz.prog 280 #[.int .i64 n] w fun e w'=>e=.returned (.bool (decide (0<=n/\n<=7)))/\w'=w:=by
 go_enter Tryz.func280,Tryz.ntmps280
 go_wp2
 all_goals go_ret
 all_goals exact⟨Js (by simp only[Bool.and_eq_true,decide_eq_true_eq,Bool.false_eq_true,false_iff];omega),rfl⟩
theorem J2 (k:Int) (w:World):Calls Tryz.prog 282 #[.int .i64 k] w fun e w'=>e=.returned (.bool (decide (Xn k)))/\w'=w:=by
 go_enter Tryz.func282,Tryz.ntmps282
 go_wp2
 all_goals go_ret
 all_goals exact⟨Js (by simp_all [Xn]),rfl⟩
theorem JO (k:Int) (w:World):Calls Tryz.prog 281 #[.int .i64 k] w fun e w'=>e=.returned (.bool (decide (ZV k)))/\w'=w:=by
 go_enter Tryz.func281,Tryz.ntmps281
 go_wp2_with (go_at_call 282;refine(J2 _ _).mono ?_;rintro e w' ⟨rfl,rfl⟩)
 all_goals go_ret
 all_goals exact⟨Js (by simp only[decide_eq_true_eq,beq_iff_eq,true_iff];unfold Xn at *;unfold ZV;omega),rfl⟩
theorem XN (g z:Int) (w:World) (hg:0<=g/\g<=18446744073709551615):Calls Tryz.prog 283 #[.int .u64 g,.int .i64 z] w fun e w'=>e=.returned (.bool (decide (Fit g z)))/\w'=w:=by
 by_cases hz:0<=z/\z<=64
 ·have hb:=AG g z hg.1 hg.2 hz.1 hz.2
  have H:Hid (bits .andNot .u64 g (Jr z)=0↔g<=Jr z):=hb
  clear hb
  go_enter Tryz.func283,Tryz.ntmps283
  go_wp2_with (go_at_call 344;refine(AY _ _ (by omega) (by omega)).mono ?_;rintro e w' ⟨rfl,rfl⟩)
  all_goals go_ret
  all_goals exact⟨Js (by have:=H.out;simp_all [Fit]),rfl⟩
 ·go_enter Tryz.func283,Tryz.ntmps283
  go_wp2_with (go_at_call 344;refine(Gv _ _ (by omega)).mono ?_;rintro e w' ⟨rfl,rfl⟩)
  all_goals go_ret
  all_goals exact⟨Js (by simp only[decide_eq_true_eq,Bool.false_eq_true,false_iff];unfold Fit;omega),rfl⟩
theorem FO (c:Cp) (w:World):Calls Tryz.prog 306 #[Jg c] w fun e w'=>e=.returned (.bool (decide (Xn c.k/\c.b=0)))/\Below w.heap.size w w':=by
 simp only[Jg]
 go_enter Tryz.func306,Tryz.ntmps306
 go_wp2_with (go_at_call 282;refine(J2 _ _).mono ?_;rintro e w' ⟨rfl,rfl⟩)
 all_goals go_ret
 all_goals exact⟨Js (by simp_all),Jb _ _⟩
theorem Um (c:Cp) (w:World) (hk:c.k=0):Calls Tryz.prog 205 #[Jg c] w fun e w'=>e=.returned (.bool (decide (Fine c)))/\Below w.heap.size w w':=by
 have hq:=Iy
 have e:Fine c↔c=no:=⟨fun h=>h.of_zero hk,fun h=>.inl h⟩
 have H:Hid (Fine c↔c=no):=e
 have HQ:∀ W,(Op.equalIn 10000 82 (.agg #[.int .i64 0,.int .i64 c.o,.int .i64 c.r,.int .u64 c.b,.int .u64 c.g,.int .i64 c.z]) (.agg #[.int .i64 0,.int .i64 0,.int .i64 0,.int .u64 0,.int .u64 0,.int .i64 0])).run Tryz.prog W=.ok (decide (c=no)) W:=fun W=>by
  have:=Iy W c no
  rw[hk] at this
  exact this
 clear e hq
 simp only[Jg]
 go_enter Tryz.func205,Tryz.ntmps205
 go_wp2
 all_goals go_ret
 all_goals exact⟨Js (by simp[H.out]),Jb _ _⟩
def J6a (R:Act->World->Prop):Exit->Act->World->Prop
 | .normal=>R
 | _=>fun _ _=>False
section
variable {P:Program} {ops:Array Oper} {Q Q':Exit->Act->World->Prop} {K K':Act->World->Prop}
theorem OH {o:Oper} {a:Act} {r:Result Next} (hK:∀ a w,K a w->K' a w) (hQ:∀ e a w,e ≠ .normal->Q e a w->Q' e a w) (h:o.upon P a K Q r):o.upon P a K' Q' r:=by
 unfold Oper.upon at h ⊢
 split at h
 ·exact hK _ _ h
 ·exact hK _ _ h
 ·exact hK _ _ h
 ·refine h.mono ?_
  intro e w' he
  cases e with
  | returned v=>exact hK _ _ he
  | panicked c=>exact hQ _ _ _ (by intro h;cases h) he
  | outgrown=>exact he.imp fun a h=>h.imp fun w h=>hQ _ _ _ (by intro h;cases h) h
 ·exact h.mono fun v w' h=>hK _ _ h
 ·exact hQ _ _ _ (by intro h;cases h) h
 ·exact h.elim
theorem Uw {R:Act->World->Prop} (e:Exit) (a:Act) (w:World) (h:e ≠ .normal) (hq:J6a R e a w):Q e a w:=by
 cases e<;>first|exact absurd rfl h|exact hq.elim
theorem Xg (R:Act->World->Prop) (B:List Oper) (h2:∀ a' w',R a' w'->wpList P ops Q B a' w'):∀ (A:List Oper) (a:Act) (w:World),wpList P ops (J6a R) A a w->wpList P ops Q (A++B) a w
 | [],a,w,h=>h2 a w h
 | o::A,a,w,h=>by
  simp only[List.cons_append]
  unfold wpList at h ⊢
  split at h
  ·rename_i hw
   rw[if_pos hw]
   rcases h with h|⟨h,a',w',hl⟩
   ·exact .inl (OH (fun a w=>Xg R B h2 A a w) Uw h)
   ·exact hl.elim
  ·rename_i hw
   rw[if_neg hw]
   exact Xg R B h2 A _ _ h
theorem Xz (n:Nat) (R:Act->World->Prop) {l:List Oper} {a:Act} {w:World} (h1:wpList P ops (J6a R) (l.take n) a w) (h2:∀ a' w',R a' w'->wpList P ops Q (l.drop n) a' w'):wpList P ops Q l a w:=by
 have:=Xg R (l.drop n) h2 (l.take n) a w h1
 rwa [List.take_append_drop] at this
theorem Mh (n:Nat) (R:Act->World->Prop) {id:Nat} {l:List Oper} {a:Act} {w:World} (h1:wpList P l.toArray (J6a R) (l.take n) a w) (h2:∀ a' w',R a' w'->wpList P l.toArray Q (l.drop n) a' w'):(Code.region id l.toArray false).wp P Q a w:=
 wp_region_lit (Xz n R h1 h2)
theorem met {t:Array Value} {f:(Nat->Value)->Array Value} (h:t=f (fun i=>t.getD i undef)):∃ x:Nat->Value,({ tmps:=t,defers:=[] }:Act)={ tmps:=f x,defers:=[] }:=⟨_,congrArg (fun t=>({ tmps:=t,defers:=[] }:Act)) h⟩
end
theorem Ul (c:Cp) (w:World) (hf:c.Fits) (hk:¬ c.k=0):Calls Tryz.prog 205 #[Jg c] w fun e w'=>e=.returned (.bool (decide (Fine c)))/\Below w.heap.size w w':=by
 have HF:Hid (Fine c↔((((((0<c.k/\c.k<10)/\(0<=c.o/\c.o<=2147483647)/\(0<=c.r/\c.r<=7))/\(c.r=7\/ZV c.k))/\(c.b=0\/Xn c.k))/\((c.g=0/\c.z=0)\/c.k=2))/\Fit c.g c.z)):=
  (by
   constructor
   ·intro h
    obtain⟨h1,h2,h3,h4,h5,h6,h7⟩:=h.of_ne hk
    exact⟨⟨⟨⟨⟨h1,h2,h3⟩,h4⟩,h5⟩,h6⟩,h7⟩
   ·rintro⟨⟨⟨⟨⟨h1,h2,h3⟩,h4⟩,h5⟩,h6⟩,h7⟩
    exact .inr ⟨h1,h2,h3,h4,h5,h6,h7⟩:Fine c↔_)
 have hg:=hf.g
 have a1:=AtC.new w c
 have B1:Hid (Below w.heap.size w (w.alloc (Jn c))):=Jb w (Jn c)
 clear hf
 simp only[Jg,Jn] at *
 go_enter Tryz.func205,Tryz.ntmps205
 go_upto_region 3 with fail
 generalize w.alloc (Obj.cells #[.int .i64 c.k,.int .i64 c.o,.int .i64 c.r,.int .u64 c.b,.int .u64 c.g,.int .i64 c.z] 82)=w1 at *
 obtain⟨c0,c1,c2,c3,c4,c5⟩:=a1.cells
 clear a1
 have HR:Hid (∃ r,r=w.heap.size):=⟨_,rfl⟩
 generalize hr0:w.heap.size=r at *
 clear HR
 have HR:Hid (w.heap.size=r):=hr0
 clear hr0
 obtain⟨R1,hR1⟩:∃ R:Act->World->Prop,∀ a' w',R a' w'↔∃ (q:Bool),(q=true↔((0<c.k/\c.k<10)/\(0<=c.o/\c.o<=2147483647)/\(0<=c.r/\c.r<=7)))/\w1=w'/\∃ x:Nat->Value,a'={ tmps:=#[x 0,.pointer (some ⟨r,0,none⟩),x 2,x 3,x 4,x 5,x 6,x 7,x 8,x 9,x 10,x 11,x 12,x 13,x 14,x 15,x 16,x 17,x 18,x 19,x 20,x 21,x 22,x 23,x 24,x 25,x 26,x 27,x 28,x 29,x 30,.bool q,x 32,x 33,x 34,x 35,x 36,x 37,x 38,x 39,x 40,x 41,x 42,x 43,x 44,x 45,x 46,x 47,x 48,x 49,x 50,x 51,x 52,x 53,x 54,x 55,x 56,x 57,x 58,x 59,x 60,x 61,x 62,x 63,x 64,x 65,x 66,x 67,x 68,x 69,x 70,x 71,x 72,x 73],defers:=[] }:=⟨_,fun _ _=>Iff.rfl⟩
 have HR1:Hid (∀ a' w',R1 a' w'↔∃ (q:Bool),(q=true↔((0<c.k/\c.k<10)/\(0<=c.o/\c.o<=2147483647)/\(0<=c.r/\c.r<=7)))/\w1=w'/\∃ x:Nat->Value,a'={ tmps:=#[x 0,.pointer (some ⟨r,0,none⟩),x 2,x 3,x 4,x 5,x 6,x 7,x 8,x 9,x 10,x 11,x 12,x 13,x 14,x 15,x 16,x 17,x 18,x 19,x 20,x 21,x 22,x 23,x 24,x 25,x 26,x 27,x 28,x 29,x 30,.bool q,x 32,x 33,x 34,x 35,x 36,x 37,x 38,x 39,x 40,x 41,x 42,x 43,x 44,x 45,x 46,x 47,x 48,x 49,x 50,x 51,x 52,x 53,x 54,x 55,x 56,x 57,x 58,x 59,x 60,x 61,x 62,x 63,x 64,x 65,x 66,x 67,x 68,x 69,x 70,x 71,x 72,x 73],defers:=[] }):=hR1
 clear hR1
 refine Mh 23 R1 ?_ ?_
 ·simp only[List.append_eq,List.cons_append,List.nil_append,List.take_succ_cons,List.take_zero]
  go_wp2_with (first|(go_at_call 280;refine(JF _ _).mono ?_;rintro e w' ⟨rfl,rfl⟩)|(go_at_call 281;refine(JO _ _).mono ?_;rintro e w' ⟨rfl,rfl⟩)|(go_at_call 282;refine(J2 _ _).mono ?_;rintro e w' ⟨rfl,rfl⟩)|(go_at_call 283;refine(XN _ _ _ hg).mono ?_;rintro e w' ⟨rfl,rfl⟩))
  all_goals show R1 _ _
  all_goals refine(HR1.out _ _).2 ⟨_,?_,rfl,met rfl⟩
  all_goals simp only[Bool.and_eq_true,decide_eq_true_eq,Bool.false_eq_true,false_iff]
  all_goals omega
 ·simp only[List.append_eq,List.cons_append,List.nil_append,List.drop_succ_cons,List.drop_zero]
  intro a' w' hr
  obtain⟨q,hq,rfl,x,rfl⟩:=(HR1.out _ _).1 hr
  clear HR1 hr
  generalize((0<c.k/\c.k<10)/\(0<=c.o/\c.o<=2147483647)/\(0<=c.r/\c.r<=7))=p at *
  obtain⟨R2,hR2⟩:∃ R:Act->World->Prop,∀ a' w',R a' w'↔∃ (q:Bool),(q=true↔((p/\(c.r=7\/ZV c.k))/\(c.b=0\/Xn c.k)))/\w1=w'/\∃ x:Nat->Value,a'={ tmps:=#[x 0,.pointer (some ⟨r,0,none⟩),x 2,x 3,x 4,x 5,x 6,x 7,x 8,x 9,x 10,x 11,x 12,x 13,x 14,x 15,x 16,x 17,x 18,x 19,x 20,x 21,x 22,x 23,x 24,x 25,x 26,x 27,x 28,x 29,x 30,x 31,x 32,x 33,x 34,x 35,x 36,x 37,x 38,x 39,x 40,x 41,x 42,x 43,x 44,x 45,x 46,x 47,x 48,x 49,x 50,.bool q,x 52,x 53,x 54,x 55,x 56,x 57,x 58,x 59,x 60,x 61,x 62,x 63,x 64,x 65,x 66,x 67,x 68,x 69,x 70,x 71,x 72,x 73],defers:=[] }:=⟨_,fun _ _=>Iff.rfl⟩
  have HR2:Hid (∀ a' w',R2 a' w'↔∃ (q:Bool),(q=true↔((p/\(c.r=7\/ZV c.k))/\(c.b=0\/Xn c.k)))/\w1=w'/\∃ x:Nat->Value,a'={ tmps:=#[x 0,.pointer (some ⟨r,0,none⟩),x 2,x 3,x 4,x 5,x 6,x 7,x 8,x 9,x 10,x 11,x 12,x 13,x 14,x 15,x 16,x 17,x 18,x 19,x 20,x 21,x 22,x 23,x 24,x 25,x 26,x 27,x 28,x 29,x 30,x 31,x 32,x 33,x 34,x 35,x 36,x 37,x 38,x 39,x 40,x 41,x 42,x 43,x 44,x 45,x 46,x 47,x 48,x 49,x 50,.bool q,x 52,x 53,x 54,x 55,x 56,x 57,x 58,x 59,x 60,x 61,x 62,x 63,x 64,x 65,x 66,x 67,x 68,x 69,x 70,x 71,x 72,x 73],defers:=[] }):=hR2
  clear hR2
  refine Xz 20 R2 ?_ ?_
  ·simp only[List.take_succ_cons,List.take_zero]
   cases q with
   | false =>
    have hp:Hid (¬ p):=fun h=>by cases hq.2 h
    clear hq
    go_wp2
    all_goals show R2 _ _
    all_goals refine(HR2.out _ _).2 ⟨_,?_,rfl,met rfl⟩
    all_goals simp only[Bool.false_eq_true,false_iff]
    all_goals exact fun h=>hp.out h.1.1
   | true =>
    have hp:Hid p:=hq.1 rfl
    clear hq
    go_wp2_with (first|(go_at_call 280;refine(JF _ _).mono ?_;rintro e w' ⟨rfl,rfl⟩)|(go_at_call 281;refine(JO _ _).mono ?_;rintro e w' ⟨rfl,rfl⟩)|(go_at_call 282;refine(J2 _ _).mono ?_;rintro e w' ⟨rfl,rfl⟩)|(go_at_call 283;refine(XN _ _ _ hg).mono ?_;rintro e w' ⟨rfl,rfl⟩))
    all_goals show R2 _ _
    all_goals refine(HR2.out _ _).2 ⟨_,?_,rfl,met rfl⟩
    all_goals have hp:=hp.out
    all_goals simp_all
  ·clear q hq x
   simp only[List.drop_succ_cons,List.drop_zero]
   intro a' w' hr
   obtain⟨q,hq,rfl,x,rfl⟩:=(HR2.out _ _).1 hr
   clear HR2 hr
   generalize((p/\(c.r=7\/ZV c.k))/\(c.b=0\/Xn c.k))=p2 at *
   obtain⟨R3,hR3⟩:∃ R:Act->World->Prop,∀ a' w',R a' w'↔∃ (q:Bool),(q=true↔(p2/\((c.g=0/\c.z=0)\/c.k=2)))/\w1=w'/\∃ x:Nat->Value,a'={ tmps:=#[x 0,.pointer (some ⟨r,0,none⟩),x 2,x 3,x 4,x 5,x 6,x 7,x 8,x 9,x 10,x 11,x 12,x 13,x 14,x 15,x 16,x 17,x 18,x 19,x 20,x 21,x 22,x 23,x 24,x 25,x 26,x 27,x 28,x 29,x 30,x 31,x 32,x 33,x 34,x 35,x 36,x 37,x 38,x 39,x 40,x 41,x 42,x 43,x 44,x 45,x 46,x 47,x 48,x 49,x 50,x 51,x 52,x 53,x 54,x 55,x 56,x 57,x 58,x 59,x 60,x 61,x 62,x 63,x 64,x 65,.bool q,x 67,x 68,x 69,x 70,x 71,x 72,x 73],defers:=[] }:=⟨_,fun _ _=>Iff.rfl⟩
   have HR3:Hid (∀ a' w',R3 a' w'↔∃ (q:Bool),(q=true↔(p2/\((c.g=0/\c.z=0)\/c.k=2)))/\w1=w'/\∃ x:Nat->Value,a'={ tmps:=#[x 0,.pointer (some ⟨r,0,none⟩),x 2,x 3,x 4,x 5,x 6,x 7,x 8,x 9,x 10,x 11,x 12,x 13,x 14,x 15,x 16,x 17,x 18,x 19,x 20,x 21,x 22,x 23,x 24,x 25,x 26,x 27,x 28,x 29,x 30,x 31,x 32,x 33,x 34,x 35,x 36,x 37,x 38,x 39,x 40,x 41,x 42,x 43,x 44,x 45,x 46,x 47,x 48,x 49,x 50,x 51,x 52,x 53,x 54,x 55,x 56,x 57,x 58,x 59,x 60,x 61,x 62,x 63,x 64,x 65,.bool q,x 67,x 68,x 69,x 70,x 71,x 72,x 73],defers:=[] }):=hR3
   clear hR3
   refine Xz 15 R3 ?_ ?_
   ·simp only[List.take_succ_cons,List.take_zero]
    cases q with
    | false =>
     have hp:Hid (¬ p2):=fun h=>by cases hq.2 h
     clear hq
     go_wp2
     all_goals show R3 _ _
     all_goals refine(HR3.out _ _).2 ⟨_,?_,rfl,met rfl⟩
     all_goals simp only[Bool.false_eq_true,false_iff]
     all_goals exact fun h=>hp.out h.1
    | true =>
     have hp:Hid p2:=hq.1 rfl
     clear hq
     go_wp2_with (first|(go_at_call 280;refine(JF _ _).mono ?_;rintro e w' ⟨rfl,rfl⟩)|(go_at_call 281;refine(JO _ _).mono ?_;rintro e w' ⟨rfl,rfl⟩)|(go_at_call 282;refine(J2 _ _).mono ?_;rintro e w' ⟨rfl,rfl⟩)|(go_at_call 283;refine(XN _ _ _ hg).mono ?_;rintro e w' ⟨rfl,rfl⟩))
     all_goals show R3 _ _
     all_goals refine(HR3.out _ _).2 ⟨_,?_,rfl,met rfl⟩
     all_goals have hp:=hp.out
     all_goals simp_all
   ·clear q hq x
    simp only[List.drop_succ_cons,List.drop_zero]
    intro a' w' hr
    obtain⟨q,hq,rfl,x,rfl⟩:=(HR3.out _ _).1 hr
    clear HR3 hr
    generalize(p2/\((c.g=0/\c.z=0)\/c.k=2))=p3 at *
    cases q with
    | false =>
     have hp:Hid (¬ p3):=fun h=>by cases hq.2 h
     clear hq
     go_wp2
     all_goals go_ret
     all_goals exact⟨Js (by simp only[Bool.false_eq_true,false_iff,decide_eq_true_eq];exact fun h=>hp.out (HF.out.1 h).1),by rw[HR.out];exact B1.out⟩
    | true =>
     have hp:Hid p3:=hq.1 rfl
     clear hq
     go_wp2_with (first|(go_at_call 280;refine(JF _ _).mono ?_;rintro e w' ⟨rfl,rfl⟩)|(go_at_call 281;refine(JO _ _).mono ?_;rintro e w' ⟨rfl,rfl⟩)|(go_at_call 282;refine(J2 _ _).mono ?_;rintro e w' ⟨rfl,rfl⟩)|(go_at_call 283;refine(XN _ _ _ hg).mono ?_;rintro e w' ⟨rfl,rfl⟩))
     all_goals go_ret
     all_goals exact⟨Js (by simp only[decide_eq_true_eq];exact⟨fun h=>HF.out.2 ⟨hp.out,h⟩,fun h=>(HF.out.1 h).2⟩),by rw[HR.out];exact B1.out⟩
theorem Ia (c:Cp) (w:World) (hf:c.Fits):Calls Tryz.prog 205 #[Jg c] w fun e w'=>e=.returned (.bool (decide (Fine c)))/\Below w.heap.size w w':=by
 by_cases hk:c.k=0
 ·exact Um c w hk
 ·exact Ul c w hf hk
theorem J9 (c:Cp) (w:World) (hf:c.Fits):Calls Tryz.prog 104 #[Jg c] w fun e w'=>e=.returned (.int .i64 (Zk c))/\Below w.heap.size w w':=by
 have HF:Hid c.Fits:=hf
 have b1:=Jb w (Jn c)
 clear hf
 simp only[Jg,Jn] at *
 go_enter Tryz.func104,Tryz.ntmps104
 go_wp2_with fail
 refine(Ia c _ HF.out).mono ?_
 rintro e w' ⟨rfl,b2⟩
 have B:Hid (Below w.heap.size w w'):=Below.then b1 b2 b1.size
 clear b1 b2
 by_cases h:Fine c
 ·have e:decide (Fine c)=true:=by simp[h]
  go_wp2
  all_goals go_ret
  all_goals exact⟨by simp[Zk,h],B.out⟩
 ·have e:decide (Fine c)=false:=by simp[h]
  go_wp2
  all_goals go_ret
  all_goals exact⟨by simp[Zk,h],B.out⟩
theorem ZF {B q:Nat} {w u:World} (h:Below B w u) (hq:B<=q) (a b c d e f:Value) :
  Below B w ((((((u.setCell ⟨q,0,none⟩ a).setCell ⟨q,1,none⟩ b).setCell ⟨q,2,none⟩ c).setCell ⟨q,3,none⟩ d).setCell ⟨q,4,none⟩ e).setCell ⟨q,5,none⟩ f):=
 (((((h.setCell (p:=⟨q,0,none⟩) hq a).setCell (p:=⟨q,1,none⟩) hq b).setCell (p:=⟨q,2,none⟩) hq c).setCell (p:=⟨q,3,none⟩) hq d).setCell (p:=⟨q,4,none⟩) hq e).setCell (p:=⟨q,5,none⟩) hq f
theorem Jha (c:Cp) (n v:Int) (w:World) (hf:c.Fits) (h1:¬ Fine c):Calls Tryz.prog 225 #[Jg c,.int .i64 n,.int .u64 v] w fun e w'=>e=.returned (.tuple #[Jg no,.int .i64 40])/\Below w.heap.size w w':=by
 have Xh1:Hid (¬ Fine c):=h1
 clear h1
 have HF:Hid c.Fits:=hf
 have b1:=J0 w (Jn c) (Jn no)
 have a1:=(AtC.new w c).below (Jb _ (Jn no))
 have a2:=AtC.new (w.alloc (Jn c)) no
 rw[World.size_alloc] at a2
 clear hf
 simp only[Jg,Jn,no] at b1 a1 a2 ⊢
 go_enter Tryz.func225,Tryz.ntmps225
 go_wp2_with fail
 refine(J9 c _ HF.out).mono ?_
 rintro e w2 ⟨rfl,b2⟩
 have a3:=a1.below b2
 have a4:=a2.below b2
 have b3:=Below.then b1 b2 b1.size
 clear a1 a2 b1 b2
 have hr:w.heap.size+1<w2.heap.size:=a4.lt
 generalize hr0:w.heap.size=r at *
 have HR:Hid (w.heap.size=r):=hr0
 clear hr0
 obtain⟨c0,c1,c2,c3,c4,c5⟩:=a3.cells
 obtain⟨d0,d1,d2,d3,d4,d5⟩:=a4.cells
 have f3:=a3.frozen
 have f4:=a4.frozen
 have A3:Hid (AtC w2 r c):=a3
 have A4:Hid (AtC w2 (r+1) no):=a4
 have B:Hid (Below r w w2):=b3
 clear a3 a4 b3
 have h1:=Xh1.out
 rw[Zk,if_neg h1]
 clear h1
 go_wp2
 refine bodyPost_ret (v:=.tuple #[Jg no,.int .i64 40]) ?_ rfl ⟨rfl,?_⟩
 ·simp[results,Tryz.f225,go_sem,Jg,no,d0,d1,d2,d3,d4,d5]
 ·rw[HR.out];exact ZF B.out (by omega) _ _ _ _ _ _
theorem Jk8 (c:Cp) (n v:Int) (w:World) (hf:c.Fits) (h1:Fine c) (h2:¬ (0<=n/\n<=7)):Calls Tryz.prog 225 #[Jg c,.int .i64 n,.int .u64 v] w fun e w'=>e=.returned (.tuple #[Jg no,.int .i64 1])/\Below w.heap.size w w':=by
 have Xh1:Hid (Fine c):=h1
 clear h1
 have Xh2:Hid (¬ (0<=n/\n<=7)):=h2
 clear h2
 have HF:Hid c.Fits:=hf
 have b1:=J0 w (Jn c) (Jn no)
 have a1:=(AtC.new w c).below (Jb _ (Jn no))
 have a2:=AtC.new (w.alloc (Jn c)) no
 rw[World.size_alloc] at a2
 clear hf
 simp only[Jg,Jn,no] at b1 a1 a2 ⊢
 go_enter Tryz.func225,Tryz.ntmps225
 go_wp2_with fail
 refine(J9 c _ HF.out).mono ?_
 rintro e w2 ⟨rfl,b2⟩
 have a3:=a1.below b2
 have a4:=a2.below b2
 have b3:=Below.then b1 b2 b1.size
 clear a1 a2 b1 b2
 have hr:w.heap.size+1<w2.heap.size:=a4.lt
 generalize hr0:w.heap.size=r at *
 have HR:Hid (w.heap.size=r):=hr0
 clear hr0
 obtain⟨c0,c1,c2,c3,c4,c5⟩:=a3.cells
 obtain⟨d0,d1,d2,d3,d4,d5⟩:=a4.cells
 have f3:=a3.frozen
 have f4:=a4.frozen
 have A3:Hid (AtC w2 r c):=a3
 have A4:Hid (AtC w2 (r+1) no):=a4
 have B:Hid (Below r w w2):=b3
 clear a3 a4 b3
 have h1:=Xh1.out
 have h2:=Xh2.out
 rw[Zk,if_pos h1]
 clear h1
 have H2:Hid (¬ (0<=n/\n<=7)):=h2
 clear h2
 go_wp2_with fail
 refine(JF _ _).mono ?_
 rintro e w' ⟨rfl,rfl⟩
 rw[show decide (0<=n/\n<=7)=false by simp only[decide_eq_false_iff_not];have:=H2.out;omega]
 go_wp2
 refine bodyPost_ret (v:=.tuple #[Jg no,.int .i64 1]) ?_ rfl ⟨rfl,?_⟩
 ·simp[results,Tryz.f225,go_sem,Jg,no,d0,d1,d2,d3,d4,d5]
 ·rw[HR.out];exact ZF B.out (by omega) _ _ _ _ _ _
theorem Jhd (c:Cp) (n v:Int) (w:World) (hf:c.Fits) (h1:Fine c) (h2:0<=n/\n<=7) (h3:c.k=0):Calls Tryz.prog 225 #[Jg c,.int .i64 n,.int .u64 v] w fun e w'=>e=.returned (.tuple #[Jg no,.int .i64 41])/\Below w.heap.size w w':=by
 have Xh1:Hid (Fine c):=h1
 clear h1
 have Xh2:Hid (0<=n/\n<=7):=h2
 clear h2
 have Xh3:Hid (c.k=0):=h3
 clear h3
 have HF:Hid c.Fits:=hf
 have b1:=J0 w (Jn c) (Jn no)
 have a1:=(AtC.new w c).below (Jb _ (Jn no))
 have a2:=AtC.new (w.alloc (Jn c)) no
 rw[World.size_alloc] at a2
 clear hf
 simp only[Jg,Jn,no] at b1 a1 a2 ⊢
 go_enter Tryz.func225,Tryz.ntmps225
 go_wp2_with fail
 refine(J9 c _ HF.out).mono ?_
 rintro e w2 ⟨rfl,b2⟩
 have a3:=a1.below b2
 have a4:=a2.below b2
 have b3:=Below.then b1 b2 b1.size
 clear a1 a2 b1 b2
 have hr:w.heap.size+1<w2.heap.size:=a4.lt
 generalize hr0:w.heap.size=r at *
 have HR:Hid (w.heap.size=r):=hr0
 clear hr0
 obtain⟨c0,c1,c2,c3,c4,c5⟩:=a3.cells
 obtain⟨d0,d1,d2,d3,d4,d5⟩:=a4.cells
 have f3:=a3.frozen
 have f4:=a4.frozen
 have A3:Hid (AtC w2 r c):=a3
 have A4:Hid (AtC w2 (r+1) no):=a4
 have B:Hid (Below r w w2):=b3
 clear a3 a4 b3
 have h1:=Xh1.out
 have h2:=Xh2.out
 have h3:=Xh3.out
 rw[Zk,if_pos h1]
 clear h1
 go_wp2_with fail
 refine(JF _ _).mono ?_
 rintro e w' ⟨rfl,rfl⟩
 rw[show decide (0<=n/\n<=7)=true by simp only[decide_eq_true_eq];omega]
 go_wp2
 refine bodyPost_ret (v:=.tuple #[Jg no,.int .i64 41]) ?_ rfl ⟨rfl,?_⟩
 ·simp[results,Tryz.f225,go_sem,Jg,no,d0,d1,d2,d3,d4,d5]
 ·rw[HR.out];exact ZF B.out (by omega) _ _ _ _ _ _
theorem Jdv (c:Cp) (n v:Int) (w:World) (hf:c.Fits) (h1:Fine c) (h2:0<=n/\n<=7) (h3:¬ c.k=0) (h4:¬ v=0) (h5:¬ (Xn c.k/\c.b=0)):Calls Tryz.prog 225 #[Jg c,.int .i64 n,.int .u64 v] w fun e w'=>e=.returned (.tuple #[Jg no,.int .i64 41])/\Below w.heap.size w w':=by
 have Xh1:Hid (Fine c):=h1
 clear h1
 have Xh2:Hid (0<=n/\n<=7):=h2
 clear h2
 have Xh3:Hid (¬ c.k=0):=h3
 clear h3
 have Xh4:Hid (¬ v=0):=h4
 clear h4
 have Xh5:Hid (¬ (Xn c.k/\c.b=0)):=h5
 clear h5
 have HF:Hid c.Fits:=hf
 have b1:=J0 w (Jn c) (Jn no)
 have a1:=(AtC.new w c).below (Jb _ (Jn no))
 have a2:=AtC.new (w.alloc (Jn c)) no
 rw[World.size_alloc] at a2
 clear hf
 simp only[Jg,Jn,no] at b1 a1 a2 ⊢
 go_enter Tryz.func225,Tryz.ntmps225
 go_wp2_with fail
 refine(J9 c _ HF.out).mono ?_
 rintro e w2 ⟨rfl,b2⟩
 have a3:=a1.below b2
 have a4:=a2.below b2
 have b3:=Below.then b1 b2 b1.size
 clear a1 a2 b1 b2
 have hr:w.heap.size+1<w2.heap.size:=a4.lt
 generalize hr0:w.heap.size=r at *
 have HR:Hid (w.heap.size=r):=hr0
 clear hr0
 obtain⟨c0,c1,c2,c3,c4,c5⟩:=a3.cells
 obtain⟨d0,d1,d2,d3,d4,d5⟩:=a4.cells
 have f3:=a3.frozen
 have f4:=a4.frozen
 have A3:Hid (AtC w2 r c):=a3
 have A4:Hid (AtC w2 (r+1) no):=a4
 have B:Hid (Below r w w2):=b3
 clear a3 a4 b3
 have h1:=Xh1.out
 have h2:=Xh2.out
 have h3:=Xh3.out
 have hk:(c.k == 0)=false:=by simpa using h3
 have h4:=Xh4.out
 have hv:(v != 0)=true:=by simpa using h4
 have h5:=Xh5.out
 rw[Zk,if_pos h1]
 have H5:Hid (¬ (Xn c.k/\c.b=0)):=h5
 clear h1 h5
 go_wp2_with fail
 refine(JF _ _).mono ?_
 rintro e w' ⟨rfl,rfl⟩
 rw[show decide (0<=n/\n<=7)=true by simp only[decide_eq_true_eq];omega]
 go_wp2_with fail
 refine(FO c _).mono ?_
 rintro e w3 ⟨rfl,b2⟩
 have a3:=A3.out.below b2
 have a4:=A4.out.below b2
 have b3:=Below.then B.out b2 (by omega)
 have hr':r+1<w3.heap.size:=a4.lt
 clear b2 A3 A4 B c0 c1 c2 c3 c4 c5 d0 d1 d2 d3 d4 d5 f3 f4 hr
 rw[show decide (Xn c.k/\c.b=0)=false by simp only[decide_eq_false_iff_not];exact H5.out]
 obtain⟨c0,c1,c2,c3,c4,c5⟩:=a3.cells
 obtain⟨d0,d1,d2,d3,d4,d5⟩:=a4.cells
 have f3:=a3.frozen
 have f4:=a4.frozen
 have A3:Hid (AtC w3 r c):=a3
 have A4:Hid (AtC w3 (r+1) no):=a4
 have B:Hid (Below r w w3):=b3
 clear a3 a4 b3
 go_wp2
 refine bodyPost_ret (v:=.tuple #[Jg no,.int .i64 41]) ?_ rfl ⟨rfl,?_⟩
 ·simp[results,Tryz.f225,go_sem,Jg,no,d0,d1,d2,d3,d4,d5]
 ·rw[HR.out];exact ZF B.out (by omega) _ _ _ _ _ _
theorem Jdu (c:Cp) (n v:Int) (w:World) (hf:c.Fits) (h1:Fine c) (h2:0<=n/\n<=7) (h3:¬ c.k=0) (h4:v=0) (hl:¬ ZV c.k):Calls Tryz.prog 225 #[Jg c,.int .i64 n,.int .u64 v] w fun e w'=>e=.returned (.tuple #[Jg c,.int .i64 0])/\Below w.heap.size w w':=by
 have Xh1:Hid (Fine c):=h1
 clear h1
 have Xh2:Hid (0<=n/\n<=7):=h2
 clear h2
 have Xh3:Hid (¬ c.k=0):=h3
 clear h3
 have Xh4:Hid (v=0):=h4
 clear h4
 have Xhl:Hid (¬ ZV c.k):=hl
 clear hl
 have HF:Hid c.Fits:=hf
 have b1:=J0 w (Jn c) (Jn no)
 have a1:=(AtC.new w c).below (Jb _ (Jn no))
 have a2:=AtC.new (w.alloc (Jn c)) no
 rw[World.size_alloc] at a2
 clear hf
 simp only[Jg,Jn,no] at b1 a1 a2 ⊢
 go_enter Tryz.func225,Tryz.ntmps225
 go_wp2_with fail
 refine(J9 c _ HF.out).mono ?_
 rintro e w2 ⟨rfl,b2⟩
 have a3:=a1.below b2
 have a4:=a2.below b2
 have b3:=Below.then b1 b2 b1.size
 clear a1 a2 b1 b2
 have hr:w.heap.size+1<w2.heap.size:=a4.lt
 generalize hr0:w.heap.size=r at *
 have HR:Hid (w.heap.size=r):=hr0
 clear hr0
 obtain⟨c0,c1,c2,c3,c4,c5⟩:=a3.cells
 obtain⟨d0,d1,d2,d3,d4,d5⟩:=a4.cells
 have f3:=a3.frozen
 have f4:=a4.frozen
 have A3:Hid (AtC w2 r c):=a3
 have A4:Hid (AtC w2 (r+1) no):=a4
 have B:Hid (Below r w w2):=b3
 clear a3 a4 b3
 have h1:=Xh1.out
 have h2:=Xh2.out
 have h3:=Xh3.out
 have hk:(c.k == 0)=false:=by simpa using h3
 have h4:=Xh4.out
 have hl:=Xhl.out
 rw[Zk,if_pos h1]
 have HL:Hid (¬ ZV c.k):=hl
 clear h1 hl
 go_wp2_with fail
 refine(JF _ _).mono ?_
 rintro e w' ⟨rfl,rfl⟩
 rw[show decide (0<=n/\n<=7)=true by simp only[decide_eq_true_eq];omega]
 go_wp2_with fail
 refine(JO _ _).mono ?_
 rintro e w' ⟨rfl,rfl⟩
 rw[show decide (ZV c.k)=false by simp only[decide_eq_false_iff_not];exact HL.out]
 go_wp2
 refine bodyPost_ret (v:=.tuple #[Jg c,.int .i64 0]) ?_ rfl ⟨rfl,?_⟩
 ·simp[results,Tryz.f225,go_sem,Jg,d0,d1,d2,d3,d4,d5]
 ·rw[HR.out];exact ZF B.out (by omega) _ _ _ _ _ _
theorem Jhc (c:Cp) (n v:Int) (w:World) (hf:c.Fits) (h1:Fine c) (h2:0<=n/\n<=7) (h3:¬ c.k=0) (h4:v=0) (hl:ZV c.k):Calls Tryz.prog 225 #[Jg c,.int .i64 n,.int .u64 v] w fun e w'=>e=.returned (.tuple #[Jg { c with r:=bits .and .i64 c.r n },.int .i64 0])/\Below w.heap.size w w':=by
 have Xh1:Hid (Fine c):=h1
 clear h1
 have Xh2:Hid (0<=n/\n<=7):=h2
 clear h2
 have Xh3:Hid (¬ c.k=0):=h3
 clear h3
 have Xh4:Hid (v=0):=h4
 clear h4
 have Xhl:Hid (ZV c.k):=hl
 clear hl
 have HF:Hid c.Fits:=hf
 have b1:=J0 w (Jn c) (Jn no)
 have a1:=(AtC.new w c).below (Jb _ (Jn no))
 have a2:=AtC.new (w.alloc (Jn c)) no
 rw[World.size_alloc] at a2
 clear hf
 simp only[Jg,Jn,no] at b1 a1 a2 ⊢
 go_enter Tryz.func225,Tryz.ntmps225
 go_wp2_with fail
 refine(J9 c _ HF.out).mono ?_
 rintro e w2 ⟨rfl,b2⟩
 have a3:=a1.below b2
 have a4:=a2.below b2
 have b3:=Below.then b1 b2 b1.size
 clear a1 a2 b1 b2
 have hr:w.heap.size+1<w2.heap.size:=a4.lt
 generalize hr0:w.heap.size=r at *
 have HR:Hid (w.heap.size=r):=hr0
 clear hr0
 obtain⟨c0,c1,c2,c3,c4,c5⟩:=a3.cells
 obtain⟨d0,d1,d2,d3,d4,d5⟩:=a4.cells
 have f3:=a3.frozen
 have f4:=a4.frozen
 have A3:Hid (AtC w2 r c):=a3
 have A4:Hid (AtC w2 (r+1) no):=a4
 have B:Hid (Below r w w2):=b3
 clear a3 a4 b3
 have h1:=Xh1.out
 have h2:=Xh2.out
 have h3:=Xh3.out
 have hk:(c.k == 0)=false:=by simpa using h3
 have h4:=Xh4.out
 have hl:=Xhl.out
 rw[Zk,if_pos h1]
 have HL:Hid (ZV c.k):=hl
 clear h1 hl
 go_wp2_with fail
 refine(JF _ _).mono ?_
 rintro e w' ⟨rfl,rfl⟩
 rw[show decide (0<=n/\n<=7)=true by simp only[decide_eq_true_eq];omega]
 go_wp2_with fail
 refine(JO _ _).mono ?_
 rintro e w' ⟨rfl,rfl⟩
 rw[show decide (ZV c.k)=true by simp only[decide_eq_true_eq];exact HL.out]
 go_wp2
 refine bodyPost_ret (v:=.tuple #[Jg { c with r:=bits .and .i64 c.r n },.int .i64 0]) ?_ rfl ⟨rfl,?_⟩
 ·simp[results,Tryz.f225,go_sem,Jg,d0,d1,d2,d3,d4,d5]
 ·rw[HR.out];exact ZF (B.out.setCell (p:=⟨r,2,none⟩) (Nat.le_refl _) _) (by omega) _ _ _ _ _ _
theorem Jdt (c:Cp) (n v:Int) (w:World) (hf:c.Fits) (h1:Fine c) (h2:0<=n/\n<=7) (h3:¬ c.k=0) (h4:¬ v=0) (hl:ZV c.k) (h5:Xn c.k/\c.b=0):Calls Tryz.prog 225 #[Jg c,.int .i64 n,.int .u64 v] w fun e w'=>e=.returned (.tuple #[Jg { c with r:=bits .and .i64 c.r n,b:=v },.int .i64 0])/\Below w.heap.size w w':=by
 have Xh1:Hid (Fine c):=h1
 clear h1
 have Xh2:Hid (0<=n/\n<=7):=h2
 clear h2
 have Xh3:Hid (¬ c.k=0):=h3
 clear h3
 have Xh4:Hid (¬ v=0):=h4
 clear h4
 have Xhl:Hid (ZV c.k):=hl
 clear hl
 have Xh5:Hid (Xn c.k/\c.b=0):=h5
 clear h5
 have HF:Hid c.Fits:=hf
 have b1:=J0 w (Jn c) (Jn no)
 have a1:=(AtC.new w c).below (Jb _ (Jn no))
 have a2:=AtC.new (w.alloc (Jn c)) no
 rw[World.size_alloc] at a2
 clear hf
 simp only[Jg,Jn,no] at b1 a1 a2 ⊢
 go_enter Tryz.func225,Tryz.ntmps225
 go_wp2_with fail
 refine(J9 c _ HF.out).mono ?_
 rintro e w2 ⟨rfl,b2⟩
 have a3:=a1.below b2
 have a4:=a2.below b2
 have b3:=Below.then b1 b2 b1.size
 clear a1 a2 b1 b2
 have hr:w.heap.size+1<w2.heap.size:=a4.lt
 generalize hr0:w.heap.size=r at *
 have HR:Hid (w.heap.size=r):=hr0
 clear hr0
 obtain⟨c0,c1,c2,c3,c4,c5⟩:=a3.cells
 obtain⟨d0,d1,d2,d3,d4,d5⟩:=a4.cells
 have f3:=a3.frozen
 have f4:=a4.frozen
 have A3:Hid (AtC w2 r c):=a3
 have A4:Hid (AtC w2 (r+1) no):=a4
 have B:Hid (Below r w w2):=b3
 clear a3 a4 b3
 have h1:=Xh1.out
 have h2:=Xh2.out
 have h3:=Xh3.out
 have hk:(c.k == 0)=false:=by simpa using h3
 have h4:=Xh4.out
 have hv:(v != 0)=true:=by simpa using h4
 have hl:=Xhl.out
 have h5:=Xh5.out
 rw[Zk,if_pos h1]
 have HL:Hid (ZV c.k):=hl
 have H5:Hid (Xn c.k/\c.b=0):=h5
 clear h1 hl h5
 go_wp2_with fail
 refine(JF _ _).mono ?_
 rintro e w' ⟨rfl,rfl⟩
 rw[show decide (0<=n/\n<=7)=true by simp only[decide_eq_true_eq];omega]
 go_wp2_with fail
 refine(FO c _).mono ?_
 rintro e w3 ⟨rfl,b2⟩
 have a3:=A3.out.below b2
 have a4:=A4.out.below b2
 have b3:=Below.then B.out b2 (by omega)
 have hr':r+1<w3.heap.size:=a4.lt
 clear b2 A3 A4 B c0 c1 c2 c3 c4 c5 d0 d1 d2 d3 d4 d5 f3 f4 hr
 rw[show decide (Xn c.k/\c.b=0)=true by simp only[decide_eq_true_eq];exact H5.out]
 obtain⟨c0,c1,c2,c3,c4,c5⟩:=a3.cells
 obtain⟨d0,d1,d2,d3,d4,d5⟩:=a4.cells
 have f3:=a3.frozen
 have f4:=a4.frozen
 have A3:Hid (AtC w3 r c):=a3
 have A4:Hid (AtC w3 (r+1) no):=a4
 have B:Hid (Below r w w3):=b3
 clear a3 a4 b3
 go_wp2_with fail
 refine(JO _ _).mono ?_
 rintro e w' ⟨rfl,rfl⟩
 rw[show decide (ZV c.k)=true by simp only[decide_eq_true_eq];exact HL.out]
 go_wp2
 refine bodyPost_ret (v:=.tuple #[Jg { c with r:=bits .and .i64 c.r n,b:=v },.int .i64 0]) ?_ rfl ⟨rfl,?_⟩
 ·simp[results,Tryz.f225,go_sem,Jg,d0,d1,d2,d3,d4,d5]
 ·rw[HR.out];exact ZF ((B.out.setCell (p:=⟨r,2,none⟩) (Nat.le_refl _) _).setCell (p:=⟨r,3,none⟩) (Nat.le_refl _) _) (by omega) _ _ _ _ _ _
theorem Jbn (c:Cp) (n v:Int) (w:World) (hf:c.Fits):Calls Tryz.prog 225 #[Jg c,.int .i64 n,.int .u64 v] w fun e w'=>e=.returned (.tuple #[Jg (Vx c n v),.int .i64 (Zb c n v)])/\Below w.heap.size w w':=by
 by_cases h1:Fine c
 ·by_cases h2:0<=n/\n<=7
  ·by_cases h3:c.k=0
   ·have e1:Zb c n v=41:=by simp[Zb,h1,h2,JK,h3]
    rw[Vx,e1]
    exact Jhd c n v w hf h1 h2 h3
   ·by_cases h4:v=0
    ·have e1:Zb c n v=0:=by simp[Zb,h1,h2,JK,h3,h4]
     rw[Vx,e1,if_pos rfl]
     by_cases hl:ZV c.k
     ·have:=Jhc c n v w hf h1 h2 h3 h4 hl
      simpa [Ut,hl,h4] using this
     ·have:=Jdu c n v w hf h1 h2 h3 h4 hl
      simpa [Ut,hl,h4] using this
    ·by_cases h5:Xn c.k/\c.b=0
     ·have e1:Zb c n v=0:=by simp[Zb,h1,h2,JK,h3,h4,h5.1,h5.2]
      have hl:ZV c.k:=by have:=h5.1;unfold Xn at this;unfold ZV;omega
      rw[Vx,e1,if_pos rfl]
      have:=Jdt c n v w hf h1 h2 h3 h4 hl h5
      simpa [Ut,hl,h4] using this
     ·have hm:JK c v:=.inr ⟨h4,h5⟩
      have e1:Zb c n v=41:=by rw[Zb,if_pos h1,if_pos h2,if_pos hm]
      rw[Vx,e1]
      exact Jdv c n v w hf h1 h2 h3 h4 h5
  ·have e1:Zb c n v=1:=by rw[Zb,if_pos h1,if_neg h2]
   rw[Vx,e1]
   exact Jk8 c n v w hf h1 h2
 ·have e1:Zb c n v=40:=by rw[Zb,if_neg h1]
  rw[Vx,e1]
  exact Jha c n v w hf h1
end Ca
end Go.Proofs.YtbfjjpdnoalojaaGreatDoor
