/- Below: KFx GSay KrMints KrIrqs GMask KBgM KBg; no condition. -/
import Derived.Test.YtilnjnblpeeigaaGreatDoorPxIr5
set_option maxHeartbeats 16000000
set_option maxRecDepth 100000
namespace Go.Proofs.YtilnjnblpeeigaaGreatDoor
section
open Go.RowKit Go.Deep Go.Shelf
open Classical
section
variable {w0 w w':World} {r:Nat} {R:List Th}
theorem Jh {w0:World} (L:Lt w0) {n m:Nat} {K K':Kr} (v:Kv n m K) (hm:m<=100000) {core:Int} {c:Cl} (b:Cd c) {e x k:Int} (hX:doK K core c=(K',⟨e,x,k,[]⟩)) (p:Nat) (W:World) (Y:Ly) (T:List Th) (s:Sep w0 w0.heap.size W (kT p Y K::T)) :
  Calls Tryz.prog 9 #[ptr p,.int .i64 core,.agg #[.int .i64 c.q,.int .i64 c.a,.int .i64 c.w,.int .i64 c.A,.int .i64 c.B,.int .i64 c.C]] W fun r w'=>∃ ao cap Y',r=.returned (.agg #[.int .i64 e,.int .u64 x,.int .i64 k,.slice ao 0 cap])/\Sep w0 w0.heap.size w' (kT p Y' K'::T):=by
 refine Calls.mono (JM s L v hm core b hX) ?_
 rintro r w' ⟨ao,cap,Y',rfl,s'⟩
 exact⟨ao,cap,Y',rfl,s'.drop2⟩
theorem Jm (w:World) (L:Lt w):Calls Tryz.prog 12 #[] w fun e w'=>e=.returned (.bool true)/\Below w.heap.size w w':=by
 have k0:Kv 1 0 Kf0:=by
  have h:=boot_kv (n:=1) (m:=2) (b:=10) (Q:=[5]) rfl rfl
  rw[beg_eq] at h
  exact h
 have x1:doK Kf0 0 cf1=(Kf1,⟨0,0,(-1),[]⟩):=go_is rfl f1
 have k1:=k0.call (by omega) (small _ (by decide)) x1
 have H1:Hid (∀ (p:Nat) (W:World) (Y:Ly) (T:List Th),Sep w w.heap.size W (kT p Y Kf0::T)->Calls Tryz.prog 9 #[ptr p,.int .i64 0,.agg #[.int .i64 0,.int .i64 1,.int .i64 20,.int .i64 4,.int .i64 0,.int .i64 1]] W fun r w'=>∃ ao cap Y',r=.returned (.agg #[.int .i64 0,.int .u64 0,.int .i64 (-1),.slice ao 0 cap])/\Sep w w.heap.size w' (kT p Y' Kf1::T)):=fun p W Y T s=>Jh L k0 (by omega) ⟨small _ (by decide),small _ (by decide),small _ (by decide),small _ (by decide),rfl⟩ x1 p W Y T s
 have x2:doK Kf1 0 cf2=(Kf2,⟨0,0,(-1),[]⟩):=go_is rfl f2
 have k2:=k1.call (by omega) (small _ (by decide)) x2
 have H2:Hid (∀ (p:Nat) (W:World) (Y:Ly) (T:List Th),Sep w w.heap.size W (kT p Y Kf1::T)->Calls Tryz.prog 9 #[ptr p,.int .i64 0,.agg #[.int .i64 1,.int .i64 20,.int .i64 21,.int .i64 2,.int .i64 7,.int .i64 0]] W fun r w'=>∃ ao cap Y',r=.returned (.agg #[.int .i64 0,.int .u64 0,.int .i64 (-1),.slice ao 0 cap])/\Sep w w.heap.size w' (kT p Y' Kf2::T)):=fun p W Y T s=>Jh L k1 (by omega) ⟨small _ (by decide),small _ (by decide),small _ (by decide),small _ (by decide),rfl⟩ x2 p W Y T s
 have x3:doK Kf2 0 cf3=(Kf3,⟨181,0,(-1),[]⟩):=go_is rfl f3
 have k3:=k2.call (by omega) (small _ (by decide)) x3
 have H3:Hid (∀ (p:Nat) (W:World) (Y:Ly) (T:List Th),Sep w w.heap.size W (kT p Y Kf2::T)->Calls Tryz.prog 9 #[ptr p,.int .i64 0,.agg #[.int .i64 9,.int .i64 21,.int .i64 0,.int .i64 0,.int .i64 0,.int .i64 0]] W fun r w'=>∃ ao cap Y',r=.returned (.agg #[.int .i64 181,.int .u64 0,.int .i64 (-1),.slice ao 0 cap])/\Sep w w.heap.size w' (kT p Y' Kf3::T)):=fun p W Y T s=>Jh L k2 (by omega) ⟨small _ (by decide),small _ (by decide),small _ (by decide),small _ (by decide),rfl⟩ x3 p W Y T s
 have x4:doK Kf3 0 cf4=(Kf4,⟨0,2,(-1),[]⟩):=go_is rfl f4
 have k4:=k3.call (by omega) (small _ (by decide)) x4
 have H4:Hid (∀ (p:Nat) (W:World) (Y:Ly) (T:List Th),Sep w w.heap.size W (kT p Y Kf3::T)->Calls Tryz.prog 9 #[ptr p,.int .i64 0,.agg #[.int .i64 4,.int .i64 1,.int .i64 0,.int .i64 0,.int .i64 0,.int .i64 0]] W fun r w'=>∃ ao cap Y',r=.returned (.agg #[.int .i64 0,.int .u64 2,.int .i64 (-1),.slice ao 0 cap])/\Sep w w.heap.size w' (kT p Y' Kf4::T)):=fun p W Y T s=>Jh L k3 (by omega) ⟨small _ (by decide),small _ (by decide),small _ (by decide),small _ (by decide),rfl⟩ x4 p W Y T s
 have x5:doK Kf4 0 cf5=(Kf5,⟨180,0,(-1),[]⟩):=go_is rfl f5
 have k5:=k4.call (by omega) (small _ (by decide)) x5
 have H5:Hid (∀ (p:Nat) (W:World) (Y:Ly) (T:List Th),Sep w w.heap.size W (kT p Y Kf4::T)->Calls Tryz.prog 9 #[ptr p,.int .i64 0,.agg #[.int .i64 18,.int .i64 0,.int .i64 0,.int .i64 0,.int .i64 0,.int .i64 0]] W fun r w'=>∃ ao cap Y',r=.returned (.agg #[.int .i64 180,.int .u64 0,.int .i64 (-1),.slice ao 0 cap])/\Sep w w.heap.size w' (kT p Y' Kf5::T)):=fun p W Y T s=>Jh L k4 (by omega) ⟨small _ (by decide),small _ (by decide),small _ (by decide),small _ (by decide),rfl⟩ x5 p W Y T s
 have x6:doK Kf5 1 cf6=(Kf6,⟨182,0,(-1),[]⟩):=go_is rfl f6
 have k6:=k5.call (by omega) (small _ (by decide)) x6
 have H6:Hid (∀ (p:Nat) (W:World) (Y:Ly) (T:List Th),Sep w w.heap.size W (kT p Y Kf5::T)->Calls Tryz.prog 9 #[ptr p,.int .i64 1,.agg #[.int .i64 0,.int .i64 0,.int .i64 0,.int .i64 0,.int .i64 0,.int .i64 0]] W fun r w'=>∃ ao cap Y',r=.returned (.agg #[.int .i64 182,.int .u64 0,.int .i64 (-1),.slice ao 0 cap])/\Sep w w.heap.size w' (kT p Y' Kf6::T)):=fun p W Y T s=>Jh L k5 (by omega) ⟨small _ (by decide),small _ (by decide),small _ (by decide),small _ (by decide),rfl⟩ x6 p W Y T s
 have x7:doK Kf6 0 cf7=(Kf7,⟨0,0,(-1),[]⟩):=go_is rfl f7
 have k7:=k6.call (by omega) (small _ (by decide)) x7
 have H7:Hid (∀ (p:Nat) (W:World) (Y:Ly) (T:List Th),Sep w w.heap.size W (kT p Y Kf6::T)->Calls Tryz.prog 9 #[ptr p,.int .i64 0,.agg #[.int .i64 6,.int .i64 2,.int .i64 0,.int .i64 0,.int .i64 0,.int .i64 0]] W fun r w'=>∃ ao cap Y',r=.returned (.agg #[.int .i64 0,.int .u64 0,.int .i64 (-1),.slice ao 0 cap])/\Sep w w.heap.size w' (kT p Y' Kf7::T)):=fun p W Y T s=>Jh L k6 (by omega) ⟨small _ (by decide),small _ (by decide),small _ (by decide),small _ (by decide),rfl⟩ x7 p W Y T s
 have x8:doK Kf7 0 cf8=(Kf8,⟨182,0,(-1),[]⟩):=go_is rfl f8
 have k8:=k7.call (by omega) (small _ (by decide)) x8
 have H8:Hid (∀ (p:Nat) (W:World) (Y:Ly) (T:List Th),Sep w w.heap.size W (kT p Y Kf7::T)->Calls Tryz.prog 9 #[ptr p,.int .i64 0,.agg #[.int .i64 17,.int .i64 0,.int .i64 0,.int .i64 0,.int .i64 0,.int .i64 0]] W fun r w'=>∃ ao cap Y',r=.returned (.agg #[.int .i64 182,.int .u64 0,.int .i64 (-1),.slice ao 0 cap])/\Sep w w.heap.size w' (kT p Y' Kf8::T)):=fun p W Y T s=>Jh L k7 (by omega) ⟨small _ (by decide),small _ (by decide),small _ (by decide),small _ (by decide),rfl⟩ x8 p W Y T s
 have HB:Hid (∀ (g:Nat) (W:World) (T:List Th),Sep w w.heap.size W (Ta.lstI (.slice (some ⟨g,0,none⟩) 1 1) [5]::T)->Calls Tryz.prog 8 #[.agg #[.int .i64 1,.int .i64 10,.int .i64 2,.slice (some ⟨g,0,none⟩) 1 1]] W fun r w'=>∃ p,r=.returned (.tuple #[ptr p,.int .i64 0])/\∃ Y,Sep w w.heap.size w' (kT p Y Kf0::T)):=fun g W T s=>by
  have h:=Boot_ok s (fun u b=>L.t.below b) (n:=1) (m:=2) (b:=10) rfl rfl
  rw[beg_eq] at h
  refine Calls.mono h ?_
  rintro r w' ⟨p,rfl,Y,s'⟩
  exact⟨p,rfl,Y,s'.drop2⟩
 have HBN:Hid (∀ (W:World) (T:List Th),Sep w w.heap.size W T->Calls Tryz.prog 8 #[.agg #[.int .i64 0,.int .i64 0,.int .i64 0,.slice none 0 0]] W fun r w'=>r=.returned (.tuple #[.pointer none,.int .i64 1])/\Sep w w.heap.size w' T):=fun W T s=>by
  refine Calls.mono (Boot_no (s.nil (E:=Ta.elI)) (n:=0) (b:=0) (m:=0) rfl) ?_
  rintro r w' ⟨rfl,s'⟩
  exact⟨rfl,s'.drop⟩
 have HH3:Hid (∀ (p:Nat) (W:World) (Y:Ly) (T:List Th),Sep w w.heap.size W (kT p Y Kf3::T)->Calls Tryz.prog 36 #[ptr p] W fun r w'=>∃ ao cap,r=.returned (.slice ao 8 cap)/\Sep w w.heap.size w' (kT p Y Kf3::T)):=fun p W Y T s=>by
  have h:=Held_sep s
  rw[fh3] at h
  refine Calls.mono h ?_
  rintro r w' ⟨ao,cap,rfl,s'⟩
  exact⟨ao,cap,rfl,s'.drop2⟩
 have HH8:Hid (∀ (p:Nat) (W:World) (Y:Ly) (T:List Th),Sep w w.heap.size W (kT p Y Kf8::T)->Calls Tryz.prog 36 #[ptr p] W fun r w'=>∃ ao cap,r=.returned (.slice ao 6 cap)/\Sep w w.heap.size w' (kT p Y Kf8::T)):=fun p W Y T s=>by
  have h:=Held_sep s
  rw[fh8] at h
  refine Calls.mono h ?_
  rintro r w' ⟨ao,cap,rfl,s'⟩
  exact⟨ao,cap,rfl,s'.drop2⟩
 have HU:Hid (∀ (p:Nat) (W:World) (Y:Ly) (T:List Th),Sep w w.heap.size W (kT p Y Kf6::T)->Calls Tryz.prog 37 #[ptr p,.int .i64 0] W fun r w'=>r=.returned (.tuple #[.agg #[.int .u64 0,.int .i64 10,.int .u64 0],.bool true])/\Sep w w.heap.size w' (kT p Y Kf6::T)):=fun p W Y T s=>Untyped_yes s (n:=0) (i:=0) rfl fu6
 have S0:=hid (sep_nil w)
 have heq:∀ W,(Op.equalIn 10000 79 (.agg #[.int .u64 0,.int .i64 10,.int .u64 0]) (.agg #[.int .u64 0,.int .i64 10,.int .u64 0])).run Tryz.prog W=.ok true W:=fun W=>eq_untyped W 0 10 0 0 10 0
 clear L k0 x1 k1 x2 k2 x3 k3 x4 k4 x5 k5 x6 k6 x7 k7 x8 k8
 go_enter Tryz.func12,Tryz.ntmps12
 go_wp2_with (first
  | (go_at_call 35;refine Calls.mono (one_sep S0.out) ?_;rintro e w1 ⟨g,rfl,s1⟩;have S1:=hid s1;clear s1)
  | (go_at_call 8;(with_reducible refine Calls.mono (HB.out _ _ _ S1.out) ?_);rintro e w2 ⟨p,rfl,Y0,s2⟩;have T0:=hid s2;clear s2)
  | (go_at_call 9;(with_reducible refine Calls.mono (H1.out _ _ _ _ T0.out) ?_);rintro e v1 ⟨a1,c1,Y1,rfl,s1⟩;have T1:=hid ((s1.box (.cells #[.int .i64 0,.int .u64 0,.int .i64 (-1),.slice a1 0 c1] 35)).swap);clear s1)
  | (go_at_call 9;(with_reducible refine Calls.mono (H2.out _ _ _ _ T1.out) ?_);rintro e v2 ⟨a2,c2,Y2,rfl,s2⟩;have T2:=hid ((s2.box (.cells #[.int .i64 0,.int .u64 0,.int .i64 (-1),.slice a2 0 c2] 35)).swap);clear s2)
  | (go_at_call 9;(with_reducible refine Calls.mono (H3.out _ _ _ _ T2.out) ?_);rintro e v3 ⟨a3,c3,Y3,rfl,s3⟩;have T3:=hid ((s3.box (.cells #[.int .i64 181,.int .u64 0,.int .i64 (-1),.slice a3 0 c3] 35)).swap);clear s3)
  | (go_at_call 36;(with_reducible refine Calls.mono (HH3.out _ _ _ _ T3.out) ?_);rintro e v31 ⟨a31,c31,rfl,s3⟩;have T31:=hid s3;clear s3)
  | (go_at_call 9;(with_reducible refine Calls.mono (H4.out _ _ _ _ T31.out) ?_);rintro e v4 ⟨a4,c4,Y4,rfl,s4⟩;have T4:=hid ((s4.box (.cells #[.int .i64 0,.int .u64 2,.int .i64 (-1),.slice a4 0 c4] 35)).swap);clear s4)
  | (go_at_call 9;(with_reducible refine Calls.mono (H5.out _ _ _ _ T4.out) ?_);rintro e v5 ⟨a5,c5,Y5,rfl,s5⟩;have T5:=hid ((s5.box (.cells #[.int .i64 180,.int .u64 0,.int .i64 (-1),.slice a5 0 c5] 35)).swap);clear s5)
  | (go_at_call 9;(with_reducible refine Calls.mono (H6.out _ _ _ _ T5.out) ?_);rintro e v6 ⟨a6,c6,Y6,rfl,s6⟩;have T6:=hid ((s6.box (.cells #[.int .i64 182,.int .u64 0,.int .i64 (-1),.slice a6 0 c6] 35)).swap);clear s6)
  | (go_at_call 37;(with_reducible refine Calls.mono (HU.out _ _ _ _ T6.out) ?_);rintro e v61 ⟨rfl,s6⟩;have T61:=hid ((s6.box (.cells #[.int .u64 0,.int .i64 10,.int .u64 0] 79)).swap);clear s6)
  | (go_at_call 9;(with_reducible refine Calls.mono (H7.out _ _ _ _ T61.out) ?_);rintro e v7 ⟨a7,c7,Y7,rfl,s7⟩;have T7:=hid ((s7.box (.cells #[.int .i64 0,.int .u64 0,.int .i64 (-1),.slice a7 0 c7] 35)).swap);clear s7)
  | (go_at_call 9;(with_reducible refine Calls.mono (H8.out _ _ _ _ T7.out) ?_);rintro e v8 ⟨a8,c8,Y8,rfl,s8⟩;have T8:=hid ((s8.box (.cells #[.int .i64 182,.int .u64 0,.int .i64 (-1),.slice a8 0 c8] 35)).swap);clear s8)
  | (go_at_call 8;(with_reducible refine Calls.mono (HBN.out _ _ T8.out) ?_);rintro e w9 ⟨rfl,s9⟩;have av10:w9.cell? ⟨v1.heap.size,0,none⟩=some (.int .i64 0):=(s9.blkCell (p:=v1.heap.size) (List.mem_cons_of_mem _ (List.mem_cons_of_mem _ (List.mem_cons_of_mem _ (List.mem_cons_of_mem _ (List.mem_cons_of_mem _ (List.mem_cons_of_mem _ (List.mem_cons_of_mem _ (List.mem_cons_of_mem _ (List.mem_cons_of_mem _ (List.mem_cons_self)))))))))) 0).1;have av12:w9.cell? ⟨v1.heap.size,2,none⟩=some (.int .i64 (-1)):=(s9.blkCell (p:=v1.heap.size) (List.mem_cons_of_mem _ (List.mem_cons_of_mem _ (List.mem_cons_of_mem _ (List.mem_cons_of_mem _ (List.mem_cons_of_mem _ (List.mem_cons_of_mem _ (List.mem_cons_of_mem _ (List.mem_cons_of_mem _ (List.mem_cons_of_mem _ (List.mem_cons_self)))))))))) 2).1;have av20:w9.cell? ⟨v2.heap.size,0,none⟩=some (.int .i64 0):=(s9.blkCell (p:=v2.heap.size) (List.mem_cons_of_mem _ (List.mem_cons_of_mem _ (List.mem_cons_of_mem _ (List.mem_cons_of_mem _ (List.mem_cons_of_mem _ (List.mem_cons_of_mem _ (List.mem_cons_of_mem _ (List.mem_cons_of_mem _ (List.mem_cons_self))))))))) 0).1;have av30:w9.cell? ⟨v3.heap.size,0,none⟩=some (.int .i64 181):=(s9.blkCell (p:=v3.heap.size) (List.mem_cons_of_mem _ (List.mem_cons_of_mem _ (List.mem_cons_of_mem _ (List.mem_cons_of_mem _ (List.mem_cons_of_mem _ (List.mem_cons_of_mem _ (List.mem_cons_of_mem _ (List.mem_cons_self)))))))) 0).1;have av40:w9.cell? ⟨v4.heap.size,0,none⟩=some (.int .i64 0):=(s9.blkCell (p:=v4.heap.size) (List.mem_cons_of_mem _ (List.mem_cons_of_mem _ (List.mem_cons_of_mem _ (List.mem_cons_of_mem _ (List.mem_cons_of_mem _ (List.mem_cons_of_mem _ (List.mem_cons_self))))))) 0).1;have av41:w9.cell? ⟨v4.heap.size,1,none⟩=some (.int .u64 2):=(s9.blkCell (p:=v4.heap.size) (List.mem_cons_of_mem _ (List.mem_cons_of_mem _ (List.mem_cons_of_mem _ (List.mem_cons_of_mem _ (List.mem_cons_of_mem _ (List.mem_cons_of_mem _ (List.mem_cons_self))))))) 1).1;have T9:=hid s9;clear s9)
  | (go_at_call 36;(with_reducible refine Calls.mono (HH8.out _ _ _ _ T9.out) ?_);rintro e w10 ⟨a10,c10,rfl,s10⟩;have bv50:w10.cell? ⟨v5.heap.size,0,none⟩=some (.int .i64 180):=(s10.blkCell (p:=v5.heap.size) (List.mem_cons_of_mem _ (List.mem_cons_of_mem _ (List.mem_cons_of_mem _ (List.mem_cons_of_mem _ (List.mem_cons_of_mem _ (List.mem_cons_self)))))) 0).1;have bv60:w10.cell? ⟨v6.heap.size,0,none⟩=some (.int .i64 182):=(s10.blkCell (p:=v6.heap.size) (List.mem_cons_of_mem _ (List.mem_cons_of_mem _ (List.mem_cons_of_mem _ (List.mem_cons_of_mem _ (List.mem_cons_self))))) 0).1;have bv70:w10.cell? ⟨v7.heap.size,0,none⟩=some (.int .i64 0):=(s10.blkCell (p:=v7.heap.size) (List.mem_cons_of_mem _ (List.mem_cons_of_mem _ (List.mem_cons_self))) 0).1;have bv80:w10.cell? ⟨v8.heap.size,0,none⟩=some (.int .i64 182):=(s10.blkCell (p:=v8.heap.size) (List.mem_cons_of_mem _ (List.mem_cons_self)) 0).1;have bu0:w10.cell? ⟨v61.heap.size,0,none⟩=some (.int .u64 0):=(s10.blkCell (p:=v61.heap.size) (List.mem_cons_of_mem _ (List.mem_cons_of_mem _ (List.mem_cons_of_mem _ (List.mem_cons_self)))) 0).1;have bu1:w10.cell? ⟨v61.heap.size,1,none⟩=some (.int .i64 10):=(s10.blkCell (p:=v61.heap.size) (List.mem_cons_of_mem _ (List.mem_cons_of_mem _ (List.mem_cons_of_mem _ (List.mem_cons_self)))) 1).1;have bu2:w10.cell? ⟨v61.heap.size,2,none⟩=some (.int .u64 0):=(s10.blkCell (p:=v61.heap.size) (List.mem_cons_of_mem _ (List.mem_cons_of_mem _ (List.mem_cons_of_mem _ (List.mem_cons_self)))) 2).1;have T10:=hid s10;clear s10)
  | fail)
 go_ret
 exact⟨rfl,T10.out.low⟩
end
end
section
open Go.ChangeShapes Go.WideShapes Go.ChangeAt Go.RowKit Go.Joins Go.Deep
theorem ZI:ownKnob Tryz.prog.godebug=none:=by kernel_rfl
theorem laidOut:laidOutB Tryz.prog=true:=by kernel_rfl
def SeeK {α:Type} (k:Nat) (enc:α->List Value) (P:α->Prop) (W:World) (ao:Option Addr) (X:List α):Prop:=
 ∀ i x,X[i]? = some x->P x/\∃ b o,ao=some ⟨b,o,none⟩/\b<W.heap.size/\∀ j v,(enc x)[j]? = some v->W.cell? ⟨b,o+i*k+j,none⟩=some v
theorem SeeK.below {α:Type} {k:Nat} {enc:α->List Value} {P:α->Prop} {W W':World} {ao:Option Addr} {X:List α} {r:Nat} (h:SeeK k enc P W ao X) (hb:Below r W W') (hr:W.heap.size<=r):SeeK k enc P W' ao X:=fun i x hx=>by
 obtain⟨h1,b,o,e,hlt,hc⟩:=h i x hx
 exact⟨h1,b,o,e,Nat.lt_of_lt_of_le hlt hb.size,fun j v hj=>(hb.cell (p:=⟨b,o+i*k+j,none⟩) (by simp only;omega)).trans (hc j v hj)⟩
theorem Zs {S:Sl.St} {s:Sl.Sl} {c d:Sl.Cp} (hd:letI:=decTr;letI:=Sl.decFine;letI:=Ca.decLim;letI:=Ca.decFine;letI:=Ca.decMint;letI:=Ca.decCp;letI:=Ca.decBad;letI:=Ca.decFit;letI:=Ca.Jc;Sl.atS S s=some d) (hdk:d.k=0) (hc:letI:=decTr;letI:=Sl.decFine;letI:=Ca.decLim;letI:=Ca.decFine;letI:=Ca.decMint;letI:=Ca.decCp;letI:=Ca.decBad;letI:=Ca.decFit;letI:=Ca.Jc;Sl.Fine c) (hk:c.k≠0):letI:=decTr;letI:=Sl.decFine;letI:=Ca.decLim;letI:=Ca.decFine;letI:=Ca.decMint;letI:=Ca.decCp;letI:=Ca.decBad;letI:=Ca.decFit;letI:=Ca.Jc;Sl.putS S s c=Sl.setS S s c:=by
 letI:=decTr
 letI:=Sl.decFine
 letI:=Ca.decLim
 letI:=Ca.decFine
 letI:=Ca.decMint
 letI:=Ca.decCp
 letI:=Ca.decBad
 letI:=Ca.decFit
 letI:=Ca.Jc
 have hE:Sl.putE S s c=0:=by
  unfold Sl.putE
  rw[hd]
  simp only[hc,hk,hdk,if_true,if_false]
 unfold Sl.putS
 rw[hE]
 rfl
theorem J4 {K:Kr} {core a w r b k:Int} (hk:k=4\/k=5) (run:letI:=decTr;letI:=Sl.decFine;letI:=Ca.decLim;letI:=Ca.decFine;letI:=Ca.decMint;letI:=Ca.decCp;letI:=Ca.decBad;letI:=Ca.decFit;letI:=Ca.Jc;Th.runsB (pickedK K core).h core=true) (hx:letI:=decTr;letI:=Sl.decFine;letI:=Ca.decLim;letI:=Ca.decFine;letI:=Ca.decMint;letI:=Ca.decCp;letI:=Ca.decBad;letI:=Ca.decFit;letI:=Ca.Jc;capN K a=⟨k,0,7,0,0,0⟩) (hr:0<=r/\r<=7) (hb:0<b/\b<=65536) (hf:letI:=decTr;letI:=Sl.decFine;letI:=Ca.decLim;letI:=Ca.decFine;letI:=Ca.decMint;letI:=Ca.decCp;letI:=Ca.decBad;letI:=Ca.decFit;letI:=Ca.Jc;freeE (pickedK K core) w 1=0) {d:Sl.Cp} (hd:letI:=decTr;letI:=Sl.decFine;letI:=Ca.decLim;letI:=Ca.decFine;letI:=Ca.decMint;letI:=Ca.decCp;letI:=Ca.decBad;letI:=Ca.decFit;letI:=Ca.Jc;Sl.atS K.S (sl w)=some d) (hdk:d.k=0) :
  letI:=decTr;letI:=Sl.decFine;letI:=Ca.decLim;letI:=Ca.decFine;letI:=Ca.decMint;letI:=Ca.decCp;letI:=Ca.decBad;letI:=Ca.decFit;letI:=Ca.Jc;goK K core ⟨1,a,w,r,b,0⟩=({ K with h:=Th.pickH K.h core,S:=Sl.setS K.S (sl w) ⟨k,0,bits .and .i64 7 r,b,0,0⟩,E:=Tr.addS K.E (tr a) (tr w) },tlE 0):=by
 letI:=decTr
 letI:=Sl.decFine
 letI:=Ca.decLim
 letI:=Ca.decFine
 letI:=Ca.decMint
 letI:=Ca.decCp
 letI:=Ca.decBad
 letI:=Ca.decFit
 letI:=Ca.Jc
 have hm:mayB ⟨1,a,w,r,b,0⟩ ⟨k,0,7,0,0,0⟩=true:=by
  rcases hk with rfl|rfl
  ·rfl
  ·rfl
 have hfine:Ca.Fine ⟨k,0,7,0,0,0⟩:=by
  rcases hk with rfl|rfl
  ·decide
  ·decide
 have hbad:Ca.Bad k:=hk
 have hlim:Ca.Lim k:=by
  unfold Ca.Lim
  omega
 have hu:u64 b=b:=by
  unfold u64
  omega
 have hM:¬ Ca.MintR ⟨k,0,7,0,0,0⟩ b:=by
  unfold Ca.MintR
  rintro(h|⟨_,h⟩)
  ·have:k=0:=h
   omega
  ·exact h ⟨hbad,rfl⟩
 have e0:Ca.mintE ⟨k,0,7,0,0,0⟩ r b=0:=by
  unfold Ca.mintE
  rw[if_pos hfine,if_pos hr,if_neg hM]
 have e1:mintE (pickedK K core) ⟨1,a,w,r,b,0⟩ ⟨k,0,7,0,0,0⟩=0:=by
  unfold mintE
  show(if freeE (pickedK K core) w 1≠0 then _ else Ca.mintE ⟨k,0,7,0,0,0⟩ r (u64 b))=0
  rw[if_neg (by rw[hf];decide),hu,e0]
 have e2:ofCa (Ca.mintR (toCa ⟨k,0,7,0,0,0⟩) r (u64 b))=⟨k,0,bits .and .i64 7 r,b,0,0⟩:=by
  show ofCa (Ca.mintR ⟨k,0,7,0,0,0⟩ r (u64 b))=_
  unfold Ca.mintR
  rw[hu,if_pos e0]
  unfold Ca.mintC
  rw[if_pos hlim,if_neg (by omega)]
  rfl
 have e3:mintK (pickedK K core) ⟨1,a,w,r,b,0⟩ ⟨k,0,7,0,0,0⟩={ K with h:=Th.pickH K.h core,S:=Sl.setS K.S (sl w) ⟨k,0,bits .and .i64 7 r,b,0,0⟩,E:=Tr.addS K.E (tr a) (tr w) }:=by
  unfold mintK
  rw[if_pos e1]
  show layK (pickedK K core) a w (ofCa (Ca.mintR (toCa ⟨k,0,7,0,0,0⟩) r (u64 b)))=_
  rw[e2]
  unfold layK
  show({ K with h:=Th.pickH K.h core,S:=Sl.putS K.S (sl w) ⟨k,0,bits .and .i64 7 r,b,0,0⟩,E:=Tr.addS K.E (tr a) (tr w) }:Kr)=_
  have hf2:Ca.Fine (Ca.mintC ⟨k,0,7,0,0,0⟩ r b):=Ca.mint_fine hfine (show k≠0 by omega) hr (.inr hbad)
  have e4:Ca.mintC ⟨k,0,7,0,0,0⟩ r b=⟨k,0,bits .and .i64 7 r,b,0,0⟩:=by
   unfold Ca.mintC
   rw[if_pos hlim,if_neg (by omega)]
  rw[e4] at hf2
  have hf3:Sl.Fine ⟨k,0,bits .and .i64 7 r,b,0,0⟩:=by
   rcases hf2 with h|h
   ·have:k=0:=congrArg Ca.Cp.k h
    omega
   ·exact .inr h
  rw[Zs hd hdk hf3 (show k≠0 by omega)]
 unfold goK doK
 rw[if_pos run,if_pos (show(0:Int)<=1/\(1:Int)<=17 by decide),if_neg (show ¬ (1:Int)=17 by decide)]
 show(if mayB _ (capN K a)=true then doesK _ _ _ _ (capN K a) else _)=_
 rw[hx,if_pos hm]
 unfold doesK
 rw[if_neg (show ¬ (1:Int)=0 by decide),if_pos rfl,e1,e3]
def K1:Kr:=letI:=decTr;letI:=Sl.decFine;letI:=Ca.decLim;letI:=Ca.decFine;letI:=Ca.decMint;letI:=Ca.decCp;letI:=Ca.decBad;letI:=Ca.decFit;letI:=Ca.Jc;(goK K0 0 ⟨0,1,20,4,0,1⟩).1
def K2 (r b:Int):Kr:=letI:=decTr;letI:=Sl.decFine;letI:=Ca.decLim;letI:=Ca.decFine;letI:=Ca.decMint;letI:=Ca.decCp;letI:=Ca.decBad;letI:=Ca.decFit;letI:=Ca.Jc;{ K1 with h:=Th.pickH K1.h 0,S:=Sl.setS K1.S (sl 21) ⟨4,0,bits .and .i64 7 r,b,0,0⟩,E:=Tr.addS K1.E (tr 20) (tr 21) }
def K3 (r:Int):Kr:=letI:=decTr;letI:=Sl.decFine;letI:=Ca.decLim;letI:=Ca.decFine;letI:=Ca.decMint;letI:=Ca.decCp;letI:=Ca.decBad;letI:=Ca.decFit;letI:=Ca.Jc;(goK K1 0 ⟨1,20,21,r,0,0⟩).1
def I0:Kr:=letI:=decTr;letI:=Sl.decFine;letI:=Ca.decLim;letI:=Ca.decFine;letI:=Ca.decMint;begK 1 12 1 [5]
def I1:Kr:=letI:=decTr;letI:=Sl.decFine;letI:=Ca.decLim;letI:=Ca.decFine;letI:=Ca.decMint;(goK I0 0 ⟨0,1,20,5,0,1⟩).1
def I2 (b:Int):Kr:=letI:=decTr;letI:=Sl.decFine;letI:=Ca.decLim;letI:=Ca.decFine;letI:=Ca.decMint;{ I1 with h:=Th.pickH I1.h 0,S:=Sl.setS I1.S (sl 21) ⟨5,0,bits .and .i64 7 7,b,0,0⟩,E:=Tr.addS I1.E (tr 20) (tr 21) }
def I3 (b:Int):Kr:=letI:=decTr;letI:=Sl.decFine;letI:=Ca.decLim;letI:=Ca.decFine;letI:=Ca.decMint;(goK (I2 b) 0 ⟨15,4,21,0,0,0⟩).1
def I4 (b:Int):Kr:=letI:=decTr;letI:=Sl.decFine;letI:=Ca.decLim;letI:=Ca.decFine;letI:=Ca.decMint;(goK (I3 b) 0 ⟨11,20,0,0,0,1⟩).1
def Jq:Nat->Kr->Kr
 | 0,K=>K
 | t+1,K=>Jq t (Jf K 0)
theorem Zv:letI:=decTr;letI:=Sl.decFine;letI:=Ca.decLim;letI:=Ca.decFine;letI:=Ca.decMint;(goK I0 0 ⟨0,1,20,5,0,1⟩).2.e=0:=by kernel_rfl
theorem Zw {b:Int} (hb:0<b/\b<=65536):letI:=decTr;letI:=Sl.decFine;letI:=Ca.decLim;letI:=Ca.decFine;letI:=Ca.decMint;goK I1 0 ⟨1,20,21,7,b,0⟩=(I2 b,tlE 0):=
 J4 (.inr rfl) (by kernel_rfl) (by kernel_rfl) ⟨by decide,by decide⟩ hb (by kernel_rfl) (show Sl.atS I1.S (sl 21)=some Sl.no by kernel_rfl) rfl
theorem Zx (b:Int):letI:=decTr;letI:=Sl.decFine;letI:=Ca.decLim;letI:=Ca.decFine;letI:=Ca.decMint;(goK (I2 b) 0 ⟨15,4,21,0,0,0⟩).2.e=0:=by kernel_rfl
theorem Zc (b:Int):letI:=decTr;letI:=Sl.decFine;letI:=Ca.decLim;letI:=Ca.decFine;letI:=Ca.decMint;(goK (I3 b) 0 ⟨11,20,0,0,0,1⟩).2.e=0/\Th.runsB (I4 b).h 0=false:=⟨by kernel_rfl,by kernel_rfl⟩
theorem Zy (b:Int):letI:=decTr;letI:=Sl.decFine;letI:=Ca.decLim;letI:=Ca.decFine;letI:=Ca.decMint;Zl (I4 b) 0=0/\Zm (I4 b) 0=0:=⟨by kernel_rfl,by kernel_rfl⟩
theorem Zz (b:Int) (t:Nat) (ht:t<8):letI:=decTr;letI:=Sl.decFine;letI:=Ca.decLim;letI:=Ca.decFine;letI:=Ca.decMint;(Th.getT (Jq t (Jf (I4 b) 0)).h 0).st=1/\(Th.getT (Jq t (Jf (I4 b) 0)).h 0).g=[b,0,0,0,0,0,0,0]/\(Jq t (Jf (I4 b) 0)).N=[⟨false,0,[]⟩]/\(goK (Jq t (Jf (I4 b) 0)) 0 ⟨16,4,0,0,0,0⟩).2.e=0/\(goK (Jq t (Jf (I4 b) 0)) 0 ⟨16,4,0,0,0,0⟩).1.N=(if t=0 then [⟨false,0,[]⟩] else [⟨true,No.orI 0 b,[]⟩]):=by
 letI:=decTr
 letI:=Sl.decFine
 letI:=Ca.decLim
 letI:=Ca.decFine
 letI:=Ca.decMint
 rcases(by omega:t=0\/t=1\/t=2\/t=3\/t=4\/t=5\/t=6\/t=7) with rfl|rfl|rfl|rfl|rfl|rfl|rfl|rfl
 all_goals exact⟨by kernel_rfl,by kernel_rfl,by kernel_rfl,by kernel_rfl,by kernel_rfl⟩
theorem Jk (x:Int) (m:Nat) (hm:m<=62):bits .and .i64 x ((2 ^ m - 1:Nat):Int)=x % ((2 ^ m:Nat):Int):=by
 have hp:=Nat.two_pow_pos m
 have hq:2 ^ m<=2 ^ 62:=Nat.pow_le_pow_right (by omega) hm
 show IntKind.i64.wrap ((BitVec.ofInt 64 x &&& BitVec.ofInt 64 ((2 ^ m - 1:Nat):Int)).toNat:Int)=_
 rw[BitVec.toNat_and,ofInt_u64 (2 ^ m - 1) (by omega),Nat.and_two_pow_sub_one_eq_mod,BitVec.toNat_ofInt]
 have e:(((x % ((2 ^ 64:Nat):Int)).toNat % 2 ^ m:Nat):Int)=x % ((2 ^ m:Nat):Int):=by
  rw[Int.natCast_emod,Int.toNat_of_nonneg (Int.emod_nonneg _ (by decide))]
  apply Int.emod_emod_of_dvd
  exact Int.natCast_dvd_natCast.2 (Nat.pow_dvd_pow 2 (by omega))
 rw[e]
 have h1:0<=x % ((2 ^ m:Nat):Int):=Int.emod_nonneg _ (by omega)
 have h2:x % ((2 ^ m:Nat):Int)<((2 ^ m:Nat):Int):=Int.emod_lt_of_pos _ (by omega)
 generalize x % ((2 ^ m:Nat):Int)=y at *
 generalize 2 ^ m=p at *
 have hy:y % (2:Int) ^ 64=y:=Int.emod_eq_of_lt h1 (by omega)
 simp only[IntKind.wrap,IntKind.bits,IntKind.signed,hy]
 rw[if_neg]
 simp
 omega
theorem Ji (x:Int) (m:Nat) (hm:m<=62):∃ p:Nat,p<2 ^ m/\bits .and .i64 x ((2 ^ m - 1:Nat):Int)=(p:Int):=by
 have hp:(0:Int)<((2 ^ m:Nat):Int):=by
  have:=Nat.two_pow_pos m
  omega
 have h0:0<=x % ((2 ^ m:Nat):Int):=Int.emod_nonneg _ (by omega)
 have h1:x % ((2 ^ m:Nat):Int)<((2 ^ m:Nat):Int):=Int.emod_lt_of_pos _ hp
 exact⟨(x % ((2 ^ m:Nat):Int)).toNat,by omega,by rw[Jk x m hm];omega⟩
theorem ZC (x:Int):∃ p:Nat,p<8/\bits .and .i64 x 7=(p:Int):=Ji x 3 (by decide)
theorem JA (x:Int):∃ p:Nat,p<65536/\bits .and .i64 x 65535=(p:Int):=Ji x 16 (by decide)
section
variable {α:Type} {a b c d e f g:α} {l:List α}
theorem ZL:a∈a::l:=List.mem_cons_self
theorem ZH:b∈a::b::l:=List.mem_cons_of_mem _ ZL
theorem ZD:c∈a::b::c::l:=List.mem_cons_of_mem _ ZH
end
end
section
open Go.RowKit Go.Deep Go.Shelf
open Classical
abbrev Ints (W:World) (ao:Option Addr) (X:List Int):Prop:=SeeK 1 (fun x:Int=>[.int .i64 x]) I64 W ao X
theorem Ints.at {W:World} {ao:Option Addr} {X:List Int} (h:Ints W ao X) {i:Nat} {x:Int} (hx:X[i]? = some x):∃ b o,ao=some ⟨b,o,none⟩/\W.cell? ⟨b,o+i,none⟩=some (.int .i64 x):=by
 obtain⟨_,b,o,e,_,hc⟩:=h i x hx
 have:=hc 0 _ rfl
 rw[Nat.mul_one,Nat.add_zero] at this
 exact⟨b,o,e,this⟩
theorem Sep.base {w0 w1 w:World} {r r1:Nat} {R:List Th} (h:Sep w1 r1 w R) (k:Below r w0 w1) (hr:r<=r1):Sep w0 r w R:=
 ⟨k.trans (h.low.mono hr),Nat.le_trans hr h.size,fun t ht=>⟨(h.each t ht).1,fun x hx=>Nat.le_trans hr ((h.each t ht).2 x hx)⟩,h.apart⟩
theorem Jz {w0 w:World} {r p n m:Nat} {Y:Ly} {K:Kr} {R:List Th} (s:Sep w0 r w (kT p Y K::R)) (v:Iv n m K) (o:Int) :
  Calls Tryz.prog 14 #[ptr p,.int .i64 o] w fun e w'=>e=.returned (.tuple #[.int .i64 (Zm K o),.int .i64 (Zl K o)])/\KS w0 r w' p (Jf K o) R:=by
 unfold Zm Zl Jf
 by_cases hb:Ir.telB Ir.isO K.l o=true
 ·rw[if_pos hb,if_pos hb]
  have h:=JW v Jl hb
  have hg:=telG_ok v Jl o
  exact J0 s hb v.few h.1 h.2 hg (sigW_ok hg)
 ·rw[if_neg hb,if_neg hb]
  exact Ze s (by simpa using hb)
structure Ox where
 k:Int
 o:Int
 c:Cl
def cX (x:Ox):List Value:=[.int .i64 x.k,.int .i64 x.o,.int .i64 x.c.q,.int .i64 x.c.a,.int .i64 x.c.w,.int .i64 x.c.A,.int .i64 x.c.B,.int .i64 x.c.C]
def ZK (x:Ox):Prop:=I64 x.k/\I64 x.o/\I64 x.c.q/\I64 x.c.a/\I64 x.c.w/\I64 x.c.A/\I64 x.c.B/\I64 x.c.C
abbrev Oxs (W:World) (ao:Option Addr) (X:List Ox):Prop:=SeeK 8 cX ZK W ao X
def OxC (V:World) (b o:Nat) (x:Ox):Prop:=V.cell? ⟨b,o,none⟩=some (.int .i64 x.k)/\V.cell? ⟨b,o+1,none⟩=some (.int .i64 x.o)/\V.cell? ⟨b,o+2,none⟩=some (.int .i64 x.c.q)/\V.cell? ⟨b,o+3,none⟩=some (.int .i64 x.c.a)/\V.cell? ⟨b,o+4,none⟩=some (.int .i64 x.c.w)/\V.cell? ⟨b,o+5,none⟩=some (.int .i64 x.c.A)/\V.cell? ⟨b,o+6,none⟩=some (.int .i64 x.c.B)/\V.cell? ⟨b,o+7,none⟩=some (.int .i64 x.c.C)
theorem Oxs.at {W:World} {ao:Option Addr} {X:List Ox} (h:Oxs W ao X) {i:Nat} {x:Ox} (hx:X[i]? = some x):ZK x/\∃ b o,ao=some ⟨b,o,none⟩/\b<W.heap.size/\OxC W b (o+i*8) x:=by
 obtain⟨h1,b,o,e,hb,hc⟩:=h i x hx
 exact⟨h1,b,o,e,hb,hc 0 _ rfl,hc 1 _ rfl,hc 2 _ rfl,hc 3 _ rfl,hc 4 _ rfl,hc 5 _ rfl,hc 6 _ rfl,hc 7 _ rfl⟩
theorem OxC.below {W V:World} {b o:Nat} {x:Ox} (h:OxC W b o x) (hb:b<W.heap.size) (k:Below W.heap.size W V):OxC V b o x:=by
 obtain⟨h0,h1,h2,h3,h4,h5,h6,h7⟩:=h
 have c:∀ j,V.cell? ⟨b,j,none⟩=W.cell? ⟨b,j,none⟩:=fun j=>k.cell (p:=⟨b,j,none⟩) hb
 refine⟨?_,?_,?_,?_,?_,?_,?_,?_⟩
 all_goals
  rw[c]
  assumption
end
end Go.Proofs.YtilnjnblpeeigaaGreatDoor
