/-
  ThreadsMoves: who goes to another core is ready there, and nowhere else; its priority and words stay; the variable words.halves starts as the program's text lays it (the card ties it).
-/
import Derived.Test.YtchamgecalfmpaaDoorHLaw
import Derived.Test.YtchamgecalfmpaaDoorHSmall
namespace Go.Proofs.YtchamgecalfmpaaDoor.threadsMoves
open Go.RowKit Go.Deep Go.Shelf
def G (k : Nat) (z : Int) : List Int := z8.set k z
def m0 (P : Nat) : Hs := ⟨[⟨0, P, 0, 5, z8⟩], [[], []]⟩
def m1 (P : Nat) (g : List Int) : Hs := ⟨[⟨0, P, 0, 5, g⟩], [[], []]⟩
def m2 (P : Nat) (g : List Int) : Hs := ⟨[⟨1, P, 0, 5, g⟩], [[⟨P, 0⟩], []]⟩
def m3 (P : Nat) (g : List Int) : Hs := ⟨[⟨2, P, 0, 5, g⟩], [[], []]⟩
def m4 (P : Nat) (g : List Int) : Hs := ⟨[⟨1, P, 1, 5, g⟩], [[], [⟨P, 0⟩]]⟩
def m5 (P : Nat) (g : List Int) : Hs := ⟨[⟨2, P, 1, 5, g⟩], [[], []]⟩
theorem mk0 {P : Nat} (hP : P < 256) : makeH (newH 2) P 0 = m0 P := (make_yes hP (h := newH 2) (c := 0) (by decide) (by decide)).1
theorem reg0 {P k : Nat} (hk : k < 8) (z : Int) : regE (m0 P) 0 k = 0 ∧ regH (m0 P) 0 k z = m1 P (G k z) := by
  have e : regE (m0 P) 0 k = 0 := by
    show (if 0 ≤ (k : Int) ∧ (k : Int) < 8 then (0 : Int) else 1) = 0
    rw [if_pos (by omega)]
  refine ⟨e, ?_⟩
  unfold regH
  rw [if_pos e, Int.toNat_natCast]
  rfl
theorem pk {P : Nat} (hP : P < 256) (g : List Int) : pickH (m2 P g) 0 = m3 P g := (pick_some (h := m2 P g) (c := 0) (by simp [m2]) (y := ⟨P, 0⟩) (next_one hP 0 (by decide))).trans rfl
theorem pk1 {P : Nat} (hP : P < 256) (g : List Int) : pickH (m4 P g) 1 = m5 P g := (pick_some (h := m4 P g) (c := 1) (by simp [m4]) (y := ⟨P, 0⟩) (next_one hP 0 (by decide))).trans rfl
theorem line4 {P : Nat} (hP : P < 256) (g : List Int) : lineH (m4 P g) 1 P = [0] := (line_que (h := m4 P g) (c := 1) (by simp [m4]) P).trans (line_same hP [0])
theorem line5 {P : Nat} (hP : P < 256) (g : List Int) : lineH (m5 P g) 0 P = [] := (line_que (h := m5 P g) (c := 0) (by simp [m5]) P).trans (line_same hP [])
theorem rgk {k : Nat} (hk : k < 8) (z : Int) (st : Int) (p c : Nat) (l : Int) : rg ⟨st, p, c, l, G k z⟩ k = z := by
  unfold rg G z8
  rw [List.getD_eq_getElem?_getD, List.getElem?_set_self (by simpa using hk)]
  rfl
theorem all (P k : Nat) (hP : P < 256) (hk : k < 8) (z : Int) : ∃ (h0 h1 h2 h3 h4 h5 : Hs) (g : List Int), makeH (newH 2) P 0 = h0 ∧ regH h0 0 k z = h1 ∧ regE h0 0 k = 0 ∧ resumeH h1 0 = h2 ∧ pickH h2 0 = h3 ∧ coreH h3 0 1 = h4 ∧ coreE h3 0 1 = 0 ∧ runsB h4 0 = false ∧ runsB h4 1 = false ∧ getT h4 0 = ⟨1, P, 1, 5, g⟩ ∧ getE h4 0 = 0 ∧ rg ⟨1, P, 1, 5, g⟩ k = z ∧ lineH h4 1 P = [0] ∧ pickH h4 1 = h5 ∧ runsN h5 1 = 0 ∧ runsB h5 1 = true ∧ lineH h5 0 P = [] :=
  ⟨m0 P, m1 P (G k z), m2 P (G k z), m3 P (G k z), m4 P (G k z), m5 P (G k z), G k z, mk0 hP, (reg0 hk z).2, (reg0 hk z).1, rfl, pk hP _, rfl, rfl, rfl, rfl, rfl, rfl, rgk hk z _ _ _ _, line4 hP _, pk1 hP _, rfl, rfl, line5 hP _⟩
set_option maxHeartbeats 8000000 in
set_option maxRecDepth 100000 in
theorem walk (prio i z : Int) (w : World) (ht : Tab w) (_ : -9223372036854775808 ≤ prio ∧ prio ≤ 9223372036854775807) (_ : -9223372036854775808 ≤ i ∧ i ≤ 9223372036854775807) (hz : 0 ≤ z ∧ z ≤ 18446744073709551615) :
    Calls Tryd.prog 8 #[.int .i64 prio, .int .i64 i, .int .u64 z] w fun e w' => e = .returned (.bool true) ∧ Below w.heap.size w w' := by
  have HT := hid (Sep.tabs ht)
  clear ht
  obtain ⟨P, hP, hmask⟩ := mask255 prio
  obtain ⟨k, hk, hmask7⟩ := mask7 i
  obtain ⟨h0, h1, h2, h3, h4, h5, g, a1, a2, a3, a4, a5, a6, a7, a8, a9, a10, a11, a12, a13, a14, a15, a16, a17⟩ := all P k hP hk z
  have HA := hid (And.intro a1 (And.intro a2 (And.intro a3 (And.intro a4 (And.intro a5 (And.intro a6 (And.intro a7 (And.intro a8 (And.intro a9 (And.intro a10 (And.intro a11 (And.intro a12 (And.intro a13 (And.intro a14 (And.intro a15 (And.intro a16 a17))))))))))))))))
  have HZ := hid hz
  have HK := hid hk
  have hkz : (k : Int) < 8 := by omega
  clear a1 a2 a3 a4 a5 a6 a7 a8 a9 a10 a11 a12 a13 a14 a15 a16 a17 hz
  go_enter Tryd.func8, Tryd.ntmps8
  go_wp2_with fail
  refine Calls.mono (newT_sep (sep_nil w) 2 (by omega) (by omega)) ?_
  rintro e w1 ⟨p, F, rfl, s1⟩
  have S1 := hid s1
  clear s1
  generalize hr : w.heap.size = r at *
  have HR := hid hr
  clear hr
  go_wp2_with fail
  obtain ⟨a1, a2, a3, a4, a5, a6, a7, a8, a9, a10, a11, a12, a13, a14, a15, a16, a17⟩ := HA.out
  clear HA
  refine Calls.mono (make_is S1.out P 0 a1 rfl rfl) ?_
  rintro e w2 ⟨rfl, F2, s2⟩
  have S2 := hid s2
  clear s2
  generalize makeN (newH 2) P 0 = mn at *
  generalize makeE (newH 2) P 0 = me at *
  go_wp2_with fail
  refine Calls.mono (reg_sep S2.out 0 k z HZ.out) ?_
  rintro e w3 ⟨rfl, F3, s3⟩
  rw [a2] at s3
  rw [a3]
  have S3 := hid s3
  clear s3
  go_wp2_with fail
  refine Calls.mono (resume_is S3.out 0 a4 rfl) ?_
  rintro e w4 ⟨rfl, F4, s4⟩
  have S4 := hid s4
  clear s4
  generalize resumeE h1 0 = re at *
  go_wp2_with fail
  refine Calls.mono (pick_is S4.out HT.out 0 a5 rfl rfl) ?_
  rintro e w5 ⟨rfl, F5, s5⟩
  have S5 := hid s5
  clear s5
  generalize runsN h3 0 = rn at *
  generalize runsB h3 0 = rb at *
  go_wp2_with fail
  refine Calls.mono (core_is S5.out 0 1 a6 a7) ?_
  rintro e w6 ⟨rfl, F6, s6⟩
  have S6 := hid s6
  clear s6
  clear S1 S2 S3 S4 S5 a1 a2 a3 a4 a5 a6 a7
  go_wp2_with fail
  refine Calls.mono (runs_is' S6.out 0 rfl a8) ?_
  rintro e w7 ⟨rfl, s7⟩
  have S7 := hid s7
  clear s7
  generalize runsN h4 0 = rn1 at *
  go_wp2_with fail
  refine Calls.mono (runs_is' S7.out 1 rfl a9) ?_
  rintro e w8 ⟨rfl, s8⟩
  have S8 := hid s8
  clear s8
  generalize runsN h4 1 = rn2 at *
  go_wp2_with fail
  refine Calls.mono (get_agg S8.out 0 a10 a11) ?_
  rintro e w9 ⟨rfl, s9⟩
  have S9 := hid (s9.box (objT ⟨1, P, 1, 5, g⟩)).swap
  have HZR := hid a12
  clear s9 S6 S7 S8 a8 a9 a10 a11 a12
  go_wp2_with fail
  refine Calls.mono (lines_is S9.out 1 P a13) ?_
  rintro e w10 ⟨ao, cap, rfl, s10⟩
  have S10 := hid s10
  generalize w9.heap.size = q9 at *
  clear s10 S9
  go_wp2_with fail
  refine Calls.mono (pick_is S10.out HT.out 1 a14 a15 a16) ?_
  rintro e w11 ⟨rfl, F11, s11⟩
  have s12 := s11.two [0] (by simp) #[.int .i64 0] rfl
  have S12 := hid s12
  have h12 := s11.atT (q := q9) (x := ⟨1, P, 1, 5, g⟩) (by simp)
  obtain ⟨d0, d1, d2, _, _⟩ := h12.cells
  have d4 : w11.cell? ⟨q9, 4 + k, none⟩ = some (.int .u64 z) := by
    have := h12 (4 + k) _ (rg_at _ HK.out)
    rw [Nat.zero_add, HZR.out] at this
    exact this
  simp only [Nat.zero_add] at d0 d1 d2
  clear s11 s12 S10 h12
  go_wp2_with fail
  refine Calls.mono (nums_is S12.out (u := .slice ao [(0 : Int)].length cap) (v := .slice (some ⟨w11.heap.size, 0, none⟩) [(0 : Int)].length [(0 : Int)].length) (A := [0]) (B := [0]) (by simp) (by simp) (by simp) rfl) ?_
  rintro e w13 ⟨rfl, s13⟩
  have S13 := hid s13.drop
  clear s13 S12 d0 d1 d2 d4
  go_wp2_with fail
  refine Calls.mono (lines_is S13.out 0 P a17) ?_
  rintro e w14 ⟨ao2, cap2, rfl, s14⟩
  have S14 := hid s14
  clear s14 S13
  go_wp2_with fail
  refine Calls.mono (fixed_sep S14.out HT.out) ?_
  rintro e w15 ⟨rfl, s15⟩
  have S15 := hid s15
  clear s15
  go_wp2
  go_ret
  exact ⟨rfl, by rw [HR.out]; exact S15.out.low⟩
open Go.ChangeShapes Go.WideShapes Go.ChangeAt Go.RowKit Go.Joins

/-! ### From the walk to the statement -/
set_option maxRecDepth 100000 in
theorem contract (H : Type) (enc : TypeId × Value → H) (W : World) (base : Nat) (args : Array Value) (ds gs : List (DataW H)) (before : List MemPlace)
    (hval : ∀ (j : Nat) t v, Tryd.f8.params[j]? = some t → args[j]? = some v → Value.okWide Tryd.prog W .any base t v)
    (hW : DataW.Whole enc Tryd.prog Tryd.f8.params.toList Rows.threadsMovesSpec.vars false W args.toList ds gs before) (hL : laidMetH Tryd.prog Rows.threadsMovesRow.laid W) :
    Calls Tryd.prog 8 args W fun e W' => ∃ v, e = .returned v ∧ Rows.threadsMovesSpec.post enc Tryd.prog Tryd.f8 false true false false W args v W' := by
  have hW' := hW
  obtain ⟨p, q, hA0, hV, rfl, hfz, hnd⟩ := hW
  have hA : DataW.TrodAll enc Tryd.prog W 0 (fun _ => true) true Tryd.f8.params.toList args.toList ds p := hA0
  rw [Tryd.params8] at hA hval
  obtain ⟨v0, vs0, d0, ds0, p0, q0, hargs, rfl, rfl, h0, r0⟩ := trodAll_cons hA
  obtain ⟨v1, vs1, d1, ds1, p1, q1, rfl, rfl, rfl, h1, r1⟩ := trodAll_cons r0
  obtain ⟨v2, vs2, d2, ds2, p2, q2, rfl, rfl, rfl, h2, r2⟩ := trodAll_cons r1
  obtain ⟨rfl, rfl, rfl⟩ := trodAll_nil r2
  obtain rfl : args = #[v0, v1, v2] := by cases args; simp_all
  obtain ⟨rfl, rfl⟩ := trodVars_none hV
  have k0 := h0
  have lt0 : ∀ x ∈ p0, x.block < W.heap.size := by obtain ⟨m, hm⟩ := k0; exact DataW.trod_lt m _ _ _ hm
  have k1 := h1
  have lt1 : ∀ x ∈ p1, x.block < W.heap.size := by obtain ⟨m, hm⟩ := k1; exact DataW.trod_lt m _ _ _ hm
  have k2 := h2
  have lt2 : ∀ x ∈ p2, x.block < W.heap.size := by obtain ⟨m, hm⟩ := k2; exact DataW.trod_lt m _ _ _ hm
  obtain ⟨a0, rfl, _, _, w0⟩ := open_int Tryd.underlying3 (hval 0 3 v0 rfl rfl) h0
  obtain ⟨a1, rfl, _, _, w1⟩ := open_int Tryd.underlying3 (hval 1 3 v1 rfl rfl) h1
  obtain ⟨a2, rfl, _, _, w2⟩ := open_int Tryd.underlying30 (hval 2 30 v2 rfl rfl) h2
  clear hA0
  refine (walk a0 a1 a2 W (table hL) (bounds_i64 w0) (bounds_i64 w1) (bounds_u64 w2)).mono fun e W' ⟨he, bel⟩ => ?_
  subst he
  exact ⟨_, rfl, _, _, _, [], _, [], hW', trodAll_mk1 (shut_bool Tryd.underlying4 _), (trodAll_cons_mk (Below.trod laidOut (by kernel_rfl) (of_decide_eq_true (by kernel_rfl)) k0 bel lt0) (trodAll_cons_mk (Below.trod laidOut (by kernel_rfl) (of_decide_eq_true (by kernel_rfl)) k1 bel lt1) (trodAll_cons_mk (Below.trod laidOut (by kernel_rfl) (of_decide_eq_true (by kernel_rfl)) k2 bel lt2) trodAll_mk0))), rfl, bel.frame _, fun h => by cases h⟩

set_option maxRecDepth 100000 in
theorem laid_met (os : Os) : laidMet Tryd.prog Rows.threadsMovesRow.laid ((World.doorLaid Tryd.prog 40 os).forCall (fun _ _ => 0) ⟨#[], #[.int .i64 0, .int .i64 0, .int .u64 0], []⟩).memory :=
  laidMet_of_run' 8 (by kernel_rfl) (by kernel_rfl)
set_option maxRecDepth 100000 in
theorem reads (os : Os) {H : Type} (enc : TypeId × Value → H) : ∃ places, DataW.whole enc Tryd.prog ((World.doorLaid Tryd.prog 40 os).forCall (fun _ _ => 0) ⟨#[], #[.int .i64 0, .int .i64 0, .int .u64 0], []⟩).memory Tryd.f8.params.toList Rows.threadsMovesSpec.vars false (#[.int .i64 0, .int .i64 0, .int .u64 0] : Array Value).toList 8 = some ([.lit (.int .i64 0), .lit (.int .i64 0), .lit (.int .u64 0)], [], places) :=
  ⟨[], by kernel_rfl⟩
set_option maxRecDepth 100000 in
set_option maxRecDepth 100000 in
theorem lifted (os : Os) (started : os.Started) (H : Type) (enc : TypeId × Value → H) (F : Stop.Interp) :
    ReturnsInHanded {} Tryd.checked os 8 .any ((OpenSpec.ofChange Rows.threadsMovesSpec).preRow enc Tryd.prog Tryd.f8 Rows.threadsMovesRow.domain false Rows.threadsMovesRow.laid) (((OpenSpec.ofChange Rows.threadsMovesSpec).at F).post enc Tryd.prog Tryd.f8 false true false false) := by
  obtain ⟨places, hx⟩ := reads os enc
  refine returnsInHanded_of_row (C := Tryd.checked) (s := OpenSpec.ofChange Rows.threadsMovesSpec) own started (by kernel_rfl) Tryd.func8
    (witness_row_at (enc := enc) (C := Tryd.checked) false (World.doorLaid Tryd.prog 40 os) #[.int .i64 0, .int .i64 0, .int .u64 0] rfl (by kernel_rfl) (by kernel_rfl) (by kernel_rfl)
      (OpenSpec.preRow_of_cond 8 hx (by kernel_rfl) (fun k hk => by cases hk) (by kernel_rfl) (laid_met os))) ?_
  intro W base args ds gs before hval hW _ _ _ hL _ _
  exact contract H enc W base args ds gs before hval hW hL
set_option maxRecDepth 100000 in
theorem said : Rows.ThreadsMovesSaid :=
  OpenClaim.holds_of_cond 8 Tryd.f8 rfl rfl rfl rfl rfl rfl rfl ⟨rfl, rfl, rfl, rfl, rfl⟩ rfl rfl rfl rfl rfl (by kernel_rfl) Tryd.func8 (by kernel_rfl)
    (of_decide_eq_true (by kernel_rfl)) (by unfold Func.isWrapper; first | (rw [if_pos (by decide +kernel)]; kernel_rfl) | (rw [if_neg (by decide +kernel)]; exact ⟨rfl, rfl⟩))
    (fun os started H enc _ F => by rw [OpenClaim.pre_eq_preRow]; exact lifted os started H enc F)
set_option maxRecDepth 100000 in
theorem plain (f : FuncId) (fn : Func) (hf : Tryd.pinned.checked.prog.funcNamed "buttress/buttresslaw10.ThreadsMoves" = some f) (hfn : Tryd.pinned.checked.prog.funcs[f]? = some fn) :
    false = Tryd.pinned.checked.prog.looks [] ∧ ∀ (j : Nat) t, fn.params[j]? = some t → Tryd.pinned.checked.prog.wantsStandIn t = false := by
  obtain rfl : f = 8 := Option.some.inj ((show Tryd.prog.funcNamed "buttress/buttresslaw10.ThreadsMoves" = some 8 by kernel_rfl).symm.trans hf) |>.symm
  obtain rfl : fn = Tryd.f8 := (Option.some.inj (Tryd.func8.symm.trans hfn)).symm
  refine ⟨by kernel_rfl, fun j t ht => ?_⟩
  rw [Tryd.params8] at ht
  have hm : t ∈ [3, 3, 30] := by simpa using Array.mem_of_getElem? ht
  have hall : ([3, 3, 30].all fun u => !Tryd.prog.wantsStandIn u) = true := by kernel_rfl
  exact (show Tryd.prog.wantsStandIn t = false by simpa using List.all_eq_true.1 hall t hm)
end Go.Proofs.YtchamgecalfmpaaDoor.threadsMoves
namespace Go.Proofs.YtchamgecalfmpaaDoor
/-- THE CARD. -/
theorem threadsMoves_card : Rows.ThreadsMovesCardSaid :=
  Claim7.holds_tied_plain_at .later [] _ _ _ _ threadsMoves.said (fun _ h => by cases h) (by kernel_rfl) (fun _ h => by cases h) threadsMoves_row_tie rfl ⟨rfl, rfl⟩ (by kernel_rfl) rfl threadsMoves.plain (by kernel_rfl)
#print axioms threadsMoves_card
end Go.Proofs.YtchamgecalfmpaaDoor
