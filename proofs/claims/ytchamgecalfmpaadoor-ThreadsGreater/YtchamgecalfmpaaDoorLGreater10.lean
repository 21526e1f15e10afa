/-
  ThreadsGreater: who is resumed with a greater priority runs at the next pick; who ran is lined up, with the ticks that it had left; the variable words.halves starts as the program's text lays it (the card ties it).
-/
import Derived.Test.YtchamgecalfmpaaDoorHLaw
import Derived.Test.YtchamgecalfmpaaDoorHSmall
namespace Go.Proofs.YtchamgecalfmpaaDoor.threadsGreater
open Go.RowKit Go.Deep Go.Shelf
/-- Two threads, one of priority P that runs with l ticks left, one of P + 1. -/
def g0 (P : Nat) : Hs := ⟨[⟨0, P, 0, 5, z8⟩], [[]]⟩
def g1 (P : Nat) : Hs := ⟨[⟨0, P, 0, 5, z8⟩, ⟨0, P + 1, 0, 5, z8⟩], [[]]⟩
def g2 (P : Nat) : Hs := ⟨[⟨1, P, 0, 5, z8⟩, ⟨0, P + 1, 0, 5, z8⟩], [[⟨P, 0⟩]]⟩
def g3 (P : Nat) (l : Int) : Hs := ⟨[⟨2, P, 0, l, z8⟩, ⟨0, P + 1, 0, 5, z8⟩], [[]]⟩
def g4 (P : Nat) (l : Int) : Hs := ⟨[⟨2, P, 0, l, z8⟩, ⟨1, P + 1, 0, 5, z8⟩], [[⟨P + 1, 1⟩]]⟩
def g5 (P : Nat) (l : Int) : Hs := ⟨[⟨1, P, 0, l, z8⟩, ⟨2, P + 1, 0, 5, z8⟩], [[⟨P, 0⟩]]⟩
theorem mk0 {P : Nat} (hP : P < 256) : makeH (newH 1) P 0 = g0 P := (make_yes hP (h := newH 1) (c := 0) (by decide) (by decide)).1
theorem mk1 {P : Nat} (hP : P + 1 < 256) : makeH (g0 P) ((P : Int) + 1) 0 = g1 P := by
  have := (make_yes (P := P + 1) hP (h := g0 P) (c := 0) (by simp [g0]) (by simp [g0])).1
  exact this
theorem pk {P : Nat} (hP : P < 256) : pickH (g2 P) 0 = g3 P 5 := (pick_some (h := g2 P) (c := 0) (by simp [g2]) (y := ⟨P, 0⟩) (next_one hP 0 (by decide))).trans rfl
theorem tk (P : Nat) (l : Int) (hl : ¬ l = 1) : tickH (g3 P l) 0 = g3 P (l - 1) := by
  show (if l = 1 then yieldH (g3 P l) 0 else setH (g3 P l) 0 { thr (g3 P l) 0 with l := l - 1 }) = _
  rw [if_neg hl]
  rfl
theorem pk2 {P : Nat} (hP : P + 1 < 256) (l : Int) : pickH (g4 P l) 0 = g5 P l := by
  refine (pick_some (h := g4 P l) (c := 0) (by simp [g4]) (y := ⟨P + 1, 1⟩) (next_one hP 1 (by decide))).trans ?_
  show (if P < P + 1 then runH (upH (g4 P l) 0) 1 else g4 P l) = _
  rw [if_pos (by omega)]
  rfl
theorem line5 {P : Nat} (hP : P < 256) (l : Int) : lineH (g5 P l) 0 P = [0] := (line_que (h := g5 P l) (c := 0) (by simp [g5]) P).trans (line_same hP [0])
theorem all (P : Nat) (hP : P < 128) : ∃ (h0 h1 h2 : Hs) (T : Nat → Hs), makeH (newH 1) P 0 = h0 ∧ makeH h0 ((P : Int) + 1) 0 = h1 ∧ resumeH h1 0 = h2 ∧ pickH h2 0 = T 0 ∧ (∀ i, i < 4 → tickH (T i) 0 = T (i + 1)) ∧ ∀ i : Nat, i < 4 → ∃ h4 h5 x, resumeH (T i) 1 = h4 ∧ runsN h4 0 = 0 ∧ pickH h4 0 = h5 ∧ runsN h5 0 = 1 ∧ runsB h5 0 = true ∧ getT h5 0 = x ∧ getE h5 0 = 0 ∧ x.st = 1 ∧ x.l = 5 - (i : Int) ∧ lineH h5 0 P = [0] := by
  refine ⟨g0 P, g1 P, g2 P, fun i => g3 P (5 - (i : Int)), mk0 (by omega), mk1 (by omega), rfl, pk (by omega), fun i hi => ?_, fun i hi => ?_⟩
  · have := tk P (5 - (i : Int)) (by omega)
    refine this.trans ?_
    show g3 P _ = g3 P (5 - ((i + 1 : Nat) : Int))
    congr 1
    omega
  · exact ⟨g4 P (5 - (i : Int)), g5 P (5 - (i : Int)), _, rfl, rfl, pk2 (by omega) _, rfl, rfl, rfl, rfl, rfl, rfl, line5 (by omega) _⟩
set_option maxHeartbeats 8000000 in
set_option maxRecDepth 100000 in
theorem walk (prio ticks : Int) (w : World) (ht : Tab w) (_ : -9223372036854775808 ≤ prio ∧ prio ≤ 9223372036854775807) (_ : -9223372036854775808 ≤ ticks ∧ ticks ≤ 9223372036854775807) :
    Calls Tryd.prog 7 #[.int .i64 prio, .int .i64 ticks] w fun e w' => e = .returned (.bool true) ∧ Below w.heap.size w w' := by
  have HT := hid (Sep.tabs ht)
  clear ht
  obtain ⟨P, hP, hmask⟩ := mask127 prio
  obtain ⟨n, hn, hmask3⟩ := mask3 ticks
  obtain ⟨h0, h1, h2, T, a1, a2, a3, a4, a5, a6⟩ := all P hP
  have HA := hid (And.intro a1 (And.intro a2 (And.intro a3 a4)))
  have HT5 := hid a5
  have HA6 := hid (a6 n hn)
  have HN := hid hn
  clear a1 a2 a3 a4 a5 a6
  have hw : IntKind.i64.wrap ((P : Int) + 1) = (P : Int) + 1 := by
    unfold IntKind.wrap
    simp [IntKind.bits, IntKind.signed]
    omega
  go_enter Tryd.func7, Tryd.ntmps7
  go_wp2_with fail
  refine Calls.mono (newT_sep (sep_nil w) 1 (by omega) (by omega)) ?_
  rintro e w1 ⟨p, F, rfl, s1⟩
  have S1 := hid s1
  clear s1
  generalize hr : w.heap.size = r at *
  have HR := hid hr
  clear hr
  go_wp2_with fail
  obtain ⟨a1, a2, a3, a4⟩ := HA.out
  clear HA
  refine Calls.mono (make_is S1.out P 0 a1 rfl rfl) ?_
  rintro e w2 ⟨rfl, F2, s2⟩
  have S2 := hid s2
  clear s2
  generalize makeN (newH 1) P 0 = mn at *
  generalize makeE (newH 1) P 0 = me at *
  go_wp2_with fail
  refine Calls.mono (make_is S2.out ((P : Int) + 1) 0 a2 rfl rfl) ?_
  rintro e w3 ⟨rfl, F3, s3⟩
  have S3 := hid s3
  clear s3
  generalize makeN h0 ((P : Int) + 1) 0 = mn1 at *
  generalize makeE h0 ((P : Int) + 1) 0 = me1 at *
  go_wp2_with fail
  refine Calls.mono (resume_is S3.out 0 a3 rfl) ?_
  rintro e w4 ⟨rfl, F4, s4⟩
  have S4 := hid s4
  clear s4
  generalize resumeE h1 0 = re at *
  go_wp2_with fail
  refine Calls.mono (pick_is S4.out HT.out 0 a4 rfl rfl) ?_
  rintro e w5 ⟨rfl, F5, s5⟩
  have S5 := hid s5
  clear s5
  generalize runsN (T 0) 0 = rn at *
  generalize runsB (T 0) 0 = rb at *
  clear a1 a2 a3 a4
  go_wp2_with fail
  go_loopw [9] (fun s9 wr => ∃ (k : Nat) (F : Nat → Prop), k ≤ n ∧ s9 = .int .i64 k ∧ Sep w r wr [tT p F (T k)]) (fun s9 _ => n - (intOf s9).toNat)
  case atStart => exact ⟨0, F5, by omega, rfl, S5.out⟩
  case round =>
    clear S1 S2 S3 S4 S5
    obtain ⟨k, G, hk, rfl, s1⟩ := hrel
    have S1 := hid s1
    clear s1
    by_cases hlt : k < n
    · have hltz : (k : Int) < (n : Int) := by omega
      go_wp2_with fail
      refine Calls.mono (tick_is S1.out HT.out 0 (HT5.out k (by have := HN.out; omega)) rfl) ?_
      rintro e w2 ⟨rfl, F2, s2⟩
      generalize runsB (T k) 0 = tb at *
      have S2 := hid s2
      clear s2
      go_wp2
      go_round
      case rel => exact ⟨k + 1, F2, by omega, by go_num, S2.out⟩
      case measure => simp [intOf]; omega
    · obtain rfl : k = n := by omega
      obtain ⟨h4, h5, x, b1, b2, b3, b4, b5, b6, b7, b8, b9, b10⟩ := HA6.out
      obtain ⟨st, xp, xc, xl, xg⟩ := x
      simp only at b8 b9
      subst b8
      subst b9
      clear hk hlt HA6
      go_wp2_with fail
      refine Calls.mono (resume_is S1.out 1 b1 rfl) ?_
      rintro e w2 ⟨rfl, F2, s2⟩
      have S2 := hid s2
      clear s2
      generalize resumeE (T k) 1 = re1 at *
      go_wp2_with fail
      refine Calls.mono (runs_is' S2.out 0 b2 rfl) ?_
      rintro e w3 ⟨rfl, s3⟩
      have S3 := hid s3
      clear s3
      generalize runsB h4 0 = rb1 at *
      go_wp2_with fail
      refine Calls.mono (pick_is S3.out HT.out 0 b3 b4 b5) ?_
      rintro e w4 ⟨rfl, F4, s4⟩
      have S4 := hid s4
      clear s4
      go_wp2_with fail
      refine Calls.mono (get_agg S4.out 0 b6 b7) ?_
      rintro e w5 ⟨rfl, s5⟩
      have S5 := hid (s5.box (objT ⟨1, xp, xc, 5 - (k : Int), xg⟩)).swap
      have hw5 : IntKind.i64.wrap (5 - (k : Int)) = 5 - (k : Int) := by
        have := HN.out
        unfold IntKind.wrap
        simp [IntKind.bits, IntKind.signed]
        omega
      clear s5 S4
      go_wp2_with fail
      refine Calls.mono (lines_is S5.out 0 P b10) ?_
      rintro e w6 ⟨ao, cap, rfl, s6⟩
      have S6 := hid (s6.two [0] (by simp) #[.int .i64 0] rfl)
      clear s6
      go_wp2_with fail
      refine Calls.mono (nums_is S6.out (u := .slice ao [(0 : Int)].length cap) (v := .slice (some ⟨w6.heap.size, 0, none⟩) [(0 : Int)].length [(0 : Int)].length) (A := [0]) (B := [0]) (by simp) (by simp) (by simp) rfl) ?_
      rintro e w7 ⟨rfl, s7⟩
      have S7 := hid s7
      clear s7
      go_wp2_with fail
      refine Calls.mono (fixed_sep S7.out HT.out) ?_
      rintro e w8 ⟨rfl, s8⟩
      have S8 := hid s8
      clear s8
      go_wp2
      go_ret
      exact ⟨rfl, by rw [HR.out]; exact S8.out.low⟩
open Go.ChangeShapes Go.WideShapes Go.ChangeAt Go.RowKit Go.Joins

/-! ### From the walk to the statement -/
set_option maxRecDepth 100000 in
theorem contract (H : Type) (enc : TypeId × Value → H) (W : World) (base : Nat) (args : Array Value) (ds gs : List (DataW H)) (before : List MemPlace)
    (hval : ∀ (j : Nat) t v, Tryd.f7.params[j]? = some t → args[j]? = some v → Value.okWide Tryd.prog W .any base t v)
    (hW : DataW.Whole enc Tryd.prog Tryd.f7.params.toList Rows.threadsGreaterSpec.vars false W args.toList ds gs before) (hL : laidMetH Tryd.prog Rows.threadsGreaterRow.laid W) :
    Calls Tryd.prog 7 args W fun e W' => ∃ v, e = .returned v ∧ Rows.threadsGreaterSpec.post enc Tryd.prog Tryd.f7 false true false false W args v W' := by
  have hW' := hW
  obtain ⟨p, q, hA0, hV, rfl, hfz, hnd⟩ := hW
  have hA : DataW.TrodAll enc Tryd.prog W 0 (fun _ => true) true Tryd.f7.params.toList args.toList ds p := hA0
  rw [Tryd.params7] at hA hval
  obtain ⟨v0, vs0, d0, ds0, p0, q0, hargs, rfl, rfl, h0, r0⟩ := trodAll_cons hA
  obtain ⟨v1, vs1, d1, ds1, p1, q1, rfl, rfl, rfl, h1, r1⟩ := trodAll_cons r0
  obtain ⟨rfl, rfl, rfl⟩ := trodAll_nil r1
  obtain rfl : args = #[v0, v1] := by cases args; simp_all
  obtain ⟨rfl, rfl⟩ := trodVars_none hV
  have k0 := h0
  have lt0 : ∀ x ∈ p0, x.block < W.heap.size := by obtain ⟨m, hm⟩ := k0; exact DataW.trod_lt m _ _ _ hm
  have k1 := h1
  have lt1 : ∀ x ∈ p1, x.block < W.heap.size := by obtain ⟨m, hm⟩ := k1; exact DataW.trod_lt m _ _ _ hm
  obtain ⟨a0, rfl, _, _, w0⟩ := open_int Tryd.underlying3 (hval 0 3 v0 rfl rfl) h0
  obtain ⟨a1, rfl, _, _, w1⟩ := open_int Tryd.underlying3 (hval 1 3 v1 rfl rfl) h1
  clear hA0
  refine (walk a0 a1 W (table hL) (bounds_i64 w0) (bounds_i64 w1)).mono fun e W' ⟨he, bel⟩ => ?_
  subst he
  exact ⟨_, rfl, _, _, _, [], _, [], hW', trodAll_mk1 (shut_bool Tryd.underlying4 _), (trodAll_cons_mk (Below.trod laidOut (by kernel_rfl) (of_decide_eq_true (by kernel_rfl)) k0 bel lt0) (trodAll_cons_mk (Below.trod laidOut (by kernel_rfl) (of_decide_eq_true (by kernel_rfl)) k1 bel lt1) trodAll_mk0)), rfl, bel.frame _, fun h => by cases h⟩

set_option maxRecDepth 100000 in
theorem laid_met (os : Os) : laidMet Tryd.prog Rows.threadsGreaterRow.laid ((World.doorLaid Tryd.prog 40 os).forCall (fun _ _ => 0) ⟨#[], #[.int .i64 0, .int .i64 0], []⟩).memory :=
  laidMet_of_run' 8 (by kernel_rfl) (by kernel_rfl)
set_option maxRecDepth 100000 in
theorem reads (os : Os) {H : Type} (enc : TypeId × Value → H) : ∃ places, DataW.whole enc Tryd.prog ((World.doorLaid Tryd.prog 40 os).forCall (fun _ _ => 0) ⟨#[], #[.int .i64 0, .int .i64 0], []⟩).memory Tryd.f7.params.toList Rows.threadsGreaterSpec.vars false (#[.int .i64 0, .int .i64 0] : Array Value).toList 8 = some ([.lit (.int .i64 0), .lit (.int .i64 0)], [], places) :=
  ⟨[], by kernel_rfl⟩
set_option maxRecDepth 100000 in
set_option maxRecDepth 100000 in
theorem lifted (os : Os) (started : os.Started) (H : Type) (enc : TypeId × Value → H) (F : Stop.Interp) :
    ReturnsInHanded {} Tryd.checked os 7 .any ((OpenSpec.ofChange Rows.threadsGreaterSpec).preRow enc Tryd.prog Tryd.f7 Rows.threadsGreaterRow.domain false Rows.threadsGreaterRow.laid) (((OpenSpec.ofChange Rows.threadsGreaterSpec).at F).post enc Tryd.prog Tryd.f7 false true false false) := by
  obtain ⟨places, hx⟩ := reads os enc
  refine returnsInHanded_of_row (C := Tryd.checked) (s := OpenSpec.ofChange Rows.threadsGreaterSpec) own started (by kernel_rfl) Tryd.func7
    (witness_row_at (enc := enc) (C := Tryd.checked) false (World.doorLaid Tryd.prog 40 os) #[.int .i64 0, .int .i64 0] rfl (by kernel_rfl) (by kernel_rfl) (by kernel_rfl)
      (OpenSpec.preRow_of_cond 8 hx (by kernel_rfl) (fun k hk => by cases hk) (by kernel_rfl) (laid_met os))) ?_
  intro W base args ds gs before hval hW _ _ _ hL _ _
  exact contract H enc W base args ds gs before hval hW hL
set_option maxRecDepth 100000 in
theorem said : Rows.ThreadsGreaterSaid :=
  OpenClaim.holds_of_cond 7 Tryd.f7 rfl rfl rfl rfl rfl rfl rfl ⟨rfl, rfl, rfl, rfl, rfl⟩ rfl rfl rfl rfl rfl (by kernel_rfl) Tryd.func7 (by kernel_rfl)
    (of_decide_eq_true (by kernel_rfl)) (by unfold Func.isWrapper; first | (rw [if_pos (by decide +kernel)]; kernel_rfl) | (rw [if_neg (by decide +kernel)]; exact ⟨rfl, rfl⟩))
    (fun os started H enc _ F => by rw [OpenClaim.pre_eq_preRow]; exact lifted os started H enc F)
set_option maxRecDepth 100000 in
theorem plain (f : FuncId) (fn : Func) (hf : Tryd.pinned.checked.prog.funcNamed "buttress/buttresslaw10.ThreadsGreater" = some f) (hfn : Tryd.pinned.checked.prog.funcs[f]? = some fn) :
    false = Tryd.pinned.checked.prog.looks [] ∧ ∀ (j : Nat) t, fn.params[j]? = some t → Tryd.pinned.checked.prog.wantsStandIn t = false := by
  obtain rfl : f = 7 := Option.some.inj ((show Tryd.prog.funcNamed "buttress/buttresslaw10.ThreadsGreater" = some 7 by kernel_rfl).symm.trans hf) |>.symm
  obtain rfl : fn = Tryd.f7 := (Option.some.inj (Tryd.func7.symm.trans hfn)).symm
  refine ⟨by kernel_rfl, fun j t ht => ?_⟩
  rw [Tryd.params7] at ht
  have hm : t ∈ [3, 3] := by simpa using Array.mem_of_getElem? ht
  have hall : ([3, 3].all fun u => !Tryd.prog.wantsStandIn u) = true := by kernel_rfl
  exact (show Tryd.prog.wantsStandIn t = false by simpa using List.all_eq_true.1 hall t hm)
end Go.Proofs.YtchamgecalfmpaaDoor.threadsGreater
namespace Go.Proofs.YtchamgecalfmpaaDoor
/-- THE CARD. -/
theorem threadsGreater_card : Rows.ThreadsGreaterCardSaid :=
  Claim7.holds_tied_plain_at .later [] _ _ _ _ threadsGreater.said (fun _ h => by cases h) (by kernel_rfl) (fun _ h => by cases h) threadsGreater_row_tie rfl ⟨rfl, rfl⟩ (by kernel_rfl) rfl threadsGreater.plain (by kernel_rfl)
#print axioms threadsGreater_card
end Go.Proofs.YtchamgecalfmpaaDoor
