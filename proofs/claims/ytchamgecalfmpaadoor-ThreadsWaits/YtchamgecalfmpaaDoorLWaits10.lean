/-
  ThreadsWaits: who is blocked, or stopped, runs nowhere and is in no line, until it is resumed; then it is the last one of its line; the variable words.halves starts as the program's text lays it (the card ties it).
-/
import Derived.Test.YtchamgecalfmpaaDoorHLaw
import Derived.Test.YtchamgecalfmpaaDoorHSmall
namespace Go.Proofs.YtchamgecalfmpaaDoor.threadsWaits
open Go.RowKit Go.Deep Go.Shelf
def mk (P : Nat) : Nat → Hs
  | 0 => newH 1
  | i + 1 => resumeH (makeH (mk P i) P 0) i
def k1 (P : Nat) : Hs := ⟨[⟨1, P, 0, 5, z8⟩], [[⟨P, 0⟩]]⟩
def k2 (P : Nat) : Hs := ⟨[⟨1, P, 0, 5, z8⟩, ⟨1, P, 0, 5, z8⟩], [[⟨P, 0⟩, ⟨P, 1⟩]]⟩
def k3 (s : Int) (P : Nat) : Hs := ⟨[⟨s, P, 0, 5, z8⟩, ⟨1, P, 0, 5, z8⟩], [[⟨P, 1⟩]]⟩
def k4 (P : Nat) : Hs := ⟨[⟨1, P, 0, 5, z8⟩, ⟨1, P, 0, 5, z8⟩], [[⟨P, 1⟩, ⟨P, 0⟩]]⟩
theorem mk1 {P : Nat} (hP : P < 256) : mk P 1 = k1 P := by
  show resumeH (makeH (newH 1) P ((0 : Nat) : Int)) 0 = _
  rw [(make_yes hP (h := newH 1) (c := 0) (by decide) (by decide)).1]
  rfl
theorem mk2 {P : Nat} (hP : P < 256) : mk P 2 = k2 P := by
  show resumeH (makeH (mk P 1) P ((0 : Nat) : Int)) 1 = _
  rw [mk1 hP, (make_yes hP (h := k1 P) (c := 0) (by simp [k1]) (by simp [k1])).1]
  rfl
theorem pk {P : Nat} (hP : P < 256) : pickH (k2 P) 0 = k3 2 P := by
  refine (pick_some (h := k2 P) (c := 0) (by simp [k2]) (y := ⟨P, 0⟩) (next_two hP 0 1 (by decide) (by decide) (by decide))).trans ?_
  rfl
theorem line3 {P : Nat} (hP : P < 256) (s : Int) : lineH (k3 s P) 0 P = [1] := (line_que (h := k3 s P) (c := 0) (by simp [k3]) P).trans (line_same hP [1])
theorem line4 {P : Nat} (hP : P < 256) : lineH (k4 P) 0 P = [1, 0] := (line_que (h := k4 P) (c := 0) (by simp [k4]) P).trans (line_same hP [1, 0])
theorem all (P : Nat) (hP : P < 256) : ∃ (M : Nat → Hs) (h5 : Hs), M 0 = newH 1 ∧ (∀ i : Nat, resumeH (makeH (M i) P 0) i = M (i + 1)) ∧ pickH (M 2) 0 = h5 ∧ runsN h5 0 = 0 ∧ runsB h5 0 = true ∧ blockE h5 0 = 0 ∧ suspendE h5 0 = 0 ∧ ∀ z : Bool, ∃ h6 h7 x, (if z then blockH h5 0 else suspendH h5 0) = h6 ∧ runsB h6 0 = false ∧ lineH h6 0 P = [1] ∧ resumeH h6 0 = h7 ∧ resumeE h6 0 = 0 ∧ getT h7 0 = x ∧ x.st = 1 ∧ lineH h7 0 P = [1, 0] := by
  refine ⟨mk P, k3 2 P, rfl, fun _ => rfl, by rw [mk2 hP]; exact pk hP, rfl, rfl, rfl, rfl, fun z => ?_⟩
  cases z
  · exact ⟨k3 0 P, k4 P, _, rfl, rfl, line3 hP 0, rfl, rfl, rfl, rfl, line4 hP⟩
  · exact ⟨k3 3 P, k4 P, _, rfl, rfl, line3 hP 3, rfl, rfl, rfl, rfl, line4 hP⟩
set_option maxHeartbeats 8000000 in
set_option maxRecDepth 100000 in
theorem walk (prio how : Int) (w : World) (ht : Tab w) (_ : -9223372036854775808 ≤ prio ∧ prio ≤ 9223372036854775807) (_ : -9223372036854775808 ≤ how ∧ how ≤ 9223372036854775807) :
    Calls Tryd.prog 6 #[.int .i64 prio, .int .i64 how] w fun e w' => e = .returned (.bool true) ∧ Below w.heap.size w w' := by
  have HT := hid (Sep.tabs ht)
  clear ht
  obtain ⟨P, hP, hmask⟩ := mask255 prio
  obtain ⟨z, hz, hmask1⟩ := mask1 how
  obtain ⟨M, h5, m0, m1, a1, a2, a3, a4, a5, a6⟩ := all P hP
  have HM := hid (And.intro m0 m1)
  have HA := hid (And.intro a1 (And.intro a2 (And.intro a3 (And.intro a4 (And.intro a5 a6)))))
  have HZ := hid hz
  clear m0 m1 a1 a2 a3 a4 a5 a6 hz
  go_enter Tryd.func6, Tryd.ntmps6
  go_wp2_with fail
  refine Calls.mono (newT_sep (sep_nil w) 1 (by omega) (by omega)) ?_
  rintro e w1 ⟨p, F, rfl, s1⟩
  have S1 := hid s1
  clear s1
  generalize hr : w.heap.size = r at *
  have HR := hid hr
  clear hr
  go_wp2_with fail
  go_loopw [8] (fun s8 wr => ∃ (k : Nat) (F : Nat → Prop), k ≤ 2 ∧ s8 = .int .i64 k ∧ Sep w r wr [tT p F (M k)]) (fun s8 _ => 2 - (intOf s8).toNat)
  case atStart => exact ⟨0, F, by omega, rfl, by rw [HM.out.1]; exact S1.out⟩
  case round =>
    clear S1
    obtain ⟨k, G, hk, rfl, s1⟩ := hrel
    have S1 := hid s1
    clear s1
    by_cases hlt : k < 2
    · have hltz : (k : Int) < 2 := by omega
      go_wp2_with fail
      refine Calls.mono (make_sep S1.out P 0) ?_
      rintro e w2 ⟨rfl, F2, s2⟩
      have S2 := hid s2
      clear s2
      generalize makeN (M k) P 0 = mn at *
      generalize makeE (M k) P 0 = me at *
      go_wp2_with fail
      refine Calls.mono (resume_is S2.out k (HM.out.2 k) rfl) ?_
      rintro e w3 ⟨rfl, F3, s3⟩
      have S3 := hid s3
      clear s3
      generalize resumeE (makeH (M k) P 0) k = re at *
      go_wp2
      go_round
      case rel => exact ⟨k + 1, F3, by omega, by go_num, S3.out⟩
      case measure => simp [intOf]; omega
    · obtain rfl : k = 2 := by omega
      obtain ⟨a1, a2, a3, a4, a5, a6⟩ := HA.out
      clear hk hlt HA HM
      go_wp2_with fail
      refine Calls.mono (pick_is S1.out HT.out 0 a1 a2 a3) ?_
      rintro e w4 ⟨rfl, F4, s4⟩
      have S4 := hid s4
      clear s4
      have hzz : z = 0 ∨ z = 1 := by have := HZ.out; omega
      rcases hzz with rfl | rfl
      · obtain ⟨h6, h7, x, b1, b2, b3, b4, b5, b6, b7, b8⟩ := a6 true
        rw [if_pos rfl] at b1
        clear a6
        go_wp2_with fail
        have HB7 := hid b7
        clear b7
        refine Calls.mono (block_is S4.out 0 b1 a4) ?_
        rintro e w5 ⟨rfl, F5, s5⟩
        have S5 := hid s5
        clear s5
        go_wp2_with fail
        refine Calls.mono (runs_is' S5.out 0 rfl b2) ?_
        rintro e w6 ⟨rfl, s6⟩
        have S6 := hid s6
        clear s6
        generalize runsN h6 0 = rn at *
        go_wp2_with fail
        refine Calls.mono (lines_is S6.out 0 P b3) ?_
        rintro e w7 ⟨ao, cap, rfl, s7⟩
        have S7 := hid s7
        clear s7
        go_wp2_with fail
        refine Calls.mono (resume_is S7.out 0 b4 b5) ?_
        rintro e w8 ⟨rfl, F8, s8⟩
        have S8 := hid s8
        clear s8
        go_wp2_with fail
        refine Calls.mono (get_agg S8.out 0 b6 rfl) ?_
        rintro e w9 ⟨rfl, s9⟩
        generalize getE h7 0 = ge at *
        have S9 := hid (s9.box (objT x)).swap
        have S9L := hid ((s9.box (objT x)).two [1] (by simp) #[.int .i64 1] rfl)
        have e9 : (w9.alloc (objT x)).heap.size = w9.heap.size + 1 := by simp
        rw [e9] at S9L
        clear e9
        have hst := (S9.out.atT (q := w9.heap.size) (x := x) (by simp)).cells.1
        rw [HB7.out] at hst
        clear s9
        go_wp2_with fail
        refine Calls.mono (nums_is S9L.out (u := .slice ao [(1 : Int)].length cap) (v := .slice (some ⟨w9.heap.size + 1, 0, none⟩) [(1 : Int)].length [(1 : Int)].length) (A := [1]) (B := [1]) (by simp) (by simp) (by simp) rfl) ?_
        rintro e w10 ⟨rfl, s10⟩
        have S10 := hid s10.drop.swap
        have hst' := (S10.out.atT (q := w9.heap.size) (x := x) (by simp)).cells.1
        rw [HB7.out] at hst'
        generalize w9.heap.size = q9 at *
        clear s10 hst
        go_wp2_with fail
        refine Calls.mono (lines_is S10.out 0 P b8) ?_
        rintro e w11 ⟨ao2, cap2, rfl, s11⟩
        have S11 := hid (s11.two [1, 0] (by simp) #[.int .i64 1, .int .i64 0] rfl)
        clear s11 hst'
        go_wp2_with fail
        refine Calls.mono (nums_is S11.out (u := .slice ao2 [(1 : Int), 0].length cap2) (v := .slice (some ⟨w11.heap.size, 0, none⟩) [(1 : Int), 0].length [(1 : Int), 0].length) (A := [1, 0]) (B := [1, 0]) (by simp) (by simp) (by simp) rfl) ?_
        rintro e w12 ⟨rfl, s12⟩
        have S12 := hid s12
        clear s12
        go_wp2_with fail
        refine Calls.mono (fixed_sep S12.out HT.out) ?_
        rintro e w13 ⟨rfl, s13⟩
        have S13 := hid s13
        clear s13
        go_wp2
        go_ret
        exact ⟨rfl, by rw [HR.out]; exact S13.out.low⟩
      · obtain ⟨h6, h7, x, b1, b2, b3, b4, b5, b6, b7, b8⟩ := a6 false
        rw [if_neg (by simp)] at b1
        clear a6
        go_wp2_with fail
        have HB7 := hid b7
        clear b7
        refine Calls.mono (suspend_is S4.out 0 b1 a5) ?_
        rintro e w5 ⟨rfl, F5, s5⟩
        have S5 := hid s5
        clear s5
        go_wp2_with fail
        refine Calls.mono (runs_is' S5.out 0 rfl b2) ?_
        rintro e w6 ⟨rfl, s6⟩
        have S6 := hid s6
        clear s6
        generalize runsN h6 0 = rn at *
        go_wp2_with fail
        refine Calls.mono (lines_is S6.out 0 P b3) ?_
        rintro e w7 ⟨ao, cap, rfl, s7⟩
        have S7 := hid s7
        clear s7
        go_wp2_with fail
        refine Calls.mono (resume_is S7.out 0 b4 b5) ?_
        rintro e w8 ⟨rfl, F8, s8⟩
        have S8 := hid s8
        clear s8
        go_wp2_with fail
        refine Calls.mono (get_agg S8.out 0 b6 rfl) ?_
        rintro e w9 ⟨rfl, s9⟩
        generalize getE h7 0 = ge at *
        have S9 := hid (s9.box (objT x)).swap
        have S9L := hid ((s9.box (objT x)).two [1] (by simp) #[.int .i64 1] rfl)
        have e9 : (w9.alloc (objT x)).heap.size = w9.heap.size + 1 := by simp
        rw [e9] at S9L
        clear e9
        have hst := (S9.out.atT (q := w9.heap.size) (x := x) (by simp)).cells.1
        rw [HB7.out] at hst
        clear s9
        go_wp2_with fail
        refine Calls.mono (nums_is S9L.out (u := .slice ao [(1 : Int)].length cap) (v := .slice (some ⟨w9.heap.size + 1, 0, none⟩) [(1 : Int)].length [(1 : Int)].length) (A := [1]) (B := [1]) (by simp) (by simp) (by simp) rfl) ?_
        rintro e w10 ⟨rfl, s10⟩
        have S10 := hid s10.drop.swap
        have hst' := (S10.out.atT (q := w9.heap.size) (x := x) (by simp)).cells.1
        rw [HB7.out] at hst'
        generalize w9.heap.size = q9 at *
        clear s10 hst
        go_wp2_with fail
        refine Calls.mono (lines_is S10.out 0 P b8) ?_
        rintro e w11 ⟨ao2, cap2, rfl, s11⟩
        have S11 := hid (s11.two [1, 0] (by simp) #[.int .i64 1, .int .i64 0] rfl)
        clear s11 hst'
        go_wp2_with fail
        refine Calls.mono (nums_is S11.out (u := .slice ao2 [(1 : Int), 0].length cap2) (v := .slice (some ⟨w11.heap.size, 0, none⟩) [(1 : Int), 0].length [(1 : Int), 0].length) (A := [1, 0]) (B := [1, 0]) (by simp) (by simp) (by simp) rfl) ?_
        rintro e w12 ⟨rfl, s12⟩
        have S12 := hid s12
        clear s12
        go_wp2_with fail
        refine Calls.mono (fixed_sep S12.out HT.out) ?_
        rintro e w13 ⟨rfl, s13⟩
        have S13 := hid s13
        clear s13
        go_wp2
        go_ret
        exact ⟨rfl, by rw [HR.out]; exact S13.out.low⟩
open Go.ChangeShapes Go.WideShapes Go.ChangeAt Go.RowKit Go.Joins

/-! ### From the walk to the statement -/
set_option maxRecDepth 100000 in
theorem contract (H : Type) (enc : TypeId × Value → H) (W : World) (base : Nat) (args : Array Value) (ds gs : List (DataW H)) (before : List MemPlace)
    (hval : ∀ (j : Nat) t v, Tryd.f6.params[j]? = some t → args[j]? = some v → Value.okWide Tryd.prog W .any base t v)
    (hW : DataW.Whole enc Tryd.prog Tryd.f6.params.toList Rows.threadsWaitsSpec.vars false W args.toList ds gs before) (hL : laidMetH Tryd.prog Rows.threadsWaitsRow.laid W) :
    Calls Tryd.prog 6 args W fun e W' => ∃ v, e = .returned v ∧ Rows.threadsWaitsSpec.post enc Tryd.prog Tryd.f6 false true false false W args v W' := by
  have hW' := hW
  obtain ⟨p, q, hA0, hV, rfl, hfz, hnd⟩ := hW
  have hA : DataW.TrodAll enc Tryd.prog W 0 (fun _ => true) true Tryd.f6.params.toList args.toList ds p := hA0
  rw [Tryd.params6] at hA hval
  obtain ⟨v0, vs0, d0, ds0, p0, q0, hargs, rfl, rfl, h0, r0⟩ := trodAll_cons hA
  obtain ⟨v1, vs1, d1, ds1, p1, q1, rfl, rfl, rfl, h1, r1⟩ := trodAll_cons r0
  obtain ⟨rfl, rfl, rfl⟩ := trodAll_nil r1
  obtain rfl : args = #[v0, v1] := by cases args; simp_all
  obtain ⟨rfl, rfl⟩ := trodVars_none hV
  have k0 := h0
  have lt0 : ∀ x ∈ p0, x.block < W.heap.size := by obtain ⟨m, hm⟩ := k0; exact DataW.trod_lt m _ _ _ hm
  have k1 := h1
  have lt1 : ∀ x ∈ p1, x.block < W.heap.size := by obtain ⟨m, hm⟩ := k1; exact DataW.trod_lt m _ _ _ hm
  obtain ⟨a0, rfl, _, _, w0⟩ := open_int Tryd.underlying3 (hval 0 3 v0 rfl rfl) h0
  obtain ⟨a1, rfl, _, _, w1⟩ := open_int Tryd.underlying3 (hval 1 3 v1 rfl rfl) h1
  clear hA0
  refine (walk a0 a1 W (table hL) (bounds_i64 w0) (bounds_i64 w1)).mono fun e W' ⟨he, bel⟩ => ?_
  subst he
  exact ⟨_, rfl, _, _, _, [], _, [], hW', trodAll_mk1 (shut_bool Tryd.underlying4 _), (trodAll_cons_mk (Below.trod laidOut (by kernel_rfl) (of_decide_eq_true (by kernel_rfl)) k0 bel lt0) (trodAll_cons_mk (Below.trod laidOut (by kernel_rfl) (of_decide_eq_true (by kernel_rfl)) k1 bel lt1) trodAll_mk0)), rfl, bel.frame _, fun h => by cases h⟩

set_option maxRecDepth 100000 in
theorem laid_met (os : Os) : laidMet Tryd.prog Rows.threadsWaitsRow.laid ((World.doorLaid Tryd.prog 40 os).forCall (fun _ _ => 0) ⟨#[], #[.int .i64 0, .int .i64 0], []⟩).memory :=
  laidMet_of_run' 8 (by kernel_rfl) (by kernel_rfl)
set_option maxRecDepth 100000 in
theorem reads (os : Os) {H : Type} (enc : TypeId × Value → H) : ∃ places, DataW.whole enc Tryd.prog ((World.doorLaid Tryd.prog 40 os).forCall (fun _ _ => 0) ⟨#[], #[.int .i64 0, .int .i64 0], []⟩).memory Tryd.f6.params.toList Rows.threadsWaitsSpec.vars false (#[.int .i64 0, .int .i64 0] : Array Value).toList 8 = some ([.lit (.int .i64 0), .lit (.int .i64 0)], [], places) :=
  ⟨[], by kernel_rfl⟩
set_option maxRecDepth 100000 in
set_option maxRecDepth 100000 in
theorem lifted (os : Os) (started : os.Started) (H : Type) (enc : TypeId × Value → H) (F : Stop.Interp) :
    ReturnsInHanded {} Tryd.checked os 6 .any ((OpenSpec.ofChange Rows.threadsWaitsSpec).preRow enc Tryd.prog Tryd.f6 Rows.threadsWaitsRow.domain false Rows.threadsWaitsRow.laid) (((OpenSpec.ofChange Rows.threadsWaitsSpec).at F).post enc Tryd.prog Tryd.f6 false true false false) := by
  obtain ⟨places, hx⟩ := reads os enc
  refine returnsInHanded_of_row (C := Tryd.checked) (s := OpenSpec.ofChange Rows.threadsWaitsSpec) own started (by kernel_rfl) Tryd.func6
    (witness_row_at (enc := enc) (C := Tryd.checked) false (World.doorLaid Tryd.prog 40 os) #[.int .i64 0, .int .i64 0] rfl (by kernel_rfl) (by kernel_rfl) (by kernel_rfl)
      (OpenSpec.preRow_of_cond 8 hx (by kernel_rfl) (fun k hk => by cases hk) (by kernel_rfl) (laid_met os))) ?_
  intro W base args ds gs before hval hW _ _ _ hL _ _
  exact contract H enc W base args ds gs before hval hW hL
set_option maxRecDepth 100000 in
theorem said : Rows.ThreadsWaitsSaid :=
  OpenClaim.holds_of_cond 6 Tryd.f6 rfl rfl rfl rfl rfl rfl rfl ⟨rfl, rfl, rfl, rfl, rfl⟩ rfl rfl rfl rfl rfl (by kernel_rfl) Tryd.func6 (by kernel_rfl)
    (of_decide_eq_true (by kernel_rfl)) (by unfold Func.isWrapper; first | (rw [if_pos (by decide +kernel)]; kernel_rfl) | (rw [if_neg (by decide +kernel)]; exact ⟨rfl, rfl⟩))
    (fun os started H enc _ F => by rw [OpenClaim.pre_eq_preRow]; exact lifted os started H enc F)
set_option maxRecDepth 100000 in
theorem plain (f : FuncId) (fn : Func) (hf : Tryd.pinned.checked.prog.funcNamed "buttress/buttresslaw10.ThreadsWaits" = some f) (hfn : Tryd.pinned.checked.prog.funcs[f]? = some fn) :
    false = Tryd.pinned.checked.prog.looks [] ∧ ∀ (j : Nat) t, fn.params[j]? = some t → Tryd.pinned.checked.prog.wantsStandIn t = false := by
  obtain rfl : f = 6 := Option.some.inj ((show Tryd.prog.funcNamed "buttress/buttresslaw10.ThreadsWaits" = some 6 by kernel_rfl).symm.trans hf) |>.symm
  obtain rfl : fn = Tryd.f6 := (Option.some.inj (Tryd.func6.symm.trans hfn)).symm
  refine ⟨by kernel_rfl, fun j t ht => ?_⟩
  rw [Tryd.params6] at ht
  have hm : t ∈ [3, 3] := by simpa using Array.mem_of_getElem? ht
  have hall : ([3, 3].all fun u => !Tryd.prog.wantsStandIn u) = true := by kernel_rfl
  exact (show Tryd.prog.wantsStandIn t = false by simpa using List.all_eq_true.1 hall t hm)
end Go.Proofs.YtchamgecalfmpaaDoor.threadsWaits
namespace Go.Proofs.YtchamgecalfmpaaDoor
/-- THE CARD. -/
theorem threadsWaits_card : Rows.ThreadsWaitsCardSaid :=
  Claim7.holds_tied_plain_at .later [] _ _ _ _ threadsWaits.said (fun _ h => by cases h) (by kernel_rfl) (fun _ h => by cases h) threadsWaits_row_tie rfl ⟨rfl, rfl⟩ (by kernel_rfl) rfl threadsWaits.plain (by kernel_rfl)
#print axioms threadsWaits_card
end Go.Proofs.YtchamgecalfmpaaDoor
