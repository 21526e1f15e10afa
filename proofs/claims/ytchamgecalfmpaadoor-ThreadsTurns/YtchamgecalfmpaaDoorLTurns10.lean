/-
  ThreadsTurns: threads of one priority that never wait run in turns, five ticks each, in the order in which they were resumed; the variable words.halves starts as the program's text lays it (the card ties it).
-/
import Derived.Test.YtchamgecalfmpaaDoorHLaw
namespace Go.Proofs.YtchamgecalfmpaaDoor.threadsTurns
open Go.RowKit Go.Deep Go.Shelf
set_option maxHeartbeats 8000000 in
set_option maxRecDepth 100000 in
theorem walk (n prio : Int) (w : World) (ht : Tab w) (_ : -9223372036854775808 ≤ n ∧ n ≤ 9223372036854775807) (_ : -9223372036854775808 ≤ prio ∧ prio ≤ 9223372036854775807) :
    Calls Tryd.prog 5 #[.int .i64 n, .int .i64 prio] w fun e w' => e = .returned (.bool true) ∧ Below w.heap.size w w' := by
  have HT := hid (Sep.tabs ht)
  clear ht
  obtain ⟨P, hP, hmask⟩ := mask255 prio
  obtain ⟨m, hm, hmask7⟩ := mask7 n
  obtain ⟨K, hK⟩ : ∃ K : Nat, K = 1 + m := ⟨_, rfl⟩
  have hK1 : 1 ≤ K := by omega
  have hK8 : K ≤ 8 := by omega
  have hw : IntKind.i64.wrap (1 + (m : Int)) = (K : Int) := by
    unfold IntKind.wrap
    simp [IntKind.bits, IntKind.signed]
    omega
  have hw2 : 1 + (m : Int) = (K : Int) := by omega
  clear hK hm
  have HP := hid hP
  go_enter Tryd.func5, Tryd.ntmps5
  go_wp2_with fail
  refine Calls.mono (newT_sep (sep_nil w) 2 (by omega) (by omega)) ?_
  rintro e w1 ⟨p, F, rfl, s1⟩
  have S1 := hid s1
  clear s1
  generalize hr : w.heap.size = r at *
  have HR := hid hr
  clear hr
  go_wp2_with fail
  go_loopw [9, 10, 11] (fun s9 _ _ wr => ∃ (k : Nat) (F : Nat → Prop) (h : Hs), k ≤ K ∧ s9 = .int .i64 k ∧ RS P k h ∧ Sep w r wr [tT p F h]) (fun s9 _ _ _ => K - (intOf s9).toNat)
  case atStart => exact ⟨0, F, newH 2, by omega, rfl, rs_new P, S1.out⟩
  case round =>
    clear S1
    obtain ⟨k, G, h, hk, rfl, rs, s1⟩ := hrel
    have S1 := hid s1
    clear s1
    by_cases hlt : k < K
    · have hltz : (k : Int) < (K : Int) := by omega
      obtain ⟨e1, e2, e3, rs2⟩ := rs.next HP.out (by omega)
      have HRS := hid rs2
      clear rs rs2
      go_wp2_with fail
      refine Calls.mono (make_is S1.out P 1 rfl e2 e1) ?_
      rintro e w2 ⟨rfl, F2, s2⟩
      have S2 := hid s2
      clear s2
      go_wp2_with fail
      refine Calls.mono (resume_is S2.out k rfl e3) ?_
      rintro e w3 ⟨rfl, F3, s3⟩
      have S3 := hid s3
      clear s3
      go_wp2
      go_round
      case rel => exact ⟨k + 1, F3, _, by omega, by go_num, HRS.out, S3.out⟩
      case measure => simp [intOf]; omega
    · obtain rfl : k = K := by omega
      have HTS := hid (rs.pick (by omega))
      clear rs hlt hk
      go_wp2_with fail
      refine Calls.mono (pick_is S1.out HT.out 1 rfl rfl rfl) ?_
      rintro e w2 ⟨rfl, F2, s2⟩
      have S2 := hid s2
      clear s2 S1
      generalize hp0 : pickH h 1 = h0 at *
      generalize runsN h0 1 = rn at *
      generalize runsB h0 1 = rb at *
      clear hp0
      go_wp2_with fail
      go_loopw [12, 13, 14] (fun s12 _ _ wr => ∃ (i : Nat) (F : Nat → Prop) (h : Hs), i ≤ 100 ∧ s12 = .int .i64 i ∧ TS k P i h ∧ Sep w r wr [tT p F h]) (fun s12 _ _ _ => 100 - (intOf s12).toNat)
      case atStart => exact ⟨0, F2, h0, by omega, rfl, HTS.out, S2.out⟩
      case round =>
        clear S2 HTS
        obtain ⟨i, G, h, hi, rfl, ts, s1⟩ := hrel
        have S1 := hid s1
        clear s1
        by_cases hlt : i < 100
        · have hltz : (i : Int) < 100 := by omega
          obtain ⟨r1, r2⟩ := runsN_some (ts.runs (by omega))
          have HTS := hid (ts.tick (by omega))
          have d1 : (i : Int).tdiv 5 = ((i / 5 : Nat) : Int) := by rw [Int.tdiv_eq_ediv_of_nonneg (by omega)]; rfl
          have d2 : ((i / 5 : Nat) : Int).tmod (k : Int) = ((i / 5 % k : Nat) : Int) := by rw [Int.tmod_eq_emod_of_nonneg (by omega)]; rfl
          have d3 : (i : Int) / 5 = ((i / 5 : Nat) : Int) := rfl
          have d4 : ((i / 5 : Nat) : Int) % (k : Int) = ((i / 5 % k : Nat) : Int) := rfl
          have hk0 : ¬ ((k : Int) = 0) := by omega
          have HI := hid hlt
          clear ts
          generalize i / 5 % k = rr at *
          generalize i / 5 = di at *
          go_wp2_with fail
          refine Calls.mono (runs_is' S1.out 1 r1 r2) ?_
          rintro e w2 ⟨rfl, s2⟩
          have S2 := hid s2
          clear s2
          go_wp2_with fail
          refine Calls.mono (tick_is S2.out HT.out 1 rfl r2) ?_
          rintro e w3 ⟨rfl, F3, s3⟩
          have S3 := hid s3
          clear s3
          go_wp2
          go_round
          case rel => exact ⟨i + 1, F3, _, by have := HI.out; omega, by go_num, HTS.out, S3.out⟩
          case measure => simp [intOf]; have := HI.out; omega
        · have hno : runsO h 0 = none := by
            cases e : runsO h 0 with
            | none => rfl
            | some j =>
              obtain ⟨x, f1, _, f2, f3, f4⟩ := runs_some e
              rw [ts.ats j (by rw [← ts.len]; exact f2)] at f1
              split at f1 <;> cases f1 <;> cases f4
          obtain ⟨r1, r2⟩ := runsN_none hno
          have hltz : ¬ ((i : Int) < 100) := by omega
          clear ts hlt hno
          go_wp2_with fail
          refine Calls.mono (runs_is' S1.out 0 r1 r2) ?_
          rintro e w2 ⟨rfl, s2⟩
          have S2 := hid s2
          clear s2
          go_wp2_with fail
          refine Calls.mono (tick_is S2.out HT.out 0 rfl r2) ?_
          rintro e w3 ⟨rfl, F3, s3⟩
          have S3 := hid s3
          clear s3
          go_wp2_with fail
          refine Calls.mono (fixed_sep S3.out HT.out) ?_
          rintro e w4 ⟨rfl, s4⟩
          have S4 := hid s4
          clear s4
          go_wp2
          go_ret
          exact ⟨rfl, by rw [HR.out]; exact S4.out.low⟩
open Go.ChangeShapes Go.WideShapes Go.ChangeAt Go.RowKit Go.Joins

/-! ### From the walk to the statement -/
set_option maxRecDepth 100000 in
theorem contract (H : Type) (enc : TypeId × Value → H) (W : World) (base : Nat) (args : Array Value) (ds gs : List (DataW H)) (before : List MemPlace)
    (hval : ∀ (j : Nat) t v, Tryd.f5.params[j]? = some t → args[j]? = some v → Value.okWide Tryd.prog W .any base t v)
    (hW : DataW.Whole enc Tryd.prog Tryd.f5.params.toList Rows.threadsTurnsSpec.vars false W args.toList ds gs before) (hL : laidMetH Tryd.prog Rows.threadsTurnsRow.laid W) :
    Calls Tryd.prog 5 args W fun e W' => ∃ v, e = .returned v ∧ Rows.threadsTurnsSpec.post enc Tryd.prog Tryd.f5 false true false false W args v W' := by
  have hW' := hW
  obtain ⟨p, q, hA0, hV, rfl, hfz, hnd⟩ := hW
  have hA : DataW.TrodAll enc Tryd.prog W 0 (fun _ => true) true Tryd.f5.params.toList args.toList ds p := hA0
  rw [Tryd.params5] at hA hval
  obtain ⟨v0, vs0, d0, ds0, p0, q0, hargs, rfl, rfl, h0, r0⟩ := trodAll_cons hA
  obtain ⟨v1, vs1, d1, ds1, p1, q1, rfl, rfl, rfl, h1, r1⟩ := trodAll_cons r0
  obtain ⟨rfl, rfl, rfl⟩ := trodAll_nil r1
  obtain rfl : args = #[v0, v1] := by cases args; simp_all
  obtain ⟨rfl, rfl⟩ := trodVars_none hV
  have k0 := h0
  have lt0 : ∀ x ∈ p0, x.block < W.heap.size := by obtain ⟨m, hm⟩ := k0; exact DataW.trod_lt m _ _ _ hm
  have k1 := h1
  have lt1 : ∀ x ∈ p1, x.block < W.heap.size := by obtain ⟨m, hm⟩ := k1; exact DataW.trod_lt m _ _ _ hm
  obtain ⟨a0, rfl, _, _, w0⟩ := open_int Tryd.underlying3 (hval 0 3 v0 rfl rfl) h0
  obtain ⟨a1, rfl, _, _, w1⟩ := open_int Tryd.underlying3 (hval 1 3 v1 rfl rfl) h1
  clear hA0
  refine (walk a0 a1 W (table hL) (bounds_i64 w0) (bounds_i64 w1)).mono fun e W' ⟨he, bel⟩ => ?_
  subst he
  exact ⟨_, rfl, _, _, _, [], _, [], hW', trodAll_mk1 (shut_bool Tryd.underlying4 _), (trodAll_cons_mk (Below.trod laidOut (by kernel_rfl) (of_decide_eq_true (by kernel_rfl)) k0 bel lt0) (trodAll_cons_mk (Below.trod laidOut (by kernel_rfl) (of_decide_eq_true (by kernel_rfl)) k1 bel lt1) trodAll_mk0)), rfl, bel.frame _, fun h => by cases h⟩

set_option maxRecDepth 100000 in
theorem laid_met (os : Os) : laidMet Tryd.prog Rows.threadsTurnsRow.laid ((World.doorLaid Tryd.prog 40 os).forCall (fun _ _ => 0) ⟨#[], #[.int .i64 0, .int .i64 0], []⟩).memory :=
  laidMet_of_run' 8 (by kernel_rfl) (by kernel_rfl)
set_option maxRecDepth 100000 in
theorem reads (os : Os) {H : Type} (enc : TypeId × Value → H) : ∃ places, DataW.whole enc Tryd.prog ((World.doorLaid Tryd.prog 40 os).forCall (fun _ _ => 0) ⟨#[], #[.int .i64 0, .int .i64 0], []⟩).memory Tryd.f5.params.toList Rows.threadsTurnsSpec.vars false (#[.int .i64 0, .int .i64 0] : Array Value).toList 8 = some ([.lit (.int .i64 0), .lit (.int .i64 0)], [], places) :=
  ⟨[], by kernel_rfl⟩
set_option maxRecDepth 100000 in
set_option maxRecDepth 100000 in
theorem lifted (os : Os) (started : os.Started) (H : Type) (enc : TypeId × Value → H) (F : Stop.Interp) :
    ReturnsInHanded {} Tryd.checked os 5 .any ((OpenSpec.ofChange Rows.threadsTurnsSpec).preRow enc Tryd.prog Tryd.f5 Rows.threadsTurnsRow.domain false Rows.threadsTurnsRow.laid) (((OpenSpec.ofChange Rows.threadsTurnsSpec).at F).post enc Tryd.prog Tryd.f5 false true false false) := by
  obtain ⟨places, hx⟩ := reads os enc
  refine returnsInHanded_of_row (C := Tryd.checked) (s := OpenSpec.ofChange Rows.threadsTurnsSpec) own started (by kernel_rfl) Tryd.func5
    (witness_row_at (enc := enc) (C := Tryd.checked) false (World.doorLaid Tryd.prog 40 os) #[.int .i64 0, .int .i64 0] rfl (by kernel_rfl) (by kernel_rfl) (by kernel_rfl)
      (OpenSpec.preRow_of_cond 8 hx (by kernel_rfl) (fun k hk => by cases hk) (by kernel_rfl) (laid_met os))) ?_
  intro W base args ds gs before hval hW _ _ _ hL _ _
  exact contract H enc W base args ds gs before hval hW hL
set_option maxRecDepth 100000 in
theorem said : Rows.ThreadsTurnsSaid :=
  OpenClaim.holds_of_cond 5 Tryd.f5 rfl rfl rfl rfl rfl rfl rfl ⟨rfl, rfl, rfl, rfl, rfl⟩ rfl rfl rfl rfl rfl (by kernel_rfl) Tryd.func5 (by kernel_rfl)
    (of_decide_eq_true (by kernel_rfl)) (by unfold Func.isWrapper; first | (rw [if_pos (by decide +kernel)]; kernel_rfl) | (rw [if_neg (by decide +kernel)]; exact ⟨rfl, rfl⟩))
    (fun os started H enc _ F => by rw [OpenClaim.pre_eq_preRow]; exact lifted os started H enc F)
set_option maxRecDepth 100000 in
theorem plain (f : FuncId) (fn : Func) (hf : Tryd.pinned.checked.prog.funcNamed "buttress/buttresslaw10.ThreadsTurns" = some f) (hfn : Tryd.pinned.checked.prog.funcs[f]? = some fn) :
    false = Tryd.pinned.checked.prog.looks [] ∧ ∀ (j : Nat) t, fn.params[j]? = some t → Tryd.pinned.checked.prog.wantsStandIn t = false := by
  obtain rfl : f = 5 := Option.some.inj ((show Tryd.prog.funcNamed "buttress/buttresslaw10.ThreadsTurns" = some 5 by kernel_rfl).symm.trans hf) |>.symm
  obtain rfl : fn = Tryd.f5 := (Option.some.inj (Tryd.func5.symm.trans hfn)).symm
  refine ⟨by kernel_rfl, fun j t ht => ?_⟩
  rw [Tryd.params5] at ht
  have hm : t ∈ [3, 3] := by simpa using Array.mem_of_getElem? ht
  have hall : ([3, 3].all fun u => !Tryd.prog.wantsStandIn u) = true := by kernel_rfl
  exact (show Tryd.prog.wantsStandIn t = false by simpa using List.all_eq_true.1 hall t hm)
end Go.Proofs.YtchamgecalfmpaaDoor.threadsTurns
namespace Go.Proofs.YtchamgecalfmpaaDoor
/-- THE CARD. -/
theorem threadsTurns_card : Rows.ThreadsTurnsCardSaid :=
  Claim7.holds_tied_plain_at .later [] _ _ _ _ threadsTurns.said (fun _ h => by cases h) (by kernel_rfl) (fun _ h => by cases h) threadsTurns_row_tie rfl ⟨rfl, rfl⟩ (by kernel_rfl) rfl threadsTurns.plain (by kernel_rfl)
#print axioms threadsTurns_card
end Go.Proofs.YtchamgecalfmpaaDoor
