/-
  ThreadsNone: of a thread that is not there nothing is done, whatever is asked; the variable words.halves starts as the program's text lays it (the card ties it).
-/
import Derived.Test.YtchamgecalfmpabDoorHDone
import Derived.Test.YtchamgecalfmpabDoorHNo
import Derived.Deep.Cut
import Derived.Deep.CutRange
namespace Go.Proofs.YtchamgecalfmpabDoor.threadsNone
open Go.RowKit Go.Deep Go.Shelf
theorem noT (i : Int) : ¬ isT (newH 2) i := by
  intro h
  have := h.2
  have h0 := h.1
  have e : (newH 2).L.length = 0 := rfl
  rw [e] at this
  omega
theorem noR (c : Int) : runsO (newH 2) c = none := rfl
theorem noP (c : Int) : pickH (newH 2) c = newH 2 := by
  rcases isC_cases (newH 2) c with ⟨j, rfl, hj, hC, _⟩ | hC
  · have hj2 : j < 2 := hj
    have : j = 0 ∨ j = 1 := by omega
    unfold pickH
    rw [if_pos hC]
    rcases this with rfl | rfl <;> rfl
  · unfold pickH
    rw [if_neg hC]
theorem noY (c : Int) : yieldH (newH 2) c = newH 2 := rfl
theorem noK (c : Int) : tickH (newH 2) c = newH 2 := rfl
theorem noRes (i : Int) : resumeE (newH 2) i = 100 ∧ resumeH (newH 2) i = newH 2 := by
  have e : resumeE (newH 2) i = 100 := by unfold resumeE; rw [if_neg (noT i)]
  exact ⟨e, by unfold resumeH; rw [e, if_neg (by decide)]⟩
theorem noSus (i : Int) : suspendE (newH 2) i = 100 ∧ suspendH (newH 2) i = newH 2 := by
  have e : suspendE (newH 2) i = 100 := by unfold suspendE; rw [if_neg (noT i)]
  exact ⟨e, by unfold suspendH; rw [e, if_neg (by decide)]⟩
theorem noBlo (i : Int) : blockE (newH 2) i = 100 ∧ blockH (newH 2) i = newH 2 := by
  have e : blockE (newH 2) i = 100 := by unfold blockE; rw [if_neg (noT i)]
  exact ⟨e, by unfold blockH; rw [e, if_neg (by decide)]⟩
theorem noPri (i k : Int) : prioE (newH 2) i k = 100 ∧ prioH (newH 2) i k = newH 2 := by
  have e : prioE (newH 2) i k = 100 := by unfold prioE; rw [if_neg (noT i)]
  exact ⟨e, by unfold prioH; rw [e, if_neg (by decide)]⟩
theorem noCor (i k : Int) : coreE (newH 2) i k = 100 ∧ coreH (newH 2) i k = newH 2 := by
  have e : coreE (newH 2) i k = 100 := by unfold coreE; rw [if_neg (noT i)]
  exact ⟨e, by unfold coreH; rw [e, if_neg (by decide)]⟩
theorem noReg (i k z : Int) : regE (newH 2) i k = 100 ∧ regH (newH 2) i k z = newH 2 := by
  have e : regE (newH 2) i k = 100 := by unfold regE; rw [if_neg (noT i)]
  exact ⟨e, by unfold regH; rw [e, if_neg (by decide)]⟩
theorem noGet (i : Int) : getE (newH 2) i = 100 ∧ getT (newH 2) i = td0 := ⟨by unfold getE; rw [if_neg (noT i)], by unfold getT; rw [if_neg (noT i)]⟩
theorem noDone (x : Oc) : doneH (newH 2) x = newH 2 := by
  unfold doneH
  rw [(noRes x.i).2, (noSus x.i).2, (noBlo x.i).2, (noPri x.i x.n).2, (noCor x.i x.c).2, noP, noY, noK]
  simp only [ite_self]
/-- The same, the state behind a letter. -/
theorem all : ∃ h : Hs, newH 2 = h ∧ (∀ i, ¬ isT h i) ∧ (∀ x, doneH h x = h) ∧ (∀ i, resumeE h i = 100 ∧ resumeH h i = h) ∧ (∀ i, suspendE h i = 100 ∧ suspendH h i = h) ∧ (∀ i, blockE h i = 100 ∧ blockH h i = h) ∧ (∀ i k, prioE h i k = 100 ∧ prioH h i k = h) ∧ (∀ i k, coreE h i k = 100 ∧ coreH h i k = h) ∧ (∀ i k z, regE h i k = 100 ∧ regH h i k z = h) ∧ (∀ i, getE h i = 100 ∧ getT h i = td0) ∧ (∀ c, pickH h c = h ∧ yieldH h c = h ∧ tickH h c = h ∧ runsN h c = 0 ∧ runsB h c = false) :=
  ⟨newH 2, rfl, noT, noDone, noRes, noSus, noBlo, noPri, noCor, noReg, noGet, fun c => ⟨noP c, rfl, rfl, rfl, rfl⟩⟩
set_option maxHeartbeats 8000000 in
set_option maxRecDepth 100000 in
theorem walk (ao : Option Addr) (X : List Oc) (cap : Nat) (y : Oc) (w : World) (ht : Tab w) (hX : Ops w ao X) (_hxl : X.length ≤ 9223372036854775807) (hy : y.Fits) :
    Calls Tryd.prog 4 #[.slice ao X.length cap, encO y] w fun e w' => e = .returned (.bool true) ∧ Below w.heap.size w w' := by
  have HT := hid (Sep.tabs ht)
  clear ht
  obtain ⟨h, a0, nt, a1, a2, a3, a4, a5, a6, a7, a8, a9⟩ := all
  have HA := hid (And.intro a1 (And.intro a2 (And.intro a3 (And.intro a4 (And.intro a5 (And.intro a6 (And.intro a7 (And.intro a8 a9))))))))
  have HX := hid hX
  have HV := hid hy.v
  have H0 := hid a0
  have HNT := hid nt
  have S0 := hid ((sep_nil w).box (objO y))
  clear hX hy nt a0 a1 a2 a3 a4 a5 a6 a7 a8 a9
  simp only [objO] at S0
  unfold encO
  go_enter Tryd.func4, Tryd.ntmps4
  go_wp2_with fail
  refine Calls.mono (newT_sep S0.out 2 (by omega) (by omega)) ?_
  rintro e w1 ⟨p, F, rfl, s1⟩
  rw [H0.out] at s1
  have S1 := hid s1
  clear s1 S0
  generalize hr : w.heap.size = r at *
  have HR := hid hr
  clear hr
  go_wp2_with fail
  go_loopw [7] (fun s7 wr => ∃ (k : Nat) (F : Nat → Prop), k ≤ 60 ∧ s7 = .int .i64 k ∧ Sep w r wr [tT p F h, blk r (objO y)]) (fun s7 _ => 60 - (intOf s7).toNat)
  case atStart => exact ⟨0, F, by omega, rfl, S1.out⟩
  case round =>
    clear S1
    obtain ⟨k, G, hk, rfl, s1⟩ := hrel
    have S1 := hid s1
    clear s1
    by_cases hgo : k < X.length ∧ k < 60
    · obtain ⟨hlt, h60⟩ := hgo
      obtain ⟨fx, b, a, rfl, c0, c1, c2, c3, c4⟩ := Ops.at (SeeK.below HX.out S1.out.low (by rw [HR.out]; exact Nat.le_refl _)) (List.getElem?_eq_getElem hlt)
      generalize hx : X[k] = x at *
      clear fx hx
      generalize hn : X.length = n at *
      have hltz : (k : Int) < (n : Int) := by omega
      have h60z : (k : Int) < 60 := by omega
      go_wp2_with fail
      refine Calls.mono (done_sep S1.out HT.out x) ?_
      rintro e w2 ⟨rfl, F2, s2⟩
      rw [HA.out.1 x] at s2
      have S2 := hid s2
      clear s2
      go_wp2
      go_round
      case rel => exact ⟨k + 1, F2, by omega, by go_num, S2.out⟩
      case measure => simp [intOf]; omega
    · have hex : (¬ ((k : Int) < (X.length : Int))) ∨ ((k : Int) < (X.length : Int) ∧ ¬ ((k : Int) < 60)) := by omega
      obtain ⟨_, a2, a3, a4, a5, a6, a7, a8, a9⟩ := HA.out
      have HY := hid (And.intro a2 (And.intro a3 (And.intro a4 (And.intro a5 (And.intro a6 (And.intro a7 (And.intro a8 a9)))))))
      clear hgo a2 a3 a4 a5 a6 a7 a8 a9
      generalize hn : X.length = nX at *
      rcases hex with h1 | ⟨h1, h2⟩
      all_goals
        obtain ⟨o0, o1, o2, o3, o4⟩ := S1.out.opAt (q := r) (x := y) (by simp)
        go_wp2_with fail
        have HGT := hid (fun (q : Grw wr) => ThH.at (S1.out.grw q).head.1)
        have o1g : ∀ q : Grw wr, q.val.cell? ⟨r, 1, none⟩ = some (.int .i64 y.i) := fun q => ((S1.out.grw q).opAt (q := r) (x := y) (by simp)).2.1
        have o4g : ∀ q : Grw wr, q.val.cell? ⟨r, 4, none⟩ = some (.int .u64 y.v) := fun q => ((S1.out.grw q).opAt (q := r) (x := y) (by simp)).2.2.2.2
        clear o0 o1 o2 o3 o4
        have HN1 := hid (fun (q : Grw wr) => by obtain ⟨vv, uu, qq, tt⟩ := HGT.out q; exact resume_no tt y.i (HNT.out y.i))
        have HN2 := hid (fun (q : Grw wr) => by obtain ⟨vv, uu, qq, tt⟩ := HGT.out q; exact suspend_no tt y.i (HNT.out y.i))
        have HN3 := hid (fun (q : Grw wr) => by obtain ⟨vv, uu, qq, tt⟩ := HGT.out q; exact block_no tt y.i (HNT.out y.i))
        have hgi : ∀ u : World, Inhabited (Grw u) := grw0
        refine wp_region_grw (by kernel_rfl) (by kernel_rfl) ?_
        repeat (go_big_quiet_step ((first | (go_at_call 10; exact grw_of (HN1.out _)) | (go_at_call 11; exact grw_of (HN2.out _)) | (go_at_call 12; exact grw_of (HN3.out _)))))
        refine wpQuiet_nil ?_
        intro _ hw'
        obtain ⟨p9, hw''⟩ := hw'
        subst hw''
        have S4 := hid (S1.out.grw p9)
        generalize p9.val = w4 at *
        clear S1 HGT HN1 HN2 HN3 o1g o4g
        obtain ⟨o0, o1, o2, o3, o4⟩ := S4.out.opAt (q := r) (x := y) (by simp)
        go_wp2_with fail
        have HGT := hid (fun (q : Grw w4) => ThH.at (S4.out.grw q).head.1)
        have o1g : ∀ q : Grw w4, q.val.cell? ⟨r, 1, none⟩ = some (.int .i64 y.i) := fun q => ((S4.out.grw q).opAt (q := r) (x := y) (by simp)).2.1
        have o4g : ∀ q : Grw w4, q.val.cell? ⟨r, 4, none⟩ = some (.int .u64 y.v) := fun q => ((S4.out.grw q).opAt (q := r) (x := y) (by simp)).2.2.2.2
        clear o0 o1 o2 o3 o4
        have HN1 := hid (fun (q : Grw w4) => by obtain ⟨vv, uu, qq, tt⟩ := HGT.out q; exact prio_no tt y.i 5 (HNT.out y.i))
        have HN2 := hid (fun (q : Grw w4) => by obtain ⟨vv, uu, qq, tt⟩ := HGT.out q; exact core_no tt (S4.out.inv.lo) y.i 1 (HNT.out y.i))
        have HN3 := hid (fun (q : Grw w4) => by obtain ⟨vv, uu, qq, tt⟩ := HGT.out q; exact reg_no tt y.i 0 y.v (HNT.out y.i))
        have hgi : ∀ u : World, Inhabited (Grw u) := grw0
        refine wp_region_grw (by kernel_rfl) (by kernel_rfl) ?_
        repeat (go_big_quiet_step ((first | (go_at_call 13; exact grw_of (HN1.out _)) | (go_at_call 14; exact grw_of (HN2.out _)) | (go_at_call 15; exact grw_of (HN3.out _)))))
        refine wpQuiet_nil ?_
        intro _ hw'
        obtain ⟨p9, hw''⟩ := hw'
        subst hw''
        have S7 := hid (S4.out.grw p9)
        generalize p9.val = w7 at *
        clear S4 HGT HN1 HN2 HN3 o1g o4g
        obtain ⟨o0, o1, o2, o3, o4⟩ := S7.out.opAt (q := r) (x := y) (by simp)
        go_wp2_with fail
        refine Calls.mono (get_agg S7.out y.i (HY.out.2.2.2.2.2.2.1 y.i).2 (HY.out.2.2.2.2.2.2.1 y.i).1) ?_
        rintro e w8 ⟨rfl, s8⟩
        have S8 := hid (s8.box (objT td0)).drop
        clear s8 o0 o1 o2 o3 o4
        obtain ⟨o0, o1, o2, o3, o4⟩ := S8.out.opAt (q := r) (x := y) (by simp)
        simp only [objT] at o0 o1 o2 o3 o4
        go_wp2_with fail
        refine Calls.mono (pick_is S8.out HT.out y.c (HY.out.2.2.2.2.2.2.2 y.c).1 rfl (HY.out.2.2.2.2.2.2.2 y.c).2.2.2.2) ?_
        rintro e w9 ⟨rfl, F9, s9⟩
        have S9 := hid s9
        clear s9 o0 o1 o2 o3 o4
        generalize runsN h y.c = rn at *
        obtain ⟨o0, o1, o2, o3, o4⟩ := S9.out.opAt (q := r) (x := y) (by simp)
        go_wp2_with fail
        refine Calls.mono (yield_sep S9.out HT.out y.c) ?_
        rintro e w10 ⟨rfl, F10, s10⟩
        rw [(HY.out.2.2.2.2.2.2.2 y.c).2.1] at s10
        rw [(HY.out.2.2.2.2.2.2.2 y.c).2.2.2.2]
        have S10 := hid s10
        clear s10 o0 o1 o2 o3 o4
        obtain ⟨o0, o1, o2, o3, o4⟩ := S10.out.opAt (q := r) (x := y) (by simp)
        go_wp2_with fail
        refine Calls.mono (tick_is S10.out HT.out y.c (HY.out.2.2.2.2.2.2.2 y.c).2.2.1 (HY.out.2.2.2.2.2.2.2 y.c).2.2.2.2) ?_
        rintro e w11 ⟨rfl, F11, s11⟩
        have S11 := hid s11
        clear s11 o0 o1 o2 o3 o4
        obtain ⟨o0, o1, o2, o3, o4⟩ := S11.out.opAt (q := r) (x := y) (by simp)
        go_wp2_with fail
        refine Calls.mono (fixed_sep S11.out HT.out) ?_
        rintro e w12 ⟨rfl, s12⟩
        have S12 := hid s12
        clear s12
        go_wp2
        go_ret
        exact ⟨rfl, by rw [HR.out]; exact S12.out.low⟩
open Go.ChangeShapes Go.WideShapes Go.ChangeAt Go.RowKit Go.Joins

/-! ### From the walk to the statement -/
set_option maxRecDepth 100000 in
theorem contract (H : Type) (enc : TypeId × Value → H) (W : World) (base : Nat) (args : Array Value) (ds gs : List (DataW H)) (before : List MemPlace)
    (hval : ∀ (j : Nat) t v, Tryd.f4.params[j]? = some t → args[j]? = some v → Value.okWide Tryd.prog W .any base t v)
    (hW : DataW.Whole enc Tryd.prog Tryd.f4.params.toList Rows.threadsNoneSpec.vars false W args.toList ds gs before) (hL : laidMetH Tryd.prog Rows.threadsNoneRow.laid W) :
    Calls Tryd.prog 4 args W fun e W' => ∃ v, e = .returned v ∧ Rows.threadsNoneSpec.post enc Tryd.prog Tryd.f4 false true false false W args v W' := by
  have hW' := hW
  obtain ⟨p, q, hA0, hV, rfl, hfz, hnd⟩ := hW
  have hA : DataW.TrodAll enc Tryd.prog W 0 (fun _ => true) true Tryd.f4.params.toList args.toList ds p := hA0
  rw [Tryd.params4] at hA hval
  obtain ⟨v0, vs0, d0, ds0, p0, q0, hargs, rfl, rfl, h0, r0⟩ := trodAll_cons hA
  obtain ⟨v1, vs1, d1, ds1, p1, q1, rfl, rfl, rfl, h1, r1⟩ := trodAll_cons r0
  obtain ⟨rfl, rfl, rfl⟩ := trodAll_nil r1
  obtain rfl : args = #[v0, v1] := by cases args; simp_all
  obtain ⟨rfl, rfl⟩ := trodVars_none hV
  have k0 := h0
  have lt0 : ∀ x ∈ p0, x.block < W.heap.size := by obtain ⟨m, hm⟩ := k0; exact DataW.trod_lt m _ _ _ hm
  have k1 := h1
  have lt1 : ∀ x ∈ p1, x.block < W.heap.size := by obtain ⟨m, hm⟩ := k1; exact DataW.trod_lt m _ _ _ hm
  obtain ⟨a0, l0, c0, rfl, t0, s0⟩ := open_ops (hval 0 36 v0 rfl rfl) h0
  obtain ⟨a1, rfl, w1⟩ := open_op (hval 1 38 v1 rfl rfl) h1
  clear hA0
  refine (walk a0 l0 c0 a1 W (table hL) t0 s0 w1).mono fun e W' ⟨he, bel⟩ => ?_
  subst he
  exact ⟨_, rfl, _, _, _, [], _, [], hW', trodAll_mk1 (shut_bool Tryd.underlying4 _), (trodAll_cons_mk (Below.trod laidOut (by kernel_rfl) (of_decide_eq_true (by kernel_rfl)) k0 bel lt0) (trodAll_cons_mk (Below.trod laidOut (by kernel_rfl) (of_decide_eq_true (by kernel_rfl)) k1 bel lt1) trodAll_mk0)), rfl, bel.frame _, fun h => by cases h⟩

set_option maxRecDepth 100000 in
theorem laid_met (os : Os) : laidMet Tryd.prog Rows.threadsNoneRow.laid ((World.doorLaid Tryd.prog 40 os).forCall (fun _ _ => 0) ⟨#[], #[.slice none 0 0, .agg #[.int .i64 0, .int .i64 0, .int .i64 0, .int .i64 0, .int .u64 0]], []⟩).memory :=
  laidMet_of_run' 8 (by kernel_rfl) (by kernel_rfl)
set_option maxRecDepth 100000 in
theorem reads (os : Os) {H : Type} (enc : TypeId × Value → H) : ∃ places, DataW.whole enc Tryd.prog ((World.doorLaid Tryd.prog 40 os).forCall (fun _ _ => 0) ⟨#[], #[.slice none 0 0, .agg #[.int .i64 0, .int .i64 0, .int .i64 0, .int .i64 0, .int .u64 0]], []⟩).memory Tryd.f4.params.toList Rows.threadsNoneSpec.vars false (#[.slice none 0 0, .agg #[.int .i64 0, .int .i64 0, .int .i64 0, .int .i64 0, .int .u64 0]] : Array Value).toList 8 = some ([.nil, .agg [.lit (.int .i64 0), .lit (.int .i64 0), .lit (.int .i64 0), .lit (.int .i64 0), .lit (.int .u64 0)]], [], places) :=
  ⟨[], by kernel_rfl⟩
set_option maxRecDepth 100000 in
set_option maxRecDepth 100000 in
theorem lifted (os : Os) (started : os.Started) (H : Type) (enc : TypeId × Value → H) (F : Stop.Interp) :
    ReturnsInHanded {} Tryd.checked os 4 .any ((OpenSpec.ofChange Rows.threadsNoneSpec).preRow enc Tryd.prog Tryd.f4 Rows.threadsNoneRow.domain false Rows.threadsNoneRow.laid) (((OpenSpec.ofChange Rows.threadsNoneSpec).at F).post enc Tryd.prog Tryd.f4 false true false false) := by
  obtain ⟨places, hx⟩ := reads os enc
  refine returnsInHanded_of_row (C := Tryd.checked) (s := OpenSpec.ofChange Rows.threadsNoneSpec) own started (by kernel_rfl) Tryd.func4
    (witness_row_at (enc := enc) (C := Tryd.checked) false (World.doorLaid Tryd.prog 40 os) #[.slice none 0 0, .agg #[.int .i64 0, .int .i64 0, .int .i64 0, .int .i64 0, .int .u64 0]] rfl (by kernel_rfl) (by kernel_rfl) (by kernel_rfl)
      (OpenSpec.preRow_of_cond 8 hx (by kernel_rfl) (fun k hk => by cases hk) (by kernel_rfl) (laid_met os))) ?_
  intro W base args ds gs before hval hW _ _ _ hL _ _
  exact contract H enc W base args ds gs before hval hW hL
set_option maxRecDepth 100000 in
theorem said : Rows.ThreadsNoneSaid :=
  OpenClaim.holds_of_cond 4 Tryd.f4 rfl rfl rfl rfl rfl rfl rfl ⟨rfl, rfl, rfl, rfl, rfl⟩ rfl rfl rfl rfl rfl (by kernel_rfl) Tryd.func4 (by kernel_rfl)
    (of_decide_eq_true (by kernel_rfl)) (by unfold Func.isWrapper; first | (rw [if_pos (by decide +kernel)]; kernel_rfl) | (rw [if_neg (by decide +kernel)]; exact ⟨rfl, rfl⟩))
    (fun os started H enc _ F => by rw [OpenClaim.pre_eq_preRow]; exact lifted os started H enc F)
set_option maxRecDepth 100000 in
theorem plain (f : FuncId) (fn : Func) (hf : Tryd.pinned.checked.prog.funcNamed "buttress/buttresslaw10.ThreadsNone" = some f) (hfn : Tryd.pinned.checked.prog.funcs[f]? = some fn) :
    false = Tryd.pinned.checked.prog.looks [] ∧ ∀ (j : Nat) t, fn.params[j]? = some t → Tryd.pinned.checked.prog.wantsStandIn t = false := by
  obtain rfl : f = 4 := Option.some.inj ((show Tryd.prog.funcNamed "buttress/buttresslaw10.ThreadsNone" = some 4 by kernel_rfl).symm.trans hf) |>.symm
  obtain rfl : fn = Tryd.f4 := (Option.some.inj (Tryd.func4.symm.trans hfn)).symm
  refine ⟨by kernel_rfl, fun j t ht => ?_⟩
  rw [Tryd.params4] at ht
  have hm : t ∈ [36, 38] := by simpa using Array.mem_of_getElem? ht
  have hall : ([36, 38].all fun u => !Tryd.prog.wantsStandIn u) = true := by kernel_rfl
  exact (show Tryd.prog.wantsStandIn t = false by simpa using List.all_eq_true.1 hall t hm)
end Go.Proofs.YtchamgecalfmpabDoor.threadsNone
namespace Go.Proofs.YtchamgecalfmpabDoor
/-- THE CARD. -/
theorem threadsNone_card : Rows.ThreadsNoneCardSaid :=
  Claim7.holds_tied_plain_at .later [] _ _ _ _ threadsNone.said (fun _ h => by cases h) (by kernel_rfl) (fun _ h => by cases h) threadsNone_row_tie rfl ⟨rfl, rfl⟩ (by kernel_rfl) rfl threadsNone.plain (by kernel_rfl)
#print axioms threadsNone_card
end Go.Proofs.YtchamgecalfmpabDoor
