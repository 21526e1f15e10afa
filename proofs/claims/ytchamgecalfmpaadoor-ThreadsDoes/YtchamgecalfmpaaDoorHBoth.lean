/-
  What same of the laws of threads answers; that a thread's struct is equal to itself; what the whole script's law needs besides; no condition but that the table of widths lies as the program laid it.
-/
import Derived.Test.YtchamgecalfmpaaDoorHRAll
import Derived.Test.YtchamgecalfmpaaDoorHLaw
import Derived.Test.YtchamgecalfmpaaDoorHCopies

namespace Go.Proofs.YtchamgecalfmpaaDoor
open Go.RowKit Go.Deep Go.Shelf

section
variable {w0 w : World} {r : Nat} {R : List Th} {p k : Nat} {F G : Nat → Prop} {h : Hs}
set_option maxHeartbeats 16000000 in
set_option maxRecDepth 100000 in
theorem same_sep (s : Sep w0 r w (tT p F h :: tR k G h :: R)) (ht : ∀ u, Below r w0 u → Tab u) (x : Oc) (hx : x.Fits) :
    Calls Tryd.prog 15 #[ptr p, ptr k, encO x] w fun e w' => e = .returned (.bool true) ∧ ∃ h' F' G', Sep w0 r w' (tT p F' h' :: tR k G' h' :: R) := by
  have HT := hid ht
  have hv := hx.v
  have hcs : x.k = 0 ∨ x.k = 1 ∨ x.k = 2 ∨ x.k = 3 ∨ x.k = 4 ∨ x.k = 5 ∨ x.k = 6 ∨ x.k = 7 ∨ x.k = 8 ∨ x.k = 9 ∨ (¬ x.k = 0 ∧ ¬ x.k = 1 ∧ ¬ x.k = 2 ∧ ¬ x.k = 3 ∧ ¬ x.k = 4 ∧ ¬ x.k = 5 ∧ ¬ x.k = 6 ∧ ¬ x.k = 7 ∧ ¬ x.k = 8 ∧ ¬ x.k = 9) := by omega
  clear ht hx
  rcases hcs with hk | hk | hk | hk | hk | hk | hk | hk | hk | hk | ⟨k0, k1, k2, k3, k4, k5, k6, k7, k8, k9⟩
  · obtain ⟨xk, xi, xc, xn, xv⟩ := x
    simp only at hk hv
    subst hk
    have S0 := hid (s.box (objO ⟨0, xi, xc, xn, xv⟩)).swap
    have hv := hid hv
    clear s
    unfold encO
    go_enter Tryd.func15, Tryd.ntmps15
    go_wp2_with fail
    refine Calls.mono (make_sep S0.out xn xc) ?_
    rintro e w1 ⟨rfl, F1, s1⟩
    generalize w.heap.size = q at *
    have S1 := hid s1.third.swap
    obtain ⟨o0, o1, o2, o3, o4⟩ := S1.out.opAt (q := q) (x := ⟨0, xi, xc, xn, xv⟩) (by simp)
    clear s1 S0
    go_wp2_with fail
    refine Calls.mono (rmake_sep S1.out xn xc) ?_
    rintro e w2 ⟨rfl, G2, s2⟩
    have S2 := hid s2.drop2.swap
    clear s2 S1 o0 o1 o2 o3 o4
    generalize makeN h xn xc = e0 at *
    generalize makeE h xn xc = e1 at *
    go_wp2
    go_ret
    exact ⟨rfl, _, _, _, S2.out⟩
  · obtain ⟨xk, xi, xc, xn, xv⟩ := x
    simp only at hk hv
    subst hk
    have S0 := hid (s.box (objO ⟨1, xi, xc, xn, xv⟩)).swap
    have hv := hid hv
    clear s
    unfold encO
    go_enter Tryd.func15, Tryd.ntmps15
    go_wp2_with fail
    refine Calls.mono (reg_sep S0.out xi xn xv hv.out) ?_
    rintro e w1 ⟨rfl, F1, s1⟩
    generalize w.heap.size = q at *
    have S1 := hid s1.third.swap
    obtain ⟨o0, o1, o2, o3, o4⟩ := S1.out.opAt (q := q) (x := ⟨1, xi, xc, xn, xv⟩) (by simp)
    clear s1 S0
    go_wp2_with fail
    refine Calls.mono (rreg_sep S1.out xi xn xv hv.out) ?_
    rintro e w2 ⟨rfl, G2, s2⟩
    have S2 := hid s2.drop2.swap
    clear s2 S1 o0 o1 o2 o3 o4
    generalize regE h xi xn = e0 at *
    go_wp2
    go_ret
    exact ⟨rfl, _, _, _, S2.out⟩
  · obtain ⟨xk, xi, xc, xn, xv⟩ := x
    simp only at hk hv
    subst hk
    have S0 := hid (s.box (objO ⟨2, xi, xc, xn, xv⟩)).swap
    have hv := hid hv
    clear s
    unfold encO
    go_enter Tryd.func15, Tryd.ntmps15
    go_wp2_with fail
    refine Calls.mono (resume_sep S0.out xi) ?_
    rintro e w1 ⟨rfl, F1, s1⟩
    generalize w.heap.size = q at *
    have S1 := hid s1.third.swap
    obtain ⟨o0, o1, o2, o3, o4⟩ := S1.out.opAt (q := q) (x := ⟨2, xi, xc, xn, xv⟩) (by simp)
    clear s1 S0
    go_wp2_with fail
    refine Calls.mono (rresume_sep S1.out xi) ?_
    rintro e w2 ⟨rfl, G2, s2⟩
    have S2 := hid s2.drop2.swap
    clear s2 S1 o0 o1 o2 o3 o4
    generalize resumeE h xi = e0 at *
    go_wp2
    go_ret
    exact ⟨rfl, _, _, _, S2.out⟩
  · obtain ⟨xk, xi, xc, xn, xv⟩ := x
    simp only at hk hv
    subst hk
    have S0 := hid (s.box (objO ⟨3, xi, xc, xn, xv⟩)).swap
    have hv := hid hv
    clear s
    unfold encO
    go_enter Tryd.func15, Tryd.ntmps15
    go_wp2_with fail
    refine Calls.mono (suspend_sep S0.out xi) ?_
    rintro e w1 ⟨rfl, F1, s1⟩
    generalize w.heap.size = q at *
    have S1 := hid s1.third.swap
    obtain ⟨o0, o1, o2, o3, o4⟩ := S1.out.opAt (q := q) (x := ⟨3, xi, xc, xn, xv⟩) (by simp)
    clear s1 S0
    go_wp2_with fail
    refine Calls.mono (rsuspend_sep S1.out xi) ?_
    rintro e w2 ⟨rfl, G2, s2⟩
    have S2 := hid s2.drop2.swap
    clear s2 S1 o0 o1 o2 o3 o4
    generalize suspendE h xi = e0 at *
    go_wp2
    go_ret
    exact ⟨rfl, _, _, _, S2.out⟩
  · obtain ⟨xk, xi, xc, xn, xv⟩ := x
    simp only at hk hv
    subst hk
    have S0 := hid (s.box (objO ⟨4, xi, xc, xn, xv⟩)).swap
    have hv := hid hv
    clear s
    unfold encO
    go_enter Tryd.func15, Tryd.ntmps15
    go_wp2_with fail
    refine Calls.mono (block_sep S0.out xi) ?_
    rintro e w1 ⟨rfl, F1, s1⟩
    generalize w.heap.size = q at *
    have S1 := hid s1.third.swap
    obtain ⟨o0, o1, o2, o3, o4⟩ := S1.out.opAt (q := q) (x := ⟨4, xi, xc, xn, xv⟩) (by simp)
    clear s1 S0
    go_wp2_with fail
    refine Calls.mono (rblock_sep S1.out xi) ?_
    rintro e w2 ⟨rfl, G2, s2⟩
    have S2 := hid s2.drop2.swap
    clear s2 S1 o0 o1 o2 o3 o4
    generalize blockE h xi = e0 at *
    go_wp2
    go_ret
    exact ⟨rfl, _, _, _, S2.out⟩
  · obtain ⟨xk, xi, xc, xn, xv⟩ := x
    simp only at hk hv
    subst hk
    have S0 := hid (s.box (objO ⟨5, xi, xc, xn, xv⟩)).swap
    have hv := hid hv
    clear s
    unfold encO
    go_enter Tryd.func15, Tryd.ntmps15
    go_wp2_with fail
    refine Calls.mono (prio_sep S0.out xi xn) ?_
    rintro e w1 ⟨rfl, F1, s1⟩
    generalize w.heap.size = q at *
    have S1 := hid s1.third.swap
    obtain ⟨o0, o1, o2, o3, o4⟩ := S1.out.opAt (q := q) (x := ⟨5, xi, xc, xn, xv⟩) (by simp)
    clear s1 S0
    go_wp2_with fail
    refine Calls.mono (rprio_sep S1.out xi xn) ?_
    rintro e w2 ⟨rfl, G2, s2⟩
    have S2 := hid s2.drop2.swap
    clear s2 S1 o0 o1 o2 o3 o4
    generalize prioE h xi xn = e0 at *
    go_wp2
    go_ret
    exact ⟨rfl, _, _, _, S2.out⟩
  · obtain ⟨xk, xi, xc, xn, xv⟩ := x
    simp only at hk hv
    subst hk
    have S0 := hid (s.box (objO ⟨6, xi, xc, xn, xv⟩)).swap
    have hv := hid hv
    clear s
    unfold encO
    go_enter Tryd.func15, Tryd.ntmps15
    go_wp2_with fail
    refine Calls.mono (core_sep S0.out xi xc) ?_
    rintro e w1 ⟨rfl, F1, s1⟩
    generalize w.heap.size = q at *
    have S1 := hid s1.third.swap
    obtain ⟨o0, o1, o2, o3, o4⟩ := S1.out.opAt (q := q) (x := ⟨6, xi, xc, xn, xv⟩) (by simp)
    clear s1 S0
    go_wp2_with fail
    refine Calls.mono (rcore_sep S1.out xi xc) ?_
    rintro e w2 ⟨rfl, G2, s2⟩
    have S2 := hid s2.drop2.swap
    clear s2 S1 o0 o1 o2 o3 o4
    generalize coreE h xi xc = e0 at *
    go_wp2
    go_ret
    exact ⟨rfl, _, _, _, S2.out⟩
  · obtain ⟨xk, xi, xc, xn, xv⟩ := x
    simp only at hk hv
    subst hk
    have S0 := hid (s.box (objO ⟨7, xi, xc, xn, xv⟩)).swap
    have hv := hid hv
    clear s
    unfold encO
    go_enter Tryd.func15, Tryd.ntmps15
    go_wp2_with fail
    refine Calls.mono (pick_sep S0.out HT.out xc) ?_
    rintro e w1 ⟨rfl, F1, s1⟩
    generalize w.heap.size = q at *
    have S1 := hid s1.third.swap
    obtain ⟨o0, o1, o2, o3, o4⟩ := S1.out.opAt (q := q) (x := ⟨7, xi, xc, xn, xv⟩) (by simp)
    clear s1 S0
    go_wp2_with fail
    refine Calls.mono (rpick_sep S1.out xc) ?_
    rintro e w2 ⟨rfl, G2, s2⟩
    have S2 := hid s2.drop2.swap
    clear s2 S1 o0 o1 o2 o3 o4
    generalize runsN (pickH h xc) xc = e0 at *
    generalize runsB (pickH h xc) xc = e1 at *
    go_wp2
    go_ret
    exact ⟨rfl, _, _, _, S2.out⟩
  · obtain ⟨xk, xi, xc, xn, xv⟩ := x
    simp only at hk hv
    subst hk
    have S0 := hid (s.box (objO ⟨8, xi, xc, xn, xv⟩)).swap
    have hv := hid hv
    clear s
    unfold encO
    go_enter Tryd.func15, Tryd.ntmps15
    go_wp2_with fail
    refine Calls.mono (yield_sep S0.out HT.out xc) ?_
    rintro e w1 ⟨rfl, F1, s1⟩
    generalize w.heap.size = q at *
    have S1 := hid s1.third.swap
    obtain ⟨o0, o1, o2, o3, o4⟩ := S1.out.opAt (q := q) (x := ⟨8, xi, xc, xn, xv⟩) (by simp)
    clear s1 S0
    go_wp2_with fail
    refine Calls.mono (ryield_sep S1.out xc) ?_
    rintro e w2 ⟨rfl, G2, s2⟩
    have S2 := hid s2.drop2.swap
    clear s2 S1 o0 o1 o2 o3 o4
    generalize runsB h xc = e0 at *
    go_wp2
    go_ret
    exact ⟨rfl, _, _, _, S2.out⟩
  · obtain ⟨xk, xi, xc, xn, xv⟩ := x
    simp only at hk hv
    subst hk
    have S0 := hid (s.box (objO ⟨9, xi, xc, xn, xv⟩)).swap
    have hv := hid hv
    clear s
    unfold encO
    go_enter Tryd.func15, Tryd.ntmps15
    go_wp2_with fail
    refine Calls.mono (tick_sep S0.out HT.out xc) ?_
    rintro e w1 ⟨rfl, F1, s1⟩
    generalize w.heap.size = q at *
    have S1 := hid s1.third.swap
    obtain ⟨o0, o1, o2, o3, o4⟩ := S1.out.opAt (q := q) (x := ⟨9, xi, xc, xn, xv⟩) (by simp)
    clear s1 S0
    go_wp2_with fail
    refine Calls.mono (rtick_sep S1.out xc) ?_
    rintro e w2 ⟨rfl, G2, s2⟩
    have S2 := hid s2.drop2.swap
    clear s2 S1 o0 o1 o2 o3 o4
    generalize runsB h xc = e0 at *
    go_wp2
    go_ret
    exact ⟨rfl, _, _, _, S2.out⟩
  · have e0 : (x.k == 0) = false := by simpa using k0
    have e1 : (x.k == 1) = false := by simpa using k1
    have e2 : (x.k == 2) = false := by simpa using k2
    have e3 : (x.k == 3) = false := by simpa using k3
    have e4 : (x.k == 4) = false := by simpa using k4
    have e5 : (x.k == 5) = false := by simpa using k5
    have e6 : (x.k == 6) = false := by simpa using k6
    have e7 : (x.k == 7) = false := by simpa using k7
    have e8 : (x.k == 8) = false := by simpa using k8
    have e9 : (x.k == 9) = false := by simpa using k9
    clear k0 k1 k2 k3 k4 k5 k6 k7 k8 k9
    have S2 := hid (s.box (objO x)).drop
    clear s
    simp only [encO, objO] at *
    go_enter Tryd.func15, Tryd.ntmps15
    go_wp2
    go_ret
    exact ⟨rfl, _, _, _, S2.out⟩
end
end Go.Proofs.YtchamgecalfmpaaDoor

namespace Go.Proofs.YtchamgecalfmpaaDoor
open Go.RowKit
theorem part8 (w : World) (a0 a1 a2 a3 a4 a5 a6 a7 : Int) : (part 30 #[.int .u64 a0, .int .u64 a1, .int .u64 a2, .int .u64 a3, .int .u64 a4, .int .u64 a5, .int .u64 a6, .int .u64 a7] 0).run Tryd.prog w = .ok (.int .u64 a0) w ∧
    (part 30 #[.int .u64 a0, .int .u64 a1, .int .u64 a2, .int .u64 a3, .int .u64 a4, .int .u64 a5, .int .u64 a6, .int .u64 a7] 1).run Tryd.prog w = .ok (.int .u64 a1) w ∧
    (part 30 #[.int .u64 a0, .int .u64 a1, .int .u64 a2, .int .u64 a3, .int .u64 a4, .int .u64 a5, .int .u64 a6, .int .u64 a7] 2).run Tryd.prog w = .ok (.int .u64 a2) w ∧
    (part 30 #[.int .u64 a0, .int .u64 a1, .int .u64 a2, .int .u64 a3, .int .u64 a4, .int .u64 a5, .int .u64 a6, .int .u64 a7] 3).run Tryd.prog w = .ok (.int .u64 a3) w ∧
    (part 30 #[.int .u64 a0, .int .u64 a1, .int .u64 a2, .int .u64 a3, .int .u64 a4, .int .u64 a5, .int .u64 a6, .int .u64 a7] 4).run Tryd.prog w = .ok (.int .u64 a4) w ∧
    (part 30 #[.int .u64 a0, .int .u64 a1, .int .u64 a2, .int .u64 a3, .int .u64 a4, .int .u64 a5, .int .u64 a6, .int .u64 a7] 5).run Tryd.prog w = .ok (.int .u64 a5) w ∧
    (part 30 #[.int .u64 a0, .int .u64 a1, .int .u64 a2, .int .u64 a3, .int .u64 a4, .int .u64 a5, .int .u64 a6, .int .u64 a7] 6).run Tryd.prog w = .ok (.int .u64 a6) w ∧
    (part 30 #[.int .u64 a0, .int .u64 a1, .int .u64 a2, .int .u64 a3, .int .u64 a4, .int .u64 a5, .int .u64 a6, .int .u64 a7] 7).run Tryd.prog w = .ok (.int .u64 a7) w :=
  ⟨by kernel_rfl, by kernel_rfl, by kernel_rfl, by kernel_rfl, by kernel_rfl, by kernel_rfl, by kernel_rfl, by kernel_rfl⟩
theorem size_u64 (w : World) : (sizeOf 30).run Tryd.prog w = .ok 1 w := by kernel_rfl
theorem eq_arr8 (d : Nat) (w : World) (a0 a1 a2 a3 a4 a5 a6 a7 : Int) : (Op.equalIn (d + 2) 44 (.agg #[.int .u64 a0, .int .u64 a1, .int .u64 a2, .int .u64 a3, .int .u64 a4, .int .u64 a5, .int .u64 a6, .int .u64 a7]) (.agg #[.int .u64 a0, .int .u64 a1, .int .u64 a2, .int .u64 a3, .int .u64 a4, .int .u64 a5, .int .u64 a6, .int .u64 a7])).run Tryd.prog w = .ok true w := by
  obtain ⟨p0, p1, p2, p3, p4, p5, p6, p7⟩ := part8 w a0 a1 a2 a3 a4 a5 a6 a7
  have hu : Tryd.prog.underlying 44 = some (.array 8 30) := Tryd.underlying44
  have hi : ∀ a : Int, (Op.equalIn (d + 1) 30 (.int .u64 a) (.int .u64 a)).run Tryd.prog w = .ok true w := fun a => by
    have := run_equalIn_int (P := Tryd.prog) w d 30 .u64 .u64 a a Tryd.underlying30
    simpa using this
  unfold Op.equalIn
  simp only [Sem.run_bind, run_underlying hu, Result.andThen_ok, size_u64]
  rw [Std.Legacy.Range.forIn_eq_forIn_range']
  have hr : List.range' 0 8 1 = [0, 1, 2, 3, 4, 5, 6, 7] := rfl
  simp only [Std.Legacy.Range.size, Nat.sub_zero, Nat.add_sub_cancel, Nat.div_one, hr, List.forIn_cons, List.forIn_nil, Sem.run_bind, Nat.mul_one, p0, p1, p2, p3, p4, p5, p6, p7, hi, Result.andThen_ok, Bool.not_true, Bool.false_eq_true, if_false, Sem.run_pure]
theorem eq_thread (x : Td) (w : World) : (Op.equalIn 10000 46 (.agg #[.int .i64 x.st, .int .i64 x.p, .int .i64 x.c, .int .i64 x.l, .int .u64 (rg x 0), .int .u64 (rg x 1), .int .u64 (rg x 2), .int .u64 (rg x 3), .int .u64 (rg x 4), .int .u64 (rg x 5), .int .u64 (rg x 6), .int .u64 (rg x 7)]) (.agg #[.int .i64 x.st, .int .i64 x.p, .int .i64 x.c, .int .i64 x.l, .int .u64 (rg x 0), .int .u64 (rg x 1), .int .u64 (rg x 2), .int .u64 (rg x 3), .int .u64 (rg x 4), .int .u64 (rg x 5), .int .u64 (rg x 6), .int .u64 (rg x 7)])).run Tryd.prog w = .ok true w := by
  have u3 := Tryd.underlying3
  have a3 := Tryd.isAgg3
  have z3 := Tryd.sizeOf3
  have a8 := Tryd.isAgg44
  have z8 := Tryd.sizeOf44
  have ha := fun W => eq_arr8 9997 W (rg x 0) (rg x 1) (rg x 2) (rg x 3) (rg x 4) (rg x 5) (rg x 6) (rg x 7)
  have hS : Tryd.prog.underlying 46 = some (.struct (Tryd.prog.fieldsOf 46)) := by kernel_rfl
  have hp : Tryd.prog.stoodInHeld 46 = false := by kernel_rfl
  rw [show (10000 : Nat) = 9999 + 1 from rfl, run_equalIn_agg w 9999 46 _ _ hS hp]
  simp only [Program.fieldsOf, Tryd.underlying46]
  go_simp
end Go.Proofs.YtchamgecalfmpaaDoor

namespace Go.Proofs.YtchamgecalfmpaaDoor
open Go.RowKit Go.Deep Go.Shelf

section
variable {w0 w : World} {r : Nat} {R : List Th} {p k : Nat} {F G : Nat → Prop} {h : Hs}
theorem copyT_sep (s : Sep w0 r w (tT p F h :: R)) : Calls Tryd.prog 11 #[ptr p] w fun e w' => ∃ p2 F2, e = .returned (ptr p2) ∧ Sep w0 r w' (tT p2 F2 h :: tT p F h :: R) := by
  obtain ⟨v, u, qs, t⟩ := s.head.1.at
  refine Calls.mono (copyT_any t s.inv) ?_
  rintro e w' ⟨p2, F2, rfl, h1, b, n⟩
  exact ⟨p2, F2, rfl, s.new (t := tT p2 F2 h) ⟨h1, s.inv⟩ b n⟩
theorem rget_agg (s : Sep w0 r w (tR k G h :: R)) (i : Int) {x : Td} {e0 : Int} (hx : getT h i = x) (he : getE h i = e0) : Calls Tryd.prog 17 #[ptr k, .int .i64 i] w fun e w' => e = .returned (.tuple #[.agg #[.int .i64 x.st, .int .i64 x.p, .int .i64 x.c, .int .i64 x.l, .int .u64 (rg x 0), .int .u64 (rg x 1), .int .u64 (rg x 2), .int .u64 (rg x 3), .int .u64 (rg x 4), .int .u64 (rg x 5), .int .u64 (rg x 6), .int .u64 (rg x 7)], .int .i64 e0]) ∧ Sep w0 r w' (tR k G h :: R) := by
  subst hx
  subst he
  exact rget_sep s i
theorem rlines_is (s : Sep w0 r w (tR k G h :: R)) (c pr : Int) {L : List Int} (hh : lineH h c pr = L) : Calls Tryd.prog 22 #[ptr k, .int .i64 c, .int .i64 pr] w fun e w' => ∃ ao cap, e = .returned (.slice ao L.length cap) ∧ Sep w0 r w' (tR k G h :: lstI (.slice ao L.length cap) L :: R) := by
  subst hh
  refine (rlines_sep s c pr).mono ?_
  rintro e w' ⟨x, rfl, s'⟩
  obtain ⟨ao, cap, ev⟩ := s'.listIs (v := x) (A := lineH h c pr) (by simp)
  subst ev
  exact ⟨ao, cap, rfl, s'⟩
theorem lineH_len (iv : Inv h) (c pr : Int) : (lineH h c pr).length ≤ 1000 := by
  unfold lineH
  split
  · rename_i hC
    have h1 := iv.small (isC_nat hC).1
    unfold lineI
    split
    · exact Nat.le_trans (line_len _ _) (by omega)
    · simp
  · simp
/-- How many threads the document's struct tells. -/
theorem Sep.lenR (s : Sep w0 r w (tR k G h :: R)) : ∃ ao cap, w.cell? ⟨k, 0, none⟩ = some (.slice ao h.L.length cap) := by
  obtain ⟨v, u, qs, t⟩ := s.head.1.at
  obtain ⟨ao, cap, rfl, _⟩ := t.slice
  exact ⟨ao, cap, t.cell0⟩
end
end Go.Proofs.YtchamgecalfmpaaDoor
