/-
  What the document's Pick answers and leaves: the same as the program's; no condition but that all is right ahead.
-/
import Derived.Test.YtchamgecalfmpaaDoorHRGet
namespace Go.Proofs.YtchamgecalfmpaaDoor
open Go.RowKit Go.Deep Go.Shelf

theorem run_len (h : Hs) (i : Nat) : (runH h i).L.length = h.L.length := List.length_set
theorem up_len (h : Hs) (i : Nat) : (upH h i).L.length = h.L.length := List.length_set
section
variable {w0 w : World} {F : Nat → Prop} {p : Nat} {v u : Value} {qs : List Nat} {h : Hs}
set_option maxHeartbeats 4000000 in
theorem rpick_at (t : At qkR w0 F p v u qs h w) (iv : Inv h) (c : Int) :
    Calls Tryd.prog 50 #[ptr p, .int .i64 c] w fun e w' => e = .returned (.tuple #[.int .i64 (runsN (pickH h c) c), .bool (runsB (pickH h c) c)]) ∧ At qkR w0 F p v u qs (pickH h c) w' := by
  have IV := hid iv
  have T0 := hid t
  have c1 := t.cell1
  obtain ⟨gq, capq, rfl⟩ := t.pslice iv.lo
  have HS : Hid (h.L.length ≤ 64) := iv.few
  rcases isC_cases h c with ⟨j, rfl, hj, hC, hjn⟩ | hC
  · have HJ := hid hj
    have hin : inB (j : Int) (h.Q.length : Int) = true := by simp only [inB, decide_eq_true_eq]; omega
    have hjz : (j : Int) < (h.Q.length : Int) := by omega
    have HP := hid (pick_cases iv hj)
    clear t iv hj hC hjn
    go_enter Tryd.func50, Tryd.ntmps50
    go_wp2_with (go_at_call 58; refine Calls.mono (coreR_any T0.out IV.out.lo _) ?_; rintro e w' ⟨rfl, rfl⟩)
    refine Calls.mono (rruns_any T0.out (by have := HS.out; omega) j) ?_
    rintro e w1 ⟨rfl, rfl⟩
    have T1 := hid T0.out
    have c1' := T1.out.cell1
    have cq := T1.out.cellP HJ.out
    obtain ⟨a, hq, hqu⟩ := T1.out.qu HJ.out
    have HN := hid (rnext_any _ a _ _ hq (Nat.le_trans (IV.out.small HJ.out) (by omega)))
    clear c1 hq hqu
    generalize hqq : qs.getD j 0 = q at *
    go_wp2_with fail
    refine Calls.mono HN.out ?_
    rintro e w2 ⟨rfl, b2⟩
    have T2 := hid (T1.out.below b2)
    clear b2 HN cq c1' T0 T1 hqq hin
    generalize hPH : pickH h j = h' at *
    have HPH := hid hPH
    clear hPH
    rcases HP.out with ⟨e1, rfl⟩ | ⟨i, k, hi, hk, e1, e2, e3, e4, rfl⟩ | ⟨i, hi, e1, e2, e3, ec, er, rfl⟩ | ⟨i, k, hi, hk, e1, e2, e3, e4, es, ec, ei, ec2, iv2, er, rfl⟩
    · skip
      rw [e1]
      clear HP e1
      generalize nextN (que h j) = nn at *
      generalize hrn : runsN h j = rn at *
      generalize hrb : runsB h j = rb at *
      have HR0 := hid (And.intro hrn hrb)
      clear hrn hrb
      go_wp2_with fail
      go_quiet (fail)
      have T3 := hid (T2.out.drewN nq)
      generalize w2.drewN nq = w3 at *
      go_wp2_with fail
      refine Calls.mono (rruns_any T3.out (by have := HS.out; omega) j) ?_
      rintro e w9 ⟨rfl, rfl⟩
      rw [HR0.out.1, HR0.out.2]
      go_wp2
      go_ret2
      rw [HPH.out, HR0.out.1, HR0.out.2]
      exact ⟨rfl, T3.out⟩
    · skip
      obtain ⟨r1, r2⟩ := runsN_some e3
      have HR0 := hid (And.intro r1 r2)
      rw [e1, e2, r1, r2]
      obtain ⟨ao, cap, rfl, hg⟩ := T2.out.slice
      obtain ⟨g, rfl⟩ := hg i hi
      have c0 := T2.out.cell0
      obtain ⟨_, d1, _, _⟩ := T2.out.four hi
      obtain ⟨_, d2, _, _⟩ := T2.out.four hk
      have hiz : (i : Int) < (h.L.length : Int) := by omega
      have hkz : (k : Int) < (h.L.length : Int) := by omega
      have hcmp : decide (((thr h k).p : Int) < ((thr h i).p : Int)) = false := by
        rw [decide_eq_false_iff_not]
        omega
      have hcmp2 : decide ((thr h k).p < (thr h i).p) = false := by
        rw [decide_eq_false_iff_not]
        omega
      clear HP e1 e2 e3 e4 r1 r2 hg
      generalize (thr h i).p = pi at *
      generalize (thr h k).p = pk at *
      generalize hnL : h.L.length = nL at *
      go_wp2_with fail
      go_quiet (fail)
      have T3 := hid (T2.out.drewN nq)
      generalize w2.drewN nq = w3 at *
      clear c0 d1 d2
      go_wp2_with fail
      refine Calls.mono (rruns_any T3.out (by have := HS.out; omega) j) ?_
      rintro e w9 ⟨rfl, rfl⟩
      rw [HR0.out.1, HR0.out.2]
      go_wp2
      go_ret2
      rw [HPH.out, HR0.out.1, HR0.out.2, hnL]
      exact ⟨rfl, T3.out⟩
    · skip
      obtain ⟨r1, r2⟩ := runsN_none e3
      have HR := hid (runsN_some er)
      rw [e1, e2, r1, r2]
      have HI := hid hi
      have HC := hid ec
      clear HP e1 e2 e3 r1 r2 er hi ec
      go_wp2_with fail
      go_quiet (fail)
      have T3 := hid (T2.out.drewN nq)
      generalize w2.drewN nq = w3 at *
      go_wp2_with fail
      have oki := okay_at IV.out HI.out
      refine Calls.mono (out_at T3.out HI.out oki.c (Nat.le_trans (IV.out.small oki.c) (by omega)) (by have := HI.out; have := HS.out; omega)) ?_
      rintro e w4 ⟨rfl, t4⟩
      obtain ⟨ao, cap, rfl, hg⟩ := t4.slice
      obtain ⟨g, rfl⟩ := hg i HI.out
      have c0 := t4.cell0
      have hl4 : i < (leaveH h i).L.length := HI.out
      obtain ⟨d0, _, _, _⟩ := t4.four hl4
      have f0 := t4.frozenT (i * 12)
      have T6 := hid (t4.set hl4 (j := 0) (c := .int .i64 2) (y := { thr h i with st := 2 }) (by omega) rfl)
      rw [out_gen (h := h) (i := i) { thr h i with st := 2 } (by simp)] at T6
      have hiz : (i : Int) < ((leaveH h i).L.length : Int) := by omega
      simp only [Nat.add_zero] at T6
      clear t4 oki hg hl4
      generalize (thr (leaveH h i) i).st = st0 at *
      generalize hnL : (leaveH h i).L.length = nL at *
      go_wp2_with fail
      refine Calls.mono (rruns_any T6.out (by show (runH h i).L.length ≤ 1000; rw [run_len]; have := HS.out; omega) j) ?_
      rintro e w9 ⟨rfl, rfl⟩
      have HRR := hid HR.out
      unfold runH at HRR
      rw [HRR.out.1, HRR.out.2]
      go_wp2
      go_ret2
      rw [HPH.out, HR.out.1, HR.out.2, hnL]
      exact ⟨rfl, T6.out⟩
    · skip
      obtain ⟨r1, r2⟩ := runsN_some e3
      have HR := hid (runsN_some er)
      rw [e1, e2, r1, r2]
      obtain ⟨ao, cap, rfl, hg⟩ := T2.out.slice
      obtain ⟨g, rfl⟩ := hg i hi
      have c0 := T2.out.cell0
      obtain ⟨_, d1, _, _⟩ := T2.out.four hi
      obtain ⟨_, d2, _, _⟩ := T2.out.four hk
      have hiz : (i : Int) < (h.L.length : Int) := by omega
      have hkz : (k : Int) < (h.L.length : Int) := by omega
      have hcmp : decide (((thr h k).p : Int) < ((thr h i).p : Int)) = true := by
        rw [decide_eq_true_eq]
        omega
      have hcmp2 : decide ((thr h k).p < (thr h i).p) = true := by
        rw [decide_eq_true_eq]
        omega
      have HI := hid hi
      have HK := hid hk
      have HX := hid (And.intro es (And.intro ec (And.intro ei (And.intro ec2 iv2))))
      clear HP e1 e2 e3 e4 r1 r2 hg er es ec ei ec2 iv2 hi hk
      generalize (thr h i).p = pi at *
      generalize (thr h k).p = pk at *
      generalize hnL : h.L.length = nL at *
      go_wp2_with fail
      go_quiet (fail)
      have T3 := hid (T2.out.drewN nq)
      generalize w2.drewN nq = w3 at *
      clear c0 d1 d2 T2
      go_wp2_with fail
      obtain ⟨es, ec, ei, ec2, iv2⟩ := HX.out
      have okk := okay_at IV.out (i := k) (by have := HK.out; omega)
      refine Calls.mono (up_at T3.out (by have := HK.out; omega) okk.c (Nat.le_trans (IV.out.small okk.c) (by omega)) (by have := HK.out; have := HS.out; omega)) ?_
      rintro e w4 ⟨rfl, t4⟩
      rw [line_gen IV.out (by have := HK.out; omega) (by omega)] at t4
      have T4 : Hid (At qkR w0 F p _ _ qs (upH h k) w4) := t4
      clear t4 okk es ec ei ec2 iv2
      go_wp2_with fail
      obtain ⟨es, ec, ei, ec2, iv2⟩ := HX.out
      have hlu : (upH h k).L.length = h.L.length := List.length_set
      have hli : i < (upH h k).L.length := by have := HI.out; omega
      have oki := okay_at iv2 hli
      refine Calls.mono (out_at T4.out hli oki.c (Nat.le_trans (iv2.small oki.c) (by omega)) (by have := HI.out; have := HS.out; omega)) ?_
      rintro e w5 ⟨rfl, t5⟩
      have c0 := t5.cell0
      have hl4 : i < (leaveH (upH h k) i).L.length := hli
      obtain ⟨d0, _, _, _⟩ := t5.four hl4
      have f0 := t5.frozenT (i * 12)
      have T6 := hid (t5.set hl4 (j := 0) (c := .int .i64 2) (y := { thr (upH h k) i with st := 2 }) (by omega) rfl)
      rw [out_gen (h := upH h k) (i := i) { thr (upH h k) i with st := 2 } (by simp)] at T6
      simp only [Nat.add_zero] at T6
      clear t5 oki hl4 es ec ei ec2 iv2 hlu hli
      generalize (thr (leaveH (upH h k) i) i).st = st0 at *
      go_wp2_with fail
      refine Calls.mono (rruns_any T6.out (by show (runH (upH h k) i).L.length ≤ 1000; rw [run_len, up_len]; have := HS.out; omega) j) ?_
      rintro e w9 ⟨rfl, rfl⟩
      have HRR := hid HR.out
      unfold runH at HRR
      rw [HRR.out.1, HRR.out.2]
      go_wp2
      go_ret2
      rw [HPH.out, HR.out.1, HR.out.2, hnL]
      exact ⟨rfl, T6.out⟩
  · have hin : inB c (h.Q.length : Int) = false := by
      simp only [inB, decide_eq_false_iff_not]
      exact hC
    have hp : pickH h c = h := by unfold pickH; rw [if_neg hC]
    have HR := hid (runsN_none (runs_off iv hC))
    rw [hp]
    clear t hC hp iv
    generalize hnQ : h.Q.length = nQ at *
    go_enter Tryd.func50, Tryd.ntmps50
    go_wp2_with (go_at_call 58; refine Calls.mono (coreR_any T0.out IV.out.lo _) ?_; rintro e w' ⟨rfl, rfl⟩)
    go_ret2
    exact ⟨by rw [HR.out.1, HR.out.2]; rfl, T0.out⟩
end
end Go.Proofs.YtchamgecalfmpaaDoor
