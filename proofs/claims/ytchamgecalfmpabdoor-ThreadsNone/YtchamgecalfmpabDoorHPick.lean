/-
  What Pick, Yield and Tick of package threads answer and leave; no condition but that all is right ahead, and that the table of widths lies as the program laid it.
-/
import Derived.Test.YtchamgecalfmpabDoorHRuns
namespace Go.Proofs.YtchamgecalfmpabDoor
open Go.RowKit Go.Deep Go.Shelf

section
variable {h : Hs}
theorem runs_off (v : Inv h) {c : Int} (hc : ¬ isC h c) : runsO h c = none := by
  cases e : runsO h c with
  | none => rfl
  | some i =>
    obtain ⟨x, h1, h2, h3, h4, h5⟩ := runs_some e
    have := (v.okay h1).c
    exact absurd ⟨by omega, by omega⟩ hc
theorem runsN_some {c : Int} {i : Nat} (e : runsO h c = some i) : runsN h c = (i : Int) ∧ runsB h c = true := by
  unfold runsN runsB
  rw [e]
  exact ⟨rfl, rfl⟩
theorem runsN_none {c : Int} (e : runsO h c = none) : runsN h c = 0 ∧ runsB h c = false := by
  unfold runsN runsB
  rw [e]
  exact ⟨rfl, rfl⟩
theorem nextN_some {S : St} {y : In} (e : nextO S = some y) : nextN S = y.n ∧ nextB S = true := by
  unfold nextN nextB
  rw [e]
  exact ⟨rfl, rfl⟩
theorem nextN_none {S : St} (e : nextO S = none) : nextN S = 0 ∧ nextB S = false := by
  unfold nextN nextB
  rw [e]
  exact ⟨rfl, rfl⟩
/-- How Pick goes. -/
def Pk (h : Hs) (c : Nat) (T : Hs) : Prop :=
  (nextB (que h c) = false ∧ h = T) ∨
  (∃ i j : Nat, i < h.L.length ∧ j < h.L.length ∧ nextN (que h c) = i ∧ nextB (que h c) = true ∧ runsO h c = some j ∧ ¬ (thr h j).p < (thr h i).p ∧ h = T) ∨
  (∃ i : Nat, i < h.L.length ∧ nextN (que h c) = i ∧ nextB (que h c) = true ∧ runsO h c = none ∧ (thr h i).c = c ∧ runsO (runH h i) c = some i ∧ runH h i = T) ∨
  (∃ i j : Nat, i < h.L.length ∧ j < h.L.length ∧ nextN (que h c) = i ∧ nextB (que h c) = true ∧ runsO h c = some j ∧ (thr h j).p < (thr h i).p ∧ (thr h j).st = 2 ∧ (thr h j).c = c ∧ thr (upH h j) i = thr h i ∧ (thr h i).c = c ∧ Inv (upH h j) ∧ runsO (runH (upH h j) i) c = some i ∧ runH (upH h j) i = T)
theorem Pk.stay {h : Hs} {c : Nat} (e1 : nextB (que h c) = false) : Pk h c h := .inl ⟨e1, rfl⟩
theorem Pk.keep {h : Hs} {c : Nat} (i j : Nat) (hi : i < h.L.length) (hj : j < h.L.length) (e1 : nextN (que h c) = i) (e2 : nextB (que h c) = true) (e3 : runsO h c = some j) (e4 : ¬ (thr h j).p < (thr h i).p) : Pk h c h := .inr (.inl ⟨i, j, hi, hj, e1, e2, e3, e4, rfl⟩)
theorem Pk.fresh {h : Hs} {c : Nat} (i : Nat) (hi : i < h.L.length) (e1 : nextN (que h c) = i) (e2 : nextB (que h c) = true) (e3 : runsO h c = none) (ec : (thr h i).c = c) (er : runsO (runH h i) c = some i) : Pk h c (runH h i) := .inr (.inr (.inl ⟨i, hi, e1, e2, e3, ec, er, rfl⟩))
theorem Pk.swap {h : Hs} {c : Nat} (i j : Nat) (hi : i < h.L.length) (hj : j < h.L.length) (e1 : nextN (que h c) = i) (e2 : nextB (que h c) = true) (e3 : runsO h c = some j) (e4 : (thr h j).p < (thr h i).p) (es : (thr h j).st = 2) (ec : (thr h j).c = c) (ei : thr (upH h j) i = thr h i) (ec2 : (thr h i).c = c) (iv : Inv (upH h j)) (er : runsO (runH (upH h j) i) c = some i) : Pk h c (runH (upH h j) i) := .inr (.inr (.inr ⟨i, j, hi, hj, e1, e2, e3, e4, es, ec, ei, ec2, iv, er, rfl⟩))
theorem pick_cases (v : Inv h) {c : Nat} (hc : c < h.Q.length) : Pk h c (pickH h c) := by
  have hC : isC h (c : Int) := by unfold isC; omega
  have vp := inv_pick v (c : Int)
  have hp : pickH h (c : Int) = match nextO (que h c) with
      | none => h
      | some y => match runsO h (c : Int) with
        | none => runH h y.n.toNat
        | some j => if (thr h j).p < y.p then runH (upH h j) y.n.toNat else h := by
    unfold pickH
    rw [if_pos hC, Int.toNat_natCast]
    rfl
  cases hn : nextO (que h c) with
  | none =>
    rw [hn] at hp
    simp only at hp
    rw [hp]
    exact .stay (nextN_none hn).2
  | some y =>
    obtain ⟨i, x, e1, e2, hi, e3, e4, e5, e6, hmax⟩ := next_thread v hc hn
    obtain ⟨n1, n2⟩ := nextN_some hn
    have n1' : nextN (que h c) = (i : Int) := by rw [n1, e3]
    have hyp : y.p = (thr h i).p := by rw [e3, e2]
    rw [hn] at hp
    simp only at hp
    rw [e4] at hp
    cases hr : runsO h (c : Int) with
    | none =>
      rw [hr] at hp
      simp only at hp
      rw [hp] at vp ⊢
      have hat : (runH h i).L[i]? = some { thr h i with st := 2 } := by
        unfold runH
        rw [gen_at hi, if_pos rfl]
      rw [e2] at hat
      exact .fresh i hi n1' n2 hr (by rw [e2]; exact e6) (runs_is vp hat rfl (by simp only; omega))
    | some k =>
      obtain ⟨w, f1, f2, hk, f3, f4⟩ := runs_some hr
      rw [hr] at hp
      simp only at hp
      by_cases hlt : (thr h k).p < y.p
      · rw [if_pos hlt] at hp
        have hik : i ≠ k := fun e => by
          subst e
          rw [e1] at f1
          cases f1
          omega
        rw [hp] at vp ⊢
        have hi1 : i < (upH h k).L.length := by
          show i < (h.L.set k _).length
          rw [List.length_set]
          exact hi
        have ht : thr (upH h k) i = x := by
          unfold upH
          rw [thr_gen hk, if_neg hik]
          exact e2
        have hat : (runH (upH h k) i).L[i]? = some { x with st := 2 } := by
          unfold runH
          rw [gen_at hi1, if_pos rfl, ht]
        exact .swap i k hi hk n1' n2 hr (by rw [← hyp]; exact hlt) (by rw [f2]; exact f3) (by rw [f2]; omega) (by rw [ht, e2]) (by rw [e2]; exact e6) (inv_state v hk (by omega) (by omega) (by omega)) (runs_is vp hat rfl (by simp only; omega))
      · rw [if_neg hlt] at hp
        rw [hp]
        exact .keep i k hi hk n1' n2 hr (by rw [← hyp]; exact hlt)
end
section
variable {w0 w : World} {F : Nat → Prop} {p : Nat} {v u : Value} {qs : List Nat} {h : Hs}
set_option maxHeartbeats 4000000 in
theorem pick_at (t : At qkP w0 F p v u qs h w) (ht : ∀ u, Turn F w0 u → Tab u) (iv : Inv h) (c : Int) :
    Calls Tryd.prog 16 #[ptr p, .int .i64 c] w fun e w' => e = .returned (.tuple #[.int .i64 (runsN (pickH h c) c), .bool (runsB (pickH h c) c)]) ∧ At qkP w0 F p v u qs (pickH h c) w' := by
  have IV := hid iv
  have HT := hid ht
  have T0 := hid t
  have c1 := t.cell1
  obtain ⟨gq, capq, rfl⟩ := t.pslice iv.lo
  have HS : Hid (h.L.length ≤ 64) := iv.few
  rcases isC_cases h c with ⟨j, rfl, hj, hC, hjn⟩ | hC
  · have HJ := hid hj
    have hin : inB (j : Int) (h.Q.length : Int) = true := by simp only [inB, decide_eq_true_eq]; omega
    have hjz : (j : Int) < (h.Q.length : Int) := by omega
    have HP := hid (pick_cases iv hj)
    clear t ht iv hj hC hjn
    go_enter Tryd.func16, Tryd.ntmps16
    go_wp2_with (go_at_call 30; refine Calls.mono (within_any _ _ _) ?_; rintro e w' ⟨rfl, rfl⟩)
    refine Calls.mono (runs_any T0.out (by have := HS.out; omega) j) ?_
    rintro e w1 ⟨rfl, b1⟩
    have T1 := hid (T0.out.below b1)
    have c1' := T1.out.cell1
    have cq := T1.out.cellP HJ.out
    obtain ⟨a, hq, hqu⟩ := T1.out.qu HJ.out
    have HN := hid (next_any _ a _ w1 (HT.out _ T1.out.turn) hq)
    clear c1 hq b1 hqu
    generalize hqq : qs.getD j 0 = q at *
    go_wp2_with fail
    refine Calls.mono HN.out ?_
    rintro e w2 ⟨rfl, b2⟩
    have T2 := hid (T1.out.below b2)
    clear b2 HN cq c1' T0 T1 hqq hin
    generalize hPH : pickH h j = h' at *
    have HPH := hid hPH
    clear hPH
    rcases HP.out with ⟨e1, rfl⟩ | ⟨i, k, hi, hk, e1, e2, e3, e4, rfl⟩ | ⟨i, hi, e1, e2, e3, ec, er, rfl⟩ | ⟨i, k, hi, hk, e1, e2, e3, e4, es, ec, ei, ec2, iv2, er, rfl⟩
    · skip
      rw [e1]
      clear HP e1
      generalize nextN (que h j) = nn at *
      generalize hrn : runsN h j = rn at *
      generalize hrb : runsB h j = rb at *
      have HR0 := hid (And.intro hrn hrb)
      clear hrn hrb
      go_wp2_with fail
      go_quiet (fail)
      go_wp2
      go_ret2
      rw [HPH.out, HR0.out.1, HR0.out.2]
      exact ⟨rfl, T2.out.drewN _⟩
    · skip
      obtain ⟨r1, r2⟩ := runsN_some e3
      have HR0 := hid (And.intro r1 r2)
      rw [e1, e2, r1, r2]
      obtain ⟨ao, cap, rfl, hg⟩ := T2.out.slice
      obtain ⟨g, rfl⟩ := hg i hi
      have c0 := T2.out.cell0
      obtain ⟨_, d1, _, _⟩ := T2.out.four hi
      obtain ⟨_, d2, _, _⟩ := T2.out.four hk
      have hiz : (i : Int) < (h.L.length : Int) := by omega
      have hkz : (k : Int) < (h.L.length : Int) := by omega
      have hcmp : decide (((thr h i).p : Int) ≤ ((thr h k).p : Int)) = true := by
        rw [decide_eq_true_eq]
        omega
      have hcmp2 : decide ((thr h i).p ≤ (thr h k).p) = true := by
        rw [decide_eq_true_eq]
        omega
      clear HP e1 e2 e3 e4 r1 r2 hg
      generalize (thr h i).p = pi at *
      generalize (thr h k).p = pk at *
      generalize hnL : h.L.length = nL at *
      go_wp2_with fail
      go_quiet (fail)
      go_wp2
      go_ret2
      rw [HPH.out, HR0.out.1, HR0.out.2, hnL]
      exact ⟨rfl, T2.out.drewN _⟩
    · skip
      obtain ⟨r1, r2⟩ := runsN_none e3
      have HR := hid (runsN_some er)
      rw [e1, e2, r1, r2]
      have HI := hid hi
      have HC := hid ec
      clear HP e1 e2 e3 r1 r2 er hi ec
      go_wp2_with fail
      go_quiet (fail)
      have T3 := hid (T2.out.drewN nq)
      generalize w2.drewN nq = w3 at *
      go_wp2_with fail
      have oki := okay_at IV.out HI.out
      refine Calls.mono (leave_at T3.out HI.out oki.c (Nat.le_trans (IV.out.small oki.c) (by omega)) (by have := HI.out; have := HS.out; omega)) ?_
      rintro e w4 ⟨rfl, t4⟩
      obtain ⟨ao, cap, rfl, hg⟩ := t4.slice
      obtain ⟨g, rfl⟩ := hg i HI.out
      have c0 := t4.cell0
      have hl4 : i < (leaveH h i).L.length := HI.out
      obtain ⟨d0, _, _, _⟩ := t4.four hl4
      have f0 := t4.frozenT (i * 12)
      have T6 := hid (t4.set hl4 (j := 0) (c := .int .i64 2) (y := { thr h i with st := 2 }) (by omega) rfl)
      rw [out_gen (h := h) (i := i) { thr h i with st := 2 } (by simp)] at T6
      have hiz : (i : Int) < ((leaveH h i).L.length : Int) := by omega
      simp only [Nat.add_zero] at T6
      clear t4 oki hg hl4
      generalize (thr (leaveH h i) i).st = st0 at *
      generalize hnL : (leaveH h i).L.length = nL at *
      go_wp2
      go_ret2
      rw [HPH.out, HR.out.1, HR.out.2, hnL]
      exact ⟨rfl, T6.out⟩
    · skip
      obtain ⟨r1, r2⟩ := runsN_some e3
      have HR := hid (runsN_some er)
      rw [e1, e2, r1, r2]
      obtain ⟨ao, cap, rfl, hg⟩ := T2.out.slice
      obtain ⟨g, rfl⟩ := hg i hi
      have c0 := T2.out.cell0
      obtain ⟨_, d1, _, _⟩ := T2.out.four hi
      obtain ⟨_, d2, _, _⟩ := T2.out.four hk
      have hiz : (i : Int) < (h.L.length : Int) := by omega
      have hkz : (k : Int) < (h.L.length : Int) := by omega
      have hcmp : decide (((thr h i).p : Int) ≤ ((thr h k).p : Int)) = false := by
        rw [decide_eq_false_iff_not]
        omega
      have hcmp2 : decide ((thr h i).p ≤ (thr h k).p) = false := by
        rw [decide_eq_false_iff_not]
        omega
      have HI := hid hi
      have HK := hid hk
      have HX := hid (And.intro es (And.intro ec (And.intro ei (And.intro ec2 iv2))))
      clear HP e1 e2 e3 e4 r1 r2 hg er es ec ei ec2 iv2 hi hk
      generalize (thr h i).p = pi at *
      generalize (thr h k).p = pk at *
      generalize hnL : h.L.length = nL at *
      go_wp2_with fail
      go_quiet (fail)
      have T3 := hid (T2.out.drewN nq)
      generalize w2.drewN nq = w3 at *
      clear c0 d1 d2 T2
      go_wp2_with fail
      obtain ⟨es, ec, ei, ec2, iv2⟩ := HX.out
      have okk := okay_at IV.out (i := k) (by have := HK.out; omega)
      refine Calls.mono (lineUp_at T3.out (by have := HK.out; omega) okk.c (Nat.le_trans (IV.out.small okk.c) (by omega)) (by have := HK.out; have := HS.out; omega)) ?_
      rintro e w4 ⟨rfl, t4⟩
      rw [line_gen IV.out (by have := HK.out; omega) (by omega)] at t4
      have T4 : Hid (At qkP w0 F p _ _ qs (upH h k) w4) := t4
      clear t4 okk es ec ei ec2 iv2
      go_wp2_with fail
      obtain ⟨es, ec, ei, ec2, iv2⟩ := HX.out
      have hlu : (upH h k).L.length = h.L.length := List.length_set
      have hli : i < (upH h k).L.length := by have := HI.out; omega
      have oki := okay_at iv2 hli
      refine Calls.mono (leave_at T4.out hli oki.c (Nat.le_trans (iv2.small oki.c) (by omega)) (by have := HI.out; have := HS.out; omega)) ?_
      rintro e w5 ⟨rfl, t5⟩
      have c0 := t5.cell0
      have hl4 : i < (leaveH (upH h k) i).L.length := hli
      obtain ⟨d0, _, _, _⟩ := t5.four hl4
      have f0 := t5.frozenT (i * 12)
      have T6 := hid (t5.set hl4 (j := 0) (c := .int .i64 2) (y := { thr (upH h k) i with st := 2 }) (by omega) rfl)
      rw [out_gen (h := upH h k) (i := i) { thr (upH h k) i with st := 2 } (by simp)] at T6
      simp only [Nat.add_zero] at T6
      clear t5 oki hl4 es ec ei ec2 iv2 hlu hli
      generalize (thr (leaveH (upH h k) i) i).st = st0 at *
      go_wp2
      go_ret2
      rw [HPH.out, HR.out.1, HR.out.2, hnL]
      exact ⟨rfl, T6.out⟩
  · have hin : inB c (h.Q.length : Int) = false := by
      simp only [inB, decide_eq_false_iff_not]
      exact hC
    have hp : pickH h c = h := by unfold pickH; rw [if_neg hC]
    have HR := hid (runsN_none (runs_off iv hC))
    rw [hp]
    clear t hC hp ht iv
    generalize hnQ : h.Q.length = nQ at *
    go_enter Tryd.func16, Tryd.ntmps16
    go_wp2_with (go_at_call 30; refine Calls.mono (within_any _ _ _) ?_; rintro e w' ⟨rfl, rfl⟩)
    go_ret2
    exact ⟨by rw [HR.out.1, HR.out.2]; rfl, T0.out⟩
end
end Go.Proofs.YtchamgecalfmpabDoor
