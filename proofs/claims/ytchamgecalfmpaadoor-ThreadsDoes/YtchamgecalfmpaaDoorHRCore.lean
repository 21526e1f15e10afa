/-
  What the document's Core and Make answer and leave: the same as the program's; no condition but that all is right ahead.
-/
import Derived.Test.YtchamgecalfmpaaDoorHRMore
namespace Go.Proofs.YtchamgecalfmpaaDoor
open Go.RowKit Go.Deep Go.Shelf

section
variable {w0 w : World} {F : Nat → Prop} {p : Nat} {v u : Value} {qs : List Nat} {h : Hs}
set_option maxHeartbeats 4000000 in
theorem rcore_at (t : At qkR w0 F p v u qs h w) (iv : Inv h) (i k0 : Int) :
    Calls Tryd.prog 49 #[ptr p, .int .i64 i, .int .i64 k0] w fun e w' => e = .returned (.int .i64 (coreE h i k0)) ∧ At qkR w0 F p v u qs (coreH h i k0) w' := by
  have IV := hid iv
  have T0 := hid t
  obtain ⟨ao, cap, rfl, hg⟩ := t.slice
  obtain ⟨gq, capq, rfl⟩ := t.pslice iv.lo
  have HN : Hid (coreE h i k0 ≠ 0 → coreH h i k0 = h) := fun e => by
    unfold coreH
    rw [if_neg e]
  by_cases hT : isT h i
  · have hin : inB i (h.L.length : Int) = true := inB_yes hT
    by_cases hp : isC h k0
    · have hic : inB k0 (h.Q.length : Int) = true := inB_yes hp
      have h0 : coreE h i k0 = 0 := by
        unfold coreE
        rw [if_pos hT, if_pos hp]
      have H0 := hid h0
      have HP : Hid (coreH h i k0 = if ((thr h i.toNat).c : Int) = k0 then h else genH h i.toNat { thr h i.toNat with c := k0.toNat, st := lineUp (thr h i.toNat).st }) := by
        show coreH h i k0 = _
        unfold coreH
        rw [if_pos h0]
      obtain ⟨j, rfl⟩ := Int.eq_ofNat_of_zero_le hT.1
      obtain ⟨k, rfl⟩ := Int.eq_ofNat_of_zero_le hp.1
      rw [Int.toNat_natCast, Int.toNat_natCast] at HP
      have hj : j < h.L.length := by have := hT.2; omega
      have hk : k < h.Q.length := by have := hp.2; omega
      have HJ := hid (And.intro hj hk)
      obtain ⟨g, rfl⟩ := hg j hj
      have c0 := t.cell0
      obtain ⟨_, _, d2, _⟩ := t.four hj
      have hjz : (j : Int) < (h.L.length : Int) := by omega
      clear hT hp hj hk t hg iv h0 HN
      by_cases hcc : (thr h j).c = k
      · have HC : Hid (coreH h j k = h) := by
          show coreH h j k = h
          rw [HP.out, if_pos (by rw [hcc])]
        have e1 : (((thr h j).c : Int) == (k : Int)) = true := by rw [hcc]; simp
        have e2 : ((thr h j).c : Int) = (k : Int) := by rw [hcc]
        clear hcc HP
        generalize (thr h j).c = cc at *
        go_enter Tryd.func49, Tryd.ntmps49
        go_wp2_with (first | (go_at_call 54; refine Calls.mono (isR_any T0.out _) ?_; rintro e w' ⟨rfl, rfl⟩) | (go_at_call 58; refine Calls.mono (coreR_any T0.out IV.out.lo _) ?_; rintro e w' ⟨rfl, rfl⟩))
        go_ret
        rw [HC.out, H0.out]
        exact ⟨rfl, T0.out⟩
      · have HC : Hid (coreH h j k = genH h j { thr h j with c := k, st := lineUp (thr h j).st }) := by
          show coreH h j k = _
          rw [HP.out, if_neg (by omega)]
        have e1 : (((thr h j).c : Int) == (k : Int)) = false := by rw [beq_eq_false_iff_ne]; omega
        have e2 : ¬ (((thr h j).c : Int) = (k : Int)) := by omega
        have e3 : ¬ ((thr h j).c = k) := hcc
        clear hcc HP
        generalize hcq : (thr h j).c = cc at *
        have HQ := hid hcq
        clear hcq
        go_enter Tryd.func49, Tryd.ntmps49
        go_wp2_with (first | (go_at_call 54; refine Calls.mono (isR_any T0.out _) ?_; rintro e w' ⟨rfl, rfl⟩) | (go_at_call 58; refine Calls.mono (coreR_any T0.out IV.out.lo _) ?_; rintro e w' ⟨rfl, rfl⟩))
        have okj := okay_at IV.out HJ.out.1
        refine Calls.mono (out_at T0.out HJ.out.1 okj.c (Nat.le_trans (IV.out.small okj.c) (by omega)) (by have := IV.out.few; have := HJ.out.1; omega)) ?_
        rintro e w4 ⟨rfl, t4⟩
        have f0' := t4.cell0
        have hl4 : j < (leaveH h j).L.length := HJ.out.1
        obtain ⟨_, _, s2, _⟩ := t4.four hl4
        have f0 := t4.frozenT (j * 12 + 2)
        have t5 := t4.set hl4 (j := 2) (c := .int .i64 k) (y := { thr h j with c := k }) (by omega) rfl
        have T5 : Hid (At qkR w0 F p _ _ qs ⟨h.L.set j { thr h j with c := k }, (leaveH h j).Q⟩ _) := t5
        have c5 := t5.cell0
        have s0 := (t5.four (i := j) (by show j < (h.L.set j _).length; rw [List.length_set]; exact HJ.out.1)).1
        have hth0 : thr ⟨(leaveH h j).L.set j { thr h j with c := k }, (leaveH h j).Q⟩ j = { thr h j with c := k } := thr_set HJ.out.1 _
        rw [hth0] at s0
        simp only at s0
        clear t4 hl4 okj c0 d2 t5 hth0
        generalize (thr (leaveH h j) j).c = old at *
        have hs := (okay_at IV.out HJ.out.1).s
        by_cases hup : (thr h j).st = 1 ∨ (thr h j).st = 2
        · have HU := hid (lineUp_st hup)
          have HD : Hid (∀ w5, At qkR w0 F p (.slice (some ⟨g, 0, none⟩) h.L.length cap) (.slice (some ⟨gq, 0, none⟩) h.Q.length capq) qs ⟨h.L.set j { thr h j with c := k }, (leaveH h j).Q⟩ w5 → Calls Tryd.prog 73 #[ptr p, .int .i64 j] w5 fun e w' => e = .returned (.tuple #[]) ∧ At qkR w0 F p (.slice (some ⟨g, 0, none⟩) h.L.length cap) (.slice (some ⟨gq, 0, none⟩) h.Q.length capq) qs (coreH h j k) w') := fun w5 t5 => by
            have hj := HJ.out.1
            have hj5 : j < (h.L.set j { thr h j with c := k }).length := by rw [List.length_set]; exact hj
            have hth : thr ⟨h.L.set j { thr h j with c := k }, (leaveH h j).Q⟩ j = { thr h j with c := k } := thr_set hj _
            have okj := okay_at IV.out hj
            have hQl : (leaveH h j).Q.length = h.Q.length := List.length_set
            have hc := up_at t5 (i := j) hj5 (by rw [hth]; show _ < (leaveH h j).Q.length; rw [hQl]; exact HJ.out.2) (by rw [hth]; exact Nat.le_trans (leave_len _ HJ.out.2 fun d hd => IV.out.small hd) (by omega)) (by have := IV.out.few; omega)
            rw [up_gen IV.out hj { thr h j with c := k } HJ.out.2 okj.p] at hc
            rw [HC.out, HU.out]
            exact hc
          clear hs
          generalize hnL : h.L.length = nL at *
          generalize hnQ : h.Q.length = nQ at *
          rcases hup with hst | hst
          · rw [hst] at s0
            clear hst
            go_wp2_with (go_at_call 73; refine Calls.mono (HD.out _ T5.out) ?_; rintro e w6 ⟨rfl, t6⟩; have T6 := hid t6; clear t6)
            go_ret
            rw [H0.out, hnL, hnQ]
            exact ⟨rfl, T6.out⟩
          · rw [hst] at s0
            clear hst
            go_wp2_with (go_at_call 73; refine Calls.mono (HD.out _ T5.out) ?_; rintro e w6 ⟨rfl, t6⟩; have T6 := hid t6; clear t6)
            go_ret
            rw [H0.out, hnL, hnQ]
            exact ⟨rfl, T6.out⟩
        · have HU := hid (lineUp_no hup)
          have HS : Hid ((thr h j).st ≠ 1) := fun e => hup (.inl e)
          have hd : ((thr h j).st == 1) = false := by simpa using HS.out
          have hd2 : ((thr h j).st == 2) = false := by simpa using fun e => hup (.inr e)
          clear hup hs
          generalize hss : (thr h j).st = st at *
          generalize hnL : h.L.length = nL at *
          generalize hnQ : h.Q.length = nQ at *
          go_wp2
          go_ret
          rw [HC.out, H0.out, hnL, hnQ, HU.out]
          have := T5.out
          have e9 := out_gen (h := h) (i := j) { thr h j with c := k } (by rw [← hss] at HS; exact HS.out)
          rw [← hss]
          exact ⟨rfl, e9 ▸ this⟩
    · have hic : inB k0 (h.Q.length : Int) = false := inB_no hp
      have HE : Hid (coreE h i k0 = 1) := by
        show coreE h i k0 = 1
        unfold coreE
        rw [if_pos hT, if_neg hp]
      clear t hg iv hT hp
      go_enter Tryd.func49, Tryd.ntmps49
      go_wp2_with (first | (go_at_call 54; refine Calls.mono (isR_any T0.out _) ?_; rintro e w' ⟨rfl, rfl⟩) | (go_at_call 58; refine Calls.mono (coreR_any T0.out IV.out.lo _) ?_; rintro e w' ⟨rfl, rfl⟩))
      go_ret
      rw [HE.out, HN.out (by rw [HE.out]; decide)]
      exact ⟨rfl, T0.out⟩
  · have hin : inB i (h.L.length : Int) = false := inB_no hT
    have HE : Hid (coreE h i k0 = 100) := by
      show coreE h i k0 = 100
      unfold coreE
      rw [if_neg hT]
    clear t hg iv hT
    go_enter Tryd.func49, Tryd.ntmps49
    go_wp2_with (go_at_call 54; refine Calls.mono (isR_any T0.out _) ?_; rintro e w' ⟨rfl, rfl⟩)
    go_ret
    rw [HE.out, HN.out (by rw [HE.out]; decide)]
    exact ⟨rfl, T0.out⟩
set_option maxHeartbeats 4000000 in
set_option maxRecDepth 100000 in
theorem rmake_at (t : At qkR w0 F p v u qs h w) (iv : Inv h) (pr c : Int) :
    Calls Tryd.prog 42 #[ptr p, .int .i64 pr, .int .i64 c] w fun e w' => e = .returned (.tuple #[.int .i64 (makeN h pr c), .int .i64 (makeE h pr c)]) ∧ ∃ v', At qkR w0 F p v' u qs (makeH h pr c) w' := by
  have IV := hid iv
  have T0 := hid t
  obtain ⟨ao, cap, rfl, hg⟩ := t.slice
  have c0 := t.cell0
  rcases makeE_cases h pr c with ⟨h0, p0, p1, hC, hl⟩ | ⟨h0, p0, p1, hC, hl⟩ | ⟨h0, hno⟩
  · have hib : inB pr 256 = true := inB_yes ⟨p0, p1⟩
    have hic : inB c (h.Q.length : Int) = true := inB_yes hC
    have HM : Hid (makeH h pr c = ⟨h.L ++ [⟨0, pr.toNat, c.toNat, 5, List.replicate 8 0⟩], h.Q⟩ ∧ makeN h pr c = (h.L.length : Int)) := ⟨by unfold makeH; rw [if_pos h0], by unfold makeN; rw [if_pos h0]⟩
    have H0 := hid h0
    obtain ⟨P, rfl⟩ := Int.eq_ofNat_of_zero_le p0
    obtain ⟨C, rfl⟩ := Int.eq_ofNat_of_zero_le hC.1
    rw [Int.toNat_natCast, Int.toNat_natCast] at HM
    obtain ⟨v', w1, r1, ⟨ao', cap', rfl⟩, c0', f0', t4⟩ := t.more ⟨0, P, C, 5, List.replicate 8 0⟩ (by omega)
    have R1 := hid r1
    have T4 := hid t4
    have e0 := t4.cell0
    have hob : objT ⟨0, P, C, 5, List.replicate 8 0⟩ = .cells #[.int .i64 0, .int .i64 P, .int .i64 C, .int .i64 5, .int .u64 0, .int .u64 0, .int .u64 0, .int .u64 0, .int .u64 0, .int .u64 0, .int .u64 0, .int .u64 0] 46 := rfl
    rw [hob] at R1
    clear r1 t4 h0 p0 p1 hC hob t hg iv
    have hl64 : ¬ ((64 : Int) ≤ (h.L.length : Int)) := by omega
    generalize hnL : h.L.length = nL at *
    have hw : IntKind.i64.wrap (((nL + 1 : Nat) : Int) - 1) = (nL : Int) := by
      unfold IntKind.wrap
      simp [IntKind.bits, IntKind.signed]
      omega
    have hw2 : ((nL + 1 : Nat) : Int) - 1 = (nL : Int) := by omega
    go_enter Tryd.func42, Tryd.ntmps42
    go_wp2_with (first | (go_at_call 72; refine Calls.mono (prioR_any _ _) ?_; rintro e w' ⟨rfl, rfl⟩) | (go_at_call 58; refine Calls.mono (coreR_any T0.out IV.out.lo _) ?_; rintro e w' ⟨rfl, rfl⟩) | (at_builtin; (with_reducible refine wpList_append_run rfl (.tmp 27) (.tmp 31) 40 40 rfl (.slice ao nL cap) (.slice (some ⟨w'.heap.size, 0, none⟩) 1 1) _ w1 rfl rfl R1.out ?_)))
    go_ret2
    refine ⟨?_, _, by rw [HM.out.1]; exact T4.out⟩
    rw [HM.out.2, H0.out]
    simp
  · have hib : inB pr 256 = true := inB_yes ⟨p0, p1⟩
    have hic : inB c (h.Q.length : Int) = true := inB_yes hC
    have HM : Hid (makeH h pr c = h ∧ makeN h pr c = 0) := ⟨by unfold makeH; rw [h0]; rfl, by unfold makeN; rw [h0]; rfl⟩
    have H0 := hid h0
    have hl64 : (64 : Int) ≤ (h.L.length : Int) := by omega
    clear h0 t hg iv hl
    go_enter Tryd.func42, Tryd.ntmps42
    go_wp2_with (first | (go_at_call 72; refine Calls.mono (prioR_any _ _) ?_; rintro e w' ⟨rfl, rfl⟩) | (go_at_call 58; refine Calls.mono (coreR_any T0.out IV.out.lo _) ?_; rintro e w' ⟨rfl, rfl⟩))
    go_ret2
    rw [HM.out.1, HM.out.2, H0.out]
    exact ⟨rfl, _, T0.out⟩
  · have HM : Hid (makeH h pr c = h ∧ makeN h pr c = 0) := ⟨by unfold makeH; rw [h0]; rfl, by unfold makeN; rw [h0]; rfl⟩
    have H0 := hid h0
    by_cases hp : 0 ≤ pr ∧ pr < 256
    · have hib : inB pr 256 = true := inB_yes hp
      have hic : inB c (h.Q.length : Int) = false := inB_no fun e => hno ⟨hp, e⟩
      clear h0 t hg iv hno hp
      go_enter Tryd.func42, Tryd.ntmps42
      go_wp2_with (first | (go_at_call 72; refine Calls.mono (prioR_any _ _) ?_; rintro e w' ⟨rfl, rfl⟩) | (go_at_call 58; refine Calls.mono (coreR_any T0.out IV.out.lo _) ?_; rintro e w' ⟨rfl, rfl⟩))
      go_ret2
      rw [HM.out.1, HM.out.2, H0.out]
      exact ⟨rfl, _, T0.out⟩
    · have hib : inB pr 256 = false := inB_no hp
      clear h0 t hg iv hno hp
      go_enter Tryd.func42, Tryd.ntmps42
      go_wp2_with (first | (go_at_call 72; refine Calls.mono (prioR_any _ _) ?_; rintro e w' ⟨rfl, rfl⟩) | (go_at_call 58; refine Calls.mono (coreR_any T0.out IV.out.lo _) ?_; rintro e w' ⟨rfl, rfl⟩))
      go_ret2
      rw [HM.out.1, HM.out.2, H0.out]
      exact ⟨rfl, _, T0.out⟩
end
end Go.Proofs.YtchamgecalfmpaaDoor
