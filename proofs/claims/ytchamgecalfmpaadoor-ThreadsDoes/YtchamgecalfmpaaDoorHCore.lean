/-
  What Core and Make of package threads answer and leave; no condition but that all is right ahead.
-/
import Derived.Test.YtchamgecalfmpaaDoorHReg
import Derived.Test.YtchamgecalfmpaaDoorHAdd
import Derived.Test.YtchamgecalfmpaaDoorHRuns
import Derived.Deep.Cut
import Derived.Deep.CutRange
namespace Go.Proofs.YtchamgecalfmpaaDoor
open Go.RowKit Go.Deep Go.Shelf

section
variable {w0 w : World} {F : Nat → Prop} {p : Nat} {v u : Value} {qs : List Nat} {h : Hs}
theorem lineUp_st {s : Int} (h : s = 1 ∨ s = 2) : lineUp s = 1 := by unfold lineUp; rw [if_pos h]
theorem lineUp_no {s : Int} (h : ¬ (s = 1 ∨ s = 2)) : lineUp s = s := by unfold lineUp; rw [if_neg h]
set_option maxHeartbeats 4000000 in
theorem core_at (t : At qkP w0 F p v u qs h w) (iv : Inv h) (i k0 : Int) :
    Calls Tryd.prog 29 #[ptr p, .int .i64 i, .int .i64 k0] w fun e w' => e = .returned (.int .i64 (coreE h i k0)) ∧ At qkP w0 F p v u qs (coreH h i k0) w' := by
  have hmf : ∀ (fn : Fn) (first cap : Array Value) (w : World), (Instr.makeFunc fn first cap).run Tryd.prog w = .ok (.func fn first cap) w := fun _ _ _ _ => rfl
  have IV := hid iv
  obtain ⟨ao, cap, rfl, hg⟩ := t.slice
  obtain ⟨gq, capq, rfl⟩ := t.pslice iv.lo
  have T0 := hid t.drew
  have c1 := t.cell1
  have HG := hid hg
  have hE : coreE h i k0 = firstE [inE i (h.L.length : Int) 100, inE k0 (h.Q.length : Int) 1] := by
    unfold coreE
    by_cases hT : isT h i
    · rw [if_pos hT, inE_yes hT]
      by_cases hp : isC h k0
      · rw [if_pos hp, inE_yes hp]
        rfl
      · rw [if_neg hp, inE_no hp]
        rfl
    · rw [if_neg hT, inE_no hT]
      rfl
  have HE := hid hE
  clear t hg iv hE
  go_enter Tryd.func29, Tryd.ntmps29
  go_wp2_with fail
  go_cut [7] from 7 to 21 (fun s7 wx => s7 = .int .i64 (firstE [inE i (h.L.length : Int) 100, inE k0 (h.Q.length : Int) 1]) ∧ At qkP w0 F p (.slice ao h.L.length cap) (.slice (some ⟨gq, 0, none⟩) h.Q.length capq) qs h wx)
  case first =>
    go_region_with (first
      | (go_at_call 34; (with_reducible refine Calls.mono (there_any p i _ _ _ _ T0.out.var0) ?_); rintro e w1 ⟨c1, rfl, k1, b1⟩; obtain ⟨g1, l1, rfl⟩ := k1.form; have T1 := hid (T0.out.below b1); have K1 := hid k1; have c1b := T1.out.cell1; clear k1 b1)
      | (go_at_call 37; (with_reducible refine Calls.mono (below_any k0 (h.Q.length : Int) _) ?_); rintro e w2 ⟨c2, rfl, k2, b2⟩; obtain ⟨g2, l2, rfl⟩ := k2.form; have T2 := hid (T1.out.below b2); have K1' := hid (K1.out.below b2); have K2 := hid k2; clear k2 b2)
      | (go_at_call 33; (with_reducible refine Calls.mono (first2 w2 _ _ _ _ K1'.out fun _ => K2.out) ?_); rintro e w3 ⟨rfl, b3⟩; have T3 := hid (T2.out.below b3); clear b3))
    all_goals go_wp2_with fail
    all_goals go_meet
    all_goals exact ⟨rfl, T3.out⟩
  case rest =>
    obtain ⟨rfl, t3⟩ := hcut
    have T3 := hid t3
    clear t3 T0 c1
    rw [← HE.out]
    by_cases h0 : coreE h i k0 = 0
    · have HH : Hid (isT h i ∧ isC h k0) := by
        by_cases hT : isT h i
        · by_cases hp : isC h k0
          · exact ⟨hT, hp⟩
          · rw [HE.out, inE_yes hT, inE_no hp] at h0
            cases h0
        · rw [HE.out, inE_no hT] at h0
          cases h0
      have H0 := hid h0
      have HP : Hid (coreH h i k0 = if ((thr h i.toNat).c : Int) = k0 then h else genH h i.toNat { thr h i.toNat with c := k0.toNat, st := lineUp (thr h i.toNat).st }) := by
        show coreH h i k0 = _
        unfold coreH
        rw [if_pos h0]
      rw [h0]
      clear HE h0
      obtain ⟨hT, hp⟩ := HH.out
      obtain ⟨j, rfl⟩ := Int.eq_ofNat_of_zero_le hT.1
      obtain ⟨k, rfl⟩ := Int.eq_ofNat_of_zero_le hp.1
      rw [Int.toNat_natCast, Int.toNat_natCast] at HP
      have hj : j < h.L.length := by have := hT.2; omega
      have hk : k < h.Q.length := by have := hp.2; omega
      have HJ := hid (And.intro hj hk)
      obtain ⟨g, rfl⟩ := HG.out j hj
      have c0 := T3.out.cell0
      obtain ⟨_, _, d2, _⟩ := T3.out.four hj
      have hjz : (j : Int) < (h.L.length : Int) := by omega
      clear HG HH hT hp hj hk
      by_cases hcc : (thr h j).c = k
      · have HC : Hid (coreH h j k = h) := by
          show coreH h j k = h
          rw [HP.out, if_pos (by rw [hcc])]
        have e1 : (((thr h j).c : Int) == (k : Int)) = true := by rw [hcc]; simp
        have e2 : ((thr h j).c : Int) = (k : Int) := by rw [hcc]
        clear hcc HP
        generalize (thr h j).c = cc at *
        generalize hnL : h.L.length = nL at *
        generalize hnQ : h.Q.length = nQ at *
        go_wp2
        go_ret
        rw [HC.out, H0.out, hnL, hnQ]
        exact ⟨rfl, T3.out⟩
      · have HC : Hid (coreH h j k = genH h j { thr h j with c := k, st := lineUp (thr h j).st }) := by
          show coreH h j k = _
          rw [HP.out, if_neg (by omega)]
        have e1 : (((thr h j).c : Int) == (k : Int)) = false := by rw [beq_eq_false_iff_ne]; omega
        have e2 : ¬ (((thr h j).c : Int) = (k : Int)) := by omega
        have e3 : ¬ ((thr h j).c = k) := hcc
        clear hcc HP
        generalize hcq : (thr h j).c = cc at *
        have HQ := hid hcq
        clear hcq
        go_wp2_with fail
        have okj := okay_at IV.out HJ.out.1
        have hstd := IV.out.stands HJ.out.1
        refine Calls.mono (leave_at T3.out HJ.out.1 okj.c (Nat.le_trans (IV.out.small okj.c) (by omega)) (by have := IV.out.few; have := HJ.out.1; omega)) ?_
        rintro e w4 ⟨rfl, t4⟩
        rw [hstd]
        have f0' := t4.cell0
        have hl4 : j < (leaveH h j).L.length := HJ.out.1
        obtain ⟨s0, _, s2, _⟩ := t4.four hl4
        have f0 := t4.frozenT (j * 12 + 2)
        have T5 : Hid (At qkP w0 F p _ _ qs ⟨h.L.set j { thr h j with c := k }, (leaveH h j).Q⟩ _) := t4.set hl4 (j := 2) (c := .int .i64 k) (y := { thr h j with c := k }) (by omega) rfl
        have hst0 : (thr (leaveH h j) j).st = (thr h j).st := rfl
        rw [hst0] at s0
        clear t4 hl4 T3 hstd okj hst0 c0 d2
        generalize (thr (leaveH h j) j).c = old at *
        have hs := (okay_at IV.out HJ.out.1).s
        by_cases hup : (thr h j).st = 1 ∨ (thr h j).st = 2
        · have HU := hid (lineUp_st hup)
          have HS : Hid ((thr h j).st = 1 ∨ (thr h j).st = 2) := hup
          have hb : (decide ((thr h j).st = 1) = true) ∨ (decide ((thr h j).st = 1) = false ∧ ((thr h j).st == 2) = true) := by
            rcases hup with e | e
            · exact .inl (by simpa using e)
            · exact .inr ⟨by rw [e]; rfl, by simpa using e⟩
          have HD : Hid (∀ w5, At qkP w0 F p (.slice (some ⟨g, 0, none⟩) h.L.length cap) (.slice (some ⟨gq, 0, none⟩) h.Q.length capq) qs ⟨h.L.set j { thr h j with c := k }, (leaveH h j).Q⟩ w5 → Calls Tryd.prog 41 #[ptr p, .int .i64 j] w5 fun e w' => e = .returned (.tuple #[]) ∧ At qkP w0 F p (.slice (some ⟨g, 0, none⟩) h.L.length cap) (.slice (some ⟨gq, 0, none⟩) h.Q.length capq) qs (coreH h j k) w') := fun w5 t5 => by
            have hj := HJ.out.1
            have hj5 : j < (h.L.set j { thr h j with c := k }).length := by rw [List.length_set]; exact hj
            have hth : thr ⟨h.L.set j { thr h j with c := k }, (leaveH h j).Q⟩ j = { thr h j with c := k } := thr_set hj _
            have okj := okay_at IV.out hj
            have hQl : (leaveH h j).Q.length = h.Q.length := List.length_set
            have hc := lineUp_at t5 (i := j) hj5 (by rw [hth]; show _ < (leaveH h j).Q.length; rw [hQl]; exact HJ.out.2) (by rw [hth]; exact Nat.le_trans (leave_len _ HJ.out.2 fun d hd => IV.out.small hd) (by omega)) (by have := IV.out.few; omega)
            rw [up_gen IV.out hj { thr h j with c := k } HJ.out.2 okj.p] at hc
            rw [HC.out, HU.out]
            exact hc
          clear hup hs
          generalize hss : (thr h j).st = st at *
          generalize hnL : h.L.length = nL at *
          generalize hnQ : h.Q.length = nQ at *
          rcases hb with hd | ⟨hd, hd2⟩
          · rw [hd]
            go_wp2_with (go_at_call 41; refine Calls.mono (HD.out _ T5.out) ?_; rintro e w6 ⟨rfl, t6⟩; have T6 := hid t6; clear t6)
            go_ret
            rw [H0.out, hnL, hnQ]
            exact ⟨rfl, T6.out⟩
          · rw [hd]
            go_wp2_with (go_at_call 41; refine Calls.mono (HD.out _ T5.out) ?_; rintro e w6 ⟨rfl, t6⟩; have T6 := hid t6; clear t6)
            go_ret
            rw [H0.out, hnL, hnQ]
            exact ⟨rfl, T6.out⟩
        · have HU := hid (lineUp_no hup)
          have HS : Hid ((thr h j).st ≠ 1) := fun e => hup (.inl e)
          have hd : decide ((thr h j).st = 1) = false := by simpa using HS.out
          have hd2 : ((thr h j).st == 2) = false := by simpa using fun e => hup (.inr e)
          rw [hd]
          clear hup hs
          generalize hss : (thr h j).st = st at *
          generalize hnL : h.L.length = nL at *
          generalize hnQ : h.Q.length = nQ at *
          go_wp2
          go_ret
          rw [HC.out, H0.out, hnL, hnQ, HU.out]
          have := T5.out
          have e9 := out_gen (h := h) (i := j) { thr h j with c := k } (by rw [← hss] at HS; exact HS.out)
          rw [← hss]
          exact ⟨rfl, e9 ▸ this⟩
    · have h1 : (coreE h i k0 == 0) = false := by simpa using h0
      have h2 : (coreE h i k0 != 0) = true := by simpa using h0
      have HP : Hid (coreH h i k0 = h) := by
        show coreH h i k0 = h
        unfold coreH
        rw [if_neg h0]
      clear HE h0
      generalize hz : coreE h i k0 = z at *
      go_wp2
      go_ret
      rw [HP.out, hz]
      exact ⟨rfl, T3.out⟩
theorem makeE_first (h : Hs) (pr c : Int) : makeE h pr c = firstE [inE pr 256 1, inE c (h.Q.length : Int) 1, inE (h.L.length : Int) 64 2] := by
  unfold makeE
  by_cases hp : 0 ≤ pr ∧ pr < 256
  · by_cases hc : isC h c
    · rw [if_pos ⟨hp, hc⟩, inE_yes hp, inE_yes hc]
      by_cases hl : 64 ≤ h.L.length
      · rw [if_pos hl, inE_no (by omega)]
        rfl
      · rw [if_neg hl, inE_yes (by omega)]
        rfl
    · rw [if_neg (fun e => hc e.2), inE_yes hp, inE_no hc]
      rfl
  · rw [if_neg (fun e => hp e.1), inE_no hp]
    rfl
set_option maxHeartbeats 4000000 in
theorem make_at (t : At qkP w0 F p v u qs h w) (iv : Inv h) (pr c : Int) :
    Calls Tryd.prog 13 #[ptr p, .int .i64 pr, .int .i64 c] w fun e w' => e = .returned (.tuple #[.int .i64 (makeN h pr c), .int .i64 (makeE h pr c)]) ∧ ∃ v', At qkP w0 F p v' u qs (makeH h pr c) w' := by
  have hmf : ∀ (fn : Fn) (first cap : Array Value) (w : World), (Instr.makeFunc fn first cap).run Tryd.prog w = .ok (.func fn first cap) w := fun _ _ _ _ => rfl
  have IV := hid iv
  obtain ⟨ao, cap, rfl, hg⟩ := t.slice
  obtain ⟨gq, capq, rfl⟩ := t.pslice iv.lo
  have T0 := hid t.drew
  have c1 := t.cell1
  have HE := hid (makeE_first h pr c)
  clear t hg iv
  go_enter Tryd.func13, Tryd.ntmps13
  go_wp2_with fail
  go_cut [8] from 8 to 21 (fun s8 wx => s8 = .int .i64 (firstE [inE pr 256 1, inE c (h.Q.length : Int) 1, inE (h.L.length : Int) 64 2]) ∧ At qkP w0 F p (.slice ao h.L.length cap) (.slice (some ⟨gq, 0, none⟩) h.Q.length capq) qs h wx)
  case first =>
    go_region_with (first
      | (go_at_call 37; (with_reducible refine Calls.mono (below_any pr 256 _) ?_); rintro e w1 ⟨c1, rfl, k1, b1⟩; obtain ⟨g1, l1, rfl⟩ := k1.form; have T1 := hid (T0.out.below b1); have K1 := hid k1; have c1b := T1.out.cell1; clear k1 b1)
      | (go_at_call 37; (with_reducible refine Calls.mono (below_any c (h.Q.length : Int) _) ?_); rintro e w2 ⟨c2, rfl, k2, b2⟩; obtain ⟨g2, l2, rfl⟩ := k2.form; have T2 := hid (T1.out.below b2); have K1' := hid (K1.out.below b2); have K2 := hid k2; clear k2 b2)
      | (go_at_call 38; (with_reducible refine Calls.mono (room_any p _ _ _ _ T2.out.var0) ?_); rintro e w3 ⟨c3, rfl, k3, b3⟩; obtain ⟨g3, l3, rfl⟩ := k3.form; have T3 := hid (T2.out.below b3); have K1'' := hid (K1'.out.below b3); have K2' := hid (K2.out.below b3); have K3 := hid k3; clear k3 b3)
      | (go_at_call 33; (with_reducible refine Calls.mono (first3 w3 _ _ _ _ _ _ K1''.out K2'.out K3.out) ?_); rintro e w4 ⟨rfl, b4⟩; have T4 := hid (T3.out.below b4); clear b4))
    all_goals go_wp2_with fail
    all_goals go_meet
    all_goals exact ⟨rfl, T4.out⟩
  case rest =>
    obtain ⟨rfl, t3⟩ := hcut
    have T3 := hid t3
    clear t3 T0 c1
    rw [← HE.out]
    rcases makeE_cases h pr c with ⟨h0, p0, p1, hC, hl⟩ | ⟨h0, _⟩ | ⟨h0, _⟩
    · have HM : Hid (makeH h pr c = ⟨h.L ++ [⟨0, pr.toNat, c.toNat, 5, List.replicate 8 0⟩], h.Q⟩ ∧ makeN h pr c = (h.L.length : Int)) := ⟨by unfold makeH; rw [if_pos h0], by unfold makeN; rw [if_pos h0]⟩
      have H0 := hid h0
      rw [h0]
      obtain ⟨P, rfl⟩ := Int.eq_ofNat_of_zero_le p0
      obtain ⟨C, rfl⟩ := Int.eq_ofNat_of_zero_le hC.1
      rw [Int.toNat_natCast, Int.toNat_natCast] at HM
      obtain ⟨v', w', r1, ⟨ao', cap', rfl⟩, c0', f0', t4⟩ := T3.out.more ⟨0, P, C, 5, List.replicate 8 0⟩ (by omega)
      have R1 := hid r1
      have T4 := hid t4
      have c0 := T3.out.cell0
      have e0 := t4.cell0
      have hob : objT ⟨0, P, C, 5, List.replicate 8 0⟩ = .cells #[.int .i64 0, .int .i64 P, .int .i64 C, .int .i64 5, .int .u64 0, .int .u64 0, .int .u64 0, .int .u64 0, .int .u64 0, .int .u64 0, .int .u64 0, .int .u64 0] 46 := rfl
      rw [hob] at R1
      clear r1 t4 h0 p0 p1 hC T3 HE hob
      generalize hnL : h.L.length = nL at *
      have hw : IntKind.i64.wrap (((nL + 1 : Nat) : Int) - 1) = (nL : Int) := by
        unfold IntKind.wrap
        simp [IntKind.bits, IntKind.signed]
        omega
      have hw2 : ((nL + 1 : Nat) : Int) - 1 = (nL : Int) := by omega
      go_wp2_with (at_builtin; (with_reducible refine wpList_append_run rfl (.tmp 29) (.tmp 33) 40 40 rfl (.slice ao nL cap) (.slice (some ⟨wc.heap.size, 0, none⟩) 1 1) _ w' rfl rfl R1.out ?_))
      go_ret2
      refine ⟨?_, _, by rw [HM.out.1]; exact T4.out⟩
      rw [HM.out.2, H0.out]
      simp
    · have HM : Hid (makeH h pr c = h ∧ makeN h pr c = 0) := ⟨by unfold makeH; rw [h0]; rfl, by unfold makeN; rw [h0]; rfl⟩
      have H0 := hid h0
      rw [h0]
      clear h0 HE
      go_wp2
      go_ret2
      rw [HM.out.1, HM.out.2, H0.out]
      exact ⟨rfl, _, T3.out⟩
    · have HM : Hid (makeH h pr c = h ∧ makeN h pr c = 0) := ⟨by unfold makeH; rw [h0]; rfl, by unfold makeN; rw [h0]; rfl⟩
      have H0 := hid h0
      rw [h0]
      clear h0 HE
      go_wp2
      go_ret2
      rw [HM.out.1, HM.out.2, H0.out]
      exact ⟨rfl, _, T3.out⟩
end
end Go.Proofs.YtchamgecalfmpaaDoor
