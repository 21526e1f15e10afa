/-
  What the document's Resume, Suspend, Block, Reg, Prio and Core answer and leave: the same as the program's; no condition but that all is right ahead.
-/
import Derived.Test.YtchamgecalfmpaaDoorHRUp
import Derived.Test.YtchamgecalfmpaaDoorHCore
namespace Go.Proofs.YtchamgecalfmpaaDoor
open Go.RowKit Go.Deep Go.Shelf

section
variable {w0 w : World} {F : Nat → Prop} {p : Nat} {v u : Value} {qs : List Nat} {h : Hs}
theorem inB_yes {n m : Int} (h : 0 ≤ n ∧ n < m) : inB n m = true := by simp [inB, h]
theorem inB_no {n m : Int} (h : ¬ (0 ≤ n ∧ n < m)) : inB n m = false := by simp [inB, h]
set_option maxHeartbeats 2000000 in
theorem rresume_at (t : At qkR w0 F p v u qs h w) (iv : Inv h) (i : Int) :
    Calls Tryd.prog 44 #[ptr p, .int .i64 i] w fun e w' => e = .returned (.int .i64 (resumeE h i)) ∧ At qkR w0 F p v u qs (resumeH h i) w' := by
  have IV := hid iv
  have T0 := hid t
  obtain ⟨ao, cap, rfl, hg⟩ := t.slice
  rcases isT_cases h i with ⟨j, rfl, hj, hT, hjn⟩ | hT
  · have hin := inB_yes hT
    obtain ⟨g, rfl⟩ := hg j hj
    have c0 := t.cell0
    obtain ⟨d0, _, _, _⟩ := t.four hj
    have f0 := t.frozenT (j * 12)
    have HJ := hid hj
    have hjz : (j : Int) < (h.L.length : Int) := by omega
    have hs := (okay_at iv hj).s
    have hE : resumeE h j = if ((thr h j).st = 1 ∨ (thr h j).st = 2) then 101 else 0 := by
      unfold resumeE
      rw [if_pos hT, Int.toNat_natCast]

    have HH : Hid (resumeE h j = 0 → resumeH h j = genH h j { thr h j with st := 1 }) := fun e => by
      unfold resumeH
      rw [if_pos e, Int.toNat_natCast]
    have HN : Hid (resumeE h j ≠ 0 → resumeH h j = h) := fun e => by
      unfold resumeH
      rw [if_neg e]
    clear t hg hT hjn iv hj
    have hcs : (thr h j).st = 0 ∨ (thr h j).st = 1 ∨ (thr h j).st = 2 ∨ (thr h j).st = 3 := by omega
    clear hs
    rcases hcs with hst | hst | hst | hst
    · have HE : Hid (resumeE h j = 0) := by
        show resumeE h j = 0
        rw [hE, if_neg (by omega)]
      have HST := hid hst
      rw [hst] at d0
      clear hE hst
      go_enter Tryd.func44, Tryd.ntmps44
      go_wp2_with (go_at_call 54; refine Calls.mono (isR_any T0.out _) ?_; rintro e w' ⟨rfl, rfl⟩)
      have okj := okay_at IV.out HJ.out
      refine Calls.mono (up_at T0.out HJ.out okj.c (Nat.le_trans (IV.out.small okj.c) (by omega)) (by have := IV.out.few; have := HJ.out; omega)) ?_
      rintro e w5 ⟨rfl, t5⟩
      rw [line_gen IV.out HJ.out (by rw [HST.out]; decide)] at t5
      have T5 := hid t5
      clear t5 okj
      go_wp2
      go_ret
      rw [HE.out, HH.out HE.out]
      exact ⟨rfl, T5.out⟩
    · have HE : Hid (resumeE h j = 101) := by
        show resumeE h j = 101
        rw [hE, if_pos (by omega)]
      rw [hst] at d0
      clear hE hst
      generalize hnL : h.L.length = nL at *
      go_enter Tryd.func44, Tryd.ntmps44
      go_wp2_with (go_at_call 54; refine Calls.mono (isR_any T0.out _) ?_; rintro e w' ⟨rfl, rfl⟩)
      go_ret
      rw [HE.out, HN.out (by rw [HE.out]; decide)]
      exact ⟨rfl, T0.out⟩
    · have HE : Hid (resumeE h j = 101) := by
        show resumeE h j = 101
        rw [hE, if_pos (by omega)]
      rw [hst] at d0
      clear hE hst
      generalize hnL : h.L.length = nL at *
      go_enter Tryd.func44, Tryd.ntmps44
      go_wp2_with (go_at_call 54; refine Calls.mono (isR_any T0.out _) ?_; rintro e w' ⟨rfl, rfl⟩)
      go_ret
      rw [HE.out, HN.out (by rw [HE.out]; decide)]
      exact ⟨rfl, T0.out⟩
    · have HE : Hid (resumeE h j = 0) := by
        show resumeE h j = 0
        rw [hE, if_neg (by omega)]
      have HST := hid hst
      rw [hst] at d0
      clear hE hst
      go_enter Tryd.func44, Tryd.ntmps44
      go_wp2_with (go_at_call 54; refine Calls.mono (isR_any T0.out _) ?_; rintro e w' ⟨rfl, rfl⟩)
      have okj := okay_at IV.out HJ.out
      refine Calls.mono (up_at T0.out HJ.out okj.c (Nat.le_trans (IV.out.small okj.c) (by omega)) (by have := IV.out.few; have := HJ.out; omega)) ?_
      rintro e w5 ⟨rfl, t5⟩
      rw [line_gen IV.out HJ.out (by rw [HST.out]; decide)] at t5
      have T5 := hid t5
      clear t5 okj
      go_wp2
      go_ret
      rw [HE.out, HH.out HE.out]
      exact ⟨rfl, T5.out⟩
  · have hin : inB i (h.L.length : Int) = false := inB_no hT
    have HE : Hid (resumeE h i = 100 ∧ resumeH h i = h) := by
      have e : resumeE h i = 100 := by unfold resumeE; rw [if_neg hT]
      exact ⟨e, by unfold resumeH; rw [e, if_neg (by decide)]⟩
    clear t hg hT iv
    go_enter Tryd.func44, Tryd.ntmps44
    go_wp2_with (go_at_call 54; refine Calls.mono (isR_any T0.out _) ?_; rintro e w' ⟨rfl, rfl⟩)
    go_ret
    rw [HE.out.1, HE.out.2]
    exact ⟨rfl, T0.out⟩
set_option maxHeartbeats 2000000 in
theorem rsuspend_at (t : At qkR w0 F p v u qs h w) (iv : Inv h) (i : Int) :
    Calls Tryd.prog 45 #[ptr p, .int .i64 i] w fun e w' => e = .returned (.int .i64 (suspendE h i)) ∧ At qkR w0 F p v u qs (suspendH h i) w' := by
  have IV := hid iv
  have T0 := hid t
  obtain ⟨ao, cap, rfl, hg⟩ := t.slice
  rcases isT_cases h i with ⟨j, rfl, hj, hT, hjn⟩ | hT
  · have hin := inB_yes hT
    obtain ⟨g, rfl⟩ := hg j hj
    have c0 := t.cell0
    obtain ⟨d0, _, _, _⟩ := t.four hj
    have f0 := t.frozenT (j * 12)
    have HJ := hid hj
    have hjz : (j : Int) < (h.L.length : Int) := by omega
    have hs := (okay_at iv hj).s
    have hE : suspendE h j = if ((thr h j).st = 0) then 101 else 0 := by
      unfold suspendE
      rw [if_pos hT, Int.toNat_natCast]

    have HH : Hid (suspendE h j = 0 → suspendH h j = genH h j { thr h j with st := 0 }) := fun e => by
      unfold suspendH
      rw [if_pos e, Int.toNat_natCast]
    have HN : Hid (suspendE h j ≠ 0 → suspendH h j = h) := fun e => by
      unfold suspendH
      rw [if_neg e]
    clear t hg hT hjn iv hj
    have hcs : (thr h j).st = 0 ∨ (thr h j).st = 1 ∨ (thr h j).st = 2 ∨ (thr h j).st = 3 := by omega
    clear hs
    rcases hcs with hst | hst | hst | hst
    · have HE : Hid (suspendE h j = 101) := by
        show suspendE h j = 101
        rw [hE, if_pos (by omega)]
      rw [hst] at d0
      clear hE hst
      generalize hnL : h.L.length = nL at *
      go_enter Tryd.func45, Tryd.ntmps45
      go_wp2_with (go_at_call 54; refine Calls.mono (isR_any T0.out _) ?_; rintro e w' ⟨rfl, rfl⟩)
      go_ret
      rw [HE.out, HN.out (by rw [HE.out]; decide)]
      exact ⟨rfl, T0.out⟩
    · have HE : Hid (suspendE h j = 0) := by
        show suspendE h j = 0
        rw [hE, if_neg (by omega)]
      have HST := hid hst
      rw [hst] at d0
      clear hE hst
      go_enter Tryd.func45, Tryd.ntmps45
      go_wp2_with (go_at_call 54; refine Calls.mono (isR_any T0.out _) ?_; rintro e w' ⟨rfl, rfl⟩)
      have okj := okay_at IV.out HJ.out
      refine Calls.mono (out_at T0.out HJ.out okj.c (Nat.le_trans (IV.out.small okj.c) (by omega)) (by have := IV.out.few; have := HJ.out; omega)) ?_
      rintro e w5 ⟨rfl, t5⟩
      have c0' := t5.cell0
      have hl5 : j < (leaveH h j).L.length := HJ.out
      obtain ⟨d0', _, _, _⟩ := t5.four hl5
      have f0' := t5.frozenT (j * 12)
      have T6 := hid (t5.set hl5 (j := 0) (c := .int .i64 0) (y := { thr h j with st := 0 }) (by omega) rfl)
      rw [out_gen (h := h) (i := j) { thr h j with st := 0 } (by simp)] at T6
      simp only [Nat.add_zero] at T6
      clear t5 okj hl5 c0 d0 f0
      generalize (thr (leaveH h j) j).st = st0 at *
      generalize hnL : h.L.length = nL at *
      go_wp2
      go_ret
      rw [HE.out, HH.out HE.out, hnL]
      exact ⟨rfl, T6.out⟩
    · have HE : Hid (suspendE h j = 0) := by
        show suspendE h j = 0
        rw [hE, if_neg (by omega)]
      have HST := hid hst
      rw [hst] at d0
      clear hE hst
      go_enter Tryd.func45, Tryd.ntmps45
      go_wp2_with (go_at_call 54; refine Calls.mono (isR_any T0.out _) ?_; rintro e w' ⟨rfl, rfl⟩)
      have okj := okay_at IV.out HJ.out
      refine Calls.mono (out_at T0.out HJ.out okj.c (Nat.le_trans (IV.out.small okj.c) (by omega)) (by have := IV.out.few; have := HJ.out; omega)) ?_
      rintro e w5 ⟨rfl, t5⟩
      have c0' := t5.cell0
      have hl5 : j < (leaveH h j).L.length := HJ.out
      obtain ⟨d0', _, _, _⟩ := t5.four hl5
      have f0' := t5.frozenT (j * 12)
      have T6 := hid (t5.set hl5 (j := 0) (c := .int .i64 0) (y := { thr h j with st := 0 }) (by omega) rfl)
      rw [out_gen (h := h) (i := j) { thr h j with st := 0 } (by simp)] at T6
      simp only [Nat.add_zero] at T6
      clear t5 okj hl5 c0 d0 f0
      generalize (thr (leaveH h j) j).st = st0 at *
      generalize hnL : h.L.length = nL at *
      go_wp2
      go_ret
      rw [HE.out, HH.out HE.out, hnL]
      exact ⟨rfl, T6.out⟩
    · have HE : Hid (suspendE h j = 0) := by
        show suspendE h j = 0
        rw [hE, if_neg (by omega)]
      have HST := hid hst
      rw [hst] at d0
      clear hE hst
      go_enter Tryd.func45, Tryd.ntmps45
      go_wp2_with (go_at_call 54; refine Calls.mono (isR_any T0.out _) ?_; rintro e w' ⟨rfl, rfl⟩)
      have okj := okay_at IV.out HJ.out
      refine Calls.mono (out_at T0.out HJ.out okj.c (Nat.le_trans (IV.out.small okj.c) (by omega)) (by have := IV.out.few; have := HJ.out; omega)) ?_
      rintro e w5 ⟨rfl, t5⟩
      have c0' := t5.cell0
      have hl5 : j < (leaveH h j).L.length := HJ.out
      obtain ⟨d0', _, _, _⟩ := t5.four hl5
      have f0' := t5.frozenT (j * 12)
      have T6 := hid (t5.set hl5 (j := 0) (c := .int .i64 0) (y := { thr h j with st := 0 }) (by omega) rfl)
      rw [out_gen (h := h) (i := j) { thr h j with st := 0 } (by simp)] at T6
      simp only [Nat.add_zero] at T6
      clear t5 okj hl5 c0 d0 f0
      generalize (thr (leaveH h j) j).st = st0 at *
      generalize hnL : h.L.length = nL at *
      go_wp2
      go_ret
      rw [HE.out, HH.out HE.out, hnL]
      exact ⟨rfl, T6.out⟩
  · have hin : inB i (h.L.length : Int) = false := inB_no hT
    have HE : Hid (suspendE h i = 100 ∧ suspendH h i = h) := by
      have e : suspendE h i = 100 := by unfold suspendE; rw [if_neg hT]
      exact ⟨e, by unfold suspendH; rw [e, if_neg (by decide)]⟩
    clear t hg hT iv
    go_enter Tryd.func45, Tryd.ntmps45
    go_wp2_with (go_at_call 54; refine Calls.mono (isR_any T0.out _) ?_; rintro e w' ⟨rfl, rfl⟩)
    go_ret
    rw [HE.out.1, HE.out.2]
    exact ⟨rfl, T0.out⟩
set_option maxHeartbeats 2000000 in
theorem rblock_at (t : At qkR w0 F p v u qs h w) (iv : Inv h) (i : Int) :
    Calls Tryd.prog 46 #[ptr p, .int .i64 i] w fun e w' => e = .returned (.int .i64 (blockE h i)) ∧ At qkR w0 F p v u qs (blockH h i) w' := by
  have IV := hid iv
  have T0 := hid t
  obtain ⟨ao, cap, rfl, hg⟩ := t.slice
  rcases isT_cases h i with ⟨j, rfl, hj, hT, hjn⟩ | hT
  · have hin := inB_yes hT
    obtain ⟨g, rfl⟩ := hg j hj
    have c0 := t.cell0
    obtain ⟨d0, _, _, _⟩ := t.four hj
    have f0 := t.frozenT (j * 12)
    have HJ := hid hj
    have hjz : (j : Int) < (h.L.length : Int) := by omega
    have hs := (okay_at iv hj).s
    have hE : blockE h j = if ((thr h j).st ≠ 2) then 101 else 0 := by
      unfold blockE
      rw [if_pos hT, Int.toNat_natCast]
      by_cases e : (thr h j).st = 2
      · rw [if_pos e, if_neg (fun q => q e)]
      · rw [if_neg e, if_pos e]
    have HH : Hid (blockE h j = 0 → blockH h j = genH h j { thr h j with st := 3 }) := fun e => by
      unfold blockH
      rw [if_pos e, Int.toNat_natCast]
    have HN : Hid (blockE h j ≠ 0 → blockH h j = h) := fun e => by
      unfold blockH
      rw [if_neg e]
    clear t hg hT hjn iv hj
    have hcs : (thr h j).st = 0 ∨ (thr h j).st = 1 ∨ (thr h j).st = 2 ∨ (thr h j).st = 3 := by omega
    clear hs
    rcases hcs with hst | hst | hst | hst
    · have HE : Hid (blockE h j = 101) := by
        show blockE h j = 101
        rw [hE, if_pos (by omega)]
      rw [hst] at d0
      clear hE hst
      generalize hnL : h.L.length = nL at *
      go_enter Tryd.func46, Tryd.ntmps46
      go_wp2_with (go_at_call 54; refine Calls.mono (isR_any T0.out _) ?_; rintro e w' ⟨rfl, rfl⟩)
      go_ret
      rw [HE.out, HN.out (by rw [HE.out]; decide)]
      exact ⟨rfl, T0.out⟩
    · have HE : Hid (blockE h j = 101) := by
        show blockE h j = 101
        rw [hE, if_pos (by omega)]
      rw [hst] at d0
      clear hE hst
      generalize hnL : h.L.length = nL at *
      go_enter Tryd.func46, Tryd.ntmps46
      go_wp2_with (go_at_call 54; refine Calls.mono (isR_any T0.out _) ?_; rintro e w' ⟨rfl, rfl⟩)
      go_ret
      rw [HE.out, HN.out (by rw [HE.out]; decide)]
      exact ⟨rfl, T0.out⟩
    · have HE : Hid (blockE h j = 0) := by
        show blockE h j = 0
        rw [hE, if_neg (by omega)]
      have HST := hid hst
      rw [hst] at d0
      clear hE hst
      have okj := okay_at IV.out HJ.out
      have T6 := hid (T0.out.set HJ.out (j := 0) (c := .int .i64 3) (y := { thr h j with st := 3 }) (by omega) rfl)
      have hgf := gen_free IV.out HJ.out (by rw [HST.out]; decide) { thr h j with st := 3 } okj.c okj.p
      rw [if_neg (by simp)] at hgf
      rw [← hgf] at T6
      simp only [Nat.add_zero] at T6
      clear hgf okj
      generalize hnL : h.L.length = nL at *
      go_enter Tryd.func46, Tryd.ntmps46
      go_wp2_with (go_at_call 54; refine Calls.mono (isR_any T0.out _) ?_; rintro e w' ⟨rfl, rfl⟩)
      go_ret
      rw [HE.out, HH.out HE.out]
      exact ⟨rfl, T6.out⟩
    · have HE : Hid (blockE h j = 101) := by
        show blockE h j = 101
        rw [hE, if_pos (by omega)]
      rw [hst] at d0
      clear hE hst
      generalize hnL : h.L.length = nL at *
      go_enter Tryd.func46, Tryd.ntmps46
      go_wp2_with (go_at_call 54; refine Calls.mono (isR_any T0.out _) ?_; rintro e w' ⟨rfl, rfl⟩)
      go_ret
      rw [HE.out, HN.out (by rw [HE.out]; decide)]
      exact ⟨rfl, T0.out⟩
  · have hin : inB i (h.L.length : Int) = false := inB_no hT
    have HE : Hid (blockE h i = 100 ∧ blockH h i = h) := by
      have e : blockE h i = 100 := by unfold blockE; rw [if_neg hT]
      exact ⟨e, by unfold blockH; rw [e, if_neg (by decide)]⟩
    clear t hg hT iv
    go_enter Tryd.func46, Tryd.ntmps46
    go_wp2_with (go_at_call 54; refine Calls.mono (isR_any T0.out _) ?_; rintro e w' ⟨rfl, rfl⟩)
    go_ret
    rw [HE.out.1, HE.out.2]
    exact ⟨rfl, T0.out⟩
end
end Go.Proofs.YtchamgecalfmpaaDoor
