/-
  What the document's Reg, Prio, Core, Make, Get, Runs and Line answer and leave: the same as the program's; no condition but that all is right ahead.
-/
import Derived.Test.YtchamgecalfmpaaDoorHRMeth
import Derived.Test.YtchamgecalfmpaaDoorHGet
namespace Go.Proofs.YtchamgecalfmpaaDoor
open Go.RowKit Go.Deep Go.Shelf

section
variable {w0 w : World} {F : Nat → Prop} {p : Nat} {v u : Value} {qs : List Nat} {h : Hs}
set_option maxHeartbeats 2000000 in
theorem rreg_at (t : At qkR w0 F p v u qs h w) (iv : Inv h) (i k0 z : Int) :
    Calls Tryd.prog 43 #[ptr p, .int .i64 i, .int .i64 k0, .int .u64 z] w fun e w' => e = .returned (.int .i64 (regE h i k0)) ∧ At qkR w0 F p v u qs (regH h i k0 z) w' := by
  have IV := hid iv
  have T0 := hid t
  obtain ⟨ao, cap, rfl, hg⟩ := t.slice
  have HN : Hid (regE h i k0 ≠ 0 → regH h i k0 z = h) := fun e => by
    unfold regH
    rw [if_neg e]
  have HP : Hid (regE h i k0 = 0 → regH h i k0 z = setH h i.toNat { thr h i.toNat with g := (thr h i.toNat).g.set k0.toNat z }) := fun e => by
    unfold regH
    rw [if_pos e]
  by_cases hT : isT h i
  · have hin : inB i (h.L.length : Int) = true := inB_yes hT
    by_cases hp : 0 ≤ k0 ∧ k0 < 8
    · have HE : Hid (regE h i k0 = 0) := by
        show regE h i k0 = 0
        unfold regE
        rw [if_pos hT, if_pos hp]
      obtain ⟨j, rfl⟩ := Int.eq_ofNat_of_zero_le hT.1
      obtain ⟨k, rfl⟩ := Int.eq_ofNat_of_zero_le hp.1
      rw [Int.toNat_natCast, Int.toNat_natCast] at HP
      have hj : j < h.L.length := by have := hT.2; omega
      have hk : k < 8 := by omega
      have HJ := hid (And.intro hj hk)
      obtain ⟨g, rfl⟩ := hg j hj
      have hjz : (j : Int) < (h.L.length : Int) := by omega
      have hb : inB (k : Int) 8 = true := inB_yes hp
      clear t hg iv hT hp hj HN
      have c0 := T0.out.cell0
      have d0 := T0.out.cellT HJ.out.1 (rg_at (thr h j) HJ.out.2)
      have f0 := T0.out.frozenT (j * 12 + (4 + k))
      have T4 : Hid (At qkR w0 F p _ _ qs (setH h j { thr h j with g := (thr h j).g.set k z }) _) := T0.out.set HJ.out.1 (j := 4 + k) (c := .int .u64 z) (y := { thr h j with g := (thr h j).g.set k z }) (by have := HJ.out.2; omega) (cT_reg (thr h j) (okay_at IV.out HJ.out.1).g HJ.out.2 z)
      have hkz : (k : Int) < 8 := by omega
      have hkz2 : ¬ ((7 : Int) < (k : Int)) := by omega
      have hkz3 : ¬ ((k : Int) < 0) := by omega
      clear hk
      generalize rg (thr h j) k = old at *
      rw [← Nat.add_assoc] at d0 f0 T4
      generalize hnL : h.L.length = nL at *
      go_enter Tryd.func43, Tryd.ntmps43
      go_wp2_with (go_at_call 54; refine Calls.mono (isR_any T0.out _) ?_; rintro e w' ⟨rfl, rfl⟩)
      go_ret
      rw [HE.out, HP.out HE.out]
      exact ⟨rfl, T4.out⟩
    · have HE : Hid (regE h i k0 = 1) := by
        show regE h i k0 = 1
        unfold regE
        rw [if_pos hT, if_neg hp]
      clear t hg iv hT HP
      by_cases hneg : k0 < 0
      · clear hp
        go_enter Tryd.func43, Tryd.ntmps43
        go_wp2_with (go_at_call 54; refine Calls.mono (isR_any T0.out _) ?_; rintro e w' ⟨rfl, rfl⟩)
        go_ret
        rw [HE.out, HN.out (by rw [HE.out]; decide)]
        exact ⟨rfl, T0.out⟩
      · have h7 : (7 : Int) < k0 := by omega
        clear hp
        go_enter Tryd.func43, Tryd.ntmps43
        go_wp2_with (go_at_call 54; refine Calls.mono (isR_any T0.out _) ?_; rintro e w' ⟨rfl, rfl⟩)
        go_ret
        rw [HE.out, HN.out (by rw [HE.out]; decide)]
        exact ⟨rfl, T0.out⟩
  · have hin : inB i (h.L.length : Int) = false := inB_no hT
    have HE : Hid (regE h i k0 = 100) := by
      show regE h i k0 = 100
      unfold regE
      rw [if_neg hT]
    clear t hg iv hT HP
    go_enter Tryd.func43, Tryd.ntmps43
    go_wp2_with (go_at_call 54; refine Calls.mono (isR_any T0.out _) ?_; rintro e w' ⟨rfl, rfl⟩)
    go_ret
    rw [HE.out, HN.out (by rw [HE.out]; decide)]
    exact ⟨rfl, T0.out⟩
set_option maxHeartbeats 2000000 in
theorem rprio_at (t : At qkR w0 F p v u qs h w) (iv : Inv h) (i k0 : Int) :
    Calls Tryd.prog 48 #[ptr p, .int .i64 i, .int .i64 k0] w fun e w' => e = .returned (.int .i64 (prioE h i k0)) ∧ At qkR w0 F p v u qs (prioH h i k0) w' := by
  have IV := hid iv
  have T0 := hid t
  obtain ⟨ao, cap, rfl, hg⟩ := t.slice
  have HN : Hid (prioE h i k0 ≠ 0 → prioH h i k0 = h) := fun e => by
    unfold prioH
    rw [if_neg e]
  have HP : Hid (prioE h i k0 = 0 → prioH h i k0 = genH h i.toNat { thr h i.toNat with p := k0.toNat }) := fun e => by
    unfold prioH
    rw [if_pos e]
  by_cases hT : isT h i
  · have hin : inB i (h.L.length : Int) = true := inB_yes hT
    by_cases hp : 0 ≤ k0 ∧ k0 < 256
    · have HE : Hid (prioE h i k0 = 0) := by
        show prioE h i k0 = 0
        unfold prioE
        rw [if_pos hT, if_pos hp]
      obtain ⟨j, rfl⟩ := Int.eq_ofNat_of_zero_le hT.1
      obtain ⟨k, rfl⟩ := Int.eq_ofNat_of_zero_le hp.1
      rw [Int.toNat_natCast, Int.toNat_natCast] at HP
      have hj : j < h.L.length := by have := hT.2; omega
      have hk : k < 256 := by omega
      have HJ := hid (And.intro hj hk)
      obtain ⟨g, rfl⟩ := hg j hj
      have hjz : (j : Int) < (h.L.length : Int) := by omega
      have hb : inB (k : Int) 256 = true := inB_yes hp
      clear t hg iv hT hp hj HN
      go_enter Tryd.func48, Tryd.ntmps48
      go_wp2_with (first | (go_at_call 54; refine Calls.mono (isR_any T0.out _) ?_; rintro e w' ⟨rfl, rfl⟩) | (go_at_call 72; refine Calls.mono (prioR_any _ _) ?_; rintro e w' ⟨rfl, rfl⟩))
      have okj := okay_at IV.out HJ.out.1
      refine Calls.mono (out_at T0.out HJ.out.1 okj.c (Nat.le_trans (IV.out.small okj.c) (by omega)) (by have := IV.out.few; have := HJ.out.1; omega)) ?_
      rintro e w4 ⟨rfl, t4⟩
      have c0 := t4.cell0
      have hl4 : j < (leaveH h j).L.length := HJ.out.1
      obtain ⟨_, d0, _, _⟩ := t4.four hl4
      have f0 := t4.frozenT (j * 12 + 1)
      have t5 := t4.set hl4 (j := 1) (c := .int .i64 k) (y := { thr h j with p := k }) (by omega) rfl
      have T5 : Hid (At qkR w0 F p _ _ qs ⟨h.L.set j { thr h j with p := k }, (leaveH h j).Q⟩ _) := t5
      have c0' := t5.cell0
      have s0 := (t5.four (i := j) (by show j < (h.L.set j _).length; rw [List.length_set]; exact HJ.out.1)).1
      have hth0 : thr ⟨(leaveH h j).L.set j { thr h j with p := k }, (leaveH h j).Q⟩ j = { thr h j with p := k } := thr_set HJ.out.1 _
      rw [hth0] at s0
      simp only at s0
      clear t4 hl4 okj t5 hth0
      generalize (thr (leaveH h j) j).p = old at *
      by_cases hst : (thr h j).st = 1
      · have HS := hid hst
        rw [hst] at s0
        clear hst
        generalize hnL : h.L.length = nL at *
        go_wp2_with fail
        have hj : j < h.L.length := by have := HJ.out.1; omega
        have hj5 : j < (h.L.set j { thr h j with p := k }).length := by rw [List.length_set]; exact hj
        have hth : thr ⟨h.L.set j { thr h j with p := k }, (leaveH h j).Q⟩ j = { thr h j with p := k } := thr_set hj _
        have okj := okay_at IV.out hj
        have hQl : (leaveH h j).Q.length = h.Q.length := List.length_set
        refine Calls.mono (up_at T5.out (i := j) hj5 (by rw [hth]; show _ < (leaveH h j).Q.length; rw [hQl]; exact okj.c) (by rw [hth]; exact Nat.le_trans (leave_len _ okj.c fun d hd => IV.out.small hd) (by omega)) (by have := IV.out.few; omega)) ?_
        rintro e w6 ⟨rfl, t6⟩
        rw [up_gen IV.out hj { thr h j with p := k } okj.c HJ.out.2] at t6
        have T6 := hid t6
        clear t6 okj hQl hth hj5 hj
        go_wp2
        go_ret
        rw [HP.out HE.out, HE.out, hnL]
        have hx : ({ ({ thr h j with p := k } : Td) with st := 1 } : Td) = { thr h j with p := k } := by
          have := HS.out
          show (⟨1, k, _, _, _⟩ : Td) = ⟨(thr h j).st, k, _, _, _⟩
          rw [this]
        have := T6.out
        rw [hx] at this
        exact ⟨rfl, this⟩
      · have HS := hid hst
        have hd : ((thr h j).st == 1) = false := by simpa using hst
        clear hst
        generalize hss : (thr h j).st = st at *
        generalize hnL : h.L.length = nL at *
        go_wp2
        go_ret
        rw [HP.out HE.out, HE.out, hnL]
        have := T5.out
        have e1 := out_gen (h := h) (i := j) { thr h j with p := k } (by simp only; rw [hss]; exact HS.out)
        rw [← hss]
        exact ⟨rfl, e1 ▸ this⟩
    · have HE : Hid (prioE h i k0 = 1) := by
        show prioE h i k0 = 1
        unfold prioE
        rw [if_pos hT, if_neg hp]
      clear t hg iv hT HP
      have hb : inB k0 256 = false := inB_no hp
      go_enter Tryd.func48, Tryd.ntmps48
      go_wp2_with (first | (go_at_call 54; refine Calls.mono (isR_any T0.out _) ?_; rintro e w' ⟨rfl, rfl⟩) | (go_at_call 72; refine Calls.mono (prioR_any _ _) ?_; rintro e w' ⟨rfl, rfl⟩))
      go_ret
      rw [HE.out, HN.out (by rw [HE.out]; decide)]
      exact ⟨rfl, T0.out⟩
  · have hin : inB i (h.L.length : Int) = false := inB_no hT
    have HE : Hid (prioE h i k0 = 100) := by
      show prioE h i k0 = 100
      unfold prioE
      rw [if_neg hT]
    clear t hg iv hT HP
    go_enter Tryd.func48, Tryd.ntmps48
    go_wp2_with (go_at_call 54; refine Calls.mono (isR_any T0.out _) ?_; rintro e w' ⟨rfl, rfl⟩)
    go_ret
    rw [HE.out, HN.out (by rw [HE.out]; decide)]
    exact ⟨rfl, T0.out⟩
end
end Go.Proofs.YtchamgecalfmpaaDoor
