/-
  What the document's Get, Runs and Line answer: the same as the program's; no condition but that all is right.
-/
import Derived.Test.YtchamgecalfmpaaDoorHRMeth
import Derived.Test.YtchamgecalfmpaaDoorHGet
namespace Go.Proofs.YtchamgecalfmpaaDoor
open Go.RowKit Go.Deep Go.Shelf

section
variable {w0 w : World} {F : Nat → Prop} {p : Nat} {v u : Value} {qs : List Nat} {h : Hs}
set_option maxHeartbeats 2000000 in
theorem rruns_any (t : At qkR w0 F p v u qs h w) (_hl : h.L.length ≤ 1000) (c : Int) :
    Calls Tryd.prog 19 #[ptr p, .int .i64 c] w fun e w' => e = .returned (.tuple #[.int .i64 (runsN h c), .bool (runsB h c)]) ∧ w' = w := by
  obtain ⟨ao, cap, rfl, hg⟩ := t.slice
  have T0 := hid t
  have HG := hid hg
  have c0 := t.cell0
  clear t hg
  generalize hnL : h.L.length = nL at *
  have HNL := hid hnL
  clear hnL
  go_enter Tryd.func19, Tryd.ntmps19
  go_wp2
  go_loop [6] (fun s6 => ∃ k : Nat, k ≤ nL ∧ s6 = .int .i64 k ∧ Hid (∀ j x, j < k → h.L[j]? = some x → (x.st == 2 && (x.c : Int) == c) = false)) (fun s6 => nL - (intOf s6).toNat)
  case atStart => exact ⟨0, Nat.zero_le _, rfl, fun j x hj => by omega⟩
  case round =>
    obtain ⟨k, hk, rfl, HJ⟩ := hrel
    by_cases hlt : k < nL
    · obtain ⟨g, rfl⟩ := HG.out k hlt
      have hkl : k < h.L.length := by rw [HNL.out]; exact hlt
      obtain ⟨d0, _, d2, _⟩ := T0.out.four hkl
      have HX := hid (thr_at hkl)
      have hltz : (k : Int) < (nL : Int) := by omega
      generalize thr h k = x at *
      clear hkl
      by_cases h1 : x.st = 2
      · by_cases h2 : (x.c : Int) = c
        · have HR : Hid (runsO h c = some k) := by
            show runsO h c = some k
            unfold runsO
            rw [List.findIdx?_eq_some_iff_getElem]
            obtain ⟨hk2, e⟩ := List.getElem?_eq_some_iff.1 HX.out
            refine ⟨hk2, by rw [e, h1, h2]; simp, fun j hj => ?_⟩
            have := HJ.out j _ hj (List.getElem?_eq_getElem (by omega))
            simpa using this
          rw [h1] at d0
          subst h2
          clear h1
          go_wp2
          go_ret2
          obtain ⟨r1, r2⟩ := runsN_some HR.out
          rw [r1, r2]
          exact ⟨rfl, rfl⟩
        · have e2 : ((x.c : Int) == c) = false := by simpa using h2
          have HF : Hid ((x.st == 2 && (x.c : Int) == c) = false) := by
            show (x.st == 2 && (x.c : Int) == c) = false
            rw [e2, Bool.and_false]
          rw [h1] at d0
          clear h1 h2
          go_wp2
          go_round
          case rel => exact ⟨k + 1, by omega, by go_num, fun j y hj hy => by
            by_cases e : j = k
            · subst e
              rw [HX.out] at hy
              cases hy
              exact HF.out
            · exact HJ.out j y (by omega) hy⟩
          case measure => simp [intOf]; omega
      · have e1 : (x.st == 2) = false := by simpa using h1
        have HF : Hid ((x.st == 2 && (x.c : Int) == c) = false) := by
          show (x.st == 2 && (x.c : Int) == c) = false
          rw [e1, Bool.false_and]
        clear h1
        go_wp2
        go_round
        case rel => exact ⟨k + 1, by omega, by go_num, fun j y hj hy => by
          by_cases e : j = k
          · subst e
            rw [HX.out] at hy
            cases hy
            exact HF.out
          · exact HJ.out j y (by omega) hy⟩
        case measure => simp [intOf]; omega
    · obtain rfl : k = nL := by omega
      have HR : Hid (runsO h c = none) := by
        show runsO h c = none
        unfold runsO
        rw [List.findIdx?_eq_none_iff]
        intro x hx
        obtain ⟨j, hj, e⟩ := List.mem_iff_getElem.1 hx
        exact HJ.out j x (by rw [← HNL.out]; exact hj) (by rw [List.getElem?_eq_getElem hj, e])
      go_wp2
      go_ret2
      obtain ⟨r1, r2⟩ := runsN_none HR.out
      rw [r1, r2]
      exact ⟨rfl, rfl⟩
set_option maxHeartbeats 1000000 in
theorem rlines_any (t : At qkR w0 F p v u qs h w) (iv : Inv h) (c pr : Int) :
    Calls Tryd.prog 22 #[ptr p, .int .i64 c, .int .i64 pr] w fun e w' => ∃ x, e = .returned x ∧ RowI w' x (lineH h c pr) ∧ Below w.heap.size w w' ∧ (∀ k, x.ownBlock = some k → w.heap.size ≤ k) := by
  have IV := hid iv
  have T0 := hid t
  obtain ⟨gq, capq, rfl⟩ := t.pslice iv.lo
  have c1 := t.cell1
  rcases isC_cases h c with ⟨j, rfl, hj, hC, hjn⟩ | hC
  · have cq := t.cellP hj
    have hin : inB (j : Int) (h.Q.length : Int) = true := inB_yes hC
    obtain ⟨a, hq, _⟩ := t.qu hj
    have HL := hid (rline_any _ a _ pr w hq (Nat.le_trans (iv.small hj) (by omega)))
    have hlh : lineH h j pr = lineI (que h j) pr := by unfold lineH; rw [if_pos hC, Int.toNat_natCast]
    have hjz : (j : Int) < (h.Q.length : Int) := by omega
    rw [hlh]
    clear t hq hC hlh hjn iv hj
    generalize qs.getD j 0 = q at *
    go_enter Tryd.func22, Tryd.ntmps22
    go_wp2_with (first | (go_at_call 58; refine Calls.mono (coreR_any T0.out IV.out.lo _) ?_; rintro e w' ⟨rfl, rfl⟩) | (go_at_call 59; refine Calls.mono HL.out ?_; rintro e w2 ⟨x, rfl, s2⟩))
    go_ret
    exact ⟨_, rfl, s2.head, s2.low, fun k hk => (s2.each (lstI x (lineI (que h j) pr)) (by simp)).2 k hk⟩
  · have hin : inB c (h.Q.length : Int) = false := inB_no hC
    have hlh : lineH h c pr = [] := by unfold lineH; rw [if_neg hC]
    rw [hlh]
    clear t hC hlh iv
    go_enter Tryd.func22, Tryd.ntmps22
    go_wp2_with (go_at_call 58; refine Calls.mono (coreR_any T0.out IV.out.lo _) ?_; rintro e w' ⟨rfl, rfl⟩)
    go_ret
    exact ⟨_, rfl, rowI_nil _, Below.refl _ _, fun k hk => by simp [Value.ownBlock] at hk⟩
set_option maxHeartbeats 4000000 in
theorem rget_any (t : At qkR w0 F p v u qs h w) (i : Int) :
    Calls Tryd.prog 17 #[ptr p, .int .i64 i] w fun e w' => e = .returned (.tuple #[encT (getT h i), .int .i64 (getE h i)]) ∧ Below w.heap.size w w' := by
  obtain ⟨ao, cap, rfl, hg⟩ := t.slice
  have B0 := hid (below_new w (objT td0))
  have Z0 := hid (blk_alloc_new w (objT td0))
  have T0 := hid (t.below B0.out)
  have HG := hid hg
  clear t hg
  have hobj : objT td0 = .cells #[.int .i64 0, .int .i64 0, .int .i64 0, .int .i64 0, .int .u64 0, .int .u64 0, .int .u64 0, .int .u64 0, .int .u64 0, .int .u64 0, .int .u64 0, .int .u64 0] 46 := rfl
  rcases isT_cases h i with ⟨j, rfl, hj, hT, hjn⟩ | hT
  · have HJ := hid hj
    have hin := inB_yes hT
    have HR : Hid (getT h j = thr h j ∧ getE h j = 0) := ⟨by unfold getT; rw [if_pos hT, Int.toNat_natCast], by unfold getE; rw [if_pos hT]⟩
    clear hj hT hjn
    rw [hobj] at B0 Z0 T0
    go_enter Tryd.func17, Tryd.ntmps17
    go_wp2_with fail
    refine Calls.mono (isR_any T0.out j) ?_
    rintro e w2 ⟨rfl, e2⟩
    rw [hin]
    have Z2 : Hid (w2.heap[w.heap.size]? = some (objT td0)) := by rw [e2]; exact Z0.out
    have B2 : Hid (Below w.heap.size w w2) := by rw [e2]; exact B0.out
    have T3 : Hid (At qkR w0 F p (.slice ao h.L.length cap) u qs h w2) := by rw [e2]; exact T0.out
    clear e2 T0 B0 Z0
    obtain ⟨g, rfl⟩ := HG.out j HJ.out
    have c0 := T3.out.cell0
    obtain ⟨d0, d1, d2, d3, d4, d5, d6, d7, d8, d9, d10, d11⟩ := (T3.out.all HJ.out).cells
    have z12 := Z2.out
    obtain ⟨z0, z1, z2, z3, z4, z5, z6, z7, z8, z9, z10, z11⟩ := (at12_of z12).cells
    have zf := frozen12 z12
    have HK := hid (put12_below B2.out (Nat.le_refl _) B2.out.size 0 (thr h j))
    have hjz : (j : Int) < (h.L.length : Int) := by have := HJ.out; omega
    clear T3 Z2 z12 hobj HG HJ B2 hin
    unfold put12 at HK
    simp only [Nat.zero_add] at *
    generalize thr h j = x at *
    generalize hnL : h.L.length = nL at *
    generalize hr : w.heap.size = r at *
    go_wp2
    refine bodyPost_ret (v := .tuple #[encT x, .int .i64 0]) ?_ rfl ⟨by rw [HR.out.1, HR.out.2], by rw [hr]; exact HK.out⟩
    simp [results, Tryd.f17, go_sem, encT, z0, z1, z2, z3, z4, z5, z6, z7, z8, z9, z10, z11]
  · have hin : inB i (h.L.length : Int) = false := inB_no hT
    have HR1 : Hid (encT (getT h i) = .agg #[.int .i64 0, .int .i64 0, .int .i64 0, .int .i64 0, .int .u64 0, .int .u64 0, .int .u64 0, .int .u64 0, .int .u64 0, .int .u64 0, .int .u64 0, .int .u64 0] ∧ getE h i = 100) := ⟨by unfold getT; rw [if_neg hT]; rfl, by unfold getE; rw [if_neg hT]⟩
    clear hT
    rw [hobj] at B0 Z0 T0
    go_enter Tryd.func17, Tryd.ntmps17
    go_wp2_with fail
    refine Calls.mono (isR_any T0.out i) ?_
    rintro e w2 ⟨rfl, e2⟩
    rw [hin]
    have Z2 : Hid (w2.heap[w.heap.size]? = some (objT td0)) := by rw [e2]; exact Z0.out
    have B2 : Hid (Below w.heap.size w w2) := by rw [e2]; exact B0.out
    clear e2 T0 B0 Z0
    have z12 := Z2.out
    obtain ⟨z0, z1, z2, z3, z4, z5, z6, z7, z8, z9, z10, z11⟩ := (at12_of z12).cells
    have zf := frozen12 z12
    have HK := hid (put12_below B2.out (Nat.le_refl _) B2.out.size 0 td0)
    clear Z2 z12 hobj HG B2 hin
    have hrg : ∀ k, rg td0 k = 0 := fun k => by
      unfold rg td0
      simp only [List.getD_eq_getElem?_getD, List.getElem?_replicate]
      split <;> rfl
    unfold put12 at HK
    simp only [Nat.zero_add, hrg] at HK z0 z1 z2 z3 z4 z5 z6 z7 z8 z9 z10 z11
    simp only [td0] at HK z0 z1 z2 z3 z4 z5 z6 z7 z8 z9 z10 z11
    generalize hr : w.heap.size = r at *
    go_wp2
    refine bodyPost_ret (v := .tuple #[.agg #[.int .i64 0, .int .i64 0, .int .i64 0, .int .i64 0, .int .u64 0, .int .u64 0, .int .u64 0, .int .u64 0, .int .u64 0, .int .u64 0, .int .u64 0, .int .u64 0], .int .i64 100]) ?_ rfl ⟨by rw [HR1.out.1, HR1.out.2], by rw [hr]; exact HK.out⟩
    simp [results, Tryd.f17, go_sem, z0, z1, z2, z3, z4, z5, z6, z7, z8, z9, z10, z11]
end
end Go.Proofs.YtchamgecalfmpaaDoor
