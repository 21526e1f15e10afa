/-
  What Resume, Suspend and Block of package threads answer and leave; no condition but that all is right ahead.
-/
import Derived.Test.YtchamgecalfmpaaDoorHPure
namespace Go.Proofs.YtchamgecalfmpaaDoor
open Go.RowKit Go.Deep Go.Shelf

section
variable {w0 w : World} {F : Nat → Prop} {p : Nat} {v u : Value} {qs : List Nat} {h : Hs}
theorem isT_cases (h : Hs) (i : Int) : (∃ j : Nat, i = j ∧ j < h.L.length ∧ isT h i ∧ i.toNat = j) ∨ ¬ isT h i := by
  by_cases ht : isT h i
  · obtain ⟨h1, h2⟩ := isT_nat ht
    exact .inl ⟨i.toNat, h2.symm, h1, ht, rfl⟩
  · exact .inr ht
set_option maxHeartbeats 2000000 in
theorem resume_at (t : At qkP w0 F p v u qs h w) (iv : Inv h) (i : Int) :
    Calls Tryd.prog 25 #[ptr p, .int .i64 i] w fun e w' => e = .returned (.int .i64 (resumeE h i)) ∧ At qkP w0 F p v u qs (resumeH h i) w' := by
  have hmf : ∀ (fn : Fn) (first cap : Array Value) (w : World), (Instr.makeFunc fn first cap).run Tryd.prog w = .ok (.func fn first cap) w := fun _ _ _ _ => rfl
  have IV := hid iv
  obtain ⟨ao, cap, rfl, hg⟩ := t.slice
  rcases isT_cases h i with ⟨j, rfl, hj, hT, hjn⟩ | hT
  · have T0 := hid t
    obtain ⟨g, rfl⟩ := hg j hj
    have HJ := hid hj
    have hE0 : inE (j : Int) (h.L.length : Int) 100 = 0 := inE_yes (by omega)
    have HR : Hid (resumeE h j = unE (List.contains [0, 3] (thr h j).st) 101 ∧ (unE (List.contains [0, 3] (thr h j).st) 101 ≠ 0 → resumeH h j = h)) := by
      have hs := (okay_at iv hj).s
      have hE : resumeE h j = unE (List.contains [0, 3] (thr h j).st) 101 := by
        unfold resumeE
        rw [if_pos hT, Int.toNat_natCast]
        generalize (thr h j).st = s at *
        have : s = 0 ∨ s = 1 ∨ s = 2 ∨ s = 3 := by omega
        rcases this with rfl | rfl | rfl | rfl <;> rfl
      refine ⟨hE, fun hne => ?_⟩
      unfold resumeH
      rw [hE, if_neg hne]
    clear t hg hj
    go_enter Tryd.func25, Tryd.ntmps25
    go_wp2_with fail
    refine Calls.mono (there_any p j _ _ _ w T0.out.var0) ?_
    rintro e w1 ⟨c1, rfl, k1, b1⟩
    obtain ⟨g1, l1, rfl⟩ := k1.form
    have T1 := hid (T0.out.below b1)
    have B2 := hid (below_new w1 (.cells #[.int .i64 0, .int .i64 3] 3))
    have K1 := hid (k1.below B2.out)
    have C2 := hid (blk_alloc_new w1 (.cells #[.int .i64 0, .int .i64 3] 3))
    clear k1 b1
    go_wp2_with fail
    have T2 := hid (T1.out.below B2.out)
    refine Calls.mono (among_any p g cap h.L.length w1.heap.size j (thr h j).st [0, 3] _ T2.out.var0 HJ.out T2.out.ltT (by simp) (T2.out.four HJ.out).1 (fun k x hx => ?_) (by simp)) ?_
    · simp only [World.cell?, C2.out]
      match k, hx with
      | 0, hx => exact congrArg (fun z => some (Value.int .i64 z)) (Option.some.inj hx)
      | 1, hx => exact congrArg (fun z => some (Value.int .i64 z)) (Option.some.inj hx)
      | k + 2, hx => simp at hx
    rintro e w3 ⟨c2, rfl, k2, b3⟩
    obtain ⟨g2, l2, rfl⟩ := k2.form
    have T3 := hid (T2.out.below b3)
    have K1' := hid (K1.out.below b3)
    have K2 := hid k2
    clear k2 b3
    go_wp2_with fail
    refine Calls.mono (first2 w3 _ _ _ _ K1'.out fun _ => K2.out) ?_
    rintro e w4 ⟨rfl, b4⟩
    have T4 := hid (T3.out.below b4)
    clear b4
    rw [hE0]
    clear K1 K1' K2 C2 B2 T1 T2 T3 T0 hE0
    cases hst : List.contains [0, 3] (thr h j).st with
    | false =>
      rw [hst] at HR
      have hF : firstE [0, unE false 101] = 101 := rfl
      rw [hF]
      go_wp2
      go_ret
      obtain ⟨r1, r2⟩ := HR.out
      exact ⟨ret_int (by rw [r1]; rfl), by rw [r2 (by decide)]; exact T4.out⟩
    | true =>
      have HS := hid hst
      rw [hst] at HR
      clear hst
      have hF : firstE [0, unE true 101] = 0 := rfl
      rw [hF]
      have HE : Hid (resumeE h j = 0) := HR.out.1
      go_wp2_with fail
      have okj := okay_at IV.out HJ.out
      have hne : (thr h j).st ≠ 1 := fun e => by
        have := HS.out
        rw [e] at this
        cases this
      have hG : resumeH h j = lineH' h j := by
        rw [line_gen IV.out HJ.out hne]
        unfold resumeH
        rw [HE.out, if_pos rfl]
        rfl
      refine Calls.mono (lineUp_at T4.out HJ.out okj.c (Nat.le_trans (IV.out.small okj.c) (by omega)) (by have := IV.out.few; have := HJ.out; omega)) ?_
      rintro e w5 ⟨rfl, t5⟩
      rw [← hG] at t5
      have T5 := hid t5
      clear t5
      go_wp2
      go_ret
      exact ⟨ret_int HE.out.symm, T5.out⟩
  · have T0 := hid t
    have hE0 : inE i (h.L.length : Int) 100 = 100 := inE_no hT
    have HR : Hid (resumeE h i = 100 ∧ resumeH h i = h) := by
      have : resumeE h i = 100 := by
        unfold resumeE
        rw [if_neg hT]
      exact ⟨this, by unfold resumeH; rw [this, if_neg (by decide)]⟩
    clear t hg hT
    go_enter Tryd.func25, Tryd.ntmps25
    go_wp2_with fail
    refine Calls.mono (there_any p i _ _ _ w T0.out.var0) ?_
    rintro e w1 ⟨c1, rfl, k1, b1⟩
    obtain ⟨g1, l1, rfl⟩ := k1.form
    have T1 := hid (T0.out.below b1)
    have B2 := hid (below_new w1 (.cells #[.int .i64 0, .int .i64 3] 3))
    have K1 := hid (k1.below B2.out)
    clear k1 b1
    go_wp2_with fail
    refine Calls.mono (among_raw p i _ _ _ _) ?_
    rintro e w3 ⟨g2, l2, rfl, b3⟩
    have T3 := hid ((T1.out.below B2.out).below b3)
    have K1' := hid (K1.out.below b3)
    clear b3
    go_wp2_with fail
    refine Calls.mono (first2 w3 _ _ _ 0 K1'.out fun e => by rw [hE0] at e; cases e) ?_
    rintro e w4 ⟨rfl, b4⟩
    have T4 := hid (T3.out.below b4)
    clear b4
    rw [hE0]
    have hF : firstE [100, 0] = 100 := rfl
    rw [hF]
    clear K1 K1' B2 T1 T3 T0 hE0
    go_wp2
    go_ret
    obtain ⟨r1, r2⟩ := HR.out
    exact ⟨ret_int r1.symm, by rw [r2]; exact T4.out⟩
set_option maxHeartbeats 2000000 in
theorem suspend_at (t : At qkP w0 F p v u qs h w) (iv : Inv h) (i : Int) :
    Calls Tryd.prog 12 #[ptr p, .int .i64 i] w fun e w' => e = .returned (.int .i64 (suspendE h i)) ∧ At qkP w0 F p v u qs (suspendH h i) w' := by
  have hmf : ∀ (fn : Fn) (first cap : Array Value) (w : World), (Instr.makeFunc fn first cap).run Tryd.prog w = .ok (.func fn first cap) w := fun _ _ _ _ => rfl
  have IV := hid iv
  obtain ⟨ao, cap, rfl, hg⟩ := t.slice
  rcases isT_cases h i with ⟨j, rfl, hj, hT, hjn⟩ | hT
  · have T0 := hid t
    obtain ⟨g, rfl⟩ := hg j hj
    have HJ := hid hj
    have hE0 : inE (j : Int) (h.L.length : Int) 100 = 0 := inE_yes (by omega)
    have HR : Hid (suspendE h j = unE (List.contains [1, 2, 3] (thr h j).st) 101 ∧ (unE (List.contains [1, 2, 3] (thr h j).st) 101 ≠ 0 → suspendH h j = h)) := by
      have hs := (okay_at iv hj).s
      have hE : suspendE h j = unE (List.contains [1, 2, 3] (thr h j).st) 101 := by
        unfold suspendE
        rw [if_pos hT, Int.toNat_natCast]
        generalize (thr h j).st = s at *
        have : s = 0 ∨ s = 1 ∨ s = 2 ∨ s = 3 := by omega
        rcases this with rfl | rfl | rfl | rfl <;> rfl
      refine ⟨hE, fun hne => ?_⟩
      unfold suspendH
      rw [hE, if_neg hne]
    clear t hg hj
    go_enter Tryd.func12, Tryd.ntmps12
    go_wp2_with fail
    refine Calls.mono (there_any p j _ _ _ w T0.out.var0) ?_
    rintro e w1 ⟨c1, rfl, k1, b1⟩
    obtain ⟨g1, l1, rfl⟩ := k1.form
    have T1 := hid (T0.out.below b1)
    have B2 := hid (below_new w1 (.cells #[.int .i64 1, .int .i64 2, .int .i64 3] 3))
    have K1 := hid (k1.below B2.out)
    have C2 := hid (blk_alloc_new w1 (.cells #[.int .i64 1, .int .i64 2, .int .i64 3] 3))
    clear k1 b1
    go_wp2_with fail
    have T2 := hid (T1.out.below B2.out)
    refine Calls.mono (among_any p g cap h.L.length w1.heap.size j (thr h j).st [1, 2, 3] _ T2.out.var0 HJ.out T2.out.ltT (by simp) (T2.out.four HJ.out).1 (fun k x hx => ?_) (by simp)) ?_
    · simp only [World.cell?, C2.out]
      match k, hx with
      | 0, hx => exact congrArg (fun z => some (Value.int .i64 z)) (Option.some.inj hx)
      | 1, hx => exact congrArg (fun z => some (Value.int .i64 z)) (Option.some.inj hx)
      | 2, hx => exact congrArg (fun z => some (Value.int .i64 z)) (Option.some.inj hx)
      | k + 3, hx => simp at hx
    rintro e w3 ⟨c2, rfl, k2, b3⟩
    obtain ⟨g2, l2, rfl⟩ := k2.form
    have T3 := hid (T2.out.below b3)
    have K1' := hid (K1.out.below b3)
    have K2 := hid k2
    clear k2 b3
    go_wp2_with fail
    refine Calls.mono (first2 w3 _ _ _ _ K1'.out fun _ => K2.out) ?_
    rintro e w4 ⟨rfl, b4⟩
    have T4 := hid (T3.out.below b4)
    clear b4
    rw [hE0]
    clear K1 K1' K2 C2 B2 T1 T2 T3 T0 hE0
    cases hst : List.contains [1, 2, 3] (thr h j).st with
    | false =>
      rw [hst] at HR
      have hF : firstE [0, unE false 101] = 101 := rfl
      rw [hF]
      go_wp2
      go_ret
      obtain ⟨r1, r2⟩ := HR.out
      exact ⟨ret_int (by rw [r1]; rfl), by rw [r2 (by decide)]; exact T4.out⟩
    | true =>
      have HS := hid hst
      rw [hst] at HR
      clear hst
      have hF : firstE [0, unE true 101] = 0 := rfl
      rw [hF]
      have HE : Hid (suspendE h j = 0) := HR.out.1
      go_wp2_with fail
      have okj := okay_at IV.out HJ.out
      refine Calls.mono (leave_at T4.out HJ.out okj.c (Nat.le_trans (IV.out.small okj.c) (by omega)) (by have := IV.out.few; have := HJ.out; omega)) ?_
      rintro e w5 ⟨rfl, t5⟩
      have c0 := t5.cell0
      have hl5 : j < (leaveH h j).L.length := HJ.out
      obtain ⟨d0, _, _, _⟩ := t5.four hl5
      have f0 := t5.frozenT (j * 12)
      have T6 := hid (t5.set hl5 (j := 0) (c := .int .i64 0) (y := { thr h j with st := 0 }) (by omega) rfl)
      have HG : Hid (suspendH h j = ⟨(leaveH h j).L.set j { thr h j with st := 0 }, (leaveH h j).Q⟩) := by
        show suspendH h j = _
        rw [out_gen (h := h) (i := j) { thr h j with st := 0 } (by simp)]
        unfold suspendH
        rw [HE.out, if_pos rfl]
        rfl
      have hjz : (j : Int) < (h.L.length : Int) := by have := HJ.out; omega
      clear t5 okj
      simp only [Nat.add_zero] at T6
      generalize (thr (leaveH h j) j).st = st0 at *
      generalize hn : h.L.length = nL at *
      go_wp2
      go_ret
      exact ⟨ret_int HE.out.symm, by rw [HG.out, hn]; exact T6.out⟩
  · have T0 := hid t
    have hE0 : inE i (h.L.length : Int) 100 = 100 := inE_no hT
    have HR : Hid (suspendE h i = 100 ∧ suspendH h i = h) := by
      have : suspendE h i = 100 := by
        unfold suspendE
        rw [if_neg hT]
      exact ⟨this, by unfold suspendH; rw [this, if_neg (by decide)]⟩
    clear t hg hT
    go_enter Tryd.func12, Tryd.ntmps12
    go_wp2_with fail
    refine Calls.mono (there_any p i _ _ _ w T0.out.var0) ?_
    rintro e w1 ⟨c1, rfl, k1, b1⟩
    obtain ⟨g1, l1, rfl⟩ := k1.form
    have T1 := hid (T0.out.below b1)
    have B2 := hid (below_new w1 (.cells #[.int .i64 1, .int .i64 2, .int .i64 3] 3))
    have K1 := hid (k1.below B2.out)
    clear k1 b1
    go_wp2_with fail
    refine Calls.mono (among_raw p i _ _ _ _) ?_
    rintro e w3 ⟨g2, l2, rfl, b3⟩
    have T3 := hid ((T1.out.below B2.out).below b3)
    have K1' := hid (K1.out.below b3)
    clear b3
    go_wp2_with fail
    refine Calls.mono (first2 w3 _ _ _ 0 K1'.out fun e => by rw [hE0] at e; cases e) ?_
    rintro e w4 ⟨rfl, b4⟩
    have T4 := hid (T3.out.below b4)
    clear b4
    rw [hE0]
    have hF : firstE [100, 0] = 100 := rfl
    rw [hF]
    clear K1 K1' B2 T1 T3 T0 hE0
    go_wp2
    go_ret
    obtain ⟨r1, r2⟩ := HR.out
    exact ⟨ret_int r1.symm, by rw [r2]; exact T4.out⟩
set_option maxHeartbeats 2000000 in
theorem block_at (t : At qkP w0 F p v u qs h w) (iv : Inv h) (i : Int) :
    Calls Tryd.prog 27 #[ptr p, .int .i64 i] w fun e w' => e = .returned (.int .i64 (blockE h i)) ∧ At qkP w0 F p v u qs (blockH h i) w' := by
  have hmf : ∀ (fn : Fn) (first cap : Array Value) (w : World), (Instr.makeFunc fn first cap).run Tryd.prog w = .ok (.func fn first cap) w := fun _ _ _ _ => rfl
  have IV := hid iv
  obtain ⟨ao, cap, rfl, hg⟩ := t.slice
  rcases isT_cases h i with ⟨j, rfl, hj, hT, hjn⟩ | hT
  · have T0 := hid t
    obtain ⟨g, rfl⟩ := hg j hj
    have HJ := hid hj
    have hE0 : inE (j : Int) (h.L.length : Int) 100 = 0 := inE_yes (by omega)
    have HR : Hid (blockE h j = unE (List.contains [2] (thr h j).st) 101 ∧ (unE (List.contains [2] (thr h j).st) 101 ≠ 0 → blockH h j = h)) := by
      have hs := (okay_at iv hj).s
      have hE : blockE h j = unE (List.contains [2] (thr h j).st) 101 := by
        unfold blockE
        rw [if_pos hT, Int.toNat_natCast]
        generalize (thr h j).st = s at *
        have : s = 0 ∨ s = 1 ∨ s = 2 ∨ s = 3 := by omega
        rcases this with rfl | rfl | rfl | rfl <;> rfl
      refine ⟨hE, fun hne => ?_⟩
      unfold blockH
      rw [hE, if_neg hne]
    clear t hg hj
    go_enter Tryd.func27, Tryd.ntmps27
    go_wp2_with fail
    refine Calls.mono (there_any p j _ _ _ w T0.out.var0) ?_
    rintro e w1 ⟨c1, rfl, k1, b1⟩
    obtain ⟨g1, l1, rfl⟩ := k1.form
    have T1 := hid (T0.out.below b1)
    have B2 := hid (below_new w1 (.cells #[.int .i64 2] 3))
    have K1 := hid (k1.below B2.out)
    have C2 := hid (blk_alloc_new w1 (.cells #[.int .i64 2] 3))
    clear k1 b1
    go_wp2_with fail
    have T2 := hid (T1.out.below B2.out)
    refine Calls.mono (among_any p g cap h.L.length w1.heap.size j (thr h j).st [2] _ T2.out.var0 HJ.out T2.out.ltT (by simp) (T2.out.four HJ.out).1 (fun k x hx => ?_) (by simp)) ?_
    · simp only [World.cell?, C2.out]
      match k, hx with
      | 0, hx => exact congrArg (fun z => some (Value.int .i64 z)) (Option.some.inj hx)
      | k + 1, hx => simp at hx
    rintro e w3 ⟨c2, rfl, k2, b3⟩
    obtain ⟨g2, l2, rfl⟩ := k2.form
    have T3 := hid (T2.out.below b3)
    have K1' := hid (K1.out.below b3)
    have K2 := hid k2
    clear k2 b3
    go_wp2_with fail
    refine Calls.mono (first2 w3 _ _ _ _ K1'.out fun _ => K2.out) ?_
    rintro e w4 ⟨rfl, b4⟩
    have T4 := hid (T3.out.below b4)
    clear b4
    rw [hE0]
    clear K1 K1' K2 C2 B2 T1 T2 T3 T0 hE0
    cases hst : List.contains [2] (thr h j).st with
    | false =>
      rw [hst] at HR
      have hF : firstE [0, unE false 101] = 101 := rfl
      rw [hF]
      go_wp2
      go_ret
      obtain ⟨r1, r2⟩ := HR.out
      exact ⟨ret_int (by rw [r1]; rfl), by rw [r2 (by decide)]; exact T4.out⟩
    | true =>
      have HS := hid hst
      rw [hst] at HR
      clear hst
      have hF : firstE [0, unE true 101] = 0 := rfl
      rw [hF]
      have HE : Hid (blockE h j = 0) := HR.out.1
      have t5 := T4.out
      have c0 := t5.cell0
      obtain ⟨d0, _, _, _⟩ := t5.four HJ.out
      have f0 := t5.frozenT (j * 12)
      have T6 := hid (t5.set HJ.out (j := 0) (c := .int .i64 3) (y := { thr h j with st := 3 }) (by omega) rfl)
      have HG : Hid (blockH h j = ⟨h.L.set j { thr h j with st := 3 }, h.Q⟩) := by
        show blockH h j = _
        have hst : (thr h j).st = 2 := by
          have := HS.out
          simpa using this
        have okj := okay_at IV.out HJ.out
        have := gen_free IV.out HJ.out (by omega) { thr h j with st := 3 } okj.c okj.p
        rw [if_neg (by simp)] at this
        rw [← this]
        unfold blockH
        rw [HE.out, if_pos rfl]
        rfl
      have hjz : (j : Int) < (h.L.length : Int) := by have := HJ.out; omega
      clear t5
      simp only [Nat.add_zero] at T6
      generalize (thr h j).st = st0 at *
      generalize hn : h.L.length = nL at *
      go_wp2
      go_ret
      exact ⟨ret_int HE.out.symm, by rw [HG.out, hn]; exact T6.out⟩
  · have T0 := hid t
    have hE0 : inE i (h.L.length : Int) 100 = 100 := inE_no hT
    have HR : Hid (blockE h i = 100 ∧ blockH h i = h) := by
      have : blockE h i = 100 := by
        unfold blockE
        rw [if_neg hT]
      exact ⟨this, by unfold blockH; rw [this, if_neg (by decide)]⟩
    clear t hg hT
    go_enter Tryd.func27, Tryd.ntmps27
    go_wp2_with fail
    refine Calls.mono (there_any p i _ _ _ w T0.out.var0) ?_
    rintro e w1 ⟨c1, rfl, k1, b1⟩
    obtain ⟨g1, l1, rfl⟩ := k1.form
    have T1 := hid (T0.out.below b1)
    have B2 := hid (below_new w1 (.cells #[.int .i64 2] 3))
    have K1 := hid (k1.below B2.out)
    clear k1 b1
    go_wp2_with fail
    refine Calls.mono (among_raw p i _ _ _ _) ?_
    rintro e w3 ⟨g2, l2, rfl, b3⟩
    have T3 := hid ((T1.out.below B2.out).below b3)
    have K1' := hid (K1.out.below b3)
    clear b3
    go_wp2_with fail
    refine Calls.mono (first2 w3 _ _ _ 0 K1'.out fun e => by rw [hE0] at e; cases e) ?_
    rintro e w4 ⟨rfl, b4⟩
    have T4 := hid (T3.out.below b4)
    clear b4
    rw [hE0]
    have hF : firstE [100, 0] = 100 := rfl
    rw [hF]
    clear K1 K1' B2 T1 T3 T0 hE0
    go_wp2
    go_ret
    obtain ⟨r1, r2⟩ := HR.out
    exact ⟨ret_int r1.symm, by rw [r2]; exact T4.out⟩
end
end Go.Proofs.YtchamgecalfmpaaDoor
