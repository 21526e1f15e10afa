/-
  What Check, made, Size and Reset of package untyped answer, for all that is handed in, where the table of sizes lies as the program laid it.
-/
import Derived.Test.YtkelblkegpmlpaaDoorUBase
namespace Go.Proofs.YtkelblkegpmlpaaDoor
open Go.RowKit Go.Deep

theorem chk_far {u : Un} (h : ¬ (0 ≤ u.bits ∧ u.bits ≤ 20)) : chkE u = 1 := by
  unfold chkE
  rw [if_neg]
  exact fun x => h x.1
theorem chk_near {u : Un} (h : 0 ≤ u.bits ∧ u.bits ≤ 20) : chkE u = if u.base % twoI u.bits = 0 ∧ u.base ≤ 1099511627776 ∧ u.used ≤ twoI u.bits then 0 else 1 := by
  unfold chkE okU
  simp only [h, and_self, true_and]
set_option maxHeartbeats 1000000 in
theorem check_any (u : Un) (w : World) (hf : u.Fits) :
    Calls Tryd.prog 15 #[encU u] w fun e w' => e = .returned (.int .i64 (chkE u)) ∧ Below w.heap.size w w' := by
  simp only [encU]
  by_cases hb : 0 ≤ u.bits ∧ u.bits ≤ 20
  · have H : Hid (chkE u = if u.base % twoI u.bits = 0 ∧ u.base ≤ 1099511627776 ∧ u.used ≤ twoI u.bits then 0 else 1) := chk_near hb
    obtain ⟨b0, b1⟩ := hb
    have hp := twoI_20 u.bits b0 b1
    have f1 := hf.base
    have f3 := hf.used
    have m0 : 0 ≤ u.base % twoI u.bits := Int.emod_nonneg _ (by omega)
    clear hf
    generalize chkE u = r at *
    obtain ⟨B, b, U⟩ := u
    simp only at *
    go_enter Tryd.func15, Tryd.ntmps15
    go_wp2_with (go_at_call 20; refine (power_any _ _ (by omega) (by omega)).mono ?_; rintro e w' ⟨rfl, rfl⟩)
    all_goals go_ret
    all_goals exact ⟨ret_int (by rw [H.out]; split <;> first | rfl | omega), below_new _ _⟩
  · have H : Hid (chkE u = 1) := chk_far hb
    obtain ⟨B, b, U⟩ := u
    simp only at *
    go_enter Tryd.func15, Tryd.ntmps15
    go_wp2
    all_goals go_ret
    all_goals exact ⟨ret_int H.out.symm, below_new _ _⟩
theorem made_any (k : Int) (w : World) (h : Tab w) :
    Calls Tryd.prog 22 #[.int .i64 k] w fun e w' => e = .returned (.bool (decide (1 ≤ k ∧ k ≤ 8))) ∧ w' = w := by
  by_cases hk : 0 ≤ k ∧ k ≤ 9
  · have : k = 0 ∨ k = 1 ∨ k = 2 ∨ k = 3 ∨ k = 4 ∨ k = 5 ∨ k = 6 ∨ k = 7 ∨ k = 8 ∨ k = 9 := by omega
    have q := eq_ext
    rcases this with rfl | rfl | rfl | rfl | rfl | rfl | rfl | rfl | rfl | rfl
    · have c0 := h.cell 0 (by decide)
      have c1 := h.cell 1 (by decide)
      have c2 := h.cell 2 (by decide)
      simp [tabL] at c0 c1 c2
      clear h hk
      go_enter Tryd.func22, Tryd.ntmps22
      go_wp2
      all_goals go_ret
      all_goals exact ⟨rfl, rfl⟩
    · have c0 := h.cell 3 (by decide)
      have c1 := h.cell 4 (by decide)
      have c2 := h.cell 5 (by decide)
      simp [tabL] at c0 c1 c2
      clear h hk
      go_enter Tryd.func22, Tryd.ntmps22
      go_wp2
      all_goals go_ret
      all_goals exact ⟨rfl, rfl⟩
    · have c0 := h.cell 6 (by decide)
      have c1 := h.cell 7 (by decide)
      have c2 := h.cell 8 (by decide)
      simp [tabL] at c0 c1 c2
      clear h hk
      go_enter Tryd.func22, Tryd.ntmps22
      go_wp2
      all_goals go_ret
      all_goals exact ⟨rfl, rfl⟩
    · have c0 := h.cell 9 (by decide)
      have c1 := h.cell 10 (by decide)
      have c2 := h.cell 11 (by decide)
      simp [tabL] at c0 c1 c2
      clear h hk
      go_enter Tryd.func22, Tryd.ntmps22
      go_wp2
      all_goals go_ret
      all_goals exact ⟨rfl, rfl⟩
    · have c0 := h.cell 12 (by decide)
      have c1 := h.cell 13 (by decide)
      have c2 := h.cell 14 (by decide)
      simp [tabL] at c0 c1 c2
      clear h hk
      go_enter Tryd.func22, Tryd.ntmps22
      go_wp2
      all_goals go_ret
      all_goals exact ⟨rfl, rfl⟩
    · have c0 := h.cell 15 (by decide)
      have c1 := h.cell 16 (by decide)
      have c2 := h.cell 17 (by decide)
      simp [tabL] at c0 c1 c2
      clear h hk
      go_enter Tryd.func22, Tryd.ntmps22
      go_wp2
      all_goals go_ret
      all_goals exact ⟨rfl, rfl⟩
    · have c0 := h.cell 18 (by decide)
      have c1 := h.cell 19 (by decide)
      have c2 := h.cell 20 (by decide)
      simp [tabL] at c0 c1 c2
      clear h hk
      go_enter Tryd.func22, Tryd.ntmps22
      go_wp2
      all_goals go_ret
      all_goals exact ⟨rfl, rfl⟩
    · have c0 := h.cell 21 (by decide)
      have c1 := h.cell 22 (by decide)
      have c2 := h.cell 23 (by decide)
      simp [tabL] at c0 c1 c2
      clear h hk
      go_enter Tryd.func22, Tryd.ntmps22
      go_wp2
      all_goals go_ret
      all_goals exact ⟨rfl, rfl⟩
    · have c0 := h.cell 24 (by decide)
      have c1 := h.cell 25 (by decide)
      have c2 := h.cell 26 (by decide)
      simp [tabL] at c0 c1 c2
      clear h hk
      go_enter Tryd.func22, Tryd.ntmps22
      go_wp2
      all_goals go_ret
      all_goals exact ⟨rfl, rfl⟩
    · have c0 := h.cell 27 (by decide)
      have c1 := h.cell 28 (by decide)
      have c2 := h.cell 29 (by decide)
      simp [tabL] at c0 c1 c2
      clear h hk
      go_enter Tryd.func22, Tryd.ntmps22
      go_wp2
      all_goals go_ret
      all_goals exact ⟨rfl, rfl⟩
  · go_enter Tryd.func22, Tryd.ntmps22
    go_wp2
    all_goals go_ret
    all_goals exact ⟨ret_bool (by simp only [Bool.false_eq_true, Bool.and_eq_true, decide_eq_true_eq, false_iff]; omega), rfl⟩
theorem reset_any (u : Un) (w : World) :
    Calls Tryd.prog 17 #[encU u] w fun e w' => e = .returned (encU ⟨u.base, u.bits, 0⟩) ∧ Below w.heap.size w w' := by
  obtain ⟨B, b, U⟩ := u
  simp only [encU]
  go_enter Tryd.func17, Tryd.ntmps17
  go_wp2
  refine bodyPost_ret (v := encU ⟨B, b, 0⟩) ?_ rfl ⟨rfl, two_new _ _ _⟩
  simp [results, Tryd.f17, go_sem, encU]
/-- The program's way to say sizes. -/
theorem sz_no {k b : Int} (h : ¬ (1 ≤ k ∧ k ≤ 8)) : szE k b = 80 ∧ szN k b = 0 := by
  have e : szE k b = 80 := by
    unfold szE
    rw [if_neg (by omega), if_neg (by omega), if_neg (by omega)]
  exact ⟨e, szN_no (by omega)⟩
set_option maxHeartbeats 1000000 in
theorem size_any (k b : Int) (w : World) (h : Tab w) (hb : -9223372036854775808 ≤ b ∧ b ≤ 9223372036854775807) :
    Calls Tryd.prog 11 #[.int .i64 k, .int .i64 b] w fun e w' => e = .returned (.tuple #[.int .i64 (szN k b), .int .i64 (szE k b)]) ∧ Below w.heap.size w w' := by
  have HT : Hid (Tab w) := h
  by_cases hk : 1 ≤ k ∧ k ≤ 8
  · have : k = 1 ∨ k = 2 ∨ k = 3 ∨ k = 4 ∨ k = 5 ∨ k = 6 ∨ k = 7 ∨ k = 8 := by omega
    rcases this with rfl | rfl | rfl | rfl | rfl | rfl | rfl | rfl
    · have c0 := h.cell 3 (by decide)
      have c1 := h.cell 4 (by decide)
      have c2 := h.cell 5 (by decide)
      simp [tabL] at c0 c1 c2
      clear h hk
      go_enter Tryd.func11, Tryd.ntmps11
      go_wp2_with (go_at_call 22; refine (made_any _ _ HT.out).mono ?_; rintro e w' ⟨rfl, rfl⟩)
      all_goals go_ret2
      all_goals exact ⟨ret_two (by simp [szN, szE] <;> omega) (by simp [szE] <;> omega), below_new _ _⟩
    · have c0 := h.cell 6 (by decide)
      have c1 := h.cell 7 (by decide)
      have c2 := h.cell 8 (by decide)
      simp [tabL] at c0 c1 c2
      clear h hk
      go_enter Tryd.func11, Tryd.ntmps11
      go_wp2_with (go_at_call 22; refine (made_any _ _ HT.out).mono ?_; rintro e w' ⟨rfl, rfl⟩)
      all_goals go_ret2
      all_goals exact ⟨ret_two (by simp [szN, szE] <;> omega) (by simp [szE] <;> omega), below_new _ _⟩
    · have c0 := h.cell 9 (by decide)
      have c1 := h.cell 10 (by decide)
      have c2 := h.cell 11 (by decide)
      simp [tabL] at c0 c1 c2
      clear h hk
      go_enter Tryd.func11, Tryd.ntmps11
      go_wp2_with (go_at_call 22; refine (made_any _ _ HT.out).mono ?_; rintro e w' ⟨rfl, rfl⟩)
      all_goals go_ret2
      all_goals exact ⟨ret_two (by simp [szN, szE] <;> omega) (by simp [szE] <;> omega), below_new _ _⟩
    · have c0 := h.cell 12 (by decide)
      have c1 := h.cell 13 (by decide)
      have c2 := h.cell 14 (by decide)
      simp [tabL] at c0 c1 c2
      clear h hk
      go_enter Tryd.func11, Tryd.ntmps11
      go_wp2_with (go_at_call 22; refine (made_any _ _ HT.out).mono ?_; rintro e w' ⟨rfl, rfl⟩)
      all_goals go_ret2
      all_goals exact ⟨ret_two (by simp [szN, szE] <;> omega) (by simp [szE] <;> omega), below_new _ _⟩
    · have c0 := h.cell 15 (by decide)
      have c1 := h.cell 16 (by decide)
      have c2 := h.cell 17 (by decide)
      simp [tabL] at c0 c1 c2
      clear h hk
      go_enter Tryd.func11, Tryd.ntmps11
      go_wp2_with (go_at_call 22; refine (made_any _ _ HT.out).mono ?_; rintro e w' ⟨rfl, rfl⟩)
      all_goals go_ret2
      all_goals exact ⟨ret_two (by simp [szN, szE] <;> omega) (by simp [szE] <;> omega), below_new _ _⟩
    · have c0 := h.cell 18 (by decide)
      have c1 := h.cell 19 (by decide)
      have c2 := h.cell 20 (by decide)
      simp [tabL] at c0 c1 c2
      clear h hk
      go_enter Tryd.func11, Tryd.ntmps11
      go_wp2_with (go_at_call 22; refine (made_any _ _ HT.out).mono ?_; rintro e w' ⟨rfl, rfl⟩)
      all_goals go_ret2
      all_goals exact ⟨ret_two (by simp [szN, szE] <;> omega) (by simp [szE] <;> omega), below_new _ _⟩
    · have c0 := h.cell 21 (by decide)
      have c1 := h.cell 22 (by decide)
      have c2 := h.cell 23 (by decide)
      simp [tabL] at c0 c1 c2
      clear h hk
      go_enter Tryd.func11, Tryd.ntmps11
      go_wp2_with (go_at_call 22; refine (made_any _ _ HT.out).mono ?_; rintro e w' ⟨rfl, rfl⟩)
      all_goals go_ret2
      all_goals exact ⟨ret_two (by simp [szN, szE] <;> omega) (by simp [szE] <;> omega), below_new _ _⟩
    · have c0 := h.cell 24 (by decide)
      have c1 := h.cell 25 (by decide)
      have c2 := h.cell 26 (by decide)
      simp [tabL] at c0 c1 c2
      clear h hk
      go_enter Tryd.func11, Tryd.ntmps11
      go_wp2_with (go_at_call 22; refine (made_any _ _ HT.out).mono ?_; rintro e w' ⟨rfl, rfl⟩)
      all_goals go_ret2
      all_goals exact ⟨ret_two (by simp [szN, szE] <;> omega) (by simp [szE] <;> omega), below_new _ _⟩
  · obtain ⟨e1, e2⟩ := sz_no (b := b) hk
    have H1 : Hid (szE k b = 80) := e1
    have H2 : Hid (szN k b = 0) := e2
    have hd : decide (1 ≤ k ∧ k ≤ 8) = false := decide_eq_false hk
    clear e1 e2 h
    go_enter Tryd.func11, Tryd.ntmps11
    go_wp2_with (go_at_call 22; refine (made_any _ _ HT.out).mono ?_; rintro e w' ⟨rfl, rfl⟩)
    all_goals go_ret2
    all_goals exact ⟨ret_two H2.out.symm H1.out.symm, Below.refl _ _⟩
end Go.Proofs.YtkelblkegpmlpaaDoor
