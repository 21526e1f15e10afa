/-
  What Check, Same, Derives of package caps and what they stand on answer, for every capability; no condition but that its numbers fit.
-/
import Derived.Test.YtkpoppgibempbaaNBase
namespace Go.Proofs.Ytkpoppgibempbaa
open Go.RowKit Go.Deep
set_option linter.unusedSectionVars false
variable [dCp : DecidableEq Cp] [dLim : ∀ k, Decidable (Lim k)] [dBad : ∀ k, Decidable (Bad k)] [dFit : ∀ g z, Decidable (Fit g z)] [dFine : ∀ c, Decidable (Fine c)] [dMint : ∀ c v, Decidable (MintR c v)] [dWho : ∀ x y, Decidable (Whose x y)]

theorem rights_any (n : Int) (w : World) : Calls Try.prog 53 #[.int .i64 n] w fun e w' => e = .returned (.bool (decide (0 ≤ n ∧ n ≤ 7))) ∧ w' = w := by
  go_enter Try.func53, Try.ntmps53
  go_wp2
  all_goals go_ret
  all_goals exact ⟨ret_bool (by simp only [Bool.and_eq_true, decide_eq_true_eq, Bool.false_eq_true, false_iff]; omega), rfl⟩
theorem badged_any (k : Int) (w : World) : Calls Try.prog 55 #[.int .i64 k] w fun e w' => e = .returned (.bool (decide (Bad k))) ∧ w' = w := by
  go_enter Try.func55, Try.ntmps55
  go_wp2
  all_goals go_ret
  all_goals exact ⟨ret_bool (by simp_all [Bad]), rfl⟩
theorem limited_any (k : Int) (w : World) : Calls Try.prog 54 #[.int .i64 k] w fun e w' => e = .returned (.bool (decide (Lim k))) ∧ w' = w := by
  go_enter Try.func54, Try.ntmps54
  go_wp2_with (go_at_call 55; refine (badged_any _ _).mono ?_; rintro e w' ⟨rfl, rfl⟩)
  all_goals go_ret
  all_goals exact ⟨ret_bool (by simp only [decide_eq_true_eq, beq_iff_eq, true_iff]; unfold Bad at *; unfold Lim; omega), rfl⟩
theorem fits_any (g z : Int) (w : World) (hg : 0 ≤ g ∧ g ≤ 18446744073709551615) : Calls Try.prog 56 #[.int .u64 g, .int .i64 z] w fun e w' => e = .returned (.bool (decide (Fit g z))) ∧ w' = w := by
  by_cases hz : 0 ≤ z ∧ z ≤ 64
  · have hb := fit_bits g z hg.1 hg.2 hz.1 hz.2
    have H : Hid (bits .andNot .u64 g (onesI z) = 0 ↔ g ≤ onesI z) := hb
    clear hb
    go_enter Try.func56, Try.ntmps56
    go_wp2_with (go_at_call 70; refine (mask_yes _ _ (by omega) (by omega)).mono ?_; rintro e w' ⟨rfl, rfl⟩)
    all_goals go_ret
    all_goals exact ⟨ret_bool (by have := H.out; simp_all [Fit]), rfl⟩
  · go_enter Try.func56, Try.ntmps56
    go_wp2_with (go_at_call 70; refine (mask_no _ _ (by omega)).mono ?_; rintro e w' ⟨rfl, rfl⟩)
    all_goals go_ret
    all_goals exact ⟨ret_bool (by simp only [decide_eq_true_eq, Bool.false_eq_true, false_iff]; unfold Fit; omega), rfl⟩
theorem formed_zero (c : Cp) (w : World) (hk : c.k = 0) : Calls Try.prog 48 #[encC c] w fun e w' => e = .returned (.bool (decide (Fine c))) ∧ Below w.heap.size w w' := by
  have hq := eq_caps
  have e : Fine c ↔ c = no := ⟨fun h => h.of_zero hk, fun h => .inl h⟩
  have H : Hid (Fine c ↔ c = no) := e
  have HQ : ∀ W, (Op.equalIn 10000 33 (.agg #[.int .i64 0, .int .i64 c.o, .int .i64 c.r, .int .u64 c.b, .int .u64 c.g, .int .i64 c.z]) (.agg #[.int .i64 0, .int .i64 0, .int .i64 0, .int .u64 0, .int .u64 0, .int .i64 0])).run Try.prog W = .ok (decide (c = no)) W := fun W => by
    have := eq_caps W c no
    rw [hk] at this
    exact this
  clear e hq
  simp only [encC]
  go_enter Try.func48, Try.ntmps48
  go_wp2
  all_goals go_ret
  all_goals exact ⟨ret_bool (by simp [H.out]), below_new _ _⟩
end Go.Proofs.Ytkpoppgibempbaa
