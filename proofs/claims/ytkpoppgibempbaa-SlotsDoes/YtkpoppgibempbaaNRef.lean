/-
  What the document's answer's Check stands on answers; no condition but that a capability's numbers fit.
-/
import Derived.Test.YtkpoppgibempbaaNFormed
namespace Go.Proofs.Ytkpoppgibempbaa
open Go.RowKit Go.Deep
set_option linter.unusedSectionVars false
variable [dCp : DecidableEq Cp] [dLim : ∀ k, Decidable (Lim k)] [dBad : ∀ k, Decidable (Bad k)] [dFit : ∀ g z, Decidable (Fit g z)] [dFine : ∀ c, Decidable (Fine c)] [dMint : ∀ c v, Decidable (MintR c v)] [dWho : ∀ x y, Decidable (Whose x y)]

/-! ### Powers -/
def twoI (n : Int) : Int := 2 ^ n.toNat
theorem two_cast (n : Nat) : twoI (n : Int) = ((2 ^ n : Nat) : Int) := by simp [twoI]
theorem twoI_bd (n : Int) (h0 : 0 ≤ n) (h1 : n ≤ 63) : 1 ≤ twoI n ∧ twoI n ≤ 9223372036854775808 := by
  obtain ⟨m, rfl⟩ := Int.eq_ofNat_of_zero_le h0
  rw [two_cast]
  have hp := pow_pos m
  have hq : 2 ^ m ≤ 2 ^ 63 := Nat.pow_le_pow_right (by omega) (by omega)
  generalize 2 ^ m = p at *
  omega
theorem two_ones (n : Int) : twoI n = onesI n + 1 := by unfold twoI onesI; omega
theorem r1two_any (n : Int) (w : World) (h0 : 0 ≤ n) (h1 : n ≤ 63) :
    Calls Try.prog 40 #[.int .i64 n] w fun e w' => e = .returned (.int .u64 (twoI n)) ∧ w' = w := by
  obtain ⟨m, rfl⟩ := Int.eq_ofNat_of_zero_le h0
  go_enter Try.func40, Try.ntmps40
  go_wp2
  go_loop [3, 4] (fun p i => ∃ k : Nat, k ≤ m ∧ i = .int .i64 k ∧ p = .int .u64 (twoI (k : Int))) (fun _ i => m - (intOf i).toNat)
  case atStart => exact ⟨0, Nat.zero_le _, rfl, rfl⟩
  case round =>
    obtain ⟨k, hk, rfl, rfl⟩ := hrel
    by_cases hlt : k < m
    · have hb := twoI_bd (k : Int) (by omega) (by omega)
      have hs : twoI ((k + 1 : Nat) : Int) = 2 * twoI (k : Int) := by
        rw [two_cast, two_cast, Nat.pow_succ]
        omega
      have hn : (2 : Int) * twoI (k : Int) ≤ 18446744073709551615 := by
        have := twoI_bd ((k + 1 : Nat) : Int) (by omega) (by omega)
        omega
      have HS : Hid (twoI ((k + 1 : Nat) : Int) = 2 * twoI (k : Int)) := hs
      clear hs
      go_wp2
      go_round
      case rel => exact ⟨k + 1, by omega, by go_num, by rw [HS.out]⟩
      case measure => simp [intOf]; omega
    · go_wp2
      go_ret
      have : k = m := by omega
      exact ⟨ret_int (by rw [this]), rfl⟩

/-! ### The document's answer -/
theorem rbadged_any (k : Int) (w : World) : Calls Try.prog 58 #[.int .i64 k] w fun e w' => e = .returned (.bool (decide (Bad k))) ∧ w' = w := by
  go_enter Try.func58, Try.ntmps58
  go_wp2
  all_goals go_ret
  all_goals exact ⟨ret_bool (by simp_all [Bad]), rfl⟩
theorem rlimited_any (k : Int) (w : World) : Calls Try.prog 57 #[.int .i64 k] w fun e w' => e = .returned (.bool (decide (Lim k))) ∧ w' = w := by
  go_enter Try.func57, Try.ntmps57
  go_wp2
  all_goals go_ret
  all_goals exact ⟨ret_bool (by simp_all [Lim]), rfl⟩
theorem rguard_any (g z : Int) (w : World) (hg : 0 ≤ g ∧ g ≤ 18446744073709551615) : Calls Try.prog 59 #[.int .u64 g, .int .i64 z] w fun e w' => e = .returned (.bool (decide (Fit g z))) ∧ w' = w := by
  by_cases hz : 0 ≤ z ∧ z < 64
  · have H : Hid (twoI z = onesI z + 1) := two_ones z
    go_enter Try.func59, Try.ntmps59
    go_wp2_with (go_at_call 40; refine (r1two_any _ _ (by omega) (by omega)).mono ?_; rintro e w' ⟨rfl, rfl⟩)
    all_goals go_ret
    all_goals exact ⟨ret_bool (by have := H.out; simp only [decide_eq_true_eq, Bool.or_eq_true, beq_iff_eq]; unfold Fit; omega), rfl⟩
  · by_cases h64 : z = 64
    · subst h64
      have H : onesI 64 = 18446744073709551615 := by decide +kernel
      go_enter Try.func59, Try.ntmps59
      go_wp2
      all_goals go_ret
      all_goals exact ⟨ret_bool (by simp only [decide_eq_true_eq, true_iff]; unfold Fit; omega), rfl⟩
    · go_enter Try.func59, Try.ntmps59
      go_wp2
      all_goals go_ret
      all_goals exact ⟨ret_bool (by simp only [decide_eq_true_eq, Bool.false_eq_true, false_iff]; unfold Fit; omega), rfl⟩
end Go.Proofs.Ytkpoppgibempbaa
