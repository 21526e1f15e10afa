/-
  What within, Field and With of package words return where their arguments are right: each contract names its conditions.
-/
import Derived.Test.YtafjgoelofobmaaNFields
namespace Go.Proofs.Ytafjgoelofobmaa
open Go.RowKit
set_option linter.unusedSectionVars false
variable [dCp : DecidableEq Cp] [dLim : ∀ k, Decidable (Lim k)] [dBad : ∀ k, Decidable (Bad k)] [dFit : ∀ g z, Decidable (Fit g z)] [dFine : ∀ c, Decidable (Fine c)] [dMint : ∀ c v, Decidable (MintR c v)] [dWho : ∀ x y, Decidable (Whose x y)]

theorem within_yes (a n : Int) (w : World) (h0 : 0 ≤ a) (h1 : 0 ≤ n) (h2 : n ≤ 64 - a) :
    Calls Try.prog 56 #[.int .i64 a, .int .i64 n] w fun e w' => e = .returned (.bool true) ∧ w' = w := by
  go_enter Try.func56, Try.ntmps56
  go_wp2
  go_ret
  exact ⟨rfl, rfl⟩
theorem field_yes (v a n : Int) (w : World) (v0 : 0 ≤ v) (v1 : v ≤ 18446744073709551615) (h0 : 0 ≤ a) (h1 : 0 ≤ n) (h2 : n ≤ 64 - a) :
    Calls Try.prog 47 #[.int .u64 v, .int .i64 a, .int .i64 n] w fun e w' => e = .returned (.tuple #[.int .u64 (fieldI v a n), .int .i64 0]) ∧ w' = w := by
  go_enter Try.func47, Try.ntmps47
  go_wp2_with (first | (go_at_call 57; refine (ones_any _ _ (by omega) (by omega)).mono ?_; rintro e w' ⟨rfl, rfl⟩) | (go_at_call 56; refine (within_yes _ _ _ (by omega) (by omega) (by omega)).mono ?_; rintro e w' ⟨rfl, rfl⟩))
  go_ret2
  exact ⟨ret_two (field_bits v a n v0 v1 h0 h1 (by omega)) rfl, rfl⟩
theorem with_yes (v a n x : Int) (w : World) (v0 : 0 ≤ v) (v1 : v ≤ 18446744073709551615) (h0 : 0 ≤ a) (h1 : 0 ≤ n) (h2 : n ≤ 64 - a) (x0 : 0 ≤ x) (x1 : x ≤ onesI n) :
    Calls Try.prog 53 #[.int .u64 v, .int .i64 a, .int .i64 n, .int .u64 x] w fun e w' => e = .returned (.tuple #[.int .u64 (withI v a n x), .int .i64 0]) ∧ w' = w := by
  go_enter Try.func53, Try.ntmps53
  go_wp2_with (first | (go_at_call 57; refine (ones_any _ _ (by omega) (by omega)).mono ?_; rintro e w' ⟨rfl, rfl⟩) | (go_at_call 56; refine (within_yes _ _ _ (by omega) (by omega) (by omega)).mono ?_; rintro e w' ⟨rfl, rfl⟩))
  go_ret2
  exact ⟨ret_two (with_bits v a n x v0 v1 h0 h1 h2 x0 x1) rfl, rfl⟩
end Go.Proofs.Ytafjgoelofobmaa
