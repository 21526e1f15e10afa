/-
  What ones, within and Field of package words return where their arguments are right; each contract names its conditions.
-/
import Derived.Test.YthjcodkgcffamaaPLaid
import Derived.Test.YthjcodkgcffamaaMath
namespace Go.Proofs.Ythjcodkgcffamaa
open Go.RowKit

theorem ret_two {k j : IntKind} {a b c d : Int} (h : a = b) (g : c = d) : Ending.returned (.tuple #[.int k a, .int j c]) = .returned (.tuple #[.int k b, .int j d]) := by rw [h, g]
theorem ones_any (n : Int) (w : World) (h0 : 0 ≤ n) (h1 : n ≤ 64) :
    Calls Try.prog 48 #[.int .i64 n] w fun e w' => e = .returned (.int .u64 (onesI n)) ∧ w' = w := by
  go_enter Try.func48, Try.ntmps48
  go_wp2
  go_ret
  exact ⟨ret_int (ones_wrap n h0 h1), rfl⟩
theorem within_yes (a n : Int) (w : World) (h0 : 0 ≤ a) (h1 : 0 ≤ n) (h2 : n ≤ 64 - a) :
    Calls Try.prog 47 #[.int .i64 a, .int .i64 n] w fun e w' => e = .returned (.bool true) ∧ w' = w := by
  go_enter Try.func47, Try.ntmps47
  go_wp2
  go_ret
  exact ⟨rfl, rfl⟩
theorem field_yes (v a n : Int) (w : World) (v0 : 0 ≤ v) (v1 : v ≤ 18446744073709551615) (h0 : 0 ≤ a) (h1 : 0 ≤ n) (h2 : n ≤ 64 - a) :
    Calls Try.prog 42 #[.int .u64 v, .int .i64 a, .int .i64 n] w fun e w' => e = .returned (.tuple #[.int .u64 (fieldI v a n), .int .i64 0]) ∧ w' = w := by
  go_enter Try.func42, Try.ntmps42
  go_wp2_with (first | (go_at_call 48; refine (ones_any _ _ (by omega) (by omega)).mono ?_; rintro e w' ⟨rfl, rfl⟩) | (go_at_call 47; refine (within_yes _ _ _ (by omega) (by omega) (by omega)).mono ?_; rintro e w' ⟨rfl, rfl⟩))
  go_ret2
  exact ⟨ret_two (field_bits v a n v0 v1 h0 h1 (by omega)) rfl, rfl⟩
theorem place_of (N : Nat) (hN : N < 4096) (w : World) : Calls Try.prog 42 #[.int .u64 (N : Int), .int .i64 6, .int .i64 6] w fun e w' => e = .returned (.tuple #[.int .u64 ((N / 64 : Nat) : Int), .int .i64 0]) ∧ w' = w := by
  refine Calls.mono (field_yes (N : Int) 6 6 w (by omega) (by omega) (by omega) (by omega) (by omega)) ?_
  rintro e w' ⟨rfl, rfl⟩
  refine ⟨ret_two ?_ rfl, rfl⟩
  unfold fieldI fieldN
  have e1 : (6 : Int).toNat = 6 := rfl
  rw [e1, Int.toNat_natCast]
  congr 1
  have : N / 2 ^ 6 < 2 ^ 6 := by omega
  rw [Nat.mod_eq_of_lt this]
end Go.Proofs.Ythjcodkgcffamaa
