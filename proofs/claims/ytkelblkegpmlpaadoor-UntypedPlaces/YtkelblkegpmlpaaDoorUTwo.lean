/-
  What Two of the document's own answer returns: 2 to the power of a number of 0 to 63.
-/
import Derived.Test.YtkelblkegpmlpaaDoorUSay
namespace Go.Proofs.YtkelblkegpmlpaaDoor
open Go.RowKit Go.Deep

set_option maxHeartbeats 400000 in
theorem two_any (n : Int) (w : World) (h0 : 0 ≤ n) (h1 : n ≤ 63) :
    Calls Tryd.prog 18 #[.int .i64 n] w fun e w' => e = .returned (.int .u64 (twoI n)) ∧ w' = w := by
  obtain ⟨m, rfl⟩ := Int.eq_ofNat_of_zero_le h0
  go_enter Tryd.func18, Tryd.ntmps18
  go_wp2
  go_loop [3, 4] (fun p i => ∃ k : Nat, k ≤ m ∧ i = .int .i64 k ∧ p = .int .u64 (twoI (k : Int))) (fun _ i => m - (intOf i).toNat)
  case atStart => exact ⟨0, Nat.zero_le _, rfl, rfl⟩
  case round =>
    obtain ⟨k, hk, rfl, rfl⟩ := hrel
    by_cases hlt : k < m
    · have hb := twoI_bd (k : Int) (by omega) (by omega)
      have hs : twoI ((k + 1 : Nat) : Int) = 2 * twoI (k : Int) := by
        rw [two_cast, two_cast, Nat.pow_succ]
        omega
      have hn : (2 : Int) * twoI (k : Int) ≤ 18446744073709551615 := by
        have := twoI_bd ((k + 1 : Nat) : Int) (by omega) (by omega)
        omega
      have HS : Hid (twoI ((k + 1 : Nat) : Int) = 2 * twoI (k : Int)) := hs
      clear hs
      go_wp2
      go_round
      case rel => exact ⟨k + 1, by omega, by go_num, by rw [HS.out]⟩
      case measure => simp [intOf]; omega
    · go_wp2
      go_ret
      have : k = m := by omega
      exact ⟨ret_int (by rw [this]), rfl⟩
end Go.Proofs.YtkelblkegpmlpaaDoor
