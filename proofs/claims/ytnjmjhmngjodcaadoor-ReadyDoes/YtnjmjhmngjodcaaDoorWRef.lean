/-
  What Two and Bit of the document's answer return, for every word and every place: each contract names its conditions.
-/
import Derived.Test.YtnjmjhmngjodcaaDoorWBits
namespace Go.Proofs.YtnjmjhmngjodcaaDoor
open Go.RowKit

def twoI (n : Int) : Int := 2 ^ n.toNat
theorem two_cast (n : Nat) : twoI (n : Int) = ((2 ^ n : Nat) : Int) := by simp [twoI]
theorem twoI_bd (n : Int) (h0 : 0 ≤ n) (h1 : n ≤ 63) : 1 ≤ twoI n ∧ twoI n ≤ 9223372036854775808 := by
  obtain ⟨m, rfl⟩ := Int.eq_ofNat_of_zero_le h0
  rw [two_cast]
  have hp := pow_pos m
  have hq : 2 ^ m ≤ 2 ^ 63 := Nat.pow_le_pow_right (by omega) (by omega)
  generalize 2 ^ m = p at *
  omega
theorem bit_of (v n : Int) (v0 : 0 ≤ v) (n0 : 0 ≤ n) : (v / twoI n % 2 == 1) = v.toNat.testBit n.toNat := by
  obtain ⟨V, rfl⟩ := Int.eq_ofNat_of_zero_le v0
  obtain ⟨M, rfl⟩ := Int.eq_ofNat_of_zero_le n0
  rw [two_cast, Int.toNat_natCast, Int.toNat_natCast, Nat.testBit_eq_decide_div_mod_eq]
  have e : ((V : Int) / ((2 ^ M : Nat) : Int)) % 2 = ((V / 2 ^ M % 2 : Nat) : Int) := by simp
  rw [e, Bool.eq_iff_iff]
  simp only [beq_iff_eq, decide_eq_true_eq]
  omega

/-! ### The walks -/
set_option maxHeartbeats 400000 in
theorem two_any (n : Int) (w : World) (h0 : 0 ≤ n) (h1 : n ≤ 63) :
    Calls Tryd.prog 40 #[.int .i64 n] w fun e w' => e = .returned (.int .u64 (twoI n)) ∧ w' = w := by
  obtain ⟨m, rfl⟩ := Int.eq_ofNat_of_zero_le h0
  go_enter Tryd.func40, Tryd.ntmps40
  go_wp2
  go_loop [3, 4] (fun p i => ∃ k : Nat, k ≤ m ∧ i = .int .i64 k ∧ p = .int .u64 (twoI (k : Int))) (fun _ i => m - (intOf i).toNat)
  case atStart => exact ⟨0, Nat.zero_le _, rfl, rfl⟩
  case round =>
    obtain ⟨k, hk, rfl, rfl⟩ := hrel
    by_cases hlt : k < m
    · have hb := twoI_bd (k : Int) (by omega) (by omega)
      have hs : twoI ((k + 1 : Nat) : Int) = 2 * twoI (k : Int) := by
        rw [two_cast, two_cast, Nat.pow_succ]
        omega
      have hn : (2 : Int) * twoI (k : Int) ≤ 18446744073709551615 := by
        have := twoI_bd ((k + 1 : Nat) : Int) (by omega) (by omega)
        omega
      have HS : Hid (twoI ((k + 1 : Nat) : Int) = 2 * twoI (k : Int)) := hs
      clear hs
      go_wp2
      go_round
      case rel => exact ⟨k + 1, by omega, by go_num, by rw [HS.out]⟩
      case measure => simp [intOf]; omega
    · go_wp2
      go_ret
      have : k = m := by omega
      exact ⟨ret_int (by rw [this]), rfl⟩
theorem bitR_any (v n : Int) (w : World) (v0 : 0 ≤ v) (v1 : v ≤ 18446744073709551615) (h0 : 0 ≤ n) (h1 : n ≤ 63) :
    Calls Tryd.prog 43 #[.int .u64 v, .int .i64 n] w fun e w' => e = .returned (.bool (v.toNat.testBit n.toNat)) ∧ w' = w := by
  have hb := twoI_bd n h0 h1
  have hd : 0 ≤ v / twoI n := Int.ediv_nonneg v0 (by omega)
  go_enter Tryd.func43, Tryd.ntmps43
  go_wp2_with (go_at_call 40; refine (two_any _ _ (by omega) (by omega)).mono ?_; rintro e w' ⟨rfl, rfl⟩)
  go_ret
  exact ⟨ret_one (congrArg Value.bool (bit_of v n v0 h0)), rfl⟩
end Go.Proofs.YtnjmjhmngjodcaaDoor
