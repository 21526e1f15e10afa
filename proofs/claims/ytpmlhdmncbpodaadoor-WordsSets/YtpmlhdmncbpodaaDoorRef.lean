/-
  What Two, Mask, Bit, Field, With and Up of the document's answer return, for every word and every place: each contract names its conditions.
-/
import Derived.Test.YtpmlhdmncbpodaaDoorFields
import Derived.Test.YtpmlhdmncbpodaaDoorMore
namespace Go.Proofs.YtpmlhdmncbpodaaDoor
open Go.RowKit

/-! ### Plain facts -/
def twoI (n : Int) : Int := 2 ^ n.toNat
theorem two_cast (n : Nat) : twoI (n : Int) = ((2 ^ n : Nat) : Int) := by simp [twoI]
theorem twoI_bd (n : Int) (h0 : 0 ≤ n) (h1 : n ≤ 63) : 1 ≤ twoI n ∧ twoI n ≤ 9223372036854775808 := by
  obtain ⟨m, rfl⟩ := Int.eq_ofNat_of_zero_le h0
  rw [two_cast]
  have hp := pow_pos m
  have hq : 2 ^ m ≤ 2 ^ 63 := Nat.pow_le_pow_right (by omega) (by omega)
  generalize 2 ^ m = p at *
  omega
/-- The number whose bits below k are as f says. -/
def ofBits (f : Nat → Bool) : Nat → Nat
  | 0 => 0
  | k + 1 => if f k = true then ofBits f k + 2 ^ k else ofBits f k
theorem ofBits_lt (f : Nat → Bool) : ∀ k, ofBits f k < 2 ^ k
  | 0 => by simp [ofBits]
  | k + 1 => by
    have := ofBits_lt f k
    unfold ofBits
    rw [Nat.pow_succ]
    split <;> omega
theorem ofBits_bit (f : Nat → Bool) (i : Nat) : ∀ k, (ofBits f k).testBit i = (decide (i < k) && f i)
  | 0 => by simp [ofBits]
  | k + 1 => by
    have ih := ofBits_bit f i k
    have hl := ofBits_lt f k
    unfold ofBits
    by_cases h : f k = true
    · rw [if_pos h]
      have e := Nat.testBit_two_pow_mul_add 1 hl i
      rw [Nat.mul_one, Nat.add_comm] at e
      rw [e]
      by_cases h1 : i < k
      · have h2 : i < k + 1 := by omega
        rw [if_pos h1, ih]
        simp [h1, h2]
      · rw [if_neg h1]
        by_cases h3 : i = k
        · subst h3; simp [h]
        · have h4 : ¬ i < k + 1 := by omega
          rw [small_bit 1 1 (i - k) (by decide) (by omega)]
          simp [h4]
    · rw [if_neg h, ih]
      by_cases h3 : i = k
      · subst h3
        simp at h
        simp [h]
      · by_cases h1 : i < k
        · have h2 : i < k + 1 := by omega
          simp [h1, h2]
        · have h2 : ¬ i < k + 1 := by omega
          simp [h1, h2]
theorem ofBits_field (v a : Nat) (k : Nat) : ofBits (fun j => v.testBit (a + j)) k = fieldN v a k := by
  apply Nat.eq_of_testBit_eq
  intro i
  rw [ofBits_bit, fieldN_bit, Nat.add_comm a i]
theorem ofBits_with (v a n x : Nat) (hv : v < 18446744073709551616) (hx : x < 2 ^ n) (h : a + n ≤ 64) :
    ofBits (fun j => if a ≤ j ∧ j < a + n then x.testBit (j - a) else v.testBit j) 64 = withN v a n x := by
  apply Nat.eq_of_testBit_eq
  intro i
  rw [ofBits_bit, withN_bit _ _ _ _ _ hx]
  by_cases h0 : i < 64
  · by_cases h1 : i < a
    · have h2 : ¬ (a ≤ i ∧ i < a + n) := by omega
      simp [h0, h1, h2]
    · by_cases h2 : i < a + n
      · have h3 : a ≤ i ∧ i < a + n := by omega
        simp [h0, h1, h2, h3]
      · have h3 : ¬ (a ≤ i ∧ i < a + n) := by omega
        rw [if_neg h1, if_neg h2, if_neg h3]
        simp [h0]
  · have h1 : ¬ i < a := by omega
    have h2 : ¬ i < a + n := by omega
    simp only [h0, h1, h2, if_false, decide_false, Bool.false_and]
    exact (testBit_big v i hv (by omega)).symm
theorem bit_of (v n : Int) (v0 : 0 ≤ v) (n0 : 0 ≤ n) : (v / twoI n % 2 == 1) = v.toNat.testBit n.toNat := by
  obtain ⟨V, rfl⟩ := Int.eq_ofNat_of_zero_le v0
  obtain ⟨M, rfl⟩ := Int.eq_ofNat_of_zero_le n0
  rw [two_cast, Int.toNat_natCast, Int.toNat_natCast, Nat.testBit_eq_decide_div_mod_eq]
  have e : ((V : Int) / ((2 ^ M : Nat) : Int)) % 2 = ((V / 2 ^ M % 2 : Nat) : Int) := by simp
  rw [e, Bool.eq_iff_iff]
  simp only [beq_iff_eq, decide_eq_true_eq]
  omega

/-! ### The walks -/
set_option maxHeartbeats 400000 in
theorem two_any (n : Int) (w : World) (h0 : 0 ≤ n) (h1 : n ≤ 63) :
    Calls Tryd.prog 27 #[.int .i64 n] w fun e w' => e = .returned (.int .u64 (twoI n)) ∧ w' = w := by
  obtain ⟨m, rfl⟩ := Int.eq_ofNat_of_zero_le h0
  go_enter Tryd.func27, Tryd.ntmps27
  go_wp2
  go_loop [3, 4] (fun p i => ∃ k : Nat, k ≤ m ∧ i = .int .i64 k ∧ p = .int .u64 (twoI (k : Int))) (fun _ i => m - (intOf i).toNat)
  case atStart => exact ⟨0, Nat.zero_le _, rfl, rfl⟩
  case round =>
    obtain ⟨k, hk, rfl, rfl⟩ := hrel
    by_cases hlt : k < m
    · have hb := twoI_bd (k : Int) (by omega) (by omega)
      have hs : twoI ((k + 1 : Nat) : Int) = 2 * twoI (k : Int) := by
        rw [two_cast, two_cast, Nat.pow_succ]
        omega
      have hn : (2 : Int) * twoI (k : Int) ≤ 18446744073709551615 := by
        have := twoI_bd ((k + 1 : Nat) : Int) (by omega) (by omega)
        omega
      have HS : Hid (twoI ((k + 1 : Nat) : Int) = 2 * twoI (k : Int)) := hs
      clear hs
      go_wp2
      go_round
      case rel => exact ⟨k + 1, by omega, by go_num, by rw [HS.out]⟩
      case measure => simp [intOf]; omega
    · go_wp2
      go_ret
      have : k = m := by omega
      exact ⟨ret_int (by rw [this]), rfl⟩
theorem bitR_any (v n : Int) (w : World) (v0 : 0 ≤ v) (v1 : v ≤ 18446744073709551615) (h0 : 0 ≤ n) (h1 : n ≤ 63) :
    Calls Tryd.prog 26 #[.int .u64 v, .int .i64 n] w fun e w' => e = .returned (.bool (v.toNat.testBit n.toNat)) ∧ w' = w := by
  have hb := twoI_bd n h0 h1
  have hd : 0 ≤ v / twoI n := Int.ediv_nonneg v0 (by omega)
  go_enter Tryd.func26, Tryd.ntmps26
  go_wp2_with (go_at_call 27; refine (two_any _ _ (by omega) (by omega)).mono ?_; rintro e w' ⟨rfl, rfl⟩)
  go_ret
  exact ⟨ret_one (congrArg Value.bool (bit_of v n v0 h0)), rfl⟩
set_option maxHeartbeats 400000 in
theorem maskR_yes (n : Int) (w : World) (h0 : 0 ≤ n) (h1 : n ≤ 64) :
    Calls Tryd.prog 15 #[.int .i64 n] w fun e w' => e = .returned (.tuple #[.int .u64 (onesI n), .int .i64 0]) ∧ w' = w := by
  obtain ⟨m, rfl⟩ := Int.eq_ofNat_of_zero_le h0
  go_enter Tryd.func15, Tryd.ntmps15
  go_wp2
  go_loop [4, 5] (fun p i => ∃ k : Nat, k ≤ m ∧ i = .int .i64 k ∧ p = .int .u64 (onesI (k : Int))) (fun _ i => m - (intOf i).toNat)
  case atStart => exact ⟨0, Nat.zero_le _, rfl, rfl⟩
  case round =>
    obtain ⟨k, hk, rfl, rfl⟩ := hrel
    by_cases hlt : k < m
    · have hb := onesI_bd (k : Int) (by omega) (by omega)
      have hs : onesI ((k + 1 : Nat) : Int) = 2 * onesI (k : Int) + 1 := by
        rw [ones_cast, ones_cast, Nat.pow_succ]
        have := pow_pos k
        omega
      have hn : (2 : Int) * onesI (k : Int) + 1 ≤ 18446744073709551615 := by
        have := onesI_bd ((k + 1 : Nat) : Int) (by omega) (by omega)
        omega
      have HS : Hid (onesI ((k + 1 : Nat) : Int) = 2 * onesI (k : Int) + 1) := hs
      clear hs
      go_wp2
      go_round
      case rel => exact ⟨k + 1, by omega, by go_num, by rw [HS.out]⟩
      case measure => simp [intOf]; omega
    · go_wp2
      go_ret2
      have : k = m := by omega
      exact ⟨ret_two (by rw [this]) rfl, rfl⟩
theorem maskR_no (n : Int) (w : World) (h : ¬ (0 ≤ n ∧ n ≤ 64)) :
    Calls Tryd.prog 15 #[.int .i64 n] w fun e w' => e = .returned (.tuple #[.int .u64 0, .int .i64 1]) ∧ w' = w := by
  by_cases c : 0 ≤ n
  · have c2 : 64 < n := by omega
    clear h
    go_enter Tryd.func15, Tryd.ntmps15
    go_wp2
    go_ret2
    exact ⟨rfl, rfl⟩
  · clear h
    go_enter Tryd.func15, Tryd.ntmps15
    go_wp2
    go_ret2
    exact ⟨rfl, rfl⟩
theorem ofBits_bd (f : Nat → Bool) (k : Nat) (h : k ≤ 63) : (ofBits f k : Int) + twoI (k : Int) ≤ 18446744073709551615 := by
  have h1 := ofBits_lt f k
  have h2 : 2 ^ k ≤ 2 ^ 63 := Nat.pow_le_pow_right (by omega) h
  rw [two_cast]
  generalize 2 ^ k = p at *
  omega
theorem ofBits_yes (f : Nat → Bool) (k : Nat) (h : f k = true) : ((ofBits f (k + 1) : Nat) : Int) = (ofBits f k : Int) + twoI (k : Int) := by
  rw [two_cast]
  show (((if f k = true then ofBits f k + 2 ^ k else ofBits f k : Nat)) : Int) = _
  rw [if_pos h]
  omega
theorem ofBits_no (f : Nat → Bool) (k : Nat) (h : f k = false) : ofBits f (k + 1) = ofBits f k := by
  show (if f k = true then ofBits f k + 2 ^ k else ofBits f k : Nat) = _
  rw [if_neg (by simp [h])]
set_option maxHeartbeats 1000000 in
theorem fieldR_nat (V A M : Nat) (f : Nat → Bool) (hf : Hid (∀ j, f j = V.testBit (A + j))) (w : World) (v1 : (V : Int) ≤ 18446744073709551615) (h : A + M ≤ 64) :
    Calls Tryd.prog 10 #[.int .u64 V, .int .i64 A, .int .i64 M] w fun e w' => e = .returned (.tuple #[.int .u64 (ofBits f M : Nat), .int .i64 0]) ∧ w' = w := by
  go_enter Tryd.func10, Tryd.ntmps10
  go_wp2
  go_loop [8, 9] (fun x i => ∃ k : Nat, k ≤ M ∧ i = .int .i64 k ∧ x = .int .u64 (ofBits f k : Nat)) (fun _ i => M - (intOf i).toNat)
  case atStart => exact ⟨0, Nat.zero_le _, rfl, rfl⟩
  case round =>
    obtain ⟨k, hk, rfl, rfl⟩ := hrel
    by_cases hlt : k < M
    · have hbd := ofBits_bd f k (by omega)
      have h2 := twoI_bd (k : Int) (by omega) (by omega)
      have et : ((A : Int) + (k : Int)).toNat = A + k := by omega
      have fe := hf.out k
      cases hb : V.testBit (A + k)
      · have HB : Hid (ofBits f (k + 1) = ofBits f k) := ofBits_no f k (by rw [fe, hb])
        clear fe
        go_wp2_with (first | (go_at_call 27; refine (two_any _ _ (by omega) (by omega)).mono ?_; rintro e w' ⟨rfl, rfl⟩) | (go_at_call 26; refine (bitR_any _ _ _ (by omega) (by omega) (by omega) (by omega)).mono ?_; rintro e w' ⟨rfl, rfl⟩))
        go_round
        case rel => exact ⟨k + 1, by omega, by go_num, by rw [HB.out]⟩
        case measure => simp [intOf]; omega
      · have HB : Hid (((ofBits f (k + 1) : Nat) : Int) = (ofBits f k : Int) + twoI (k : Int)) := ofBits_yes f k (by rw [fe, hb])
        clear fe
        go_wp2_with (first | (go_at_call 27; refine (two_any _ _ (by omega) (by omega)).mono ?_; rintro e w' ⟨rfl, rfl⟩) | (go_at_call 26; refine (bitR_any _ _ _ (by omega) (by omega) (by omega) (by omega)).mono ?_; rintro e w' ⟨rfl, rfl⟩))
        go_round
        case rel => exact ⟨k + 1, by omega, by go_num, by rw [HB.out]⟩
        case measure => simp [intOf]; omega
    · go_wp2
      go_ret2
      have : k = M := by omega
      exact ⟨ret_two (by rw [this]) rfl, rfl⟩
theorem fieldR_yes (v a n : Int) (w : World) (v0 : 0 ≤ v) (v1 : v ≤ 18446744073709551615) (h0 : 0 ≤ a) (h1 : 0 ≤ n) (h2 : n ≤ 64 - a) :
    Calls Tryd.prog 10 #[.int .u64 v, .int .i64 a, .int .i64 n] w fun e w' => e = .returned (.tuple #[.int .u64 (fieldI v a n), .int .i64 0]) ∧ w' = w := by
  obtain ⟨V, rfl⟩ := Int.eq_ofNat_of_zero_le v0
  obtain ⟨A, rfl⟩ := Int.eq_ofNat_of_zero_le h0
  obtain ⟨M, rfl⟩ := Int.eq_ofNat_of_zero_le h1
  have := fieldR_nat V A M (fun j => V.testBit (A + j)) (fun _ => rfl) w v1 (by omega)
  rw [ofBits_field] at this
  simpa [fieldI] using this
theorem fieldR_no (v a n : Int) (w : World) (h : ¬ (0 ≤ a ∧ 0 ≤ n ∧ n ≤ 64 - a)) :
    Calls Tryd.prog 10 #[.int .u64 v, .int .i64 a, .int .i64 n] w fun e w' => e = .returned (.tuple #[.int .u64 0, .int .i64 1]) ∧ w' = w := by
  by_cases c1 : 0 ≤ a
  · by_cases c2 : 0 ≤ n
    · by_cases c3 : a ≤ 64
      · by_cases c4 : n ≤ 64
        · have c5 : 64 < a + n := by omega
          clear h
          go_enter Tryd.func10, Tryd.ntmps10
          go_wp2
          go_ret2
          exact ⟨rfl, rfl⟩
        · clear h
          go_enter Tryd.func10, Tryd.ntmps10
          go_wp2
          go_ret2
          exact ⟨rfl, rfl⟩
      · clear h
        go_enter Tryd.func10, Tryd.ntmps10
        go_wp2
        go_ret2
        exact ⟨rfl, rfl⟩
    · clear h
      go_enter Tryd.func10, Tryd.ntmps10
      go_wp2
      go_ret2
      exact ⟨rfl, rfl⟩
  · clear h
    go_enter Tryd.func10, Tryd.ntmps10
    go_wp2
    go_ret2
    exact ⟨rfl, rfl⟩
end Go.Proofs.YtpmlhdmncbpodaaDoor
