/-
  Plain facts, without the program: an int's lowest bits; a number rounded up; a word in two parts; what is put into a word and taken back.
-/
import Derived.Test.YtchamgecalfmpaaDoorMath
namespace Go.Proofs.YtchamgecalfmpaaDoor
theorem i64_mask (x : Int) (m : Nat) (hm : m ≤ 62) : bits .and .i64 x ((2 ^ m - 1 : Nat) : Int) = x % ((2 ^ m : Nat) : Int) := by
  have hp := pow_pos m
  have hq : 2 ^ m ≤ 2 ^ 62 := Nat.pow_le_pow_right (by omega) hm
  show IntKind.i64.wrap ((BitVec.ofInt 64 x &&& BitVec.ofInt 64 ((2 ^ m - 1 : Nat) : Int)).toNat : Int) = _
  rw [BitVec.toNat_and, ofInt_u64 (2 ^ m - 1) (by omega), Nat.and_two_pow_sub_one_eq_mod, BitVec.toNat_ofInt]
  have e : (((x % ((2 ^ 64 : Nat) : Int)).toNat % 2 ^ m : Nat) : Int) = x % ((2 ^ m : Nat) : Int) := by
    rw [Int.natCast_emod, Int.toNat_of_nonneg (Int.emod_nonneg _ (by decide))]
    apply Int.emod_emod_of_dvd
    exact Int.natCast_dvd_natCast.2 (Nat.pow_dvd_pow 2 (by omega))
  rw [e]
  have h1 : 0 ≤ x % ((2 ^ m : Nat) : Int) := Int.emod_nonneg _ (by omega)
  have h2 : x % ((2 ^ m : Nat) : Int) < ((2 ^ m : Nat) : Int) := Int.emod_lt_of_pos _ (by omega)
  generalize x % ((2 ^ m : Nat) : Int) = y at *
  generalize 2 ^ m = p at *
  have hy : y % (2 : Int) ^ 64 = y := Int.emod_eq_of_lt h1 (by omega)
  simp only [IntKind.wrap, IntKind.bits, IntKind.signed, hy]
  rw [if_neg]
  simp
  omega
theorem i64_63 (x : Int) : bits .and .i64 x 63 = x % 64 := i64_mask x 6 (by decide)
theorem i64_255 (x : Int) : bits .and .i64 x 255 = x % 256 := i64_mask x 8 (by decide)
theorem i64_65535 (x : Int) : bits .and .i64 x 65535 = x % 65536 := i64_mask x 16 (by decide)

/-! ### Rounding up -/
theorem upN_facts (v n : Nat) (hn : n ≤ 63) (hv : v + (2 ^ n - 1) < 18446744073709551616) :
    upN (upN v n) n = upN v n ∧ upN v n % 2 ^ n = 0 ∧ v ≤ upN v n ∧ upN v n - v ≤ 2 ^ n - 1 ∧ upN v n + (2 ^ n - 1) < 18446744073709551616 := by
  have hp := pow_pos n
  have hd : 18446744073709551616 = 2 ^ (64 - n) * 2 ^ n := by rw [← Nat.pow_add, show 64 - n + n = 64 by omega]
  generalize hq : 2 ^ (64 - n) = q at hd
  unfold upN
  generalize hpe : 2 ^ n = p at *
  have hdm := Nat.div_add_mod (v + (p - 1)) p
  have hml := Nat.mod_lt (v + (p - 1)) hp
  generalize (v + (p - 1)) % p = r at *
  generalize (v + (p - 1)) / p = k at *
  have hkq : k < q := by
    apply Nat.lt_of_not_le
    intro hle
    have := Nat.mul_le_mul_right p hle
    rw [Nat.mul_comm p k] at hdm
    omega
  have hk2 : (k + 1) * p ≤ q * p := Nat.mul_le_mul_right p hkq
  rw [Nat.add_mul, Nat.one_mul] at hk2
  rw [Nat.mul_comm p k] at hdm
  have hone : (k * p + (p - 1)) / p = k := by
    rw [Nat.add_comm, Nat.add_mul_div_right _ _ hp, Nat.div_eq_of_lt (by omega), Nat.zero_add]
  refine ⟨by rw [hone], Nat.mul_mod_left k p, by omega, by omega, by omega⟩
theorem upI_facts (v n : Int) (v0 : 0 ≤ v) (n0 : 0 ≤ n) (n1 : n ≤ 63) (hv : v ≤ notI (onesI n)) :
    upI (upI v n) n = upI v n ∧ bits .and .u64 (upI v n) (onesI n) = 0 ∧ v ≤ upI v n ∧ upI v n - v ≤ onesI n ∧ upI v n ≤ notI (onesI n) ∧ upI v n ≤ 18446744073709551615 := by
  have hb := upI_bd v n v0 n0 n1 hv
  obtain ⟨V, rfl⟩ := Int.eq_ofNat_of_zero_le v0
  obtain ⟨M, rfl⟩ := Int.eq_ofNat_of_zero_le n0
  unfold notI at hv ⊢
  rw [ones_cast] at hv ⊢
  have hp := pow_pos M
  obtain ⟨f1, f2, f3, f4, f5⟩ := upN_facts V M (by omega) (by omega)
  have e : upI (V : Int) (M : Int) = ((upN V M : Nat) : Int) := by simp [upI]
  rw [e] at hb ⊢
  have e2 : upI ((upN V M : Nat) : Int) (M : Int) = ((upN (upN V M) M : Nat) : Int) := by simp [upI]
  have hm := pow_le M (by omega)
  rw [e2, f1, u64_and_nat _ _ (by omega) (by omega), Nat.and_two_pow_sub_one_eq_mod, f2]
  refine ⟨rfl, rfl, by omega, by omega, by omega, by omega⟩
theorem up_greater (v n : Int) (n0 : 0 ≤ n) (n1 : n ≤ 63) (hv : notI (onesI n) < v) : IntKind.u64.wrap (2 ^ n.toNat) < v := by
  obtain ⟨M, rfl⟩ := Int.eq_ofNat_of_zero_le n0
  unfold notI at hv
  rw [ones_cast] at hv
  have hp := pow_pos M
  have hq : 2 ^ M ≤ 2 ^ 63 := Nat.pow_le_pow_right (by omega) (by omega)
  have e : (2 : Int) ^ (M : Int).toNat = ((2 ^ M : Nat) : Int) := by simp
  rw [e, wrap_nat _ (by omega)]
  generalize 2 ^ M = p at *
  omega

/-! ### A word in parts; what is put in and taken back -/
theorem and_ones (x n : Int) (x0 : 0 ≤ x) (x1 : x ≤ 18446744073709551615) (n0 : 0 ≤ n) (n1 : n ≤ 64) : bits .and .u64 x (onesI n) = fieldI x 0 n := by
  have := field_bits x 0 n x0 x1 (by omega) n0 n1
  simpa using this
theorem parts_facts (v n : Int) (v0 : 0 ≤ v) (v1 : v ≤ 18446744073709551615) (n0 : 0 ≤ n) (n1 : n ≤ 63) :
    bits .or .u64 (IntKind.u64.wrap (fieldI v n (64 - n) * 2 ^ n.toNat)) (fieldI v 0 n) = v := by
  obtain ⟨V, rfl⟩ := Int.eq_ofNat_of_zero_le v0
  obtain ⟨M, rfl⟩ := Int.eq_ofNat_of_zero_le n0
  have e0 : (64 - (M : Int)).toNat = 64 - M := by omega
  have hp := pow_pos M
  have hd : 18446744073709551616 = 2 ^ (64 - M) * 2 ^ M := by rw [← Nat.pow_add, show 64 - M + M = 64 by omega]
  have hq : V / 2 ^ M < 2 ^ (64 - M) := Nat.div_lt_of_lt_mul (by rw [Nat.mul_comm, ← hd]; omega)
  have e1 : fieldN V M (64 - M) = V / 2 ^ M := Nat.mod_eq_of_lt hq
  have e2 : fieldN V 0 M = V % 2 ^ M := by simp [fieldN]
  have e3 : (0 : Int).toNat = 0 := rfl
  simp only [fieldI, Int.toNat_natCast, e0, e1, e2, e3]
  have e4 : (((V / 2 ^ M : Nat) : Int) * 2 ^ M) = ((V / 2 ^ M * 2 ^ M : Nat) : Int) := by simp
  have hle : V / 2 ^ M * 2 ^ M ≤ V := Nat.div_mul_le_self _ _
  have hml : V % 2 ^ M ≤ V := Nat.mod_le _ _
  rw [e4, wrap_nat _ (by omega), u64_or_nat _ _ (by omega) (by omega), nat_join M _ _ (Nat.mul_mod_left _ _) (Nat.mod_lt _ hp)]
  have := Nat.div_add_mod V (2 ^ M)
  rw [Nat.mul_comm] at this
  rw [this]
theorem back_facts (v a n p : Int) (v0 : 0 ≤ v) (v1 : v ≤ 18446744073709551615) (a0 : 0 ≤ a) (n0 : 0 ≤ n) (h : n ≤ 64 - a) (p0 : 0 ≤ p) (p1 : p ≤ onesI n) :
    fieldI (withI v a n p) a n = p ∧ withI (withI v a n p) a n (fieldI v a n) = v ∧
    bits .andNot .u64 (bits .xor .u64 (withI v a n p) v) (IntKind.u64.wrap (onesI n * 2 ^ a.toNat)) = 0 := by
  obtain ⟨V, rfl⟩ := Int.eq_ofNat_of_zero_le v0
  obtain ⟨A, rfl⟩ := Int.eq_ofNat_of_zero_le a0
  obtain ⟨M, rfl⟩ := Int.eq_ofNat_of_zero_le n0
  obtain ⟨P, rfl⟩ := Int.eq_ofNat_of_zero_le p0
  rw [ones_cast] at p1 ⊢
  have hp := pow_pos M
  have hP : P < 2 ^ M := by omega
  have hF := fieldN_lt V A M
  have hl := withN_lt V A M P (by omega) hP (by omega)
  have l1 := mask_lt A M (by omega)
  simp only [fieldI, withI, Int.toNat_natCast]
  refine ⟨by rw [field_with _ _ _ _ hP], ?_, ?_⟩
  · congr 1
    apply Nat.eq_of_testBit_eq
    intro i
    rw [withN_bit _ _ _ _ _ hF, withN_bit _ _ _ _ _ hP, fieldN_bit]
    by_cases h1 : i < A
    · simp [h1]
    · by_cases h2 : i < A + M
      · have h3 : i - A < M := by omega
        have h4 : i - A + A = i := by omega
        simp [h1, h2, h3, h4]
      · simp [h1, h2]
  · have e1 : (((2 ^ M - 1 : Nat) : Int) * 2 ^ A) = (((2 ^ M - 1) * 2 ^ A : Nat) : Int) := by simp
    have hx : withN V A M P ^^^ V < 2 ^ 64 := Nat.xor_lt_two_pow (by omega) (by omega)
    rw [e1, wrap_nat _ l1, u64_xor_nat _ _ (by omega) (by omega), u64_andNot_nat _ _ (by omega) l1]
    have : (withN V A M P ^^^ V) &&& (18446744073709551615 - (2 ^ M - 1) * 2 ^ A) = 0 := by
      apply Nat.eq_of_testBit_eq
      intro i
      rw [Nat.testBit_and, Nat.testBit_xor, withN_bit _ _ _ _ _ hP, not_bit _ _ l1, Nat.testBit_mul_two_pow, Nat.testBit_two_pow_sub_one]
      by_cases h1 : i < A
      · simp [h1]
      · by_cases h2 : i < A + M
        · have h3 : i - A < M := by omega
          have h4 : A ≤ i := by omega
          simp [h3, h4]
        · simp [h1, h2]
    rw [this]
    rfl
end Go.Proofs.YtchamgecalfmpaaDoor
