/-
  Plain facts on words of 64 bits, without the program: what the bits of a masked, shifted or rounded number are; no condition but that each number fits a word.
-/
import Derived.Laws.BitsAllLaws
namespace Go.Proofs.Ythjcodkgcffamaa

/-! ### The functions that the contracts name -/
def onesI (n : Int) : Int := 2 ^ n.toNat - 1
def fieldN (v a n : Nat) : Nat := v / 2 ^ a % 2 ^ n
def fieldI (v a n : Int) : Int := ((fieldN v.toNat a.toNat n.toNat : Nat) : Int)
def withN (v a n x : Nat) : Nat := 2 ^ a * (2 ^ n * (v / 2 ^ (a + n)) + x) + v % 2 ^ a
def withI (v a n x : Int) : Int := ((withN v.toNat a.toNat n.toNat x.toNat : Nat) : Int)
def notI (x : Int) : Int := 18446744073709551615 - x
def upN (v n : Nat) : Nat := (v + (2 ^ n - 1)) / 2 ^ n * 2 ^ n
def upI (v n : Int) : Int := ((upN v.toNat n.toNat : Nat) : Int)
def bitI (n : Int) : Int := 2 ^ (n % 64).toNat

/-! ### Powers -/
theorem pow_le (n : Nat) (h : n ≤ 64) : 2 ^ n ≤ 18446744073709551616 := by
  have := Nat.pow_le_pow_right (n := 2) (by omega) h
  simpa using this
theorem pow_pos (n : Nat) : 0 < 2 ^ n := Nat.pow_pos (by omega)
theorem ones_cast (n : Nat) : onesI (n : Int) = ((2 ^ n - 1 : Nat) : Int) := by
  have := pow_pos n
  unfold onesI
  simp only [Int.toNat_natCast]
  rw [Int.natCast_sub (by omega)]
  simp
theorem onesI_bd (n : Int) (h0 : 0 ≤ n) (h1 : n ≤ 64) : 0 ≤ onesI n ∧ onesI n ≤ 18446744073709551615 := by
  obtain ⟨m, rfl⟩ := Int.eq_ofNat_of_zero_le h0
  rw [ones_cast]
  have := pow_le m (by omega)
  omega
theorem ones_wrap (n : Int) (h0 : 0 ≤ n) (h1 : n ≤ 64) : IntKind.u64.wrap (IntKind.u64.wrap (2 ^ n.toNat) - 1) = onesI n := by
  obtain ⟨m, rfl⟩ := Int.eq_ofNat_of_zero_le h0
  rw [ones_cast, IntKind.wrap_u64, IntKind.wrap_u64]
  have h := pow_le m (by omega)
  have h2 := pow_pos m
  have e : (2 : Int) ^ (m : Int).toNat = ((2 ^ m : Nat) : Int) := by simp
  rw [e]
  omega
theorem bit_wrap (n : Int) : IntKind.u64.wrap (2 ^ (n % 64).toNat) = bitI n := by
  unfold bitI
  have h0 : 0 ≤ n % 64 := Int.emod_nonneg _ (by omega)
  have h1 : n % 64 < 64 := Int.emod_lt_of_pos _ (by omega)
  obtain ⟨m, hm⟩ := Int.eq_ofNat_of_zero_le h0
  rw [hm, IntKind.wrap_u64]
  have h2 : 2 ^ m < 2 ^ 64 := Nat.pow_lt_pow_right (by omega) (by omega)
  have e : (2 : Int) ^ (m : Int).toNat = ((2 ^ m : Nat) : Int) := by simp
  rw [e]
  generalize 2 ^ m = p at h2 ⊢
  omega

/-! ### Bits -/
theorem field_bits (v a n : Int) (v0 : 0 ≤ v) (v1 : v ≤ 18446744073709551615) (a0 : 0 ≤ a) (n0 : 0 ≤ n) (n1 : n ≤ 64) :
    bits .and .u64 (v / 2 ^ a.toNat) (onesI n) = fieldI v a n := by
  obtain ⟨V, rfl⟩ := Int.eq_ofNat_of_zero_le v0
  obtain ⟨A, rfl⟩ := Int.eq_ofNat_of_zero_le a0
  obtain ⟨M, rfl⟩ := Int.eq_ofNat_of_zero_le n0
  have h := pow_le M (by omega)
  have e : ((V : Int) / 2 ^ (A : Int).toNat) = ((V / 2 ^ A : Nat) : Int) := by simp
  have hd : V / 2 ^ A ≤ V := Nat.div_le_self _ _
  rw [e, ones_cast, u64_and_nat _ _ (by omega) (by omega), Nat.and_two_pow_sub_one_eq_mod]
  simp [fieldI, fieldN]
theorem withN_bit (v a n x i : Nat) (hx : x < 2 ^ n) :
    (withN v a n x).testBit i = if i < a then v.testBit i else if i < a + n then x.testBit (i - a) else v.testBit i := by
  unfold withN
  rw [Nat.testBit_two_pow_mul_add _ (Nat.mod_lt _ (pow_pos a)), Nat.testBit_two_pow_mul_add _ hx]
  by_cases h1 : i < a
  · simp [h1, Nat.testBit_mod_two_pow]
  · by_cases h2 : i < a + n
    · have h3 : i - a < n := by omega
      simp [h1, h2, h3]
    · have h3 : ¬ i - a < n := by omega
      have h4 : i - a - n + (a + n) = i := by omega
      simp [h1, h2, h3, Nat.testBit_div_two_pow, h4]
theorem testBit_big (v i : Nat) (hv : v < 18446744073709551616) (hi : 64 ≤ i) : v.testBit i = false := by
  apply Nat.testBit_lt_two_pow
  have : 2 ^ 64 ≤ 2 ^ i := Nat.pow_le_pow_right (by omega) hi
  omega
theorem withN_lt (v a n x : Nat) (hv : v < 18446744073709551616) (hx : x < 2 ^ n) (h : a + n ≤ 64) : withN v a n x < 18446744073709551616 := by
  have := Nat.lt_pow_two_of_testBit (n := 64) (withN v a n x) (fun i hi => by
    rw [withN_bit _ _ _ _ _ hx]
    have h1 : ¬ i < a := by omega
    have h2 : ¬ i < a + n := by omega
    simp only [h1, h2, if_false]
    exact testBit_big v i hv hi)
  simpa using this
theorem not_bit (y i : Nat) (hy : y < 18446744073709551616) : (18446744073709551615 - y).testBit i = (decide (i < 64) && !y.testBit i) := by
  have := Nat.testBit_two_pow_sub_succ (x := y) (n := 64) (by omega) i
  rw [← this]
  congr 1
  omega
theorem mask_lt (a n : Nat) (h : a + n ≤ 64) : (2 ^ n - 1) * 2 ^ a < 18446744073709551616 := by
  have h1 : 2 ^ n * 2 ^ a ≤ 18446744073709551616 := by rw [← Nat.pow_add]; exact pow_le _ (by omega)
  have h2 := pow_pos n
  have h3 := pow_pos a
  have h4 : (2 ^ n - 1) * 2 ^ a = 2 ^ n * 2 ^ a - 2 ^ a := by rw [Nat.sub_mul, Nat.one_mul]
  rw [h4]
  have h5 : 2 ^ a ≤ 2 ^ n * 2 ^ a := Nat.le_mul_of_pos_left _ h2
  omega
theorem shl_lt (a n x : Nat) (hx : x < 2 ^ n) (h : a + n ≤ 64) : x * 2 ^ a < 18446744073709551616 := by
  have h1 := mask_lt a n h
  have h2 : x * 2 ^ a ≤ (2 ^ n - 1) * 2 ^ a := Nat.mul_le_mul_right _ (by omega)
  omega
theorem with_or (v a n x : Nat) (hv : v < 18446744073709551616) (hx : x < 2 ^ n) (h : a + n ≤ 64) :
    (v &&& (18446744073709551615 - (2 ^ n - 1) * 2 ^ a)) ||| x * 2 ^ a = withN v a n x := by
  apply Nat.eq_of_testBit_eq
  intro i
  rw [withN_bit _ _ _ _ _ hx, Nat.testBit_or, Nat.testBit_and, not_bit _ _ (mask_lt a n h), Nat.testBit_mul_two_pow, Nat.testBit_mul_two_pow, Nat.testBit_two_pow_sub_one]
  by_cases h1 : i < a
  · have h2 : ¬ a ≤ i := by omega
    have h3 : i < 64 := by omega
    simp [h1, h2, h3]
  · have h2 : a ≤ i := by omega
    by_cases h3 : i < a + n
    · have h4 : i - a < n := by omega
      simp [h1, h2, h3, h4]
    · have h4 : ¬ i - a < n := by omega
      have h5 : x.testBit (i - a) = false := Nat.testBit_lt_two_pow (Nat.lt_of_lt_of_le hx (Nat.pow_le_pow_right (by omega) (by omega)))
      by_cases h6 : i < 64
      · simp [h1, h2, h3, h4, h5, h6]
      · simp [h1, h2, h3, h4, h5, h6, testBit_big v i hv (by omega)]
theorem wrap_nat (x : Nat) (h : x < 18446744073709551616) : IntKind.u64.wrap (x : Int) = (x : Int) := by
  rw [IntKind.wrap_u64]
  omega
theorem with_bits (v a n x : Int) (v0 : 0 ≤ v) (v1 : v ≤ 18446744073709551615) (a0 : 0 ≤ a) (n0 : 0 ≤ n) (h : n ≤ 64 - a) (x0 : 0 ≤ x) (x1 : x ≤ onesI n) :
    bits .or .u64 (bits .andNot .u64 v (IntKind.u64.wrap (onesI n * 2 ^ a.toNat))) (IntKind.u64.wrap (x * 2 ^ a.toNat)) = withI v a n x := by
  obtain ⟨V, rfl⟩ := Int.eq_ofNat_of_zero_le v0
  obtain ⟨A, rfl⟩ := Int.eq_ofNat_of_zero_le a0
  obtain ⟨M, rfl⟩ := Int.eq_ofNat_of_zero_le n0
  obtain ⟨X, rfl⟩ := Int.eq_ofNat_of_zero_le x0
  rw [ones_cast] at x1 ⊢
  have hp := pow_pos M
  have hX : X < 2 ^ M := by omega
  have e1 : (((2 ^ M - 1 : Nat) : Int) * 2 ^ (A : Int).toNat) = (((2 ^ M - 1) * 2 ^ A : Nat) : Int) := by simp
  have e2 : ((X : Int) * 2 ^ (A : Int).toNat) = ((X * 2 ^ A : Nat) : Int) := by simp
  have l1 := mask_lt A M (by omega)
  have l2 := shl_lt A M X hX (by omega)
  rw [e1, e2, wrap_nat _ l1, wrap_nat _ l2, u64_andNot_nat _ _ (by omega) l1, u64_or_nat _ _ ?_ l2, with_or V A M X (by omega) hX (by omega)]
  · simp [withI]
  · have := Nat.and_le_left (n := V) (m := 18446744073709551615 - (2 ^ M - 1) * 2 ^ A)
    omega
theorem withI_bd (v a n x : Int) (v0 : 0 ≤ v) (v1 : v ≤ 18446744073709551615) (a0 : 0 ≤ a) (n0 : 0 ≤ n) (h : n ≤ 64 - a) (x0 : 0 ≤ x) (x1 : x ≤ onesI n) :
    0 ≤ withI v a n x ∧ withI v a n x ≤ 18446744073709551615 := by
  obtain ⟨V, rfl⟩ := Int.eq_ofNat_of_zero_le v0
  obtain ⟨A, rfl⟩ := Int.eq_ofNat_of_zero_le a0
  obtain ⟨M, rfl⟩ := Int.eq_ofNat_of_zero_le n0
  obtain ⟨X, rfl⟩ := Int.eq_ofNat_of_zero_le x0
  rw [ones_cast] at x1
  have hp := pow_pos M
  have := withN_lt V A M X (by omega) (by omega) (by omega)
  simp only [withI, Int.toNat_natCast]
  omega
theorem small_bit (P n i : Nat) (hP : P < 2 ^ n) (h : n ≤ i) : P.testBit i = false :=
  Nat.testBit_lt_two_pow (Nat.lt_of_lt_of_le hP (Nat.pow_le_pow_right (by omega) h))
theorem fieldN_bit (v a n i : Nat) : (fieldN v a n).testBit i = (decide (i < n) && v.testBit (i + a)) := by
  unfold fieldN
  rw [Nat.testBit_mod_two_pow, Nat.testBit_div_two_pow]
theorem field_with (v a n x : Nat) (hx : x < 2 ^ n) : fieldN (withN v a n x) a n = x := by
  apply Nat.eq_of_testBit_eq
  intro i
  rw [fieldN_bit, withN_bit _ _ _ _ _ hx]
  by_cases h1 : i < n
  · rw [if_neg (by omega), if_pos (by omega)]
    simp [h1]
  · rw [small_bit x n i hx (by omega)]
    simp [h1]
theorem field_apart (v a n x b m : Nat) (hx : x < 2 ^ n) (h : b + m ≤ a ∨ a + n ≤ b) : fieldN (withN v a n x) b m = fieldN v b m := by
  apply Nat.eq_of_testBit_eq
  intro i
  rw [fieldN_bit, fieldN_bit, withN_bit _ _ _ _ _ hx]
  by_cases h1 : i < m
  · rcases h with h | h
    · rw [if_pos (by omega)]
    · rw [if_neg (by omega), if_neg (by omega)]
  · simp [h1]
theorem with_apart (v a n x b m y : Nat) (hx : x < 2 ^ n) (hy : y < 2 ^ m) (h : a + n ≤ b) : withN (withN v a n x) b m y = withN (withN v b m y) a n x := by
  apply Nat.eq_of_testBit_eq
  intro i
  simp only [withN_bit _ _ _ _ _ hx, withN_bit _ _ _ _ _ hy]
  by_cases h1 : i < a
  · rw [if_pos (by omega), if_pos h1, if_pos h1, if_pos (by omega)]
  · by_cases h2 : i < a + n
    · rw [if_pos (by omega), if_neg h1, if_pos h2, if_neg h1, if_pos h2]
    · rw [if_neg h1, if_neg h2, if_neg h1, if_neg h2]
theorem fieldN_lt (v a n : Nat) : fieldN v a n < 2 ^ n := Nat.mod_lt _ (pow_pos n)
theorem fieldI_bd (v a n : Int) (n0 : 0 ≤ n) : 0 ≤ fieldI v a n ∧ fieldI v a n ≤ onesI n := by
  obtain ⟨M, rfl⟩ := Int.eq_ofNat_of_zero_le n0
  rw [ones_cast]
  have := fieldN_lt v.toNat a.toNat M
  simp only [fieldI, Int.toNat_natCast]
  omega
theorem not_bits (x : Int) (x0 : 0 ≤ x) (x1 : x ≤ 18446744073709551615) : bits .xor .u64 IntKind.u64.max x = notI x := by
  obtain ⟨X, rfl⟩ := Int.eq_ofNat_of_zero_le x0
  show IntKind.u64.wrap ((BitVec.ofInt 64 IntKind.u64.max ^^^ BitVec.ofInt 64 (X : Int)).toNat : Int) = _
  have h1 : BitVec.ofInt 64 IntKind.u64.max = BitVec.allOnes 64 := by decide
  rw [h1, BitVec.allOnes_xor, BitVec.toNat_not, ofInt_u64 X (by omega), IntKind.wrap_u64]
  unfold notI
  omega
theorem low_split (v n : Nat) : (v / 2 ^ n * 2 ^ n) = v - v % 2 ^ n := by
  have := Nat.div_add_mod v (2 ^ n)
  rw [Nat.mul_comm] at this
  omega
theorem and_not_low (v n : Nat) (hv : v < 18446744073709551616) (h : n ≤ 64) : v &&& (18446744073709551615 - (2 ^ n - 1)) = v / 2 ^ n * 2 ^ n := by
  apply Nat.eq_of_testBit_eq
  intro i
  have hp := pow_pos n
  have hq := pow_le n h
  rw [Nat.testBit_and, not_bit _ _ (by omega), Nat.testBit_two_pow_sub_one, Nat.testBit_mul_two_pow, Nat.testBit_div_two_pow]
  by_cases h1 : i < n
  · have h2 : ¬ n ≤ i := by omega
    simp [h1, h2]
  · have h2 : n ≤ i := by omega
    have h3 : i - n + n = i := by omega
    by_cases h4 : i < 64
    · simp [h1, h2, h3, h4]
    · simp [h2, h3, testBit_big v i hv (by omega)]
theorem up_bits (v n : Int) (v0 : 0 ≤ v) (n0 : 0 ≤ n) (n1 : n ≤ 63) (hv : v ≤ notI (onesI n)) : bits .andNot .u64 (v + onesI n) (onesI n) = upI v n := by
  obtain ⟨V, rfl⟩ := Int.eq_ofNat_of_zero_le v0
  obtain ⟨M, rfl⟩ := Int.eq_ofNat_of_zero_le n0
  unfold notI at hv
  rw [ones_cast] at hv ⊢
  have hp := pow_pos M
  have hq := pow_le M (by omega)
  have e : ((V : Int) + ((2 ^ M - 1 : Nat) : Int)) = ((V + (2 ^ M - 1) : Nat) : Int) := by omega
  rw [e, u64_andNot_nat _ _ (by omega) (by omega), and_not_low _ _ (by omega) (by omega)]
  simp [upI, upN]
theorem upI_bd (v n : Int) (v0 : 0 ≤ v) (n0 : 0 ≤ n) (n1 : n ≤ 63) (hv : v ≤ notI (onesI n)) : 0 ≤ upI v n ∧ upI v n ≤ 18446744073709551615 := by
  obtain ⟨V, rfl⟩ := Int.eq_ofNat_of_zero_le v0
  obtain ⟨M, rfl⟩ := Int.eq_ofNat_of_zero_le n0
  unfold notI at hv
  rw [ones_cast] at hv
  have := Nat.div_mul_le_self (V + (2 ^ M - 1)) (2 ^ M)
  simp only [upI, upN, Int.toNat_natCast]
  omega
end Go.Proofs.Ythjcodkgcffamaa
