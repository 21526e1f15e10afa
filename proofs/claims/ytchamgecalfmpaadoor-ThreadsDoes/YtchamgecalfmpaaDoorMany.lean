/-
  Plain facts on four words that together are 256 bits, without the program: whether a bit is set, what becomes of the words when one is set or cleared, which is the greatest; no condition but that each word fits.
-/
import Derived.Test.YtchamgecalfmpaaDoorMath
namespace Go.Proofs.YtchamgecalfmpaaDoor

def wordAt (b0 b1 b2 b3 : Int) (k : Nat) : Int := if k = 0 then b0 else if k = 1 then b1 else if k = 2 then b2 else b3
def hasN (b0 b1 b2 b3 : Int) (n : Nat) : Bool := (wordAt b0 b1 b2 b3 (n / 64)).toNat.testBit (n % 64)
def hasI (b0 b1 b2 b3 n : Int) : Bool := decide (0 ≤ n) && (decide (n < 256) && hasN b0 b1 b2 b3 n.toNat)
def putI (z : Bool) (b : Int) (j : Nat) : Int :=
  if b.toNat.testBit j = z then b else if z = true then b + 2 ^ j else b - 2 ^ j
def setI (z : Bool) (b n k : Int) : Int := if n / 64 = k then putI z b (n % 64).toNat else b
def topTo (f : Nat → Bool) : Nat → Int
  | 0 => -1
  | k + 1 => if f k = true then (k : Int) else topTo f k
def topI (b0 b1 b2 b3 : Int) : Int := topTo (hasN b0 b1 b2 b3) 256

theorem topTo_of (f : Nat → Bool) (t : Nat) (h : f t = true) : ∀ m, t < m → (∀ k, t < k → k < m → f k = false) → topTo f m = t
  | 0, hm, _ => by omega
  | m + 1, hm, ha => by
    unfold topTo
    by_cases e : t = m
    · subst e
      rw [if_pos h]
    · rw [ha m (by omega) (by omega), if_neg (by simp)]
      exact topTo_of f t h m (by omega) fun k h1 h2 => ha k h1 (by omega)
theorem topTo_none (f : Nat → Bool) : ∀ m, (∀ k, k < m → f k = false) → topTo f m = -1
  | 0, _ => rfl
  | m + 1, ha => by
    unfold topTo
    rw [ha m (by omega), if_neg (by simp)]
    exact topTo_none f m fun k h => ha k (by omega)
theorem topTo_cases (f : Nat → Bool) : ∀ m, (topTo f m = -1 ∧ ∀ k, k < m → f k = false) ∨ ∃ t, topTo f m = (t : Nat) ∧ t < m ∧ f t = true ∧ ∀ k, t < k → k < m → f k = false
  | 0 => Or.inl ⟨rfl, fun k h => by omega⟩
  | m + 1 => by
    by_cases h : f m = true
    · exact Or.inr ⟨m, by unfold topTo; rw [if_pos h], by omega, h, fun k h1 h2 => by omega⟩
    · have h' : f m = false := by simpa using h
      have e : topTo f (m + 1) = topTo f m := by
        show (if f m = true then (m : Int) else topTo f m) = topTo f m
        rw [if_neg h]
      rcases topTo_cases f m with ⟨h1, h2⟩ | ⟨t, h1, h2, h3, h4⟩
      · refine Or.inl ⟨by rw [e, h1], fun k hk => ?_⟩
        by_cases ek : k = m
        · rw [ek]; exact h'
        · exact h2 k (by omega)
      · refine Or.inr ⟨t, by rw [e, h1], by omega, h3, fun k hk hk2 => ?_⟩
        by_cases ek : k = m
        · rw [ek]; exact h'
        · exact h4 k hk (by omega)

theorem bitI_nat (n : Int) : bitI n = ((2 ^ (n % 64).toNat : Nat) : Int) := by
  unfold bitI
  simp
theorem two_lt (j : Nat) (h : j < 64) : 2 ^ j < 18446744073709551616 := by
  have := Nat.pow_lt_pow_right (a := 2) (by omega) h
  simpa using this
theorem mod_lt (n : Int) : (n % 64).toNat < 64 := by
  have := Int.emod_lt_of_pos n (b := 64) (by omega)
  have := Int.emod_nonneg n (b := 64) (by omega)
  omega
theorem has_bits (b n : Int) (b0 : 0 ≤ b) (b1 : b ≤ 18446744073709551615) : (bits .and .u64 b (bitI n) != 0) = b.toNat.testBit (n % 64).toNat := by
  obtain ⟨B, rfl⟩ := Int.eq_ofNat_of_zero_le b0
  rw [bitI_nat, u64_and_nat _ _ (by omega) (two_lt _ (mod_lt n)), Int.toNat_natCast]
  generalize (n % 64).toNat = j
  rw [nat_bit, Nat.testBit_eq_decide_div_mod_eq]
  have hp := pow_pos j
  rcases Nat.mod_two_eq_zero_or_one (B / 2 ^ j) with h | h
  · rw [h]; simp
  · rw [h, Nat.one_mul, show decide (1 = 1) = true from rfl, bne_iff_ne]
    exact Int.ofNat_ne_zero.2 (Nat.ne_of_gt hp)
theorem or_bit (B j : Nat) : B ||| 2 ^ j = if B.testBit j = true then B else B + 2 ^ j := by
  apply Nat.eq_of_testBit_eq
  intro i
  rw [Nat.testBit_or, Nat.testBit_two_pow]
  by_cases h : B.testBit j = true
  · rw [if_pos h]
    by_cases e : j = i
    · subst e; simp [h]
    · simp [e]
  · rw [if_neg h]
    have hb : B.testBit j = false := by simpa using h
    have e1 : B = 2 ^ j * (B / 2 ^ j) + B % 2 ^ j := (Nat.div_add_mod B (2 ^ j)).symm
    have hm := Nat.mod_lt B (pow_pos j)
    have e2 : B + 2 ^ j = 2 ^ j * (B / 2 ^ j + 1) + B % 2 ^ j := by rw [Nat.mul_add, Nat.mul_one]; omega
    rw [e2, Nat.testBit_two_pow_mul_add _ hm]
    have hpar : B / 2 ^ j % 2 = 0 := by
      rw [Nat.testBit_eq_decide_div_mod_eq] at hb
      have := Nat.mod_two_eq_zero_or_one (B / 2 ^ j)
      simp at hb
      omega
    by_cases h1 : i < j
    · have h2 : ¬ j = i := by omega
      simp [h1, h2, Nat.testBit_mod_two_pow]
    · rw [if_neg h1]
      have e3 : B / 2 ^ j + 1 = 2 ^ 1 * (B / 2 ^ j / 2) + 1 := by omega
      have e4 : B / 2 ^ j = 2 ^ 1 * (B / 2 ^ j / 2) + 0 := by omega
      have hB : B.testBit i = (B / 2 ^ j).testBit (i - j) := by rw [Nat.testBit_div_two_pow]; congr 1; omega
      rw [hB, e3, Nat.testBit_two_pow_mul_add _ (by omega)]
      conv => lhs; rw [e4]
      rw [Nat.testBit_two_pow_mul_add _ (by omega)]
      by_cases h2 : j = i
      · subst h2; simp
      · have h3 : ¬ i - j < 1 := by omega
        simp [h2, h3]
theorem testBit_or_self (B j : Nat) (h : B.testBit j = true) : B = (B - 2 ^ j) + 2 ^ j ∧ (B - 2 ^ j).testBit j = false := by
  have e1 : B = 2 ^ j * (B / 2 ^ j) + B % 2 ^ j := (Nat.div_add_mod B (2 ^ j)).symm
  have hm := Nat.mod_lt B (pow_pos j)
  have hpar : B / 2 ^ j % 2 = 1 := by
    rw [Nat.testBit_eq_decide_div_mod_eq] at h
    simpa using h
  generalize hq : B / 2 ^ j = q at *
  generalize hr : B % 2 ^ j = r at *
  have h1 : 1 ≤ q := by omega
  have h2 : 2 ^ j ≤ 2 ^ j * q := Nat.le_mul_of_pos_right _ h1
  have e2 : B - 2 ^ j = 2 ^ j * (q - 1) + r := by
    rw [Nat.mul_sub, Nat.mul_one]
    generalize 2 ^ j * q = x at *
    generalize 2 ^ j = p at *
    omega
  refine ⟨?_, ?_⟩
  · generalize 2 ^ j * q = x at *
    generalize 2 ^ j = p at *
    omega
  · rw [e2, Nat.testBit_two_pow_mul_add _ hm, if_neg (by omega), Nat.sub_self, Nat.testBit_eq_decide_div_mod_eq]
    simp
    omega
theorem put_bit (z : Bool) (b : Int) (j i : Nat) (h : 0 ≤ b) : (putI z b j).toNat.testBit i = if i = j then z else b.toNat.testBit i := by
  obtain ⟨B, rfl⟩ := Int.eq_ofNat_of_zero_le h
  unfold putI
  rw [Int.toNat_natCast]
  cases hb : B.testBit j <;> cases z <;> simp
  · intro e e2; rw [e2, hb] at e; simp at e
  · have e : ((B : Int) + 2 ^ j).toNat = B + 2 ^ j := by
      have : (2 : Int) ^ j = ((2 ^ j : Nat) : Int) := by simp
      rw [this]; generalize 2 ^ j = p; omega
    rw [e]
    have := or_bit B j
    rw [if_neg (by simp [hb])] at this
    rw [← this, Nat.testBit_or, Nat.testBit_two_pow]
    by_cases e2 : i = j
    · simp [e2]
    · have e3 : ¬ j = i := fun x => e2 x.symm
      simp [e2, e3]
  · obtain ⟨e1, e2⟩ := testBit_or_self B j hb
    have e : ((B : Int) - 2 ^ j).toNat = B - 2 ^ j := by
      have : (2 : Int) ^ j = ((2 ^ j : Nat) : Int) := by simp
      rw [this]; generalize 2 ^ j = p; omega
    rw [e]
    by_cases e3 : i = j
    · subst e3; simp [e2]
    · have e4 : ¬ j = i := fun x => e3 x.symm
      have := or_bit (B - 2 ^ j) j
      rw [if_neg (by simp [e2]), ← e1] at this
      have h5 : B.testBit i = (B - 2 ^ j ||| 2 ^ j).testBit i := by rw [this]
      rw [h5, Nat.testBit_or, Nat.testBit_two_pow]
      simp [e3, e4]
  · intro e; rw [e]; exact hb
theorem put_bd (z : Bool) (b : Int) (j : Nat) (b0 : 0 ≤ b) (b1 : b ≤ 18446744073709551615) (hj : j < 64) : 0 ≤ putI z b j ∧ putI z b j ≤ 18446744073709551615 := by
  have h0 : 0 ≤ putI z b j := by
    obtain ⟨B, rfl⟩ := Int.eq_ofNat_of_zero_le b0
    unfold putI
    have hpw : (2 : Int) ^ j = ((2 ^ j : Nat) : Int) := by simp
    rw [hpw]
    cases hb : B.testBit j <;> cases z <;> simp only [Int.toNat_natCast, hb, if_true, if_false, Bool.false_eq_true, Bool.true_eq_false]
    · omega
    · generalize 2 ^ j = p
      omega
    · have := (testBit_or_self B j hb).1
      generalize 2 ^ j = p at *
      omega
    · omega
  refine ⟨h0, ?_⟩
  have := Nat.lt_pow_two_of_testBit (n := 64) (putI z b j).toNat (fun i hi => by
    rw [put_bit z b j i b0, if_neg (by omega)]
    exact testBit_big _ i (by omega) hi)
  omega
theorem or_put (b n : Int) (b0 : 0 ≤ b) (b1 : b ≤ 18446744073709551615) : bits .or .u64 b (bitI n) = putI true b (n % 64).toNat := by
  obtain ⟨B, rfl⟩ := Int.eq_ofNat_of_zero_le b0
  rw [bitI_nat, u64_or_nat _ _ (by omega) (two_lt _ (mod_lt n)), or_bit]
  unfold putI
  rw [Int.toNat_natCast]
  cases hb : B.testBit (n % 64).toNat <;> simp
theorem clr_put (b n : Int) (b0 : 0 ≤ b) (b1 : b ≤ 18446744073709551615) : bits .andNot .u64 b (bitI n) = putI false b (n % 64).toNat := by
  obtain ⟨B, rfl⟩ := Int.eq_ofNat_of_zero_le b0
  have hp := two_lt _ (mod_lt n)
  rw [bitI_nat, u64_andNot_nat _ _ (by omega) hp]
  have hb := put_bd false (B : Int) (n % 64).toNat (by omega) b1 (mod_lt n)
  have e : putI false (B : Int) (n % 64).toNat = (((putI false (B : Int) (n % 64).toNat).toNat : Nat) : Int) := by omega
  rw [e]
  congr 1
  apply Nat.eq_of_testBit_eq
  intro i
  rw [put_bit _ _ _ _ (by omega), Int.toNat_natCast, Nat.testBit_and, not_bit _ _ hp, Nat.testBit_two_pow]
  by_cases e2 : i = (n % 64).toNat
  · simp [← e2]
  · have e3 : ¬ (n % 64).toNat = i := fun x => e2 x.symm
    by_cases e4 : i < 64
    · simp [e2, e3, e4]
    · simp [e2, e3, testBit_big B i (by omega) (by omega)]
end Go.Proofs.YtchamgecalfmpaaDoor
