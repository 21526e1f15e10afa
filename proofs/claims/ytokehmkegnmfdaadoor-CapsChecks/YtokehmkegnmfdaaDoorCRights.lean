/-
  Rights as bits of any int, without the program: two ways to say that one has no right that the other has not; masks; no condition but that each number fits.
-/
import Derived.Test.YtokehmkegnmfdaaDoorCMath
import Derived.Laws.BitsLemmas
namespace Go.Proofs.YtokehmkegnmfdaaDoor
set_option linter.unusedSectionVars false
variable [dCp : DecidableEq Cp] [dLim : ∀ k, Decidable (Lim k)] [dBad : ∀ k, Decidable (Bad k)] [dFit : ∀ g z, Decidable (Fit g z)] [dFine : ∀ c, Decidable (Fine c)] [dMint : ∀ c v, Decidable (MintR c v)] [dWho : ∀ x y, Decidable (Whose x y)]
theorem wrap_vec (v : BitVec 64) : IntKind.i64.wrap (v.toNat : Int) = v.toInt := by
  rw [IntKind.wrap_i64, BitVec.toInt_eq_toNat_cond]
  have := v.isLt
  split <;> omega
theorem vec_toInt (x : Int) (h0 : -9223372036854775808 ≤ x) (h1 : x ≤ 9223372036854775807) : (BitVec.ofInt 64 x).toInt = x := by
  rw [BitVec.toInt_ofInt, Int.bmod_def]
  split <;> omega
theorem and_vec (x y : Int) : bits .and .i64 x y = (BitVec.ofInt 64 x &&& BitVec.ofInt 64 y).toInt := by
  rw [← wrap_vec]; rfl
theorem andNot_vec (x y : Int) : bits .andNot .i64 x y = (BitVec.ofInt 64 x &&& ~~~ BitVec.ofInt 64 y).toInt := by
  rw [← wrap_vec]; rfl
theorem der_bits (x y : Int) (h0 : -9223372036854775808 ≤ x) (h1 : x ≤ 9223372036854775807) : bits .andNot .i64 x y = 0 ↔ bits .and .i64 x y = x := by
  rw [and_vec, andNot_vec]
  have hx := vec_toInt x h0 h1
  generalize BitVec.ofInt 64 x = X at *
  generalize BitVec.ofInt 64 y = Y at *
  subst hx
  have e0 : (0#64).toInt = 0 := by decide
  rw [← e0, BitVec.toInt_inj, BitVec.toInt_inj]
  constructor
  · intro h
    ext i hi
    have := congrArg (fun v => v.getLsbD i) h
    simp [hi] at this
    simp
    exact this
  · intro h
    ext i hi
    have := congrArg (fun v => v.getLsbD i) h
    simp [hi] at this
    simp
    exact this
theorem mask_vec (x : Int) : 0 ≤ bits .and .i64 x 7 ∧ bits .and .i64 x 7 ≤ 7 := by
  have key : bits BinOp.and IntKind.i64 x ((2 ^ 3 - 1 : Nat) : Int) = x % ((2 ^ 3 : Nat) : Int) := by
    show IntKind.i64.wrap ((BitVec.ofInt 64 x &&& BitVec.ofInt 64 ((2 ^ 3 - 1 : Nat) : Int)).toNat : Int) = _
    have e0 : (BitVec.ofInt 64 ((2 ^ 3 - 1 : Nat) : Int)).toNat = 2 ^ 3 - 1 := by decide
    rw [BitVec.toNat_and, e0, Nat.and_two_pow_sub_one_eq_mod, BitVec.toNat_ofInt]
    have e : (((x % ((2 ^ 64 : Nat) : Int)).toNat % 2 ^ 3 : Nat) : Int) = x % ((2 ^ 3 : Nat) : Int) := by
      rw [Int.natCast_emod, Int.toNat_of_nonneg (Int.emod_nonneg _ (by decide))]
      apply Int.emod_emod_of_dvd
      exact Int.natCast_dvd_natCast.2 (Nat.pow_dvd_pow 2 (by omega))
    rw [e, IntKind.wrap_i64] <;> omega
  have : bits BinOp.and IntKind.i64 x 7 = x % ((2 ^ 3 : Nat) : Int) := key
  rw [this]
  omega
theorem mask63 (x : Int) : 0 ≤ bits .and .i64 x 63 ∧ bits .and .i64 x 63 ≤ 63 := by
  have key : bits BinOp.and IntKind.i64 x ((2 ^ 6 - 1 : Nat) : Int) = x % ((2 ^ 6 : Nat) : Int) := by
    show IntKind.i64.wrap ((BitVec.ofInt 64 x &&& BitVec.ofInt 64 ((2 ^ 6 - 1 : Nat) : Int)).toNat : Int) = _
    have e0 : (BitVec.ofInt 64 ((2 ^ 6 - 1 : Nat) : Int)).toNat = 2 ^ 6 - 1 := by decide
    rw [BitVec.toNat_and, e0, Nat.and_two_pow_sub_one_eq_mod, BitVec.toNat_ofInt]
    have e : (((x % ((2 ^ 64 : Nat) : Int)).toNat % 2 ^ 6 : Nat) : Int) = x % ((2 ^ 6 : Nat) : Int) := by
      rw [Int.natCast_emod, Int.toNat_of_nonneg (Int.emod_nonneg _ (by decide))]
      apply Int.emod_emod_of_dvd
      exact Int.natCast_dvd_natCast.2 (Nat.pow_dvd_pow 2 (by omega))
    rw [e, IntKind.wrap_i64] <;> omega
  have : bits BinOp.and IntKind.i64 x 63 = x % ((2 ^ 6 : Nat) : Int) := key
  rw [this]
  omega
/-- Of two masks those rights that both let. -/
theorem mask_mask (n k : Int) : bits .and .i64 (bits .and .i64 n k) 7 = bits .and .i64 (bits .and .i64 n 7) (bits .and .i64 k 7) := by
  simp only [and_vec]
  have e : ∀ v : BitVec 64, BitVec.ofInt 64 v.toInt = v := fun v => BitVec.ofInt_toInt
  simp only [e]
  congr 1
  generalize BitVec.ofInt 64 n = N
  generalize BitVec.ofInt 64 k = K
  generalize BitVec.ofInt 64 7 = M
  rw [BitVec.and_assoc, BitVec.and_assoc]
  congr 1
  rw [← BitVec.and_assoc, BitVec.and_comm M K, BitVec.and_assoc, BitVec.and_self]
end Go.Proofs.YtokehmkegnmfdaaDoor
