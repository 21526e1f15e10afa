/-
  An int's lowest bits, as a number; what is left of a division; no condition.
-/
import Derived.Laws.BitsAllLaws
namespace Go.Proofs.Ytpapjdmnhgnpfaa
theorem i64_mask (x : Int) (m : Nat) (hm : m ≤ 62) : bits .and .i64 x ((2 ^ m - 1 : Nat) : Int) = x % ((2 ^ m : Nat) : Int) := by
  have hp := Nat.two_pow_pos m
  have hq : 2 ^ m ≤ 2 ^ 62 := Nat.pow_le_pow_right (by omega) hm
  show IntKind.i64.wrap ((BitVec.ofInt 64 x &&& BitVec.ofInt 64 ((2 ^ m - 1 : Nat) : Int)).toNat : Int) = _
  rw [BitVec.toNat_and, ofInt_u64 (2 ^ m - 1) (by omega), Nat.and_two_pow_sub_one_eq_mod, BitVec.toNat_ofInt]
  have e : (((x % ((2 ^ 64 : Nat) : Int)).toNat % 2 ^ m : Nat) : Int) = x % ((2 ^ m : Nat) : Int) := by
    rw [Int.natCast_emod, Int.toNat_of_nonneg (Int.emod_nonneg _ (by decide))]
    apply Int.emod_emod_of_dvd
    exact Int.natCast_dvd_natCast.2 (Nat.pow_dvd_pow 2 (by omega))
  rw [e]
  have h1 : 0 ≤ x % ((2 ^ m : Nat) : Int) := Int.emod_nonneg _ (by omega)
  have h2 : x % ((2 ^ m : Nat) : Int) < ((2 ^ m : Nat) : Int) := Int.emod_lt_of_pos _ (by omega)
  generalize x % ((2 ^ m : Nat) : Int) = y at *
  generalize 2 ^ m = p at *
  have hy : y % (2 : Int) ^ 64 = y := Int.emod_eq_of_lt h1 (by omega)
  simp only [IntKind.wrap, IntKind.bits, IntKind.signed, hy]
  rw [if_neg]
  simp
  omega
theorem mask_is (x : Int) (m : Nat) (hm : m ≤ 62) : ∃ p : Nat, p < 2 ^ m ∧ bits .and .i64 x ((2 ^ m - 1 : Nat) : Int) = (p : Int) := by
  have hp : (0 : Int) < ((2 ^ m : Nat) : Int) := by
    have := Nat.two_pow_pos m
    omega
  have h0 : 0 ≤ x % ((2 ^ m : Nat) : Int) := Int.emod_nonneg _ (by omega)
  have h1 : x % ((2 ^ m : Nat) : Int) < ((2 ^ m : Nat) : Int) := Int.emod_lt_of_pos _ hp
  exact ⟨(x % ((2 ^ m : Nat) : Int)).toNat, by omega, by rw [i64_mask x m hm]; omega⟩
theorem mask3 (x : Int) : ∃ p : Nat, p < 4 ∧ bits .and .i64 x 3 = (p : Int) := mask_is x 2 (by decide)
theorem mask7 (x : Int) : ∃ p : Nat, p < 8 ∧ bits .and .i64 x 7 = (p : Int) := mask_is x 3 (by decide)
theorem mask63 (x : Int) : ∃ p : Nat, p < 64 ∧ bits .and .i64 x 63 = (p : Int) := mask_is x 6 (by decide)
theorem mask64k (x : Int) : ∃ p : Nat, p < 65536 ∧ bits .and .i64 x 65535 = (p : Int) := mask_is x 16 (by decide)
theorem rem_nat (k : Nat) (d : Int) (hd : 0 < d) : ∃ n : Nat, (n : Int) < d ∧ (k : Int) % d = (n : Int) := by
  have h1 : 0 ≤ (k : Int) % d := Int.emod_nonneg _ (by omega)
  have h2 : (k : Int) % d < d := Int.emod_lt_of_pos _ hd
  exact ⟨((k : Int) % d).toNat, by omega, by omega⟩
end Go.Proofs.Ytpapjdmnhgnpfaa
