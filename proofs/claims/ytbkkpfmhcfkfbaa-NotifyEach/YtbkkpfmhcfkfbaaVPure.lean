/-
  Facts for the laws of notify: those that wait, none signalled; lists with one taken out; no condition.
-/
import Derived.Test.YtbkkpfmhcfkfbaaVMath
namespace Go.Proofs.Ytbkkpfmhcfkfbaa
/-- One more, unless it is there. -/
def addL (L : List Int) (n : Int) : List Int := if L.contains n = true then L else L ++ [n]
theorem add_len (L : List Int) (n : Int) : (addL L n).length ≤ L.length + 1 := by
  unfold addL
  split <;> simp
theorem add_has (L : List Int) (n m : Int) : (addL L n).contains m = (L.contains m || n == m) := by
  unfold addL
  by_cases h : n ∈ L
  · have h1 : L.contains n = true := by simpa using h
    rw [if_pos h1]
    by_cases e : n = m
    · subst e
      simp [h]
    · simp [e]
  · have h1 : L.contains n = false := by simpa using h
    rw [if_neg (by rw [h1]; simp)]
    rw [List.contains_append]
    congr 1
    rw [List.contains_cons, List.contains_nil, Bool.or_false, Bool.beq_comm]
/-- None signalled, L wait. -/
def lnS (L : List Int) : Ns := ⟨false, 0, L⟩
theorem ln_wait (L : List Int) (n : Int) : waitW (lnS L) n = 0 ∧ waitB (lnS L) n = false ∧ waitS (lnS L) n true = lnS (addL L n) ∧ waitS (lnS L) n false = lnS L ∧ waitE (lnS L) n = if L.contains n = true then 120 else 0 := by
  have hth : thB (lnS L) n = L.contains n := rfl
  have hb : (lnS L).b = false := rfl
  unfold waitW waitB waitS waitE addL
  rw [hth, hb]
  by_cases h : L.contains n = true
  · simp only [h, if_true, and_self]
  · simp only [h]
    simp [lnS]
theorem ln_sig (L : List Int) (x g : Int) : sigN (lnS (x :: L)) = x ∧ sigW (lnS (x :: L)) g = g ∧ sigB (lnS (x :: L)) = true ∧ sigS (lnS (x :: L)) g = lnS L := ⟨rfl, rfl, rfl, rfl⟩
theorem ln_can (L : List Int) (n : Int) : thB (lnS L) n = L.contains n ∧ canS (lnS L) n = lnS (outL L n) := ⟨rfl, rfl⟩
theorem out_drop_eq {L : List Int} {i : Nat} {x : Int} (h : L[i]? = some x) : outL (L.drop i) x = outL (L.drop (i + 1)) x := by
  have hi := (List.getElem?_eq_some_iff.1 h).1
  have e : L.drop i = x :: L.drop (i + 1) := by
    rw [List.drop_eq_getElem_cons hi]
    congr 1
    exact (List.getElem?_eq_some_iff.1 h).2
  rw [e]
  simp [outL]
theorem out_drop_ne {L : List Int} {i : Nat} {x n : Int} (h : L[i]? = some x) (hn : (x == n) = false) : outL (L.drop i) n = x :: outL (L.drop (i + 1)) n := by
  have hi := (List.getElem?_eq_some_iff.1 h).1
  have e : L.drop i = x :: L.drop (i + 1) := by
    rw [List.drop_eq_getElem_cons hi]
    congr 1
    exact (List.getElem?_eq_some_iff.1 h).2
  rw [e]
  have : x ≠ n := by simpa using hn
  simp [outL, this]
theorem out_take_eq {L : List Int} {i : Nat} {x : Int} (h : L[i]? = some x) : outL (L.take (i + 1)) x = outL (L.take i) x := by
  rw [List.take_add_one, h]
  simp [outL]
theorem out_take_ne {L : List Int} {i : Nat} {x n : Int} (h : L[i]? = some x) (hn : (x == n) = false) : (outL (L.take (i + 1)) n).length = (outL (L.take i) n).length + 1 := by
  rw [List.take_add_one, h]
  have : x ≠ n := by simpa using hn
  simp [outL, this]
theorem i64_mask (x : Int) (m : Nat) (hm : m ≤ 62) : bits .and .i64 x ((2 ^ m - 1 : Nat) : Int) = x % ((2 ^ m : Nat) : Int) := by
  have hp := Nat.two_pow_pos m
  have hq : 2 ^ m ≤ 2 ^ 62 := Nat.pow_le_pow_right (by omega) hm
  show IntKind.i64.wrap ((BitVec.ofInt 64 x &&& BitVec.ofInt 64 ((2 ^ m - 1 : Nat) : Int)).toNat : Int) = _
  rw [BitVec.toNat_and, ofInt_u64 (2 ^ m - 1) (by omega), Nat.and_two_pow_sub_one_eq_mod, BitVec.toNat_ofInt]
  have e : (((x % ((2 ^ 64 : Nat) : Int)).toNat % 2 ^ m : Nat) : Int) = x % ((2 ^ m : Nat) : Int) := by
    rw [Int.natCast_emod, Int.toNat_of_nonneg (Int.emod_nonneg _ (by decide))]
    apply Int.emod_emod_of_dvd
    exact Int.natCast_dvd_natCast.2 (Nat.pow_dvd_pow 2 (by omega))
  rw [e]
  have h1 : 0 ≤ x % ((2 ^ m : Nat) : Int) := Int.emod_nonneg _ (by omega)
  have h2 : x % ((2 ^ m : Nat) : Int) < ((2 ^ m : Nat) : Int) := Int.emod_lt_of_pos _ (by omega)
  generalize x % ((2 ^ m : Nat) : Int) = y at *
  generalize 2 ^ m = p at *
  have hy : y % (2 : Int) ^ 64 = y := Int.emod_eq_of_lt h1 (by omega)
  simp only [IntKind.wrap, IntKind.bits, IntKind.signed, hy]
  rw [if_neg]
  simp
  omega
theorem mask_is (x : Int) (m : Nat) (hm : m ≤ 62) : ∃ p : Nat, p < 2 ^ m ∧ bits .and .i64 x ((2 ^ m - 1 : Nat) : Int) = (p : Int) := by
  have hp : (0 : Int) < ((2 ^ m : Nat) : Int) := by
    have := Nat.two_pow_pos m
    omega
  have h0 : 0 ≤ x % ((2 ^ m : Nat) : Int) := Int.emod_nonneg _ (by omega)
  have h1 : x % ((2 ^ m : Nat) : Int) < ((2 ^ m : Nat) : Int) := Int.emod_lt_of_pos _ hp
  exact ⟨(x % ((2 ^ m : Nat) : Int)).toNat, by omega, by rw [i64_mask x m hm]; omega⟩
theorem mask64k (x : Int) : ∃ p : Nat, p < 65536 ∧ bits .and .i64 x 65535 = (p : Int) := mask_is x 16 (by decide)
theorem rem_nat (k : Nat) (d : Int) (hd : 0 < d) : ∃ n : Nat, (n : Int) < d ∧ (k : Int) % d = (n : Int) := by
  have h0 : 0 ≤ (k : Int) % d := Int.emod_nonneg _ (by omega)
  have h1 : (k : Int) % d < d := Int.emod_lt_of_pos _ hd
  exact ⟨((k : Int) % d).toNat, by omega, by omega⟩
end Go.Proofs.Ytbkkpfmhcfkfbaa
