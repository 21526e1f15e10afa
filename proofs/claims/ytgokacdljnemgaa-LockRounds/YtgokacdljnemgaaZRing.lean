/-
  Cores that stand in line in turns; no condition.
-/
import Derived.Test.YtgokacdljnemgaaZPure
namespace Go.Proofs.Ytgokacdljnemgaa
/-- k cores of N, from s + a on, round and round. -/
def seg (N s a k : Nat) : St := (List.range k).map fun j => (((s + a + j) % N : Nat) : Int)
theorem seg_len (N s a k : Nat) : (seg N s a k).length = k := by simp [seg]
theorem seg_more (N s a k : Nat) : seg N s a (k + 1) = seg N s a k ++ [(((s + a + k) % N : Nat) : Int)] := by
  unfold seg
  rw [List.range_succ, List.map_append]
  rfl
theorem seg_cons (N s a k : Nat) : seg N s a (k + 1) = (((s + a) % N : Nat) : Int) :: seg N s (a + 1) k := by
  unfold seg
  rw [List.range_succ_eq_map, List.map_cons, List.map_map]
  congr 1
  apply List.map_congr_left
  intro j _
  show (((s + a + (j + 1)) % N : Nat) : Int) = (((s + (a + 1) + j) % N : Nat) : Int)
  congr 2
  omega
theorem mod_ne {N b j k : Nat} (hj : j < k) (hk : k < N) : (b + j) % N ≠ (b + k) % N := fun e => by
  have h1 := Nat.sub_mod_eq_zero_of_mod_eq e.symm
  have h2 : b + k - (b + j) = k - j := by omega
  rw [h2, Nat.mod_eq_of_lt (by omega)] at h1
  omega
theorem seg_not {N s a k : Nat} (hk : k < N) : inB (seg N s a k) (((s + a + k) % N : Nat) : Int) = false := by
  cases h : inB (seg N s a k) (((s + a + k) % N : Nat) : Int) with
  | false => rfl
  | true =>
    obtain ⟨j, hj, e⟩ := List.mem_map.1 (in_iff.1 h)
    have hj := List.mem_range.1 hj
    exact absurd (Int.ofNat.inj e) (mod_ne hj hk)
theorem seg_turn {N s i : Nat} (hN : 1 ≤ N) : ∃ T, seg N s i N = (((s + i) % N : Nat) : Int) :: T ∧ inB T (((s + i) % N : Nat) : Int) = false ∧ T ++ [(((s + i) % N : Nat) : Int)] = seg N s (i + 1) N := by
  obtain ⟨k, rfl⟩ : ∃ k, N = k + 1 := ⟨N - 1, by omega⟩
  have e : (s + (i + 1) + k) % (k + 1) = (s + i) % (k + 1) := by
    have : s + (i + 1) + k = s + i + (k + 1) := by omega
    rw [this, Nat.add_mod_right]
  refine ⟨seg (k + 1) s (i + 1) k, seg_cons (k + 1) s i k, ?_, ?_⟩
  · rw [← e]
    exact seg_not (by omega)
  · rw [← e]
    exact (seg_more (k + 1) s (i + 1) k).symm
end Go.Proofs.Ytgokacdljnemgaa
