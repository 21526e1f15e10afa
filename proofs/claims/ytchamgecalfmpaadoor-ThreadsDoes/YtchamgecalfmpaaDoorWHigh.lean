/-
  What highest of package words returns, for every word that is not 0, where the table of widths lies as the program laid it: the number of its highest bit.
-/
import Derived.Test.YtchamgecalfmpaaDoorWBits
namespace Go.Proofs.YtchamgecalfmpaaDoor
open Go.RowKit
/-- The widths: 32, 16, 8, 4, 2, 1. -/
def half (k : Nat) : Nat := 32 / 2 ^ k
theorem half_of : ∀ k, k < 6 → 64 / 2 ^ k = half k + half k ∧ 64 / 2 ^ (k + 1) = half k ∧ 1 ≤ half k ∧ half k ≤ 32 := by decide
/-- The words of the table lie where the program laid them. -/
def Tab (w : World) : Prop := 0 < w.heap.size ∧ ∀ k, k < 6 → w.cell? ⟨0, k, none⟩ = some (.int .u64 (half k : Nat))
theorem Tab.below {w w' : World} (h : Tab w) (hb : Below w.heap.size w w') : Tab w' :=
  ⟨Nat.lt_of_lt_of_le h.1 hb.size, fun k hk => by rw [hb.cell (p := ⟨0, k, none⟩) h.1]; exact h.2 k hk⟩

/-- Behind k rounds: a bits are known to lie below the highest one. -/
structure HighAt (V k a : Nat) : Prop where
  pos : 0 < V / 2 ^ a
  lt : V / 2 ^ a < 2 ^ (64 / 2 ^ k)
  le : a + 64 / 2 ^ k ≤ 64
theorem shr_cast (V a h : Nat) : (V : Int) / 2 ^ a / 2 ^ h = ((V / 2 ^ a / 2 ^ h : Nat) : Int) := by simp
theorem high_yes {V k a : Nat} (h : HighAt V k a) (hk : k < 6) (t : ((V : Int) / 2 ^ a / 2 ^ half k != 0) = true) :
    (V : Int) / 2 ^ a / 2 ^ half k = ((V / 2 ^ (a + half k) : Nat) : Int) ∧ HighAt V (k + 1) (a + half k) := by
  obtain ⟨e1, e2, e3, e4⟩ := half_of k hk
  rw [shr_cast] at t ⊢
  have e5 : V / 2 ^ a / 2 ^ half k = V / 2 ^ (a + half k) := by rw [Nat.div_div_eq_div_mul, ← Nat.pow_add]
  rw [e5] at t ⊢
  have hne : V / 2 ^ (a + half k) ≠ 0 := by
    intro z
    rw [z] at t
    simp at t
  refine ⟨rfl, ⟨Nat.pos_of_ne_zero hne, ?_, ?_⟩⟩
  · rw [← e5, e2]
    have := h.lt
    rw [e1, Nat.pow_add] at this
    exact Nat.div_lt_of_lt_mul this
  · have := h.le
    omega
theorem high_no {V k a : Nat} (h : HighAt V k a) (hk : k < 6) (t : ((V : Int) / 2 ^ a / 2 ^ half k != 0) = false) : HighAt V (k + 1) a := by
  obtain ⟨e1, e2, e3, e4⟩ := half_of k hk
  rw [shr_cast] at t
  have hz : V / 2 ^ a / 2 ^ half k = 0 := by
    rw [bne_eq_false_iff_eq] at t
    exact Int.ofNat.inj t
  refine ⟨h.pos, ?_, ?_⟩
  · rw [e2]
    exact (Nat.div_eq_zero_iff_lt (Nat.pow_pos (by omega))).1 hz
  · have := h.le
    omega
theorem high_end {V a : Nat} (h : HighAt V 6 a) : V.log2 = a := by
  have hl := h.lt
  have hp := h.pos
  have e : 64 / 2 ^ 6 = 1 := by decide
  rw [e] at hl
  have h1 : V / 2 ^ a = 1 := by omega
  have hp2 : 0 < 2 ^ a := Nat.pow_pos (by omega)
  have hd := Nat.div_add_mod V (2 ^ a)
  have hm := Nat.mod_lt V hp2
  rw [h1] at hd
  have h2 : V ≠ 0 := by intro z; subst z; simp at hp
  rw [Nat.log2_eq_iff h2, Nat.pow_succ]
  omega

set_option maxHeartbeats 400000 in
theorem highest_nat (V : Nat) (w : World) (ht : Tab w) (v0 : 0 < V) (v1 : (V : Int) ≤ 18446744073709551615) :
    Calls Tryd.prog 79 #[.int .u64 V] w fun e w' => e = .returned (.int .i64 (V.log2 : Nat)) ∧ w' = w := by
  go_enter Tryd.func79, Tryd.ntmps79
  go_wp2
  go_loop [0, 3, 6] (fun x t i => ∃ k a : Nat, k ≤ 6 ∧ i = .int .i64 k ∧ a ≤ 64 ∧ t = .int .i64 a ∧ x = .int .u64 (V / 2 ^ a : Nat) ∧ Hid (HighAt V k a)) (fun _ _ i => 6 - (intOf i).toNat)
  case atStart => exact ⟨0, 0, by omega, rfl, by omega, rfl, by simp, ⟨by simpa using v0, by simp; omega, by simp⟩⟩
  case round =>
    obtain ⟨k, a, hk, rfl, ha, rfl, rfl, HA⟩ := hrel
    by_cases hlt : k < 6
    · have hc := ht.2 k hlt
      have hh := (half_of k hlt).2.2
      go_wp2
      · go_round
        case rel =>
          obtain ⟨e1, e2⟩ := high_yes HA.out hlt ‹_›
          exact ⟨k + 1, a + half k, by omega, by go_num, Nat.le_trans (Nat.le_add_right _ _) e2.le, by go_num, by rw [e1], e2⟩
        case measure => simp [intOf]; omega
      · go_round
        case rel => exact ⟨k + 1, a, by omega, by go_num, by omega, rfl, rfl, high_no HA.out hlt ‹_›⟩
        case measure => simp [intOf]; omega
    · obtain rfl : k = 6 := by omega
      go_wp2
      go_ret
      exact ⟨ret_int (by rw [high_end HA.out]), rfl⟩
theorem highest_any (v : Int) (w : World) (ht : Tab w) (v0 : 0 < v) (v1 : v ≤ 18446744073709551615) :
    Calls Tryd.prog 79 #[.int .u64 v] w fun e w' => e = .returned (.int .i64 (v.toNat.log2 : Nat)) ∧ w' = w := by
  obtain ⟨V, rfl⟩ := Int.eq_ofNat_of_zero_le (Int.le_of_lt v0)
  rw [Int.toNat_natCast]
  exact highest_nat V w ht (by omega) v1
end Go.Proofs.YtchamgecalfmpaaDoor
