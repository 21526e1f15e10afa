/-
  What Has, Set and Top of the document's answer return, for every four words and every number: each contract names its conditions.
-/
import Derived.Test.YtnjmjhmngjodcaaDoorWRef
import Derived.Test.YtnjmjhmngjodcaaDoorWWhole
namespace Go.Proofs.YtnjmjhmngjodcaaDoor
open Go.RowKit
theorem hasR_no (b0 b1 b2 b3 n : Int) (w : World) (h : ¬ (0 ≤ n ∧ n < 256)) :
    Calls Tryd.prog 39 #[.agg #[.int .u64 b0, .int .u64 b1, .int .u64 b2, .int .u64 b3], .int .i64 n] w fun e w' => e = .returned (.bool false) ∧ Below w.heap.size w w' := by
  by_cases c : 0 ≤ n
  · have c2 : decide (n < 256) = false := by simp; omega
    clear h
    go_enter Tryd.func39, Tryd.ntmps39
    go_wp2
    go_ret
    exact ⟨rfl, (Below.refl _ _).alloc (Nat.le_refl _) _⟩
  · have c2 : decide (0 ≤ n) = false := by simp; omega
    clear h
    go_enter Tryd.func39, Tryd.ntmps39
    go_wp2
    go_ret
    exact ⟨rfl, (Below.refl _ _).alloc (Nat.le_refl _) _⟩
theorem hasR_0 (b0 b1 b2 b3 n : Int) (w : World) (h0 : 0 ≤ n) (h1 : n < 64) (wb : Word b0) :
    Calls Tryd.prog 39 #[.agg #[.int .u64 b0, .int .u64 b1, .int .u64 b2, .int .u64 b3], .int .i64 n] w fun e w' => e = .returned (.bool (b0.toNat.testBit (n % 64).toNat)) ∧ Below w.heap.size w w' := by
  have hq : n / 64 = 0 := by omega
  have hl := wb.lo
  have hh := wb.hi
  go_enter Tryd.func39, Tryd.ntmps39
  go_wp2_with (go_at_call 43; refine (bitR_any _ _ _ (by omega) (by omega) (by omega) (by omega)).mono ?_; rintro e w' ⟨rfl, rfl⟩)
  go_ret
  exact ⟨rfl, (Below.refl _ _).alloc (Nat.le_refl _) _⟩
theorem hasR_1 (b0 b1 b2 b3 n : Int) (w : World) (h0 : 64 ≤ n) (h1 : n < 128) (wb : Word b1) :
    Calls Tryd.prog 39 #[.agg #[.int .u64 b0, .int .u64 b1, .int .u64 b2, .int .u64 b3], .int .i64 n] w fun e w' => e = .returned (.bool (b1.toNat.testBit (n % 64).toNat)) ∧ Below w.heap.size w w' := by
  have hq : n / 64 = 1 := by omega
  have hl := wb.lo
  have hh := wb.hi
  go_enter Tryd.func39, Tryd.ntmps39
  go_wp2_with (go_at_call 43; refine (bitR_any _ _ _ (by omega) (by omega) (by omega) (by omega)).mono ?_; rintro e w' ⟨rfl, rfl⟩)
  go_ret
  exact ⟨rfl, (Below.refl _ _).alloc (Nat.le_refl _) _⟩
theorem hasR_2 (b0 b1 b2 b3 n : Int) (w : World) (h0 : 128 ≤ n) (h1 : n < 192) (wb : Word b2) :
    Calls Tryd.prog 39 #[.agg #[.int .u64 b0, .int .u64 b1, .int .u64 b2, .int .u64 b3], .int .i64 n] w fun e w' => e = .returned (.bool (b2.toNat.testBit (n % 64).toNat)) ∧ Below w.heap.size w w' := by
  have hq : n / 64 = 2 := by omega
  have hl := wb.lo
  have hh := wb.hi
  go_enter Tryd.func39, Tryd.ntmps39
  go_wp2_with (go_at_call 43; refine (bitR_any _ _ _ (by omega) (by omega) (by omega) (by omega)).mono ?_; rintro e w' ⟨rfl, rfl⟩)
  go_ret
  exact ⟨rfl, (Below.refl _ _).alloc (Nat.le_refl _) _⟩
theorem hasR_3 (b0 b1 b2 b3 n : Int) (w : World) (h0 : 192 ≤ n) (h1 : n < 256) (wb : Word b3) :
    Calls Tryd.prog 39 #[.agg #[.int .u64 b0, .int .u64 b1, .int .u64 b2, .int .u64 b3], .int .i64 n] w fun e w' => e = .returned (.bool (b3.toNat.testBit (n % 64).toNat)) ∧ Below w.heap.size w w' := by
  have hq : n / 64 = 3 := by omega
  have hl := wb.lo
  have hh := wb.hi
  go_enter Tryd.func39, Tryd.ntmps39
  go_wp2_with (go_at_call 43; refine (bitR_any _ _ _ (by omega) (by omega) (by omega) (by omega)).mono ?_; rintro e w' ⟨rfl, rfl⟩)
  go_ret
  exact ⟨rfl, (Below.refl _ _).alloc (Nat.le_refl _) _⟩
theorem hasR_any (b0 b1 b2 b3 n : Int) (w : World) (w0 : Word b0) (w1 : Word b1) (w2 : Word b2) (w3 : Word b3) :
    Calls Tryd.prog 39 #[.agg #[.int .u64 b0, .int .u64 b1, .int .u64 b2, .int .u64 b3], .int .i64 n] w fun e w' => e = .returned (.bool (hasI b0 b1 b2 b3 n)) ∧ Below w.heap.size w w' := by
  by_cases h : 0 ≤ n ∧ n < 256
  · have : n < 64 ∨ (64 ≤ n ∧ n < 128) ∨ (128 ≤ n ∧ n < 192) ∨ 192 ≤ n := by omega
    rcases this with c | c | c | c
    · rw [hasI_in b0 b1 b2 b3 n 0 b0 (by omega) (by omega) (by omega) rfl]
      exact hasR_0 b0 b1 b2 b3 n w h.1 c w0
    · rw [hasI_in b0 b1 b2 b3 n 1 b1 (by omega) (by omega) (by omega) rfl]
      exact hasR_1 b0 b1 b2 b3 n w c.1 c.2 w1
    · rw [hasI_in b0 b1 b2 b3 n 2 b2 (by omega) (by omega) (by omega) rfl]
      exact hasR_2 b0 b1 b2 b3 n w c.1 c.2 w2
    · rw [hasI_in b0 b1 b2 b3 n 3 b3 (by omega) (by omega) (by omega) rfl]
      exact hasR_3 b0 b1 b2 b3 n w c h.2 w3
  · rw [hasI_out b0 b1 b2 b3 n h]
    exact hasR_no b0 b1 b2 b3 n w h
end Go.Proofs.YtnjmjhmngjodcaaDoor
