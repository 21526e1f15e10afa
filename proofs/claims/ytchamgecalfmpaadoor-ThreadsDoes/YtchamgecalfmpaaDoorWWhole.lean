/-
  What Set and Top of package words return, for every four words and every number, in one contract each: as the plain functions on four words say; Top where the table of widths lies as the program laid it.
-/
import Derived.Test.YtchamgecalfmpaaDoorWSets
import Derived.Test.YtchamgecalfmpaaDoorWHigh
import Derived.Test.YtchamgecalfmpaaDoorMany
namespace Go.Proofs.YtchamgecalfmpaaDoor
open Go.RowKit


/-- A word. -/
structure Word (b : Int) : Prop where
  lo : 0 ≤ b
  hi : b ≤ 18446744073709551615
theorem set_word (z : Bool) (b n k : Int) (h : Word b) : Word (setI z b n k) := by
  unfold setI
  by_cases e : n / 64 = k
  · rw [if_pos e]
    have := put_bd z b (n % 64).toNat h.lo h.hi (mod_lt n)
    exact ⟨this.1, this.2⟩
  · rw [if_neg e]
    exact h
theorem hasI_out (b0 b1 b2 b3 n : Int) (h : ¬ (0 ≤ n ∧ n < 256)) : hasI b0 b1 b2 b3 n = false := by
  unfold hasI
  by_cases c : 0 ≤ n
  · have c2 : ¬ n < 256 := fun x => h ⟨c, x⟩
    simp [c2]
  · simp [c]
theorem hasI_in (b0 b1 b2 b3 n : Int) (k : Nat) (b : Int) (h0 : 64 * (k : Int) ≤ n) (h1 : n < 64 * (k : Int) + 64) (hk : k < 4) (hb : wordAt b0 b1 b2 b3 k = b) : hasI b0 b1 b2 b3 n = b.toNat.testBit (n % 64).toNat := by
  have e1 : n.toNat / 64 = k := by omega
  have e2 : n.toNat % 64 = (n % 64).toNat := by omega
  have e3 : 0 ≤ n := by omega
  have e4 : n < 256 := by omega
  unfold hasI hasN
  rw [e1, e2, hb]
  simp [e3, e4]
theorem setI_eq (z : Bool) (b n k : Int) (h : n / 64 = k) : setI z b n k = putI z b (n % 64).toNat := if_pos h
theorem setI_ne (z : Bool) (b n k : Int) (h : ¬ n / 64 = k) : setI z b n k = b := if_neg h
theorem set_any (z : Bool) (b0 b1 b2 b3 n : Int) (w : World) (w0 : Word b0) (w1 : Word b1) (w2 : Word b2) (w3 : Word b3) (n0 : 0 ≤ n) (n1 : n < 256) :
    Calls Tryd.prog 80 #[.agg #[.int .u64 b0, .int .u64 b1, .int .u64 b2, .int .u64 b3], .int .i64 n, .bool z] w fun e w' => e = .returned (.tuple #[.agg #[.int .u64 (setI z b0 n 0), .int .u64 (setI z b1 n 1), .int .u64 (setI z b2 n 2), .int .u64 (setI z b3 n 3)], .int .i64 0]) ∧ Below w.heap.size w w' := by
  have : n < 64 ∨ (64 ≤ n ∧ n < 128) ∨ (128 ≤ n ∧ n < 192) ∨ 192 ≤ n := by omega
  rcases this with c | c | c | c
  · rw [setI_eq z b0 n 0 (by omega), setI_ne z b1 n 1 (by omega), setI_ne z b2 n 2 (by omega), setI_ne z b3 n 3 (by omega)]
    cases z
    · rw [← clr_put b0 n w0.lo w0.hi]
      exact clr_0 b0 b1 b2 b3 n w n0 c
    · rw [← or_put b0 n w0.lo w0.hi]
      exact set_0 b0 b1 b2 b3 n w n0 c
  · rw [setI_ne z b0 n 0 (by omega), setI_eq z b1 n 1 (by omega), setI_ne z b2 n 2 (by omega), setI_ne z b3 n 3 (by omega)]
    cases z
    · rw [← clr_put b1 n w1.lo w1.hi]
      exact clr_1 b0 b1 b2 b3 n w c.1 c.2
    · rw [← or_put b1 n w1.lo w1.hi]
      exact set_1 b0 b1 b2 b3 n w c.1 c.2
  · rw [setI_ne z b0 n 0 (by omega), setI_ne z b1 n 1 (by omega), setI_eq z b2 n 2 (by omega), setI_ne z b3 n 3 (by omega)]
    cases z
    · rw [← clr_put b2 n w2.lo w2.hi]
      exact clr_2 b0 b1 b2 b3 n w c.1 c.2
    · rw [← or_put b2 n w2.lo w2.hi]
      exact set_2 b0 b1 b2 b3 n w c.1 c.2
  · rw [setI_ne z b0 n 0 (by omega), setI_ne z b1 n 1 (by omega), setI_ne z b2 n 2 (by omega), setI_eq z b3 n 3 (by omega)]
    cases z
    · rw [← clr_put b3 n w3.lo w3.hi]
      exact clr_3 b0 b1 b2 b3 n w c n1
    · rw [← or_put b3 n w3.lo w3.hi]
      exact set_3 b0 b1 b2 b3 n w c n1

theorem log_facts (V : Nat) (h0 : 0 < V) (h1 : V ≤ 18446744073709551615) : V.log2 < 64 ∧ V.testBit V.log2 = true ∧ ∀ j, V.log2 < j → V.testBit j = false := by
  have hne : V ≠ 0 := by omega
  refine ⟨(Nat.log2_lt hne).2 (by omega), Nat.testBit_log2 hne, fun j hj => ?_⟩
  exact Nat.testBit_lt_two_pow ((Nat.log2_lt hne).1 hj)
theorem has_zero (j : Nat) : (0 : Int).toNat.testBit j = false := by simp
theorem topI_3 (b0 b1 b2 b3 : Int) (v0 : 0 < b3) (v1 : b3 ≤ 18446744073709551615) : topI b0 b1 b2 b3 = 192 + (b3.toNat.log2 : Nat) := by
  obtain ⟨l1, l2, l3⟩ := log_facts b3.toNat (by omega) (by omega)
  have e := topTo_of (hasN b0 b1 b2 b3) (192 + b3.toNat.log2) (by
    unfold hasN
    rw [show (192 + b3.toNat.log2) / 64 = 3 by omega, show (192 + b3.toNat.log2) % 64 = b3.toNat.log2 by omega]
    exact l2) 256 (by omega) (fun k h1 h2 => by
    unfold hasN
    have hk : k / 64 = 3 := by omega
    rw [hk]; exact l3 _ (by omega))
  unfold topI
  rw [e]
  omega
set_option maxHeartbeats 400000 in
theorem top_3 (b0 b1 b2 b3 : Int) (w : World) (ht : Tab w) (v0 : 0 < b3) (v1 : b3 ≤ 18446744073709551615) :
    Calls Tryd.prog 68 #[.agg #[.int .u64 b0, .int .u64 b1, .int .u64 b2, .int .u64 b3]] w fun e w' => e = .returned (.int .i64 (192 + (b3.toNat.log2 : Nat))) ∧ Below w.heap.size w w' := by
  have hz : (b3 != 0) = true := by rw [bne_iff_ne]; omega
  have hl := (log_facts b3.toNat (by omega) (by omega)).1
  go_enter Tryd.func68, Tryd.ntmps68
  go_wp2_with fail
  refine wp_loop_rounds 1 ?_
  rw [rounds_succ]
  go_wp2_with (go_at_call 79; refine (highest_any _ _ (ht.below ((Below.refl _ _).alloc (Nat.le_refl _) _)) (by omega) (by omega)).mono ?_; rintro e w' ⟨rfl, rfl⟩)
  go_ret
  exact ⟨rfl, (Below.refl _ _).alloc (Nat.le_refl _) _⟩
theorem topI_2 (b0 b1 b2 : Int) (v0 : 0 < b2) (v1 : b2 ≤ 18446744073709551615) : topI b0 b1 b2 0 = 128 + (b2.toNat.log2 : Nat) := by
  obtain ⟨l1, l2, l3⟩ := log_facts b2.toNat (by omega) (by omega)
  have e := topTo_of (hasN b0 b1 b2 0) (128 + b2.toNat.log2) (by
    unfold hasN
    rw [show (128 + b2.toNat.log2) / 64 = 2 by omega, show (128 + b2.toNat.log2) % 64 = b2.toNat.log2 by omega]
    exact l2) 256 (by omega) (fun k h1 h2 => by
    unfold hasN
    have hk : k / 64 = 2 ∨ k / 64 = 3 := by omega
    rcases hk with hk | hk
    · rw [hk]; exact l3 _ (by omega)
    · rw [hk]; exact has_zero _)
  unfold topI
  rw [e]
  omega
set_option maxHeartbeats 400000 in
theorem top_2 (b0 b1 b2 : Int) (w : World) (ht : Tab w) (v0 : 0 < b2) (v1 : b2 ≤ 18446744073709551615) :
    Calls Tryd.prog 68 #[.agg #[.int .u64 b0, .int .u64 b1, .int .u64 b2, .int .u64 0]] w fun e w' => e = .returned (.int .i64 (128 + (b2.toNat.log2 : Nat))) ∧ Below w.heap.size w w' := by
  have hz : (b2 != 0) = true := by rw [bne_iff_ne]; omega
  have hl := (log_facts b2.toNat (by omega) (by omega)).1
  go_enter Tryd.func68, Tryd.ntmps68
  go_wp2_with fail
  refine wp_loop_rounds 2 ?_
  rw [rounds_succ]
  go_wp2_with fail
  rw [rounds_succ]
  go_wp2_with (go_at_call 79; refine (highest_any _ _ (ht.below ((Below.refl _ _).alloc (Nat.le_refl _) _)) (by omega) (by omega)).mono ?_; rintro e w' ⟨rfl, rfl⟩)
  go_ret
  exact ⟨rfl, (Below.refl _ _).alloc (Nat.le_refl _) _⟩
theorem topI_1 (b0 b1 : Int) (v0 : 0 < b1) (v1 : b1 ≤ 18446744073709551615) : topI b0 b1 0 0 = 64 + (b1.toNat.log2 : Nat) := by
  obtain ⟨l1, l2, l3⟩ := log_facts b1.toNat (by omega) (by omega)
  have e := topTo_of (hasN b0 b1 0 0) (64 + b1.toNat.log2) (by
    unfold hasN
    rw [show (64 + b1.toNat.log2) / 64 = 1 by omega, show (64 + b1.toNat.log2) % 64 = b1.toNat.log2 by omega]
    exact l2) 256 (by omega) (fun k h1 h2 => by
    unfold hasN
    have hk : k / 64 = 1 ∨ k / 64 = 2 ∨ k / 64 = 3 := by omega
    rcases hk with hk | hk | hk
    · rw [hk]; exact l3 _ (by omega)
    · rw [hk]; exact has_zero _
    · rw [hk]; exact has_zero _)
  unfold topI
  rw [e]
  omega
set_option maxHeartbeats 400000 in
theorem top_1 (b0 b1 : Int) (w : World) (ht : Tab w) (v0 : 0 < b1) (v1 : b1 ≤ 18446744073709551615) :
    Calls Tryd.prog 68 #[.agg #[.int .u64 b0, .int .u64 b1, .int .u64 0, .int .u64 0]] w fun e w' => e = .returned (.int .i64 (64 + (b1.toNat.log2 : Nat))) ∧ Below w.heap.size w w' := by
  have hz : (b1 != 0) = true := by rw [bne_iff_ne]; omega
  have hl := (log_facts b1.toNat (by omega) (by omega)).1
  go_enter Tryd.func68, Tryd.ntmps68
  go_wp2_with fail
  refine wp_loop_rounds 3 ?_
  rw [rounds_succ]
  go_wp2_with fail
  rw [rounds_succ]
  go_wp2_with fail
  rw [rounds_succ]
  go_wp2_with (go_at_call 79; refine (highest_any _ _ (ht.below ((Below.refl _ _).alloc (Nat.le_refl _) _)) (by omega) (by omega)).mono ?_; rintro e w' ⟨rfl, rfl⟩)
  go_ret
  exact ⟨rfl, (Below.refl _ _).alloc (Nat.le_refl _) _⟩
theorem topI_0 (b0 : Int) (v0 : 0 < b0) (v1 : b0 ≤ 18446744073709551615) : topI b0 0 0 0 = 0 + (b0.toNat.log2 : Nat) := by
  obtain ⟨l1, l2, l3⟩ := log_facts b0.toNat (by omega) (by omega)
  have e := topTo_of (hasN b0 0 0 0) (0 + b0.toNat.log2) (by
    unfold hasN
    rw [show (0 + b0.toNat.log2) / 64 = 0 by omega, show (0 + b0.toNat.log2) % 64 = b0.toNat.log2 by omega]
    exact l2) 256 (by omega) (fun k h1 h2 => by
    unfold hasN
    have hk : k / 64 = 0 ∨ k / 64 = 1 ∨ k / 64 = 2 ∨ k / 64 = 3 := by omega
    rcases hk with hk | hk | hk | hk
    · rw [hk]; exact l3 _ (by omega)
    · rw [hk]; exact has_zero _
    · rw [hk]; exact has_zero _
    · rw [hk]; exact has_zero _)
  unfold topI
  rw [e]
  omega
set_option maxHeartbeats 400000 in
theorem top_0 (b0 : Int) (w : World) (ht : Tab w) (v0 : 0 < b0) (v1 : b0 ≤ 18446744073709551615) :
    Calls Tryd.prog 68 #[.agg #[.int .u64 b0, .int .u64 0, .int .u64 0, .int .u64 0]] w fun e w' => e = .returned (.int .i64 (0 + (b0.toNat.log2 : Nat))) ∧ Below w.heap.size w w' := by
  have hz : (b0 != 0) = true := by rw [bne_iff_ne]; omega
  have hl := (log_facts b0.toNat (by omega) (by omega)).1
  go_enter Tryd.func68, Tryd.ntmps68
  go_wp2_with fail
  refine wp_loop_rounds 4 ?_
  rw [rounds_succ]
  go_wp2_with fail
  rw [rounds_succ]
  go_wp2_with fail
  rw [rounds_succ]
  go_wp2_with fail
  rw [rounds_succ]
  go_wp2_with (go_at_call 79; refine (highest_any _ _ (ht.below ((Below.refl _ _).alloc (Nat.le_refl _) _)) (by omega) (by omega)).mono ?_; rintro e w' ⟨rfl, rfl⟩)
  go_ret
  exact ⟨ret_int (by omega), (Below.refl _ _).alloc (Nat.le_refl _) _⟩
theorem topI_none : topI 0 0 0 0 = -1 := by decide +kernel
set_option maxHeartbeats 400000 in
theorem top_none (w : World) :
    Calls Tryd.prog 68 #[.agg #[.int .u64 0, .int .u64 0, .int .u64 0, .int .u64 0]] w fun e w' => e = .returned (.int .i64 (-1)) ∧ Below w.heap.size w w' := by
  go_enter Tryd.func68, Tryd.ntmps68
  go_wp2_with fail
  refine wp_loop_rounds 5 ?_
  rw [rounds_succ]
  go_wp2_with fail
  rw [rounds_succ]
  go_wp2_with fail
  rw [rounds_succ]
  go_wp2_with fail
  rw [rounds_succ]
  go_wp2_with fail
  rw [rounds_succ]
  go_wp2_with fail
  go_ret
  exact ⟨rfl, (Below.refl _ _).alloc (Nat.le_refl _) _⟩
theorem top_any (b0 b1 b2 b3 : Int) (w : World) (ht : Tab w) (w0 : Word b0) (w1 : Word b1) (w2 : Word b2) (w3 : Word b3) :
    Calls Tryd.prog 68 #[.agg #[.int .u64 b0, .int .u64 b1, .int .u64 b2, .int .u64 b3]] w fun e w' => e = .returned (.int .i64 (topI b0 b1 b2 b3)) ∧ Below w.heap.size w w' := by
  by_cases c3 : 0 < b3
  · rw [topI_3 b0 b1 b2 b3 c3 w3.hi]
    exact top_3 b0 b1 b2 b3 w ht c3 w3.hi
  obtain rfl : b3 = 0 := by have := w3.lo; omega
  by_cases c2 : 0 < b2
  · rw [topI_2 b0 b1 b2 c2 w2.hi]
    exact top_2 b0 b1 b2 w ht c2 w2.hi
  obtain rfl : b2 = 0 := by have := w2.lo; omega
  by_cases c1 : 0 < b1
  · rw [topI_1 b0 b1 c1 w1.hi]
    exact top_1 b0 b1 w ht c1 w1.hi
  obtain rfl : b1 = 0 := by have := w1.lo; omega
  by_cases c0 : 0 < b0
  · rw [topI_0 b0 c0 w0.hi]
    exact top_0 b0 w ht c0 w0.hi
  obtain rfl : b0 = 0 := by have := w0.lo; omega
  rw [topI_none]
  exact top_none w
end Go.Proofs.YtchamgecalfmpaaDoor
