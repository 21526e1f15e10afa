/-
  What Set of package words returns, for every four words, every number of a bit and both ways, word by word: each contract names its conditions.
-/
import Derived.Test.YtchamgecalfmpaaDoorWBits
import Derived.Deep.RegionWith
namespace Go.Proofs.YtchamgecalfmpaaDoor
open Go.RowKit

theorem set_no (b0 b1 b2 b3 n : Int) (z : Bool) (w : World) (h : ¬ (0 ≤ n ∧ n < 256)) :
    Calls Tryd.prog 80 #[.agg #[.int .u64 b0, .int .u64 b1, .int .u64 b2, .int .u64 b3], .int .i64 n, .bool z] w fun e w' => e = .returned (.tuple #[.agg #[.int .u64 0, .int .u64 0, .int .u64 0, .int .u64 0], .int .i64 1]) ∧ Below w.heap.size w w' := by
  have H : Hid (¬ (0 ≤ n ∧ n < 256)) := h
  clear h
  go_enter Tryd.func80, Tryd.ntmps80
  go_wp2_with (go_at_call 85; refine (numbered_no _ _ H.out).mono ?_; rintro e w' ⟨rfl, rfl⟩)
  exact bodyPost_ret (v := .tuple #[.agg #[.int .u64 0, .int .u64 0, .int .u64 0, .int .u64 0], .int .i64 1]) (by simp [results, Tryd.results80, go_sem]) rfl ⟨rfl, ((Below.refl _ _).alloc (Nat.le_refl _) _).alloc (by simp) _⟩
set_option maxHeartbeats 400000 in
theorem set_0 (b0 b1 b2 b3 n : Int) (w : World) (h0 : 0 ≤ n) (h1 : n < 64) :
    Calls Tryd.prog 80 #[.agg #[.int .u64 b0, .int .u64 b1, .int .u64 b2, .int .u64 b3], .int .i64 n, .bool true] w fun e w' => e = .returned (.tuple #[.agg #[.int .u64 (bits .or .u64 b0 (bitI n)), .int .u64 b1, .int .u64 b2, .int .u64 b3], .int .i64 0]) ∧ Below w.heap.size w w' := by
  have hq : n / 64 = 0 := by omega
  have ht : n.tdiv 64 = 0 := by rw [Int.tdiv_eq_ediv_of_nonneg (by omega)]; exact hq
  go_enter Tryd.func80, Tryd.ntmps80
  go_wp2_with (go_at_call 85; refine (numbered_yes _ _ (by omega) (by omega)).mono ?_; rintro e w' ⟨rfl, rfl⟩)
  go_region_with (go_at_call 86; refine (bit_any _ _ (by omega) (by omega)).mono ?_; rintro e w' ⟨rfl, rfl⟩)
  all_goals go_wp2
  all_goals exact bodyPost_ret (v := .tuple #[.agg #[.int .u64 (bits .or .u64 b0 (bitI n)), .int .u64 b1, .int .u64 b2, .int .u64 b3], .int .i64 0]) (by simp [results, Tryd.results80, go_sem]) rfl ⟨rfl, (((Below.refl _ _).alloc (Nat.le_refl _) _).alloc (by simp) _).drew⟩
set_option maxHeartbeats 400000 in
theorem set_1 (b0 b1 b2 b3 n : Int) (w : World) (h0 : 64 ≤ n) (h1 : n < 128) :
    Calls Tryd.prog 80 #[.agg #[.int .u64 b0, .int .u64 b1, .int .u64 b2, .int .u64 b3], .int .i64 n, .bool true] w fun e w' => e = .returned (.tuple #[.agg #[.int .u64 b0, .int .u64 (bits .or .u64 b1 (bitI n)), .int .u64 b2, .int .u64 b3], .int .i64 0]) ∧ Below w.heap.size w w' := by
  have hq : n / 64 = 1 := by omega
  have ht : n.tdiv 64 = 1 := by rw [Int.tdiv_eq_ediv_of_nonneg (by omega)]; exact hq
  go_enter Tryd.func80, Tryd.ntmps80
  go_wp2_with (go_at_call 85; refine (numbered_yes _ _ (by omega) (by omega)).mono ?_; rintro e w' ⟨rfl, rfl⟩)
  go_region_with (go_at_call 86; refine (bit_any _ _ (by omega) (by omega)).mono ?_; rintro e w' ⟨rfl, rfl⟩)
  all_goals go_wp2
  all_goals exact bodyPost_ret (v := .tuple #[.agg #[.int .u64 b0, .int .u64 (bits .or .u64 b1 (bitI n)), .int .u64 b2, .int .u64 b3], .int .i64 0]) (by simp [results, Tryd.results80, go_sem]) rfl ⟨rfl, (((Below.refl _ _).alloc (Nat.le_refl _) _).alloc (by simp) _).drew⟩
set_option maxHeartbeats 400000 in
theorem set_2 (b0 b1 b2 b3 n : Int) (w : World) (h0 : 128 ≤ n) (h1 : n < 192) :
    Calls Tryd.prog 80 #[.agg #[.int .u64 b0, .int .u64 b1, .int .u64 b2, .int .u64 b3], .int .i64 n, .bool true] w fun e w' => e = .returned (.tuple #[.agg #[.int .u64 b0, .int .u64 b1, .int .u64 (bits .or .u64 b2 (bitI n)), .int .u64 b3], .int .i64 0]) ∧ Below w.heap.size w w' := by
  have hq : n / 64 = 2 := by omega
  have ht : n.tdiv 64 = 2 := by rw [Int.tdiv_eq_ediv_of_nonneg (by omega)]; exact hq
  go_enter Tryd.func80, Tryd.ntmps80
  go_wp2_with (go_at_call 85; refine (numbered_yes _ _ (by omega) (by omega)).mono ?_; rintro e w' ⟨rfl, rfl⟩)
  go_region_with (go_at_call 86; refine (bit_any _ _ (by omega) (by omega)).mono ?_; rintro e w' ⟨rfl, rfl⟩)
  all_goals go_wp2
  all_goals exact bodyPost_ret (v := .tuple #[.agg #[.int .u64 b0, .int .u64 b1, .int .u64 (bits .or .u64 b2 (bitI n)), .int .u64 b3], .int .i64 0]) (by simp [results, Tryd.results80, go_sem]) rfl ⟨rfl, (((Below.refl _ _).alloc (Nat.le_refl _) _).alloc (by simp) _).drew⟩
set_option maxHeartbeats 400000 in
theorem set_3 (b0 b1 b2 b3 n : Int) (w : World) (h0 : 192 ≤ n) (h1 : n < 256) :
    Calls Tryd.prog 80 #[.agg #[.int .u64 b0, .int .u64 b1, .int .u64 b2, .int .u64 b3], .int .i64 n, .bool true] w fun e w' => e = .returned (.tuple #[.agg #[.int .u64 b0, .int .u64 b1, .int .u64 b2, .int .u64 (bits .or .u64 b3 (bitI n))], .int .i64 0]) ∧ Below w.heap.size w w' := by
  have hq : n / 64 = 3 := by omega
  have ht : n.tdiv 64 = 3 := by rw [Int.tdiv_eq_ediv_of_nonneg (by omega)]; exact hq
  go_enter Tryd.func80, Tryd.ntmps80
  go_wp2_with (go_at_call 85; refine (numbered_yes _ _ (by omega) (by omega)).mono ?_; rintro e w' ⟨rfl, rfl⟩)
  go_region_with (go_at_call 86; refine (bit_any _ _ (by omega) (by omega)).mono ?_; rintro e w' ⟨rfl, rfl⟩)
  all_goals go_wp2
  all_goals exact bodyPost_ret (v := .tuple #[.agg #[.int .u64 b0, .int .u64 b1, .int .u64 b2, .int .u64 (bits .or .u64 b3 (bitI n))], .int .i64 0]) (by simp [results, Tryd.results80, go_sem]) rfl ⟨rfl, (((Below.refl _ _).alloc (Nat.le_refl _) _).alloc (by simp) _).drew⟩
set_option maxHeartbeats 400000 in
theorem clr_0 (b0 b1 b2 b3 n : Int) (w : World) (h0 : 0 ≤ n) (h1 : n < 64) :
    Calls Tryd.prog 80 #[.agg #[.int .u64 b0, .int .u64 b1, .int .u64 b2, .int .u64 b3], .int .i64 n, .bool false] w fun e w' => e = .returned (.tuple #[.agg #[.int .u64 (bits .andNot .u64 b0 (bitI n)), .int .u64 b1, .int .u64 b2, .int .u64 b3], .int .i64 0]) ∧ Below w.heap.size w w' := by
  have hq : n / 64 = 0 := by omega
  have ht : n.tdiv 64 = 0 := by rw [Int.tdiv_eq_ediv_of_nonneg (by omega)]; exact hq
  go_enter Tryd.func80, Tryd.ntmps80
  go_wp2_with (go_at_call 85; refine (numbered_yes _ _ (by omega) (by omega)).mono ?_; rintro e w' ⟨rfl, rfl⟩)
  go_region_with (go_at_call 86; refine (bit_any _ _ (by omega) (by omega)).mono ?_; rintro e w' ⟨rfl, rfl⟩)
  all_goals go_wp2
  all_goals exact bodyPost_ret (v := .tuple #[.agg #[.int .u64 (bits .andNot .u64 b0 (bitI n)), .int .u64 b1, .int .u64 b2, .int .u64 b3], .int .i64 0]) (by simp [results, Tryd.results80, go_sem]) rfl ⟨rfl, (((Below.refl _ _).alloc (Nat.le_refl _) _).alloc (by simp) _).drew⟩
set_option maxHeartbeats 400000 in
theorem clr_1 (b0 b1 b2 b3 n : Int) (w : World) (h0 : 64 ≤ n) (h1 : n < 128) :
    Calls Tryd.prog 80 #[.agg #[.int .u64 b0, .int .u64 b1, .int .u64 b2, .int .u64 b3], .int .i64 n, .bool false] w fun e w' => e = .returned (.tuple #[.agg #[.int .u64 b0, .int .u64 (bits .andNot .u64 b1 (bitI n)), .int .u64 b2, .int .u64 b3], .int .i64 0]) ∧ Below w.heap.size w w' := by
  have hq : n / 64 = 1 := by omega
  have ht : n.tdiv 64 = 1 := by rw [Int.tdiv_eq_ediv_of_nonneg (by omega)]; exact hq
  go_enter Tryd.func80, Tryd.ntmps80
  go_wp2_with (go_at_call 85; refine (numbered_yes _ _ (by omega) (by omega)).mono ?_; rintro e w' ⟨rfl, rfl⟩)
  go_region_with (go_at_call 86; refine (bit_any _ _ (by omega) (by omega)).mono ?_; rintro e w' ⟨rfl, rfl⟩)
  all_goals go_wp2
  all_goals exact bodyPost_ret (v := .tuple #[.agg #[.int .u64 b0, .int .u64 (bits .andNot .u64 b1 (bitI n)), .int .u64 b2, .int .u64 b3], .int .i64 0]) (by simp [results, Tryd.results80, go_sem]) rfl ⟨rfl, (((Below.refl _ _).alloc (Nat.le_refl _) _).alloc (by simp) _).drew⟩
set_option maxHeartbeats 400000 in
theorem clr_2 (b0 b1 b2 b3 n : Int) (w : World) (h0 : 128 ≤ n) (h1 : n < 192) :
    Calls Tryd.prog 80 #[.agg #[.int .u64 b0, .int .u64 b1, .int .u64 b2, .int .u64 b3], .int .i64 n, .bool false] w fun e w' => e = .returned (.tuple #[.agg #[.int .u64 b0, .int .u64 b1, .int .u64 (bits .andNot .u64 b2 (bitI n)), .int .u64 b3], .int .i64 0]) ∧ Below w.heap.size w w' := by
  have hq : n / 64 = 2 := by omega
  have ht : n.tdiv 64 = 2 := by rw [Int.tdiv_eq_ediv_of_nonneg (by omega)]; exact hq
  go_enter Tryd.func80, Tryd.ntmps80
  go_wp2_with (go_at_call 85; refine (numbered_yes _ _ (by omega) (by omega)).mono ?_; rintro e w' ⟨rfl, rfl⟩)
  go_region_with (go_at_call 86; refine (bit_any _ _ (by omega) (by omega)).mono ?_; rintro e w' ⟨rfl, rfl⟩)
  all_goals go_wp2
  all_goals exact bodyPost_ret (v := .tuple #[.agg #[.int .u64 b0, .int .u64 b1, .int .u64 (bits .andNot .u64 b2 (bitI n)), .int .u64 b3], .int .i64 0]) (by simp [results, Tryd.results80, go_sem]) rfl ⟨rfl, (((Below.refl _ _).alloc (Nat.le_refl _) _).alloc (by simp) _).drew⟩
set_option maxHeartbeats 400000 in
theorem clr_3 (b0 b1 b2 b3 n : Int) (w : World) (h0 : 192 ≤ n) (h1 : n < 256) :
    Calls Tryd.prog 80 #[.agg #[.int .u64 b0, .int .u64 b1, .int .u64 b2, .int .u64 b3], .int .i64 n, .bool false] w fun e w' => e = .returned (.tuple #[.agg #[.int .u64 b0, .int .u64 b1, .int .u64 b2, .int .u64 (bits .andNot .u64 b3 (bitI n))], .int .i64 0]) ∧ Below w.heap.size w w' := by
  have hq : n / 64 = 3 := by omega
  have ht : n.tdiv 64 = 3 := by rw [Int.tdiv_eq_ediv_of_nonneg (by omega)]; exact hq
  go_enter Tryd.func80, Tryd.ntmps80
  go_wp2_with (go_at_call 85; refine (numbered_yes _ _ (by omega) (by omega)).mono ?_; rintro e w' ⟨rfl, rfl⟩)
  go_region_with (go_at_call 86; refine (bit_any _ _ (by omega) (by omega)).mono ?_; rintro e w' ⟨rfl, rfl⟩)
  all_goals go_wp2
  all_goals exact bodyPost_ret (v := .tuple #[.agg #[.int .u64 b0, .int .u64 b1, .int .u64 b2, .int .u64 (bits .andNot .u64 b3 (bitI n))], .int .i64 0]) (by simp [results, Tryd.results80, go_sem]) rfl ⟨rfl, (((Below.refl _ _).alloc (Nat.le_refl _) _).alloc (by simp) _).drew⟩
end Go.Proofs.YtchamgecalfmpaaDoor
