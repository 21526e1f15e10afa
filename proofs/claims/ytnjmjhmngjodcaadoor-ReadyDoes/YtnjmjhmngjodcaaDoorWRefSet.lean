/-
  What Set of the document's answer returns, for every four words, every number of a bit and both ways: each contract names its conditions.
-/
import Derived.Test.YtnjmjhmngjodcaaDoorWRefBits
import Derived.Deep.RegionWith
namespace Go.Proofs.YtnjmjhmngjodcaaDoor
open Go.RowKit
theorem bcells {W w1 : World} (hb : Below W.heap.size W w1) : (∀ b o, b < W.heap.size → w1.cell? ⟨b, o, none⟩ = W.cell? ⟨b, o, none⟩) ∧ (∀ b o, b < W.heap.size → w1.frozen? ⟨b, o, none⟩ = W.frozen? ⟨b, o, none⟩) :=
  ⟨fun b o h => hb.cell (p := ⟨b, o, none⟩) h, fun b o h => hb.frozen (p := ⟨b, o, none⟩) h⟩
theorem le1 (n : Nat) : n ≤ n + 1 := by omega
theorem le2 (n : Nat) : n ≤ n + 1 + 1 := by omega
theorem four_sets {w u : World} (bu : Below w.heap.size w u) (y0 y1 y2 y3 : Value) :
    Below w.heap.size w ((((u.setCell ⟨w.heap.size + 1, 0, none⟩ y0).setCell ⟨w.heap.size + 1, 1, none⟩ y1).setCell ⟨w.heap.size + 1, 2, none⟩ y2).setCell ⟨w.heap.size + 1, 3, none⟩ y3) :=
  (((bu.setCell (p := ⟨w.heap.size + 1, 0, none⟩) (le1 _) y0).setCell (p := ⟨w.heap.size + 1, 1, none⟩) (le1 _) y1).setCell (p := ⟨w.heap.size + 1, 2, none⟩) (le1 _) y2).setCell (p := ⟨w.heap.size + 1, 3, none⟩) (le1 _) y3
theorem five_sets {w u : World} (bu : Below w.heap.size w u) (k : Nat) (x y0 y1 y2 y3 : Value) :
    Below w.heap.size w (((((u.setCell ⟨w.heap.size + 1 + 1, k, none⟩ x).setCell ⟨w.heap.size + 1, 0, none⟩ y0).setCell ⟨w.heap.size + 1, 1, none⟩ y1).setCell ⟨w.heap.size + 1, 2, none⟩ y2).setCell ⟨w.heap.size + 1, 3, none⟩ y3) :=
  four_sets (bu.setCell (p := ⟨w.heap.size + 1 + 1, k, none⟩) (le2 _) x) y0 y1 y2 y3
set_option maxHeartbeats 1000000 in
theorem setR_0 (b0 b1 b2 b3 n m s : Int) (w : World) (w0 : Word b0) (w1 : Word b1) (w2 : Word b2) (w3 : Word b3) (h0 : 0 ≤ n) (h1 : n < 64) (hm : n % 64 = m) (hno : hasI b0 b1 b2 b3 n = false) (hs : IntKind.u64.wrap (b0 + twoI m) = s) :
    Calls Tryd.prog 34 #[.agg #[.int .u64 b0, .int .u64 b1, .int .u64 b2, .int .u64 b3], .int .i64 n, .bool true] w fun e w' => e = .returned (.tuple #[.agg #[.int .u64 s, .int .u64 b1, .int .u64 b2, .int .u64 b3], .int .i64 0]) ∧ Below w.heap.size w w' := by
  have hq : n / 64 = 0 := by omega
  have ht : n.tdiv 64 = 0 := by rw [Int.tdiv_eq_ediv_of_nonneg (by omega)]; exact hq
  have hr : n.tmod 64 = m := by rw [Int.tmod_eq_emod_of_nonneg (by omega)]; exact hm
  have m0 : 0 ≤ m ∧ m ≤ 63 := by omega
  go_enter Tryd.func34, Tryd.ntmps34
  go_wp2_with fail
  refine (hasR_any _ _ _ _ _ _ w0 w1 w2 w3).mono ?_
  rintro e u ⟨rfl, hb⟩
  obtain ⟨hc, hf⟩ := bcells hb
  have bu : Below w.heap.size w u := ((((Below.refl _ _).alloc (Nat.le_refl _) _).alloc (by simp) _).alloc (by simp; omega) _).trans (hb.mono (by simp; omega))
  have hz : w.heap.size + 2 < u.heap.size := by have := hb.size; simp at this; omega
  go_wp2_with fail
  go_region_with (go_at_call 40; refine (two_any _ _ (by omega) (by omega)).mono ?_; rintro e w' ⟨rfl, rfl⟩)
  all_goals go_wp2
  all_goals exact bodyPost_ret (v := .tuple #[.agg #[.int .u64 s, .int .u64 b1, .int .u64 b2, .int .u64 b3], .int .i64 0]) (by simp [results, Tryd.results34, go_sem, hc]) rfl ⟨rfl, (five_sets bu 0 _ _ _ _ _).drew⟩
set_option maxHeartbeats 1000000 in
theorem setR_1 (b0 b1 b2 b3 n m s : Int) (w : World) (w0 : Word b0) (w1 : Word b1) (w2 : Word b2) (w3 : Word b3) (h0 : 64 ≤ n) (h1 : n < 128) (hm : n % 64 = m) (hno : hasI b0 b1 b2 b3 n = false) (hs : IntKind.u64.wrap (b1 + twoI m) = s) :
    Calls Tryd.prog 34 #[.agg #[.int .u64 b0, .int .u64 b1, .int .u64 b2, .int .u64 b3], .int .i64 n, .bool true] w fun e w' => e = .returned (.tuple #[.agg #[.int .u64 b0, .int .u64 s, .int .u64 b2, .int .u64 b3], .int .i64 0]) ∧ Below w.heap.size w w' := by
  have hq : n / 64 = 1 := by omega
  have ht : n.tdiv 64 = 1 := by rw [Int.tdiv_eq_ediv_of_nonneg (by omega)]; exact hq
  have hr : n.tmod 64 = m := by rw [Int.tmod_eq_emod_of_nonneg (by omega)]; exact hm
  have m0 : 0 ≤ m ∧ m ≤ 63 := by omega
  go_enter Tryd.func34, Tryd.ntmps34
  go_wp2_with fail
  refine (hasR_any _ _ _ _ _ _ w0 w1 w2 w3).mono ?_
  rintro e u ⟨rfl, hb⟩
  obtain ⟨hc, hf⟩ := bcells hb
  have bu : Below w.heap.size w u := ((((Below.refl _ _).alloc (Nat.le_refl _) _).alloc (by simp) _).alloc (by simp; omega) _).trans (hb.mono (by simp; omega))
  have hz : w.heap.size + 2 < u.heap.size := by have := hb.size; simp at this; omega
  go_wp2_with fail
  go_region_with (go_at_call 40; refine (two_any _ _ (by omega) (by omega)).mono ?_; rintro e w' ⟨rfl, rfl⟩)
  all_goals go_wp2
  all_goals exact bodyPost_ret (v := .tuple #[.agg #[.int .u64 b0, .int .u64 s, .int .u64 b2, .int .u64 b3], .int .i64 0]) (by simp [results, Tryd.results34, go_sem, hc]) rfl ⟨rfl, (five_sets bu 1 _ _ _ _ _).drew⟩
set_option maxHeartbeats 1000000 in
theorem setR_2 (b0 b1 b2 b3 n m s : Int) (w : World) (w0 : Word b0) (w1 : Word b1) (w2 : Word b2) (w3 : Word b3) (h0 : 128 ≤ n) (h1 : n < 192) (hm : n % 64 = m) (hno : hasI b0 b1 b2 b3 n = false) (hs : IntKind.u64.wrap (b2 + twoI m) = s) :
    Calls Tryd.prog 34 #[.agg #[.int .u64 b0, .int .u64 b1, .int .u64 b2, .int .u64 b3], .int .i64 n, .bool true] w fun e w' => e = .returned (.tuple #[.agg #[.int .u64 b0, .int .u64 b1, .int .u64 s, .int .u64 b3], .int .i64 0]) ∧ Below w.heap.size w w' := by
  have hq : n / 64 = 2 := by omega
  have ht : n.tdiv 64 = 2 := by rw [Int.tdiv_eq_ediv_of_nonneg (by omega)]; exact hq
  have hr : n.tmod 64 = m := by rw [Int.tmod_eq_emod_of_nonneg (by omega)]; exact hm
  have m0 : 0 ≤ m ∧ m ≤ 63 := by omega
  go_enter Tryd.func34, Tryd.ntmps34
  go_wp2_with fail
  refine (hasR_any _ _ _ _ _ _ w0 w1 w2 w3).mono ?_
  rintro e u ⟨rfl, hb⟩
  obtain ⟨hc, hf⟩ := bcells hb
  have bu : Below w.heap.size w u := ((((Below.refl _ _).alloc (Nat.le_refl _) _).alloc (by simp) _).alloc (by simp; omega) _).trans (hb.mono (by simp; omega))
  have hz : w.heap.size + 2 < u.heap.size := by have := hb.size; simp at this; omega
  go_wp2_with fail
  go_region_with (go_at_call 40; refine (two_any _ _ (by omega) (by omega)).mono ?_; rintro e w' ⟨rfl, rfl⟩)
  all_goals go_wp2
  all_goals exact bodyPost_ret (v := .tuple #[.agg #[.int .u64 b0, .int .u64 b1, .int .u64 s, .int .u64 b3], .int .i64 0]) (by simp [results, Tryd.results34, go_sem, hc]) rfl ⟨rfl, (five_sets bu 2 _ _ _ _ _).drew⟩
set_option maxHeartbeats 1000000 in
theorem setR_3 (b0 b1 b2 b3 n m s : Int) (w : World) (w0 : Word b0) (w1 : Word b1) (w2 : Word b2) (w3 : Word b3) (h0 : 192 ≤ n) (h1 : n < 256) (hm : n % 64 = m) (hno : hasI b0 b1 b2 b3 n = false) (hs : IntKind.u64.wrap (b3 + twoI m) = s) :
    Calls Tryd.prog 34 #[.agg #[.int .u64 b0, .int .u64 b1, .int .u64 b2, .int .u64 b3], .int .i64 n, .bool true] w fun e w' => e = .returned (.tuple #[.agg #[.int .u64 b0, .int .u64 b1, .int .u64 b2, .int .u64 s], .int .i64 0]) ∧ Below w.heap.size w w' := by
  have hq : n / 64 = 3 := by omega
  have ht : n.tdiv 64 = 3 := by rw [Int.tdiv_eq_ediv_of_nonneg (by omega)]; exact hq
  have hr : n.tmod 64 = m := by rw [Int.tmod_eq_emod_of_nonneg (by omega)]; exact hm
  have m0 : 0 ≤ m ∧ m ≤ 63 := by omega
  go_enter Tryd.func34, Tryd.ntmps34
  go_wp2_with fail
  refine (hasR_any _ _ _ _ _ _ w0 w1 w2 w3).mono ?_
  rintro e u ⟨rfl, hb⟩
  obtain ⟨hc, hf⟩ := bcells hb
  have bu : Below w.heap.size w u := ((((Below.refl _ _).alloc (Nat.le_refl _) _).alloc (by simp) _).alloc (by simp; omega) _).trans (hb.mono (by simp; omega))
  have hz : w.heap.size + 2 < u.heap.size := by have := hb.size; simp at this; omega
  go_wp2_with fail
  go_region_with (go_at_call 40; refine (two_any _ _ (by omega) (by omega)).mono ?_; rintro e w' ⟨rfl, rfl⟩)
  all_goals go_wp2
  all_goals exact bodyPost_ret (v := .tuple #[.agg #[.int .u64 b0, .int .u64 b1, .int .u64 b2, .int .u64 s], .int .i64 0]) (by simp [results, Tryd.results34, go_sem, hc]) rfl ⟨rfl, (five_sets bu 3 _ _ _ _ _).drew⟩
set_option maxHeartbeats 1000000 in
theorem setR_keep (b0 b1 b2 b3 n : Int) (w : World) (w0 : Word b0) (w1 : Word b1) (w2 : Word b2) (w3 : Word b3) (h0 : 0 ≤ n) (h1 : n < 256) (hno : hasI b0 b1 b2 b3 n = true) :
    Calls Tryd.prog 34 #[.agg #[.int .u64 b0, .int .u64 b1, .int .u64 b2, .int .u64 b3], .int .i64 n, .bool true] w fun e w' => e = .returned (.tuple #[.agg #[.int .u64 b0, .int .u64 b1, .int .u64 b2, .int .u64 b3], .int .i64 0]) ∧ Below w.heap.size w w' := by
  go_enter Tryd.func34, Tryd.ntmps34
  go_wp2_with fail
  refine (hasR_any _ _ _ _ _ _ w0 w1 w2 w3).mono ?_
  rintro e u ⟨rfl, hb⟩
  obtain ⟨hc, hf⟩ := bcells hb
  have bu : Below w.heap.size w u := ((((Below.refl _ _).alloc (Nat.le_refl _) _).alloc (by simp) _).alloc (by simp; omega) _).trans (hb.mono (by simp; omega))
  have hz : w.heap.size + 2 < u.heap.size := by have := hb.size; simp at this; omega
  go_wp2_with fail
  exact bodyPost_ret (v := .tuple #[.agg #[.int .u64 b0, .int .u64 b1, .int .u64 b2, .int .u64 b3], .int .i64 0]) (by simp [results, Tryd.results34, go_sem, hc]) rfl ⟨rfl, four_sets bu _ _ _ _⟩
set_option maxHeartbeats 1000000 in
theorem clrR_0 (b0 b1 b2 b3 n m s : Int) (w : World) (w0 : Word b0) (w1 : Word b1) (w2 : Word b2) (w3 : Word b3) (h0 : 0 ≤ n) (h1 : n < 64) (hm : n % 64 = m) (hno : hasI b0 b1 b2 b3 n = true) (hs : IntKind.u64.wrap (b0 - twoI m) = s) :
    Calls Tryd.prog 34 #[.agg #[.int .u64 b0, .int .u64 b1, .int .u64 b2, .int .u64 b3], .int .i64 n, .bool false] w fun e w' => e = .returned (.tuple #[.agg #[.int .u64 s, .int .u64 b1, .int .u64 b2, .int .u64 b3], .int .i64 0]) ∧ Below w.heap.size w w' := by
  have hq : n / 64 = 0 := by omega
  have ht : n.tdiv 64 = 0 := by rw [Int.tdiv_eq_ediv_of_nonneg (by omega)]; exact hq
  have hr : n.tmod 64 = m := by rw [Int.tmod_eq_emod_of_nonneg (by omega)]; exact hm
  have m0 : 0 ≤ m ∧ m ≤ 63 := by omega
  go_enter Tryd.func34, Tryd.ntmps34
  go_wp2_with fail
  refine (hasR_any _ _ _ _ _ _ w0 w1 w2 w3).mono ?_
  rintro e u ⟨rfl, hb⟩
  obtain ⟨hc, hf⟩ := bcells hb
  have bu : Below w.heap.size w u := ((((Below.refl _ _).alloc (Nat.le_refl _) _).alloc (by simp) _).alloc (by simp; omega) _).trans (hb.mono (by simp; omega))
  have hz : w.heap.size + 2 < u.heap.size := by have := hb.size; simp at this; omega
  go_wp2_with fail
  go_region_with (go_at_call 40; refine (two_any _ _ (by omega) (by omega)).mono ?_; rintro e w' ⟨rfl, rfl⟩)
  all_goals go_wp2
  all_goals exact bodyPost_ret (v := .tuple #[.agg #[.int .u64 s, .int .u64 b1, .int .u64 b2, .int .u64 b3], .int .i64 0]) (by simp [results, Tryd.results34, go_sem, hc]) rfl ⟨rfl, (five_sets bu 0 _ _ _ _ _).drew⟩
set_option maxHeartbeats 1000000 in
theorem clrR_1 (b0 b1 b2 b3 n m s : Int) (w : World) (w0 : Word b0) (w1 : Word b1) (w2 : Word b2) (w3 : Word b3) (h0 : 64 ≤ n) (h1 : n < 128) (hm : n % 64 = m) (hno : hasI b0 b1 b2 b3 n = true) (hs : IntKind.u64.wrap (b1 - twoI m) = s) :
    Calls Tryd.prog 34 #[.agg #[.int .u64 b0, .int .u64 b1, .int .u64 b2, .int .u64 b3], .int .i64 n, .bool false] w fun e w' => e = .returned (.tuple #[.agg #[.int .u64 b0, .int .u64 s, .int .u64 b2, .int .u64 b3], .int .i64 0]) ∧ Below w.heap.size w w' := by
  have hq : n / 64 = 1 := by omega
  have ht : n.tdiv 64 = 1 := by rw [Int.tdiv_eq_ediv_of_nonneg (by omega)]; exact hq
  have hr : n.tmod 64 = m := by rw [Int.tmod_eq_emod_of_nonneg (by omega)]; exact hm
  have m0 : 0 ≤ m ∧ m ≤ 63 := by omega
  go_enter Tryd.func34, Tryd.ntmps34
  go_wp2_with fail
  refine (hasR_any _ _ _ _ _ _ w0 w1 w2 w3).mono ?_
  rintro e u ⟨rfl, hb⟩
  obtain ⟨hc, hf⟩ := bcells hb
  have bu : Below w.heap.size w u := ((((Below.refl _ _).alloc (Nat.le_refl _) _).alloc (by simp) _).alloc (by simp; omega) _).trans (hb.mono (by simp; omega))
  have hz : w.heap.size + 2 < u.heap.size := by have := hb.size; simp at this; omega
  go_wp2_with fail
  go_region_with (go_at_call 40; refine (two_any _ _ (by omega) (by omega)).mono ?_; rintro e w' ⟨rfl, rfl⟩)
  all_goals go_wp2
  all_goals exact bodyPost_ret (v := .tuple #[.agg #[.int .u64 b0, .int .u64 s, .int .u64 b2, .int .u64 b3], .int .i64 0]) (by simp [results, Tryd.results34, go_sem, hc]) rfl ⟨rfl, (five_sets bu 1 _ _ _ _ _).drew⟩
set_option maxHeartbeats 1000000 in
theorem clrR_2 (b0 b1 b2 b3 n m s : Int) (w : World) (w0 : Word b0) (w1 : Word b1) (w2 : Word b2) (w3 : Word b3) (h0 : 128 ≤ n) (h1 : n < 192) (hm : n % 64 = m) (hno : hasI b0 b1 b2 b3 n = true) (hs : IntKind.u64.wrap (b2 - twoI m) = s) :
    Calls Tryd.prog 34 #[.agg #[.int .u64 b0, .int .u64 b1, .int .u64 b2, .int .u64 b3], .int .i64 n, .bool false] w fun e w' => e = .returned (.tuple #[.agg #[.int .u64 b0, .int .u64 b1, .int .u64 s, .int .u64 b3], .int .i64 0]) ∧ Below w.heap.size w w' := by
  have hq : n / 64 = 2 := by omega
  have ht : n.tdiv 64 = 2 := by rw [Int.tdiv_eq_ediv_of_nonneg (by omega)]; exact hq
  have hr : n.tmod 64 = m := by rw [Int.tmod_eq_emod_of_nonneg (by omega)]; exact hm
  have m0 : 0 ≤ m ∧ m ≤ 63 := by omega
  go_enter Tryd.func34, Tryd.ntmps34
  go_wp2_with fail
  refine (hasR_any _ _ _ _ _ _ w0 w1 w2 w3).mono ?_
  rintro e u ⟨rfl, hb⟩
  obtain ⟨hc, hf⟩ := bcells hb
  have bu : Below w.heap.size w u := ((((Below.refl _ _).alloc (Nat.le_refl _) _).alloc (by simp) _).alloc (by simp; omega) _).trans (hb.mono (by simp; omega))
  have hz : w.heap.size + 2 < u.heap.size := by have := hb.size; simp at this; omega
  go_wp2_with fail
  go_region_with (go_at_call 40; refine (two_any _ _ (by omega) (by omega)).mono ?_; rintro e w' ⟨rfl, rfl⟩)
  all_goals go_wp2
  all_goals exact bodyPost_ret (v := .tuple #[.agg #[.int .u64 b0, .int .u64 b1, .int .u64 s, .int .u64 b3], .int .i64 0]) (by simp [results, Tryd.results34, go_sem, hc]) rfl ⟨rfl, (five_sets bu 2 _ _ _ _ _).drew⟩
set_option maxHeartbeats 1000000 in
theorem clrR_3 (b0 b1 b2 b3 n m s : Int) (w : World) (w0 : Word b0) (w1 : Word b1) (w2 : Word b2) (w3 : Word b3) (h0 : 192 ≤ n) (h1 : n < 256) (hm : n % 64 = m) (hno : hasI b0 b1 b2 b3 n = true) (hs : IntKind.u64.wrap (b3 - twoI m) = s) :
    Calls Tryd.prog 34 #[.agg #[.int .u64 b0, .int .u64 b1, .int .u64 b2, .int .u64 b3], .int .i64 n, .bool false] w fun e w' => e = .returned (.tuple #[.agg #[.int .u64 b0, .int .u64 b1, .int .u64 b2, .int .u64 s], .int .i64 0]) ∧ Below w.heap.size w w' := by
  have hq : n / 64 = 3 := by omega
  have ht : n.tdiv 64 = 3 := by rw [Int.tdiv_eq_ediv_of_nonneg (by omega)]; exact hq
  have hr : n.tmod 64 = m := by rw [Int.tmod_eq_emod_of_nonneg (by omega)]; exact hm
  have m0 : 0 ≤ m ∧ m ≤ 63 := by omega
  go_enter Tryd.func34, Tryd.ntmps34
  go_wp2_with fail
  refine (hasR_any _ _ _ _ _ _ w0 w1 w2 w3).mono ?_
  rintro e u ⟨rfl, hb⟩
  obtain ⟨hc, hf⟩ := bcells hb
  have bu : Below w.heap.size w u := ((((Below.refl _ _).alloc (Nat.le_refl _) _).alloc (by simp) _).alloc (by simp; omega) _).trans (hb.mono (by simp; omega))
  have hz : w.heap.size + 2 < u.heap.size := by have := hb.size; simp at this; omega
  go_wp2_with fail
  go_region_with (go_at_call 40; refine (two_any _ _ (by omega) (by omega)).mono ?_; rintro e w' ⟨rfl, rfl⟩)
  all_goals go_wp2
  all_goals exact bodyPost_ret (v := .tuple #[.agg #[.int .u64 b0, .int .u64 b1, .int .u64 b2, .int .u64 s], .int .i64 0]) (by simp [results, Tryd.results34, go_sem, hc]) rfl ⟨rfl, (five_sets bu 3 _ _ _ _ _).drew⟩
set_option maxHeartbeats 1000000 in
theorem clrR_keep (b0 b1 b2 b3 n : Int) (w : World) (w0 : Word b0) (w1 : Word b1) (w2 : Word b2) (w3 : Word b3) (h0 : 0 ≤ n) (h1 : n < 256) (hno : hasI b0 b1 b2 b3 n = false) :
    Calls Tryd.prog 34 #[.agg #[.int .u64 b0, .int .u64 b1, .int .u64 b2, .int .u64 b3], .int .i64 n, .bool false] w fun e w' => e = .returned (.tuple #[.agg #[.int .u64 b0, .int .u64 b1, .int .u64 b2, .int .u64 b3], .int .i64 0]) ∧ Below w.heap.size w w' := by
  go_enter Tryd.func34, Tryd.ntmps34
  go_wp2_with fail
  refine (hasR_any _ _ _ _ _ _ w0 w1 w2 w3).mono ?_
  rintro e u ⟨rfl, hb⟩
  obtain ⟨hc, hf⟩ := bcells hb
  have bu : Below w.heap.size w u := ((((Below.refl _ _).alloc (Nat.le_refl _) _).alloc (by simp) _).alloc (by simp; omega) _).trans (hb.mono (by simp; omega))
  have hz : w.heap.size + 2 < u.heap.size := by have := hb.size; simp at this; omega
  go_wp2_with fail
  exact bodyPost_ret (v := .tuple #[.agg #[.int .u64 b0, .int .u64 b1, .int .u64 b2, .int .u64 b3], .int .i64 0]) (by simp [results, Tryd.results34, go_sem, hc]) rfl ⟨rfl, four_sets bu _ _ _ _⟩
theorem setR_no (b0 b1 b2 b3 n : Int) (z : Bool) (w : World) (h : ¬ (0 ≤ n ∧ n < 256)) :
    Calls Tryd.prog 34 #[.agg #[.int .u64 b0, .int .u64 b1, .int .u64 b2, .int .u64 b3], .int .i64 n, .bool z] w fun e w' => e = .returned (.tuple #[.agg #[.int .u64 0, .int .u64 0, .int .u64 0, .int .u64 0], .int .i64 1]) ∧ Below w.heap.size w w' := by
  by_cases c : 0 ≤ n
  · have c2 : 255 < n := by omega
    clear h
    go_enter Tryd.func34, Tryd.ntmps34
    go_wp2
    exact bodyPost_ret (v := .tuple #[.agg #[.int .u64 0, .int .u64 0, .int .u64 0, .int .u64 0], .int .i64 1]) (by simp [results, Tryd.results34, go_sem]) rfl ⟨rfl, ((Below.refl _ _).alloc (Nat.le_refl _) _).alloc (by simp) _⟩
  · clear h
    go_enter Tryd.func34, Tryd.ntmps34
    go_wp2
    exact bodyPost_ret (v := .tuple #[.agg #[.int .u64 0, .int .u64 0, .int .u64 0, .int .u64 0], .int .i64 1]) (by simp [results, Tryd.results34, go_sem]) rfl ⟨rfl, ((Below.refl _ _).alloc (Nat.le_refl _) _).alloc (by simp) _⟩

theorem put_keep (z : Bool) (b : Int) (j : Nat) (h : b.toNat.testBit j = z) : putI z b j = b := if_pos h
theorem wrap_word (x : Int) (h : Word x) : IntKind.u64.wrap x = x := by
  have h1 := h.lo
  have h2 := h.hi
  rw [IntKind.wrap_u64]
  omega
theorem put_set (b n : Int) (wb : Word b) (h : b.toNat.testBit (n % 64).toNat = false) : IntKind.u64.wrap (b + twoI (n % 64)) = putI true b (n % 64).toNat := by
  have e : putI true b (n % 64).toNat = b + twoI (n % 64) := by
    unfold putI twoI
    rw [if_neg (by simp [h]), if_pos rfl]
  have hb := put_bd true b (n % 64).toNat wb.lo wb.hi (mod_lt n)
  rw [← e]
  exact wrap_word _ ⟨hb.1, hb.2⟩
theorem put_clr (b n : Int) (wb : Word b) (h : b.toNat.testBit (n % 64).toNat = true) : IntKind.u64.wrap (b - twoI (n % 64)) = putI false b (n % 64).toNat := by
  have e : putI false b (n % 64).toNat = b - twoI (n % 64) := by
    unfold putI twoI
    rw [if_neg (by simp [h]), if_neg (by simp)]
  have hb := put_bd false b (n % 64).toNat wb.lo wb.hi (mod_lt n)
  rw [← e]
  exact wrap_word _ ⟨hb.1, hb.2⟩
theorem setR_any (z : Bool) (b0 b1 b2 b3 n : Int) (w : World) (w0 : Word b0) (w1 : Word b1) (w2 : Word b2) (w3 : Word b3) (n0 : 0 ≤ n) (n1 : n < 256) :
    Calls Tryd.prog 34 #[.agg #[.int .u64 b0, .int .u64 b1, .int .u64 b2, .int .u64 b3], .int .i64 n, .bool z] w fun e w' => e = .returned (.tuple #[.agg #[.int .u64 (setI z b0 n 0), .int .u64 (setI z b1 n 1), .int .u64 (setI z b2 n 2), .int .u64 (setI z b3 n 3)], .int .i64 0]) ∧ Below w.heap.size w w' := by
  have : n < 64 ∨ (64 ≤ n ∧ n < 128) ∨ (128 ≤ n ∧ n < 192) ∨ 192 ≤ n := by omega
  rcases this with c | c | c | c
  · rw [setI_eq z b0 n 0 (by omega), setI_ne z b1 n 1 (by omega), setI_ne z b2 n 2 (by omega), setI_ne z b3 n 3 (by omega)]
    have hh := hasI_in b0 b1 b2 b3 n 0 b0 (by omega) (by omega) (by omega) rfl
    cases z
    · cases hb : b0.toNat.testBit (n % 64).toNat
      · rw [put_keep false b0 _ hb]
        exact clrR_keep b0 b1 b2 b3 n w w0 w1 w2 w3 n0 n1 (hh.trans hb)
      · exact clrR_0 b0 b1 b2 b3 n _ _ w w0 w1 w2 w3 n0 c rfl (hh.trans hb) (put_clr b0 n w0 hb)
    · cases hb : b0.toNat.testBit (n % 64).toNat
      · exact setR_0 b0 b1 b2 b3 n _ _ w w0 w1 w2 w3 n0 c rfl (hh.trans hb) (put_set b0 n w0 hb)
      · rw [put_keep true b0 _ hb]
        exact setR_keep b0 b1 b2 b3 n w w0 w1 w2 w3 n0 n1 (hh.trans hb)
  · rw [setI_ne z b0 n 0 (by omega), setI_eq z b1 n 1 (by omega), setI_ne z b2 n 2 (by omega), setI_ne z b3 n 3 (by omega)]
    have hh := hasI_in b0 b1 b2 b3 n 1 b1 (by omega) (by omega) (by omega) rfl
    cases z
    · cases hb : b1.toNat.testBit (n % 64).toNat
      · rw [put_keep false b1 _ hb]
        exact clrR_keep b0 b1 b2 b3 n w w0 w1 w2 w3 n0 n1 (hh.trans hb)
      · exact clrR_1 b0 b1 b2 b3 n _ _ w w0 w1 w2 w3 c.1 c.2 rfl (hh.trans hb) (put_clr b1 n w1 hb)
    · cases hb : b1.toNat.testBit (n % 64).toNat
      · exact setR_1 b0 b1 b2 b3 n _ _ w w0 w1 w2 w3 c.1 c.2 rfl (hh.trans hb) (put_set b1 n w1 hb)
      · rw [put_keep true b1 _ hb]
        exact setR_keep b0 b1 b2 b3 n w w0 w1 w2 w3 n0 n1 (hh.trans hb)
  · rw [setI_ne z b0 n 0 (by omega), setI_ne z b1 n 1 (by omega), setI_eq z b2 n 2 (by omega), setI_ne z b3 n 3 (by omega)]
    have hh := hasI_in b0 b1 b2 b3 n 2 b2 (by omega) (by omega) (by omega) rfl
    cases z
    · cases hb : b2.toNat.testBit (n % 64).toNat
      · rw [put_keep false b2 _ hb]
        exact clrR_keep b0 b1 b2 b3 n w w0 w1 w2 w3 n0 n1 (hh.trans hb)
      · exact clrR_2 b0 b1 b2 b3 n _ _ w w0 w1 w2 w3 c.1 c.2 rfl (hh.trans hb) (put_clr b2 n w2 hb)
    · cases hb : b2.toNat.testBit (n % 64).toNat
      · exact setR_2 b0 b1 b2 b3 n _ _ w w0 w1 w2 w3 c.1 c.2 rfl (hh.trans hb) (put_set b2 n w2 hb)
      · rw [put_keep true b2 _ hb]
        exact setR_keep b0 b1 b2 b3 n w w0 w1 w2 w3 n0 n1 (hh.trans hb)
  · rw [setI_ne z b0 n 0 (by omega), setI_ne z b1 n 1 (by omega), setI_ne z b2 n 2 (by omega), setI_eq z b3 n 3 (by omega)]
    have hh := hasI_in b0 b1 b2 b3 n 3 b3 (by omega) (by omega) (by omega) rfl
    cases z
    · cases hb : b3.toNat.testBit (n % 64).toNat
      · rw [put_keep false b3 _ hb]
        exact clrR_keep b0 b1 b2 b3 n w w0 w1 w2 w3 n0 n1 (hh.trans hb)
      · exact clrR_3 b0 b1 b2 b3 n _ _ w w0 w1 w2 w3 c n1 rfl (hh.trans hb) (put_clr b3 n w3 hb)
    · cases hb : b3.toNat.testBit (n % 64).toNat
      · exact setR_3 b0 b1 b2 b3 n _ _ w w0 w1 w2 w3 c n1 rfl (hh.trans hb) (put_set b3 n w3 hb)
      · rw [put_keep true b3 _ hb]
        exact setR_keep b0 b1 b2 b3 n w w0 w1 w2 w3 n0 n1 (hh.trans hb)
end Go.Proofs.YtnjmjhmngjodcaaDoor
