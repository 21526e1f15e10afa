/-
  What Mint of package caps returns, for every capability; no condition but that the numbers fit.
-/
import Derived.Test.YtokehmkegnmfdaaDoorCFormed
namespace Go.Proofs.YtokehmkegnmfdaaDoor
open Go.RowKit Go.Deep
set_option linter.unusedSectionVars false
variable [dCp : DecidableEq Cp] [dLim : ∀ k, Decidable (Lim k)] [dBad : ∀ k, Decidable (Bad k)] [dFit : ∀ g z, Decidable (Fit g z)] [dFine : ∀ c, Decidable (Fine c)] [dMint : ∀ c v, Decidable (MintR c v)] [dWho : ∀ x y, Decidable (Whose x y)]
/-- Six stores into a block of the call's own leave all older ones. -/
theorem six_sets {B q : Nat} {w u : World} (h : Below B w u) (hq : B ≤ q) (a b c d e f : Value) :
    Below B w ((((((u.setCell ⟨q, 0, none⟩ a).setCell ⟨q, 1, none⟩ b).setCell ⟨q, 2, none⟩ c).setCell ⟨q, 3, none⟩ d).setCell ⟨q, 4, none⟩ e).setCell ⟨q, 5, none⟩ f) :=
  (((((h.setCell (p := ⟨q, 0, none⟩) hq a).setCell (p := ⟨q, 1, none⟩) hq b).setCell (p := ⟨q, 2, none⟩) hq c).setCell (p := ⟨q, 3, none⟩) hq d).setCell (p := ⟨q, 4, none⟩) hq e).setCell (p := ⟨q, 5, none⟩) hq f
set_option maxHeartbeats 2000000 in
theorem mint_form (c : Cp) (n v : Int) (w : World) (hf : c.Fits) (h1 : ¬ Fine c) : Calls Tryd.prog 16 #[encC c, .int .i64 n, .int .u64 v] w fun e w' => e = .returned (.tuple #[encC no, .int .i64 40]) ∧ Below w.heap.size w w' := by
  have Xh1 : Hid (¬ Fine c) := h1
  clear h1
  have HF : Hid c.Fits := hf
  have b1 := two_new w (objC c) (objC no)
  have a1 := (AtC.new w c).below (below_new _ (objC no))
  have a2 := AtC.new (w.alloc (objC c)) no
  rw [World.size_alloc] at a2
  clear hf
  simp only [encC, objC, no] at b1 a1 a2 ⊢
  go_enter Tryd.func16, Tryd.ntmps16
  go_wp2_with fail
  refine (check_any c _ HF.out).mono ?_
  rintro e w2 ⟨rfl, b2⟩
  have a3 := a1.below b2
  have a4 := a2.below b2
  have b3 := Below.then b1 b2 b1.size
  clear a1 a2 b1 b2
  have hr : w.heap.size + 1 < w2.heap.size := a4.lt
  generalize hr0 : w.heap.size = r at *
  have HR : Hid (w.heap.size = r) := hr0
  clear hr0
  obtain ⟨c0, c1, c2, c3, c4, c5⟩ := a3.cells
  obtain ⟨d0, d1, d2, d3, d4, d5⟩ := a4.cells
  have f3 := a3.frozen
  have f4 := a4.frozen
  have A3 : Hid (AtC w2 r c) := a3
  have A4 : Hid (AtC w2 (r + 1) no) := a4
  have B : Hid (Below r w w2) := b3
  clear a3 a4 b3
  have h1 := Xh1.out
  rw [checkE, if_neg h1]
  clear h1
  go_wp2
  refine bodyPost_ret (v := .tuple #[encC no, .int .i64 40]) ?_ rfl ⟨rfl, ?_⟩
  · simp [results, Tryd.f16, go_sem, encC, no, d0, d1, d2, d3, d4, d5]
  · rw [HR.out]; exact six_sets B.out (by omega) _ _ _ _ _ _

set_option maxHeartbeats 2000000 in
theorem mint_arg (c : Cp) (n v : Int) (w : World) (hf : c.Fits) (h1 : Fine c) (h2 : ¬ (0 ≤ n ∧ n ≤ 7)) : Calls Tryd.prog 16 #[encC c, .int .i64 n, .int .u64 v] w fun e w' => e = .returned (.tuple #[encC no, .int .i64 1]) ∧ Below w.heap.size w w' := by
  have Xh1 : Hid (Fine c) := h1
  clear h1
  have Xh2 : Hid (¬ (0 ≤ n ∧ n ≤ 7)) := h2
  clear h2
  have HF : Hid c.Fits := hf
  have b1 := two_new w (objC c) (objC no)
  have a1 := (AtC.new w c).below (below_new _ (objC no))
  have a2 := AtC.new (w.alloc (objC c)) no
  rw [World.size_alloc] at a2
  clear hf
  simp only [encC, objC, no] at b1 a1 a2 ⊢
  go_enter Tryd.func16, Tryd.ntmps16
  go_wp2_with fail
  refine (check_any c _ HF.out).mono ?_
  rintro e w2 ⟨rfl, b2⟩
  have a3 := a1.below b2
  have a4 := a2.below b2
  have b3 := Below.then b1 b2 b1.size
  clear a1 a2 b1 b2
  have hr : w.heap.size + 1 < w2.heap.size := a4.lt
  generalize hr0 : w.heap.size = r at *
  have HR : Hid (w.heap.size = r) := hr0
  clear hr0
  obtain ⟨c0, c1, c2, c3, c4, c5⟩ := a3.cells
  obtain ⟨d0, d1, d2, d3, d4, d5⟩ := a4.cells
  have f3 := a3.frozen
  have f4 := a4.frozen
  have A3 : Hid (AtC w2 r c) := a3
  have A4 : Hid (AtC w2 (r + 1) no) := a4
  have B : Hid (Below r w w2) := b3
  clear a3 a4 b3
  have h1 := Xh1.out
  have h2 := Xh2.out
  rw [checkE, if_pos h1]
  clear h1
  have H2 : Hid (¬ (0 ≤ n ∧ n ≤ 7)) := h2
  clear h2
  go_wp2_with fail
  refine (rights_any _ _).mono ?_
  rintro e w' ⟨rfl, rfl⟩
  rw [show decide (0 ≤ n ∧ n ≤ 7) = false by simp only [decide_eq_false_iff_not]; have := H2.out; omega]
  go_wp2
  refine bodyPost_ret (v := .tuple #[encC no, .int .i64 1]) ?_ rfl ⟨rfl, ?_⟩
  · simp [results, Tryd.f16, go_sem, encC, no, d0, d1, d2, d3, d4, d5]
  · rw [HR.out]; exact six_sets B.out (by omega) _ _ _ _ _ _

set_option maxHeartbeats 2000000 in
theorem mint_none (c : Cp) (n v : Int) (w : World) (hf : c.Fits) (h1 : Fine c) (h2 : 0 ≤ n ∧ n ≤ 7) (h3 : c.k = 0) : Calls Tryd.prog 16 #[encC c, .int .i64 n, .int .u64 v] w fun e w' => e = .returned (.tuple #[encC no, .int .i64 41]) ∧ Below w.heap.size w w' := by
  have Xh1 : Hid (Fine c) := h1
  clear h1
  have Xh2 : Hid (0 ≤ n ∧ n ≤ 7) := h2
  clear h2
  have Xh3 : Hid (c.k = 0) := h3
  clear h3
  have HF : Hid c.Fits := hf
  have b1 := two_new w (objC c) (objC no)
  have a1 := (AtC.new w c).below (below_new _ (objC no))
  have a2 := AtC.new (w.alloc (objC c)) no
  rw [World.size_alloc] at a2
  clear hf
  simp only [encC, objC, no] at b1 a1 a2 ⊢
  go_enter Tryd.func16, Tryd.ntmps16
  go_wp2_with fail
  refine (check_any c _ HF.out).mono ?_
  rintro e w2 ⟨rfl, b2⟩
  have a3 := a1.below b2
  have a4 := a2.below b2
  have b3 := Below.then b1 b2 b1.size
  clear a1 a2 b1 b2
  have hr : w.heap.size + 1 < w2.heap.size := a4.lt
  generalize hr0 : w.heap.size = r at *
  have HR : Hid (w.heap.size = r) := hr0
  clear hr0
  obtain ⟨c0, c1, c2, c3, c4, c5⟩ := a3.cells
  obtain ⟨d0, d1, d2, d3, d4, d5⟩ := a4.cells
  have f3 := a3.frozen
  have f4 := a4.frozen
  have A3 : Hid (AtC w2 r c) := a3
  have A4 : Hid (AtC w2 (r + 1) no) := a4
  have B : Hid (Below r w w2) := b3
  clear a3 a4 b3
  have h1 := Xh1.out
  have h2 := Xh2.out
  have h3 := Xh3.out
  rw [checkE, if_pos h1]
  clear h1
  go_wp2_with fail
  refine (rights_any _ _).mono ?_
  rintro e w' ⟨rfl, rfl⟩
  rw [show decide (0 ≤ n ∧ n ≤ 7) = true by simp only [decide_eq_true_eq]; omega]
  go_wp2
  refine bodyPost_ret (v := .tuple #[encC no, .int .i64 41]) ?_ rfl ⟨rfl, ?_⟩
  · simp [results, Tryd.f16, go_sem, encC, no, d0, d1, d2, d3, d4, d5]
  · rw [HR.out]; exact six_sets B.out (by omega) _ _ _ _ _ _

set_option maxHeartbeats 2000000 in
theorem mint_right (c : Cp) (n v : Int) (w : World) (hf : c.Fits) (h1 : Fine c) (h2 : 0 ≤ n ∧ n ≤ 7) (h3 : ¬ c.k = 0) (h4 : ¬ v = 0) (h5 : ¬ (Bad c.k ∧ c.b = 0)) : Calls Tryd.prog 16 #[encC c, .int .i64 n, .int .u64 v] w fun e w' => e = .returned (.tuple #[encC no, .int .i64 41]) ∧ Below w.heap.size w w' := by
  have Xh1 : Hid (Fine c) := h1
  clear h1
  have Xh2 : Hid (0 ≤ n ∧ n ≤ 7) := h2
  clear h2
  have Xh3 : Hid (¬ c.k = 0) := h3
  clear h3
  have Xh4 : Hid (¬ v = 0) := h4
  clear h4
  have Xh5 : Hid (¬ (Bad c.k ∧ c.b = 0)) := h5
  clear h5
  have HF : Hid c.Fits := hf
  have b1 := two_new w (objC c) (objC no)
  have a1 := (AtC.new w c).below (below_new _ (objC no))
  have a2 := AtC.new (w.alloc (objC c)) no
  rw [World.size_alloc] at a2
  clear hf
  simp only [encC, objC, no] at b1 a1 a2 ⊢
  go_enter Tryd.func16, Tryd.ntmps16
  go_wp2_with fail
  refine (check_any c _ HF.out).mono ?_
  rintro e w2 ⟨rfl, b2⟩
  have a3 := a1.below b2
  have a4 := a2.below b2
  have b3 := Below.then b1 b2 b1.size
  clear a1 a2 b1 b2
  have hr : w.heap.size + 1 < w2.heap.size := a4.lt
  generalize hr0 : w.heap.size = r at *
  have HR : Hid (w.heap.size = r) := hr0
  clear hr0
  obtain ⟨c0, c1, c2, c3, c4, c5⟩ := a3.cells
  obtain ⟨d0, d1, d2, d3, d4, d5⟩ := a4.cells
  have f3 := a3.frozen
  have f4 := a4.frozen
  have A3 : Hid (AtC w2 r c) := a3
  have A4 : Hid (AtC w2 (r + 1) no) := a4
  have B : Hid (Below r w w2) := b3
  clear a3 a4 b3
  have h1 := Xh1.out
  have h2 := Xh2.out
  have h3 := Xh3.out
  have hk : (c.k == 0) = false := by simpa using h3
  have h4 := Xh4.out
  have hv : (v != 0) = true := by simpa using h4
  have h5 := Xh5.out
  rw [checkE, if_pos h1]
  have H5 : Hid (¬ (Bad c.k ∧ c.b = 0)) := h5
  clear h1 h5
  go_wp2_with fail
  refine (rights_any _ _).mono ?_
  rintro e w' ⟨rfl, rfl⟩
  rw [show decide (0 ≤ n ∧ n ≤ 7) = true by simp only [decide_eq_true_eq]; omega]
  go_wp2_with fail
  refine (takes_any c _).mono ?_
  rintro e w3 ⟨rfl, b2⟩
  have a3 := A3.out.below b2
  have a4 := A4.out.below b2
  have b3 := Below.then B.out b2 (by omega)
  have hr' : r + 1 < w3.heap.size := a4.lt
  clear b2 A3 A4 B c0 c1 c2 c3 c4 c5 d0 d1 d2 d3 d4 d5 f3 f4 hr
  rw [show decide (Bad c.k ∧ c.b = 0) = false by simp only [decide_eq_false_iff_not]; exact H5.out]
  obtain ⟨c0, c1, c2, c3, c4, c5⟩ := a3.cells
  obtain ⟨d0, d1, d2, d3, d4, d5⟩ := a4.cells
  have f3 := a3.frozen
  have f4 := a4.frozen
  have A3 : Hid (AtC w3 r c) := a3
  have A4 : Hid (AtC w3 (r + 1) no) := a4
  have B : Hid (Below r w w3) := b3
  clear a3 a4 b3
  go_wp2
  refine bodyPost_ret (v := .tuple #[encC no, .int .i64 41]) ?_ rfl ⟨rfl, ?_⟩
  · simp [results, Tryd.f16, go_sem, encC, no, d0, d1, d2, d3, d4, d5]
  · rw [HR.out]; exact six_sets B.out (by omega) _ _ _ _ _ _

set_option maxHeartbeats 2000000 in
theorem mint_plain (c : Cp) (n v : Int) (w : World) (hf : c.Fits) (h1 : Fine c) (h2 : 0 ≤ n ∧ n ≤ 7) (h3 : ¬ c.k = 0) (h4 : v = 0) (hl : ¬ Lim c.k) : Calls Tryd.prog 16 #[encC c, .int .i64 n, .int .u64 v] w fun e w' => e = .returned (.tuple #[encC c, .int .i64 0]) ∧ Below w.heap.size w w' := by
  have Xh1 : Hid (Fine c) := h1
  clear h1
  have Xh2 : Hid (0 ≤ n ∧ n ≤ 7) := h2
  clear h2
  have Xh3 : Hid (¬ c.k = 0) := h3
  clear h3
  have Xh4 : Hid (v = 0) := h4
  clear h4
  have Xhl : Hid (¬ Lim c.k) := hl
  clear hl
  have HF : Hid c.Fits := hf
  have b1 := two_new w (objC c) (objC no)
  have a1 := (AtC.new w c).below (below_new _ (objC no))
  have a2 := AtC.new (w.alloc (objC c)) no
  rw [World.size_alloc] at a2
  clear hf
  simp only [encC, objC, no] at b1 a1 a2 ⊢
  go_enter Tryd.func16, Tryd.ntmps16
  go_wp2_with fail
  refine (check_any c _ HF.out).mono ?_
  rintro e w2 ⟨rfl, b2⟩
  have a3 := a1.below b2
  have a4 := a2.below b2
  have b3 := Below.then b1 b2 b1.size
  clear a1 a2 b1 b2
  have hr : w.heap.size + 1 < w2.heap.size := a4.lt
  generalize hr0 : w.heap.size = r at *
  have HR : Hid (w.heap.size = r) := hr0
  clear hr0
  obtain ⟨c0, c1, c2, c3, c4, c5⟩ := a3.cells
  obtain ⟨d0, d1, d2, d3, d4, d5⟩ := a4.cells
  have f3 := a3.frozen
  have f4 := a4.frozen
  have A3 : Hid (AtC w2 r c) := a3
  have A4 : Hid (AtC w2 (r + 1) no) := a4
  have B : Hid (Below r w w2) := b3
  clear a3 a4 b3
  have h1 := Xh1.out
  have h2 := Xh2.out
  have h3 := Xh3.out
  have hk : (c.k == 0) = false := by simpa using h3
  have h4 := Xh4.out
  have hl := Xhl.out
  rw [checkE, if_pos h1]
  have HL : Hid (¬ Lim c.k) := hl
  clear h1 hl
  go_wp2_with fail
  refine (rights_any _ _).mono ?_
  rintro e w' ⟨rfl, rfl⟩
  rw [show decide (0 ≤ n ∧ n ≤ 7) = true by simp only [decide_eq_true_eq]; omega]
  go_wp2_with fail
  refine (limited_any _ _).mono ?_
  rintro e w' ⟨rfl, rfl⟩
  rw [show decide (Lim c.k) = false by simp only [decide_eq_false_iff_not]; exact HL.out]
  go_wp2
  refine bodyPost_ret (v := .tuple #[encC c, .int .i64 0]) ?_ rfl ⟨rfl, ?_⟩
  · simp [results, Tryd.f16, go_sem, encC, d0, d1, d2, d3, d4, d5]
  · rw [HR.out]; exact six_sets B.out (by omega) _ _ _ _ _ _

set_option maxHeartbeats 2000000 in
theorem mint_less (c : Cp) (n v : Int) (w : World) (hf : c.Fits) (h1 : Fine c) (h2 : 0 ≤ n ∧ n ≤ 7) (h3 : ¬ c.k = 0) (h4 : v = 0) (hl : Lim c.k) : Calls Tryd.prog 16 #[encC c, .int .i64 n, .int .u64 v] w fun e w' => e = .returned (.tuple #[encC { c with r := bits .and .i64 c.r n }, .int .i64 0]) ∧ Below w.heap.size w w' := by
  have Xh1 : Hid (Fine c) := h1
  clear h1
  have Xh2 : Hid (0 ≤ n ∧ n ≤ 7) := h2
  clear h2
  have Xh3 : Hid (¬ c.k = 0) := h3
  clear h3
  have Xh4 : Hid (v = 0) := h4
  clear h4
  have Xhl : Hid (Lim c.k) := hl
  clear hl
  have HF : Hid c.Fits := hf
  have b1 := two_new w (objC c) (objC no)
  have a1 := (AtC.new w c).below (below_new _ (objC no))
  have a2 := AtC.new (w.alloc (objC c)) no
  rw [World.size_alloc] at a2
  clear hf
  simp only [encC, objC, no] at b1 a1 a2 ⊢
  go_enter Tryd.func16, Tryd.ntmps16
  go_wp2_with fail
  refine (check_any c _ HF.out).mono ?_
  rintro e w2 ⟨rfl, b2⟩
  have a3 := a1.below b2
  have a4 := a2.below b2
  have b3 := Below.then b1 b2 b1.size
  clear a1 a2 b1 b2
  have hr : w.heap.size + 1 < w2.heap.size := a4.lt
  generalize hr0 : w.heap.size = r at *
  have HR : Hid (w.heap.size = r) := hr0
  clear hr0
  obtain ⟨c0, c1, c2, c3, c4, c5⟩ := a3.cells
  obtain ⟨d0, d1, d2, d3, d4, d5⟩ := a4.cells
  have f3 := a3.frozen
  have f4 := a4.frozen
  have A3 : Hid (AtC w2 r c) := a3
  have A4 : Hid (AtC w2 (r + 1) no) := a4
  have B : Hid (Below r w w2) := b3
  clear a3 a4 b3
  have h1 := Xh1.out
  have h2 := Xh2.out
  have h3 := Xh3.out
  have hk : (c.k == 0) = false := by simpa using h3
  have h4 := Xh4.out
  have hl := Xhl.out
  rw [checkE, if_pos h1]
  have HL : Hid (Lim c.k) := hl
  clear h1 hl
  go_wp2_with fail
  refine (rights_any _ _).mono ?_
  rintro e w' ⟨rfl, rfl⟩
  rw [show decide (0 ≤ n ∧ n ≤ 7) = true by simp only [decide_eq_true_eq]; omega]
  go_wp2_with fail
  refine (limited_any _ _).mono ?_
  rintro e w' ⟨rfl, rfl⟩
  rw [show decide (Lim c.k) = true by simp only [decide_eq_true_eq]; exact HL.out]
  go_wp2
  refine bodyPost_ret (v := .tuple #[encC { c with r := bits .and .i64 c.r n }, .int .i64 0]) ?_ rfl ⟨rfl, ?_⟩
  · simp [results, Tryd.f16, go_sem, encC, d0, d1, d2, d3, d4, d5]
  · rw [HR.out]; exact six_sets (B.out.setCell (p := ⟨r, 2, none⟩) (Nat.le_refl _) _) (by omega) _ _ _ _ _ _

set_option maxHeartbeats 2000000 in
theorem mint_badge (c : Cp) (n v : Int) (w : World) (hf : c.Fits) (h1 : Fine c) (h2 : 0 ≤ n ∧ n ≤ 7) (h3 : ¬ c.k = 0) (h4 : ¬ v = 0) (hl : Lim c.k) (h5 : Bad c.k ∧ c.b = 0) : Calls Tryd.prog 16 #[encC c, .int .i64 n, .int .u64 v] w fun e w' => e = .returned (.tuple #[encC { c with r := bits .and .i64 c.r n, b := v }, .int .i64 0]) ∧ Below w.heap.size w w' := by
  have Xh1 : Hid (Fine c) := h1
  clear h1
  have Xh2 : Hid (0 ≤ n ∧ n ≤ 7) := h2
  clear h2
  have Xh3 : Hid (¬ c.k = 0) := h3
  clear h3
  have Xh4 : Hid (¬ v = 0) := h4
  clear h4
  have Xhl : Hid (Lim c.k) := hl
  clear hl
  have Xh5 : Hid (Bad c.k ∧ c.b = 0) := h5
  clear h5
  have HF : Hid c.Fits := hf
  have b1 := two_new w (objC c) (objC no)
  have a1 := (AtC.new w c).below (below_new _ (objC no))
  have a2 := AtC.new (w.alloc (objC c)) no
  rw [World.size_alloc] at a2
  clear hf
  simp only [encC, objC, no] at b1 a1 a2 ⊢
  go_enter Tryd.func16, Tryd.ntmps16
  go_wp2_with fail
  refine (check_any c _ HF.out).mono ?_
  rintro e w2 ⟨rfl, b2⟩
  have a3 := a1.below b2
  have a4 := a2.below b2
  have b3 := Below.then b1 b2 b1.size
  clear a1 a2 b1 b2
  have hr : w.heap.size + 1 < w2.heap.size := a4.lt
  generalize hr0 : w.heap.size = r at *
  have HR : Hid (w.heap.size = r) := hr0
  clear hr0
  obtain ⟨c0, c1, c2, c3, c4, c5⟩ := a3.cells
  obtain ⟨d0, d1, d2, d3, d4, d5⟩ := a4.cells
  have f3 := a3.frozen
  have f4 := a4.frozen
  have A3 : Hid (AtC w2 r c) := a3
  have A4 : Hid (AtC w2 (r + 1) no) := a4
  have B : Hid (Below r w w2) := b3
  clear a3 a4 b3
  have h1 := Xh1.out
  have h2 := Xh2.out
  have h3 := Xh3.out
  have hk : (c.k == 0) = false := by simpa using h3
  have h4 := Xh4.out
  have hv : (v != 0) = true := by simpa using h4
  have hl := Xhl.out
  have h5 := Xh5.out
  rw [checkE, if_pos h1]
  have HL : Hid (Lim c.k) := hl
  have H5 : Hid (Bad c.k ∧ c.b = 0) := h5
  clear h1 hl h5
  go_wp2_with fail
  refine (rights_any _ _).mono ?_
  rintro e w' ⟨rfl, rfl⟩
  rw [show decide (0 ≤ n ∧ n ≤ 7) = true by simp only [decide_eq_true_eq]; omega]
  go_wp2_with fail
  refine (takes_any c _).mono ?_
  rintro e w3 ⟨rfl, b2⟩
  have a3 := A3.out.below b2
  have a4 := A4.out.below b2
  have b3 := Below.then B.out b2 (by omega)
  have hr' : r + 1 < w3.heap.size := a4.lt
  clear b2 A3 A4 B c0 c1 c2 c3 c4 c5 d0 d1 d2 d3 d4 d5 f3 f4 hr
  rw [show decide (Bad c.k ∧ c.b = 0) = true by simp only [decide_eq_true_eq]; exact H5.out]
  obtain ⟨c0, c1, c2, c3, c4, c5⟩ := a3.cells
  obtain ⟨d0, d1, d2, d3, d4, d5⟩ := a4.cells
  have f3 := a3.frozen
  have f4 := a4.frozen
  have A3 : Hid (AtC w3 r c) := a3
  have A4 : Hid (AtC w3 (r + 1) no) := a4
  have B : Hid (Below r w w3) := b3
  clear a3 a4 b3
  go_wp2_with fail
  refine (limited_any _ _).mono ?_
  rintro e w' ⟨rfl, rfl⟩
  rw [show decide (Lim c.k) = true by simp only [decide_eq_true_eq]; exact HL.out]
  go_wp2
  refine bodyPost_ret (v := .tuple #[encC { c with r := bits .and .i64 c.r n, b := v }, .int .i64 0]) ?_ rfl ⟨rfl, ?_⟩
  · simp [results, Tryd.f16, go_sem, encC, d0, d1, d2, d3, d4, d5]
  · rw [HR.out]; exact six_sets ((B.out.setCell (p := ⟨r, 2, none⟩) (Nat.le_refl _) _).setCell (p := ⟨r, 3, none⟩) (Nat.le_refl _) _) (by omega) _ _ _ _ _ _

theorem mint_any (c : Cp) (n v : Int) (w : World) (hf : c.Fits) : Calls Tryd.prog 16 #[encC c, .int .i64 n, .int .u64 v] w fun e w' => e = .returned (.tuple #[encC (mintR c n v), .int .i64 (mintE c n v)]) ∧ Below w.heap.size w w' := by
  by_cases h1 : Fine c
  · by_cases h2 : 0 ≤ n ∧ n ≤ 7
    · by_cases h3 : c.k = 0
      · have e1 : mintE c n v = 41 := by simp [mintE, h1, h2, MintR, h3]
        rw [mintR, e1]
        exact mint_none c n v w hf h1 h2 h3
      · by_cases h4 : v = 0
        · have e1 : mintE c n v = 0 := by simp [mintE, h1, h2, MintR, h3, h4]
          rw [mintR, e1, if_pos rfl]
          by_cases hl : Lim c.k
          · have := mint_less c n v w hf h1 h2 h3 h4 hl
            simpa [mintC, hl, h4] using this
          · have := mint_plain c n v w hf h1 h2 h3 h4 hl
            simpa [mintC, hl, h4] using this
        · by_cases h5 : Bad c.k ∧ c.b = 0
          · have e1 : mintE c n v = 0 := by simp [mintE, h1, h2, MintR, h3, h4, h5.1, h5.2]
            have hl : Lim c.k := by have := h5.1; unfold Bad at this; unfold Lim; omega
            rw [mintR, e1, if_pos rfl]
            have := mint_badge c n v w hf h1 h2 h3 h4 hl h5
            simpa [mintC, hl, h4] using this
          · have hm : MintR c v := .inr ⟨h4, h5⟩
            have e1 : mintE c n v = 41 := by rw [mintE, if_pos h1, if_pos h2, if_pos hm]
            rw [mintR, e1]
            exact mint_right c n v w hf h1 h2 h3 h4 h5
    · have e1 : mintE c n v = 1 := by rw [mintE, if_pos h1, if_neg h2]
      rw [mintR, e1]
      exact mint_arg c n v w hf h1 h2
  · have e1 : mintE c n v = 40 := by rw [mintE, if_neg h1]
    rw [mintR, e1]
    exact mint_form c n v w hf h1
end Go.Proofs.YtokehmkegnmfdaaDoor
