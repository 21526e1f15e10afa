/-
  What Guarded of package caps returns, for every capability; no condition but that the numbers fit.
-/
import Derived.Test.YtokehmkegnmfdaaDoorCMint
namespace Go.Proofs.YtokehmkegnmfdaaDoor
open Go.RowKit Go.Deep
set_option linter.unusedSectionVars false
variable [dCp : DecidableEq Cp] [dLim : ∀ k, Decidable (Lim k)] [dBad : ∀ k, Decidable (Bad k)] [dFit : ∀ g z, Decidable (Fit g z)] [dFine : ∀ c, Decidable (Fine c)] [dMint : ∀ c v, Decidable (MintR c v)] [dWho : ∀ x y, Decidable (Whose x y)]
set_option maxHeartbeats 2000000 in
theorem guard_form (c : Cp) (g z : Int) (w : World) (hf : c.Fits) (h1 : ¬ Fine c) : Calls Tryd.prog 18 #[encC c, .int .u64 g, .int .i64 z] w fun e w' => e = .returned (.tuple #[encC no, .int .i64 40]) ∧ Below w.heap.size w w' := by
  have Xh1 : Hid (¬ Fine c) := h1
  clear h1
  have HF : Hid c.Fits := hf
  have b1 := two_new w (objC c) (objC no)
  have a1 := (AtC.new w c).below (below_new _ (objC no))
  have a2 := AtC.new (w.alloc (objC c)) no
  rw [World.size_alloc] at a2
  clear hf
  simp only [encC, objC, no] at b1 a1 a2 ⊢
  go_enter Tryd.func18, Tryd.ntmps18
  go_wp2_with fail
  refine (check_any c _ HF.out).mono ?_
  rintro e w2 ⟨rfl, b2⟩
  have a3 := a1.below b2
  have a4 := a2.below b2
  have b3 := Below.then b1 b2 b1.size
  clear a1 a2 b1 b2
  have hr : w.heap.size + 1 < w2.heap.size := a4.lt
  generalize hr0 : w.heap.size = r at *
  have HR : Hid (w.heap.size = r) := hr0
  clear hr0
  have hr2 : r < w2.heap.size := by omega
  obtain ⟨c0, c1, c2, c3, c4, c5⟩ := a3.cells
  obtain ⟨d0, d1, d2, d3, d4, d5⟩ := a4.cells
  have f3 := a3.frozen
  have f4 := a4.frozen
  have A3 : Hid (AtC w2 r c) := a3
  have A4 : Hid (AtC w2 (r + 1) no) := a4
  have B : Hid (Below r w w2) := b3
  clear a3 a4 b3
  have h1 := Xh1.out
  rw [checkE, if_neg h1]
  clear h1
  go_wp2
  refine bodyPost_ret (v := .tuple #[encC no, .int .i64 40]) ?_ rfl ⟨rfl, ?_⟩
  · simp [results, Tryd.f18, go_sem, encC, no, d0, d1, d2, d3, d4, d5]
  · rw [HR.out]; exact six_sets B.out (by omega) _ _ _ _ _ _

set_option maxHeartbeats 2000000 in
theorem guard_kind (c : Cp) (g z : Int) (w : World) (hf : c.Fits) (h1 : Fine c) (h3 : ¬ c.k = 2) : Calls Tryd.prog 18 #[encC c, .int .u64 g, .int .i64 z] w fun e w' => e = .returned (.tuple #[encC no, .int .i64 41]) ∧ Below w.heap.size w w' := by
  have Xh1 : Hid (Fine c) := h1
  clear h1
  have Xh3 : Hid (¬ c.k = 2) := h3
  clear h3
  have HF : Hid c.Fits := hf
  have b1 := two_new w (objC c) (objC no)
  have a1 := (AtC.new w c).below (below_new _ (objC no))
  have a2 := AtC.new (w.alloc (objC c)) no
  rw [World.size_alloc] at a2
  clear hf
  simp only [encC, objC, no] at b1 a1 a2 ⊢
  go_enter Tryd.func18, Tryd.ntmps18
  go_wp2_with fail
  refine (check_any c _ HF.out).mono ?_
  rintro e w2 ⟨rfl, b2⟩
  have a3 := a1.below b2
  have a4 := a2.below b2
  have b3 := Below.then b1 b2 b1.size
  clear a1 a2 b1 b2
  have hr : w.heap.size + 1 < w2.heap.size := a4.lt
  generalize hr0 : w.heap.size = r at *
  have HR : Hid (w.heap.size = r) := hr0
  clear hr0
  have hr2 : r < w2.heap.size := by omega
  obtain ⟨c0, c1, c2, c3, c4, c5⟩ := a3.cells
  obtain ⟨d0, d1, d2, d3, d4, d5⟩ := a4.cells
  have f3 := a3.frozen
  have f4 := a4.frozen
  have A3 : Hid (AtC w2 r c) := a3
  have A4 : Hid (AtC w2 (r + 1) no) := a4
  have B : Hid (Below r w w2) := b3
  clear a3 a4 b3
  have h1 := Xh1.out
  have h3 := Xh3.out
  have hk : (c.k != 2) = true := by simpa using h3
  rw [checkE, if_pos h1]
  clear h1
  go_wp2
  refine bodyPost_ret (v := .tuple #[encC no, .int .i64 41]) ?_ rfl ⟨rfl, ?_⟩
  · simp [results, Tryd.f18, go_sem, encC, no, d0, d1, d2, d3, d4, d5]
  · rw [HR.out]; exact six_sets B.out (by omega) _ _ _ _ _ _

set_option maxHeartbeats 2000000 in
theorem guard_arg (c : Cp) (g z : Int) (w : World) (hf : c.Fits) (hg : 0 ≤ g ∧ g ≤ 18446744073709551615) (h1 : Fine c) (h3 : c.k = 2) (h4 : ¬ Fit g z) : Calls Tryd.prog 18 #[encC c, .int .u64 g, .int .i64 z] w fun e w' => e = .returned (.tuple #[encC no, .int .i64 1]) ∧ Below w.heap.size w w' := by
  have Xhg : Hid (0 ≤ g ∧ g ≤ 18446744073709551615) := hg
  clear hg
  have Xh1 : Hid (Fine c) := h1
  clear h1
  have Xh3 : Hid (c.k = 2) := h3
  clear h3
  have Xh4 : Hid (¬ Fit g z) := h4
  clear h4
  have HF : Hid c.Fits := hf
  have b1 := two_new w (objC c) (objC no)
  have a1 := (AtC.new w c).below (below_new _ (objC no))
  have a2 := AtC.new (w.alloc (objC c)) no
  rw [World.size_alloc] at a2
  clear hf
  simp only [encC, objC, no] at b1 a1 a2 ⊢
  go_enter Tryd.func18, Tryd.ntmps18
  go_wp2_with fail
  refine (check_any c _ HF.out).mono ?_
  rintro e w2 ⟨rfl, b2⟩
  have a3 := a1.below b2
  have a4 := a2.below b2
  have b3 := Below.then b1 b2 b1.size
  clear a1 a2 b1 b2
  have hr : w.heap.size + 1 < w2.heap.size := a4.lt
  generalize hr0 : w.heap.size = r at *
  have HR : Hid (w.heap.size = r) := hr0
  clear hr0
  have hr2 : r < w2.heap.size := by omega
  obtain ⟨c0, c1, c2, c3, c4, c5⟩ := a3.cells
  obtain ⟨d0, d1, d2, d3, d4, d5⟩ := a4.cells
  have f3 := a3.frozen
  have f4 := a4.frozen
  have A3 : Hid (AtC w2 r c) := a3
  have A4 : Hid (AtC w2 (r + 1) no) := a4
  have B : Hid (Below r w w2) := b3
  clear a3 a4 b3
  have hg := Xhg.out
  have h1 := Xh1.out
  have h3 := Xh3.out
  have hk : (c.k != 2) = false := by simp [h3]
  have h4 := Xh4.out
  rw [checkE, if_pos h1]
  clear h1 h4
  go_wp2_with fail
  refine (fits_any _ _ _ hg).mono ?_
  rintro e w' ⟨rfl, rfl⟩
  rw [show decide (Fit g z) = false by simp only [decide_eq_false_iff_not]; exact Xh4.out]
  go_wp2
  refine bodyPost_ret (v := .tuple #[encC no, .int .i64 1]) ?_ rfl ⟨rfl, ?_⟩
  · simp [results, Tryd.f18, go_sem, encC, no, d0, d1, d2, d3, d4, d5]
  · rw [HR.out]; exact six_sets B.out (by omega) _ _ _ _ _ _

set_option maxHeartbeats 2000000 in
theorem guard_yes (c : Cp) (g z : Int) (w : World) (hf : c.Fits) (hg : 0 ≤ g ∧ g ≤ 18446744073709551615) (h1 : Fine c) (h3 : c.k = 2) (h4 : Fit g z) : Calls Tryd.prog 18 #[encC c, .int .u64 g, .int .i64 z] w fun e w' => e = .returned (.tuple #[encC { c with g := g, z := z }, .int .i64 0]) ∧ Below w.heap.size w w' := by
  have Xhg : Hid (0 ≤ g ∧ g ≤ 18446744073709551615) := hg
  clear hg
  have Xh1 : Hid (Fine c) := h1
  clear h1
  have Xh3 : Hid (c.k = 2) := h3
  clear h3
  have Xh4 : Hid (Fit g z) := h4
  clear h4
  have HF : Hid c.Fits := hf
  have b1 := two_new w (objC c) (objC no)
  have a1 := (AtC.new w c).below (below_new _ (objC no))
  have a2 := AtC.new (w.alloc (objC c)) no
  rw [World.size_alloc] at a2
  clear hf
  simp only [encC, objC, no] at b1 a1 a2 ⊢
  go_enter Tryd.func18, Tryd.ntmps18
  go_wp2_with fail
  refine (check_any c _ HF.out).mono ?_
  rintro e w2 ⟨rfl, b2⟩
  have a3 := a1.below b2
  have a4 := a2.below b2
  have b3 := Below.then b1 b2 b1.size
  clear a1 a2 b1 b2
  have hr : w.heap.size + 1 < w2.heap.size := a4.lt
  generalize hr0 : w.heap.size = r at *
  have HR : Hid (w.heap.size = r) := hr0
  clear hr0
  have hr2 : r < w2.heap.size := by omega
  obtain ⟨c0, c1, c2, c3, c4, c5⟩ := a3.cells
  obtain ⟨d0, d1, d2, d3, d4, d5⟩ := a4.cells
  have f3 := a3.frozen
  have f4 := a4.frozen
  have A3 : Hid (AtC w2 r c) := a3
  have A4 : Hid (AtC w2 (r + 1) no) := a4
  have B : Hid (Below r w w2) := b3
  clear a3 a4 b3
  have hg := Xhg.out
  have h1 := Xh1.out
  have h3 := Xh3.out
  have hk : (c.k != 2) = false := by simp [h3]
  have h4 := Xh4.out
  rw [checkE, if_pos h1]
  clear h1 h4
  go_wp2_with fail
  refine (fits_any _ _ _ hg).mono ?_
  rintro e w' ⟨rfl, rfl⟩
  rw [show decide (Fit g z) = true by simp only [decide_eq_true_eq]; exact Xh4.out]
  go_wp2
  refine bodyPost_ret (v := .tuple #[encC { c with g := g, z := z }, .int .i64 0]) ?_ rfl ⟨rfl, ?_⟩
  · simp [results, Tryd.f18, go_sem, encC, h3, d0, d1, d2, d3, d4, d5]
  · rw [HR.out]; exact six_sets ((B.out.setCell (p := ⟨r, 4, none⟩) (Nat.le_refl _) _).setCell (p := ⟨r, 5, none⟩) (Nat.le_refl _) _) (by omega) _ _ _ _ _ _

theorem guard_any (c : Cp) (g z : Int) (w : World) (hf : c.Fits) (hg : 0 ≤ g ∧ g ≤ 18446744073709551615) : Calls Tryd.prog 18 #[encC c, .int .u64 g, .int .i64 z] w fun e w' => e = .returned (.tuple #[encC (guardR c g z), .int .i64 (guardE c g z)]) ∧ Below w.heap.size w w' := by
  by_cases h1 : Fine c
  · by_cases h3 : c.k = 2
    · by_cases h4 : Fit g z
      · have e1 : guardE c g z = 0 := by rw [guardE, if_pos h1, if_pos h3, if_pos h4]
        rw [guardR, e1, if_pos rfl]
        exact guard_yes c g z w hf hg h1 h3 h4
      · have e1 : guardE c g z = 1 := by rw [guardE, if_pos h1, if_pos h3, if_neg h4]
        rw [guardR, e1]
        exact guard_arg c g z w hf hg h1 h3 h4
    · have e1 : guardE c g z = 41 := by rw [guardE, if_pos h1, if_neg h3]
      rw [guardR, e1]
      exact guard_kind c g z w hf h1 h3
  · have e1 : guardE c g z = 40 := by rw [guardE, if_neg h1]
    rw [guardR, e1]
    exact guard_form c g z w hf h1
end Go.Proofs.YtokehmkegnmfdaaDoor
