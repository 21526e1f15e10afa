/-
  What Mint of the document's answer returns, for every capability; no condition but that the numbers fit.
-/
import Derived.Test.YtokehmkegnmfdaaDoorCMint
import Derived.Test.YtokehmkegnmfdaaDoorCRCheck
namespace Go.Proofs.YtokehmkegnmfdaaDoor
open Go.RowKit Go.Deep
set_option linter.unusedSectionVars false
variable [dCp : DecidableEq Cp] [dLim : ∀ k, Decidable (Lim k)] [dBad : ∀ k, Decidable (Bad k)] [dFit : ∀ g z, Decidable (Fit g z)] [dFine : ∀ c, Decidable (Fine c)] [dMint : ∀ c v, Decidable (MintR c v)] [dWho : ∀ x y, Decidable (Whose x y)]
set_option maxHeartbeats 2000000 in
theorem rmint_form (c : Cp) (n v : Int) (w : World) (hf : c.Fits) (h1 : ¬ Fine c) : Calls Tryd.prog 17 #[encC c, .int .i64 n, .int .u64 v] w fun e w' => e = .returned (.tuple #[encC no, .int .i64 40]) ∧ Below w.heap.size w w' := by
  have Xh1 : Hid (¬ Fine c) := h1
  clear h1
  have HF : Hid c.Fits := hf
  have b1 := two_new w (objC c) (objC no)
  have a1 := (AtC.new w c).below (below_new _ (objC no))
  have a2 := AtC.new (w.alloc (objC c)) no
  rw [World.size_alloc] at a2
  clear hf
  simp only [encC, objC, no] at b1 a1 a2 ⊢
  go_enter Tryd.func17, Tryd.ntmps17
  go_wp2_with fail
  refine (rcheck_any c _ HF.out).mono ?_
  rintro e w2 ⟨rfl, b2⟩
  have a3 := a1.below b2
  have a4 := a2.below b2
  have b3 := Below.then b1 b2 b1.size
  clear a1 a2 b1 b2
  have hr : w.heap.size + 1 < w2.heap.size := a4.lt
  generalize hr0 : w.heap.size = r at *
  have HR : Hid (w.heap.size = r) := hr0
  clear hr0
  have hr2 : r < w2.heap.size := by omega
  obtain ⟨c0, c1, c2, c3, c4, c5⟩ := a3.cells
  obtain ⟨d0, d1, d2, d3, d4, d5⟩ := a4.cells
  have f3 := a3.frozen
  have f4 := a4.frozen
  have A3 : Hid (AtC w2 r c) := a3
  have A4 : Hid (AtC w2 (r + 1) no) := a4
  have B : Hid (Below r w w2) := b3
  clear a3 a4 b3
  have h1 := Xh1.out
  rw [checkE, if_neg h1]
  clear h1
  go_wp2
  refine bodyPost_ret (v := .tuple #[encC no, .int .i64 40]) ?_ rfl ⟨rfl, ?_⟩
  · simp [results, Tryd.f17, go_sem, encC, no, d0, d1, d2, d3, d4, d5]
  · rw [HR.out]; exact six_sets B.out (by omega) _ _ _ _ _ _

set_option maxHeartbeats 2000000 in
theorem rmint_lo (c : Cp) (n v : Int) (w : World) (hf : c.Fits) (h1 : Fine c) (h2 : n < 0) : Calls Tryd.prog 17 #[encC c, .int .i64 n, .int .u64 v] w fun e w' => e = .returned (.tuple #[encC no, .int .i64 1]) ∧ Below w.heap.size w w' := by
  have Xh1 : Hid (Fine c) := h1
  clear h1
  have Xh2 : Hid (n < 0) := h2
  clear h2
  have HF : Hid c.Fits := hf
  have b1 := two_new w (objC c) (objC no)
  have a1 := (AtC.new w c).below (below_new _ (objC no))
  have a2 := AtC.new (w.alloc (objC c)) no
  rw [World.size_alloc] at a2
  clear hf
  simp only [encC, objC, no] at b1 a1 a2 ⊢
  go_enter Tryd.func17, Tryd.ntmps17
  go_wp2_with fail
  refine (rcheck_any c _ HF.out).mono ?_
  rintro e w2 ⟨rfl, b2⟩
  have a3 := a1.below b2
  have a4 := a2.below b2
  have b3 := Below.then b1 b2 b1.size
  clear a1 a2 b1 b2
  have hr : w.heap.size + 1 < w2.heap.size := a4.lt
  generalize hr0 : w.heap.size = r at *
  have HR : Hid (w.heap.size = r) := hr0
  clear hr0
  have hr2 : r < w2.heap.size := by omega
  obtain ⟨c0, c1, c2, c3, c4, c5⟩ := a3.cells
  obtain ⟨d0, d1, d2, d3, d4, d5⟩ := a4.cells
  have f3 := a3.frozen
  have f4 := a4.frozen
  have A3 : Hid (AtC w2 r c) := a3
  have A4 : Hid (AtC w2 (r + 1) no) := a4
  have B : Hid (Below r w w2) := b3
  clear a3 a4 b3
  have h1 := Xh1.out
  have h2 := Xh2.out
  rw [checkE, if_pos h1]
  clear h1
  go_wp2
  refine bodyPost_ret (v := .tuple #[encC no, .int .i64 1]) ?_ rfl ⟨rfl, ?_⟩
  · simp [results, Tryd.f17, go_sem, encC, no, d0, d1, d2, d3, d4, d5]
  · rw [HR.out]; exact six_sets B.out (by omega) _ _ _ _ _ _

set_option maxHeartbeats 2000000 in
theorem rmint_hi (c : Cp) (n v : Int) (w : World) (hf : c.Fits) (h1 : Fine c) (h2 : 7 < n) : Calls Tryd.prog 17 #[encC c, .int .i64 n, .int .u64 v] w fun e w' => e = .returned (.tuple #[encC no, .int .i64 1]) ∧ Below w.heap.size w w' := by
  have Xh1 : Hid (Fine c) := h1
  clear h1
  have Xh2 : Hid (7 < n) := h2
  clear h2
  have HF : Hid c.Fits := hf
  have b1 := two_new w (objC c) (objC no)
  have a1 := (AtC.new w c).below (below_new _ (objC no))
  have a2 := AtC.new (w.alloc (objC c)) no
  rw [World.size_alloc] at a2
  clear hf
  simp only [encC, objC, no] at b1 a1 a2 ⊢
  go_enter Tryd.func17, Tryd.ntmps17
  go_wp2_with fail
  refine (rcheck_any c _ HF.out).mono ?_
  rintro e w2 ⟨rfl, b2⟩
  have a3 := a1.below b2
  have a4 := a2.below b2
  have b3 := Below.then b1 b2 b1.size
  clear a1 a2 b1 b2
  have hr : w.heap.size + 1 < w2.heap.size := a4.lt
  generalize hr0 : w.heap.size = r at *
  have HR : Hid (w.heap.size = r) := hr0
  clear hr0
  have hr2 : r < w2.heap.size := by omega
  obtain ⟨c0, c1, c2, c3, c4, c5⟩ := a3.cells
  obtain ⟨d0, d1, d2, d3, d4, d5⟩ := a4.cells
  have f3 := a3.frozen
  have f4 := a4.frozen
  have A3 : Hid (AtC w2 r c) := a3
  have A4 : Hid (AtC w2 (r + 1) no) := a4
  have B : Hid (Below r w w2) := b3
  clear a3 a4 b3
  have h1 := Xh1.out
  have h2 := Xh2.out
  rw [checkE, if_pos h1]
  clear h1
  have h2' : ¬ n < 0 := by omega
  go_wp2
  refine bodyPost_ret (v := .tuple #[encC no, .int .i64 1]) ?_ rfl ⟨rfl, ?_⟩
  · simp [results, Tryd.f17, go_sem, encC, no, d0, d1, d2, d3, d4, d5]
  · rw [HR.out]; exact six_sets B.out (by omega) _ _ _ _ _ _

set_option maxHeartbeats 2000000 in
theorem rmint_none (c : Cp) (n v : Int) (w : World) (hf : c.Fits) (h1 : Fine c) (h2 : ¬ n < 0) (h2b : ¬ 7 < n) (h3 : c.k = 0) : Calls Tryd.prog 17 #[encC c, .int .i64 n, .int .u64 v] w fun e w' => e = .returned (.tuple #[encC no, .int .i64 41]) ∧ Below w.heap.size w w' := by
  have Xh1 : Hid (Fine c) := h1
  clear h1
  have Xh2 : Hid (¬ n < 0) := h2
  clear h2
  have Xh2b : Hid (¬ 7 < n) := h2b
  clear h2b
  have Xh3 : Hid (c.k = 0) := h3
  clear h3
  have HF : Hid c.Fits := hf
  have b1 := two_new w (objC c) (objC no)
  have a1 := (AtC.new w c).below (below_new _ (objC no))
  have a2 := AtC.new (w.alloc (objC c)) no
  rw [World.size_alloc] at a2
  clear hf
  simp only [encC, objC, no] at b1 a1 a2 ⊢
  go_enter Tryd.func17, Tryd.ntmps17
  go_wp2_with fail
  refine (rcheck_any c _ HF.out).mono ?_
  rintro e w2 ⟨rfl, b2⟩
  have a3 := a1.below b2
  have a4 := a2.below b2
  have b3 := Below.then b1 b2 b1.size
  clear a1 a2 b1 b2
  have hr : w.heap.size + 1 < w2.heap.size := a4.lt
  generalize hr0 : w.heap.size = r at *
  have HR : Hid (w.heap.size = r) := hr0
  clear hr0
  have hr2 : r < w2.heap.size := by omega
  obtain ⟨c0, c1, c2, c3, c4, c5⟩ := a3.cells
  obtain ⟨d0, d1, d2, d3, d4, d5⟩ := a4.cells
  have f3 := a3.frozen
  have f4 := a4.frozen
  have A3 : Hid (AtC w2 r c) := a3
  have A4 : Hid (AtC w2 (r + 1) no) := a4
  have B : Hid (Below r w w2) := b3
  clear a3 a4 b3
  have h1 := Xh1.out
  have h2 := Xh2.out
  have h2b := Xh2b.out
  have h3 := Xh3.out
  rw [checkE, if_pos h1]
  clear h1
  go_wp2
  refine bodyPost_ret (v := .tuple #[encC no, .int .i64 41]) ?_ rfl ⟨rfl, ?_⟩
  · simp [results, Tryd.f17, go_sem, encC, no, d0, d1, d2, d3, d4, d5]
  · rw [HR.out]; exact six_sets B.out (by omega) _ _ _ _ _ _

set_option maxHeartbeats 2000000 in
theorem rmint_unbadged (c : Cp) (n v : Int) (w : World) (hf : c.Fits) (h1 : Fine c) (h2 : ¬ n < 0) (h2b : ¬ 7 < n) (h3 : ¬ c.k = 0) (h4 : 0 < v) (h5 : ¬ Bad c.k) : Calls Tryd.prog 17 #[encC c, .int .i64 n, .int .u64 v] w fun e w' => e = .returned (.tuple #[encC no, .int .i64 41]) ∧ Below w.heap.size w w' := by
  have Xh1 : Hid (Fine c) := h1
  clear h1
  have Xh2 : Hid (¬ n < 0) := h2
  clear h2
  have Xh2b : Hid (¬ 7 < n) := h2b
  clear h2b
  have Xh3 : Hid (¬ c.k = 0) := h3
  clear h3
  have Xh4 : Hid (0 < v) := h4
  clear h4
  have Xh5 : Hid (¬ Bad c.k) := h5
  clear h5
  have HF : Hid c.Fits := hf
  have b1 := two_new w (objC c) (objC no)
  have a1 := (AtC.new w c).below (below_new _ (objC no))
  have a2 := AtC.new (w.alloc (objC c)) no
  rw [World.size_alloc] at a2
  clear hf
  simp only [encC, objC, no] at b1 a1 a2 ⊢
  go_enter Tryd.func17, Tryd.ntmps17
  go_wp2_with fail
  refine (rcheck_any c _ HF.out).mono ?_
  rintro e w2 ⟨rfl, b2⟩
  have a3 := a1.below b2
  have a4 := a2.below b2
  have b3 := Below.then b1 b2 b1.size
  clear a1 a2 b1 b2
  have hr : w.heap.size + 1 < w2.heap.size := a4.lt
  generalize hr0 : w.heap.size = r at *
  have HR : Hid (w.heap.size = r) := hr0
  clear hr0
  have hr2 : r < w2.heap.size := by omega
  obtain ⟨c0, c1, c2, c3, c4, c5⟩ := a3.cells
  obtain ⟨d0, d1, d2, d3, d4, d5⟩ := a4.cells
  have f3 := a3.frozen
  have f4 := a4.frozen
  have A3 : Hid (AtC w2 r c) := a3
  have A4 : Hid (AtC w2 (r + 1) no) := a4
  have B : Hid (Below r w w2) := b3
  clear a3 a4 b3
  have h1 := Xh1.out
  have h2 := Xh2.out
  have h2b := Xh2b.out
  have h3 := Xh3.out
  have hk : (c.k == 0) = false := by simpa using h3
  have h4 := Xh4.out
  have h5 := Xh5.out
  rw [checkE, if_pos h1]
  clear h1 h5
  go_wp2_with fail
  refine (rbadged_any _ _).mono ?_
  rintro e w' ⟨rfl, rfl⟩
  rw [show decide (Bad c.k) = false by simp only [decide_eq_false_iff_not]; exact Xh5.out]
  go_wp2
  refine bodyPost_ret (v := .tuple #[encC no, .int .i64 41]) ?_ rfl ⟨rfl, ?_⟩
  · simp [results, Tryd.f17, go_sem, encC, no, d0, d1, d2, d3, d4, d5]
  · rw [HR.out]; exact six_sets B.out (by omega) _ _ _ _ _ _

set_option maxHeartbeats 2000000 in
theorem rmint_twice (c : Cp) (n v : Int) (w : World) (hf : c.Fits) (h1 : Fine c) (h2 : ¬ n < 0) (h2b : ¬ 7 < n) (h3 : ¬ c.k = 0) (h4 : 0 < v) (h5 : Bad c.k) (h6 : 0 < c.b) : Calls Tryd.prog 17 #[encC c, .int .i64 n, .int .u64 v] w fun e w' => e = .returned (.tuple #[encC no, .int .i64 41]) ∧ Below w.heap.size w w' := by
  have Xh1 : Hid (Fine c) := h1
  clear h1
  have Xh2 : Hid (¬ n < 0) := h2
  clear h2
  have Xh2b : Hid (¬ 7 < n) := h2b
  clear h2b
  have Xh3 : Hid (¬ c.k = 0) := h3
  clear h3
  have Xh4 : Hid (0 < v) := h4
  clear h4
  have Xh5 : Hid (Bad c.k) := h5
  clear h5
  have Xh6 : Hid (0 < c.b) := h6
  clear h6
  have HF : Hid c.Fits := hf
  have b1 := two_new w (objC c) (objC no)
  have a1 := (AtC.new w c).below (below_new _ (objC no))
  have a2 := AtC.new (w.alloc (objC c)) no
  rw [World.size_alloc] at a2
  clear hf
  simp only [encC, objC, no] at b1 a1 a2 ⊢
  go_enter Tryd.func17, Tryd.ntmps17
  go_wp2_with fail
  refine (rcheck_any c _ HF.out).mono ?_
  rintro e w2 ⟨rfl, b2⟩
  have a3 := a1.below b2
  have a4 := a2.below b2
  have b3 := Below.then b1 b2 b1.size
  clear a1 a2 b1 b2
  have hr : w.heap.size + 1 < w2.heap.size := a4.lt
  generalize hr0 : w.heap.size = r at *
  have HR : Hid (w.heap.size = r) := hr0
  clear hr0
  have hr2 : r < w2.heap.size := by omega
  obtain ⟨c0, c1, c2, c3, c4, c5⟩ := a3.cells
  obtain ⟨d0, d1, d2, d3, d4, d5⟩ := a4.cells
  have f3 := a3.frozen
  have f4 := a4.frozen
  have A3 : Hid (AtC w2 r c) := a3
  have A4 : Hid (AtC w2 (r + 1) no) := a4
  have B : Hid (Below r w w2) := b3
  clear a3 a4 b3
  have h1 := Xh1.out
  have h2 := Xh2.out
  have h2b := Xh2b.out
  have h3 := Xh3.out
  have hk : (c.k == 0) = false := by simpa using h3
  have h4 := Xh4.out
  have h5 := Xh5.out
  have h6 := Xh6.out
  rw [checkE, if_pos h1]
  clear h1 h5
  go_wp2_with fail
  refine (rbadged_any _ _).mono ?_
  rintro e w' ⟨rfl, rfl⟩
  rw [show decide (Bad c.k) = true by simp only [decide_eq_true_eq]; exact Xh5.out]
  go_wp2
  refine bodyPost_ret (v := .tuple #[encC no, .int .i64 41]) ?_ rfl ⟨rfl, ?_⟩
  · simp [results, Tryd.f17, go_sem, encC, no, d0, d1, d2, d3, d4, d5]
  · rw [HR.out]; exact six_sets B.out (by omega) _ _ _ _ _ _

set_option maxHeartbeats 2000000 in
theorem rmint_plain (c : Cp) (n v : Int) (w : World) (hf : c.Fits) (h1 : Fine c) (h2 : ¬ n < 0) (h2b : ¬ 7 < n) (h3 : ¬ c.k = 0) (h4 : v = 0) (hl : ¬ Lim c.k) : Calls Tryd.prog 17 #[encC c, .int .i64 n, .int .u64 v] w fun e w' => e = .returned (.tuple #[encC c, .int .i64 0]) ∧ Below w.heap.size w w' := by
  have Xh1 : Hid (Fine c) := h1
  clear h1
  have Xh2 : Hid (¬ n < 0) := h2
  clear h2
  have Xh2b : Hid (¬ 7 < n) := h2b
  clear h2b
  have Xh3 : Hid (¬ c.k = 0) := h3
  clear h3
  have Xh4 : Hid (v = 0) := h4
  clear h4
  have Xhl : Hid (¬ Lim c.k) := hl
  clear hl
  have HF : Hid c.Fits := hf
  have b1 := two_new w (objC c) (objC no)
  have a1 := (AtC.new w c).below (below_new _ (objC no))
  have a2 := AtC.new (w.alloc (objC c)) no
  rw [World.size_alloc] at a2
  clear hf
  simp only [encC, objC, no] at b1 a1 a2 ⊢
  go_enter Tryd.func17, Tryd.ntmps17
  go_wp2_with fail
  refine (rcheck_any c _ HF.out).mono ?_
  rintro e w2 ⟨rfl, b2⟩
  have a3 := a1.below b2
  have a4 := a2.below b2
  have b3 := Below.then b1 b2 b1.size
  clear a1 a2 b1 b2
  have hr : w.heap.size + 1 < w2.heap.size := a4.lt
  generalize hr0 : w.heap.size = r at *
  have HR : Hid (w.heap.size = r) := hr0
  clear hr0
  have hr2 : r < w2.heap.size := by omega
  obtain ⟨c0, c1, c2, c3, c4, c5⟩ := a3.cells
  obtain ⟨d0, d1, d2, d3, d4, d5⟩ := a4.cells
  have f3 := a3.frozen
  have f4 := a4.frozen
  have A3 : Hid (AtC w2 r c) := a3
  have A4 : Hid (AtC w2 (r + 1) no) := a4
  have B : Hid (Below r w w2) := b3
  clear a3 a4 b3
  have h1 := Xh1.out
  have h2 := Xh2.out
  have h2b := Xh2b.out
  have h3 := Xh3.out
  have hk : (c.k == 0) = false := by simpa using h3
  have h4 := Xh4.out
  have hl := Xhl.out
  rw [checkE, if_pos h1]
  clear h1 hl
  go_upto_region 9 with fail
  have a3 := A3.out.below (below_new _ (objC c))
  have a4 := A4.out.below (below_new _ (objC c))
  have a5 := AtC.new w2 c
  have b3 := Below.then B.out (below_new w2 (objC c)) (by omega)
  have hq : r + 1 < w2.heap.size := hr
  clear A3 A4 B c0 c1 c2 c3 c4 c5 d0 d1 d2 d3 d4 d5 f3 f4 hr hr2
  simp only [objC] at a3 a4 a5 b3
  generalize w2.alloc (Obj.cells #[.int .i64 c.k, .int .i64 c.o, .int .i64 c.r, .int .u64 c.b, .int .u64 c.g, .int .i64 c.z] 24) = w4 at *
  generalize w2.heap.size = q at *
  obtain ⟨c0, c1, c2, c3, c4, c5⟩ := a3.cells
  obtain ⟨e0, e1, e2, e3, e4, e5⟩ := a5.cells
  obtain ⟨d0, d1, d2, d3, d4, d5⟩ := a4.cells
  have f5 := a5.frozen
  have f4 := a4.frozen
  have B : Hid (Below r w w4) := b3
  have n1 : ¬ q = r + 1 := by omega
  have n2 : ¬ r + 1 = q := by omega
  have n3 : ¬ r = q := by omega
  have n4 : ¬ q = r := by omega
  clear a3 a4 a5 b3
  go_wp2_with fail
  refine (rlimited_any _ _).mono ?_
  rintro e w' ⟨rfl, rfl⟩
  rw [show decide (Lim c.k) = false by simp only [decide_eq_false_iff_not]; exact Xhl.out]
  go_wp2
  refine bodyPost_ret (v := .tuple #[encC c, .int .i64 0]) ?_ rfl ⟨rfl, ?_⟩
  · simp [results, Tryd.f17, go_sem, encC, d0, d1, d2, d3, d4, d5]
  · rw [HR.out]; exact six_sets B.out (by omega) _ _ _ _ _ _

set_option maxHeartbeats 2000000 in
theorem rmint_less (c : Cp) (n v : Int) (w : World) (hf : c.Fits) (h1 : Fine c) (h2 : ¬ n < 0) (h2b : ¬ 7 < n) (h3 : ¬ c.k = 0) (h4 : v = 0) (hl : Lim c.k) : Calls Tryd.prog 17 #[encC c, .int .i64 n, .int .u64 v] w fun e w' => e = .returned (.tuple #[encC { c with r := bits .and .i64 c.r n }, .int .i64 0]) ∧ Below w.heap.size w w' := by
  have Xh1 : Hid (Fine c) := h1
  clear h1
  have Xh2 : Hid (¬ n < 0) := h2
  clear h2
  have Xh2b : Hid (¬ 7 < n) := h2b
  clear h2b
  have Xh3 : Hid (¬ c.k = 0) := h3
  clear h3
  have Xh4 : Hid (v = 0) := h4
  clear h4
  have Xhl : Hid (Lim c.k) := hl
  clear hl
  have HF : Hid c.Fits := hf
  have b1 := two_new w (objC c) (objC no)
  have a1 := (AtC.new w c).below (below_new _ (objC no))
  have a2 := AtC.new (w.alloc (objC c)) no
  rw [World.size_alloc] at a2
  clear hf
  simp only [encC, objC, no] at b1 a1 a2 ⊢
  go_enter Tryd.func17, Tryd.ntmps17
  go_wp2_with fail
  refine (rcheck_any c _ HF.out).mono ?_
  rintro e w2 ⟨rfl, b2⟩
  have a3 := a1.below b2
  have a4 := a2.below b2
  have b3 := Below.then b1 b2 b1.size
  clear a1 a2 b1 b2
  have hr : w.heap.size + 1 < w2.heap.size := a4.lt
  generalize hr0 : w.heap.size = r at *
  have HR : Hid (w.heap.size = r) := hr0
  clear hr0
  have hr2 : r < w2.heap.size := by omega
  obtain ⟨c0, c1, c2, c3, c4, c5⟩ := a3.cells
  obtain ⟨d0, d1, d2, d3, d4, d5⟩ := a4.cells
  have f3 := a3.frozen
  have f4 := a4.frozen
  have A3 : Hid (AtC w2 r c) := a3
  have A4 : Hid (AtC w2 (r + 1) no) := a4
  have B : Hid (Below r w w2) := b3
  clear a3 a4 b3
  have h1 := Xh1.out
  have h2 := Xh2.out
  have h2b := Xh2b.out
  have h3 := Xh3.out
  have hk : (c.k == 0) = false := by simpa using h3
  have h4 := Xh4.out
  have hl := Xhl.out
  rw [checkE, if_pos h1]
  clear h1 hl
  go_upto_region 9 with fail
  have a3 := A3.out.below (below_new _ (objC c))
  have a4 := A4.out.below (below_new _ (objC c))
  have a5 := AtC.new w2 c
  have b3 := Below.then B.out (below_new w2 (objC c)) (by omega)
  have hq : r + 1 < w2.heap.size := hr
  clear A3 A4 B c0 c1 c2 c3 c4 c5 d0 d1 d2 d3 d4 d5 f3 f4 hr hr2
  simp only [objC] at a3 a4 a5 b3
  generalize w2.alloc (Obj.cells #[.int .i64 c.k, .int .i64 c.o, .int .i64 c.r, .int .u64 c.b, .int .u64 c.g, .int .i64 c.z] 24) = w4 at *
  generalize w2.heap.size = q at *
  obtain ⟨c0, c1, c2, c3, c4, c5⟩ := a3.cells
  obtain ⟨e0, e1, e2, e3, e4, e5⟩ := a5.cells
  obtain ⟨d0, d1, d2, d3, d4, d5⟩ := a4.cells
  have f5 := a5.frozen
  have f4 := a4.frozen
  have B : Hid (Below r w w4) := b3
  have n1 : ¬ q = r + 1 := by omega
  have n2 : ¬ r + 1 = q := by omega
  have n3 : ¬ r = q := by omega
  have n4 : ¬ q = r := by omega
  clear a3 a4 a5 b3
  go_wp2_with fail
  refine (rlimited_any _ _).mono ?_
  rintro e w' ⟨rfl, rfl⟩
  rw [show decide (Lim c.k) = true by simp only [decide_eq_true_eq]; exact Xhl.out]
  go_wp2
  refine bodyPost_ret (v := .tuple #[encC { c with r := bits .and .i64 c.r n }, .int .i64 0]) ?_ rfl ⟨rfl, ?_⟩
  · simp [results, Tryd.f17, go_sem, encC, d0, d1, d2, d3, d4, d5]
  · rw [HR.out]; exact six_sets (B.out.setCell (p := ⟨q, 2, none⟩) (by simp only; omega) _) (by omega) _ _ _ _ _ _

set_option maxHeartbeats 2000000 in
theorem rmint_badge (c : Cp) (n v : Int) (w : World) (hf : c.Fits) (h1 : Fine c) (h2 : ¬ n < 0) (h2b : ¬ 7 < n) (h3 : ¬ c.k = 0) (h4 : 0 < v) (h5 : Bad c.k) (h6 : ¬ 0 < c.b) (hl : Lim c.k) : Calls Tryd.prog 17 #[encC c, .int .i64 n, .int .u64 v] w fun e w' => e = .returned (.tuple #[encC { c with r := bits .and .i64 c.r n, b := v }, .int .i64 0]) ∧ Below w.heap.size w w' := by
  have Xh1 : Hid (Fine c) := h1
  clear h1
  have Xh2 : Hid (¬ n < 0) := h2
  clear h2
  have Xh2b : Hid (¬ 7 < n) := h2b
  clear h2b
  have Xh3 : Hid (¬ c.k = 0) := h3
  clear h3
  have Xh4 : Hid (0 < v) := h4
  clear h4
  have Xh5 : Hid (Bad c.k) := h5
  clear h5
  have Xh6 : Hid (¬ 0 < c.b) := h6
  clear h6
  have Xhl : Hid (Lim c.k) := hl
  clear hl
  have HF : Hid c.Fits := hf
  have b1 := two_new w (objC c) (objC no)
  have a1 := (AtC.new w c).below (below_new _ (objC no))
  have a2 := AtC.new (w.alloc (objC c)) no
  rw [World.size_alloc] at a2
  clear hf
  simp only [encC, objC, no] at b1 a1 a2 ⊢
  go_enter Tryd.func17, Tryd.ntmps17
  go_wp2_with fail
  refine (rcheck_any c _ HF.out).mono ?_
  rintro e w2 ⟨rfl, b2⟩
  have a3 := a1.below b2
  have a4 := a2.below b2
  have b3 := Below.then b1 b2 b1.size
  clear a1 a2 b1 b2
  have hr : w.heap.size + 1 < w2.heap.size := a4.lt
  generalize hr0 : w.heap.size = r at *
  have HR : Hid (w.heap.size = r) := hr0
  clear hr0
  have hr2 : r < w2.heap.size := by omega
  obtain ⟨c0, c1, c2, c3, c4, c5⟩ := a3.cells
  obtain ⟨d0, d1, d2, d3, d4, d5⟩ := a4.cells
  have f3 := a3.frozen
  have f4 := a4.frozen
  have A3 : Hid (AtC w2 r c) := a3
  have A4 : Hid (AtC w2 (r + 1) no) := a4
  have B : Hid (Below r w w2) := b3
  clear a3 a4 b3
  have h1 := Xh1.out
  have h2 := Xh2.out
  have h2b := Xh2b.out
  have h3 := Xh3.out
  have hk : (c.k == 0) = false := by simpa using h3
  have h4 := Xh4.out
  have h5 := Xh5.out
  have h6 := Xh6.out
  have hl := Xhl.out
  rw [checkE, if_pos h1]
  clear h1 hl h5
  go_wp2_with fail
  refine (rbadged_any _ _).mono ?_
  rintro e w' ⟨rfl, rfl⟩
  rw [show decide (Bad c.k) = true by simp only [decide_eq_true_eq]; exact Xh5.out]
  go_upto_region 9 with fail
  have a3 := A3.out.below (below_new _ (objC c))
  have a4 := A4.out.below (below_new _ (objC c))
  have a5 := AtC.new w' c
  have b3 := Below.then B.out (below_new w' (objC c)) (by omega)
  have hq : r + 1 < w'.heap.size := hr
  clear A3 A4 B c0 c1 c2 c3 c4 c5 d0 d1 d2 d3 d4 d5 f3 f4 hr hr2
  simp only [objC] at a3 a4 a5 b3
  generalize w'.alloc (Obj.cells #[.int .i64 c.k, .int .i64 c.o, .int .i64 c.r, .int .u64 c.b, .int .u64 c.g, .int .i64 c.z] 24) = w4 at *
  generalize w'.heap.size = q at *
  obtain ⟨c0, c1, c2, c3, c4, c5⟩ := a3.cells
  obtain ⟨e0, e1, e2, e3, e4, e5⟩ := a5.cells
  obtain ⟨d0, d1, d2, d3, d4, d5⟩ := a4.cells
  have f5 := a5.frozen
  have f4 := a4.frozen
  have B : Hid (Below r w w4) := b3
  have n1 : ¬ q = r + 1 := by omega
  have n2 : ¬ r + 1 = q := by omega
  have n3 : ¬ r = q := by omega
  have n4 : ¬ q = r := by omega
  clear a3 a4 a5 b3
  go_wp2_with fail
  refine (rlimited_any _ _).mono ?_
  rintro e w5 ⟨rfl, rfl⟩
  rw [show decide (Lim c.k) = true by simp only [decide_eq_true_eq]; exact Xhl.out]
  go_wp2
  refine bodyPost_ret (v := .tuple #[encC { c with r := bits .and .i64 c.r n, b := v }, .int .i64 0]) ?_ rfl ⟨rfl, ?_⟩
  · simp [results, Tryd.f17, go_sem, encC, d0, d1, d2, d3, d4, d5]
  · rw [HR.out]; exact six_sets ((B.out.setCell (p := ⟨q, 2, none⟩) (by simp only; omega) _).setCell (p := ⟨q, 3, none⟩) (by simp only; omega) _) (by omega) _ _ _ _ _ _

theorem rmint_any (c : Cp) (n v : Int) (w : World) (hf : c.Fits) (hv : 0 ≤ v ∧ v ≤ 18446744073709551615) : Calls Tryd.prog 17 #[encC c, .int .i64 n, .int .u64 v] w fun e w' => e = .returned (.tuple #[encC (mintR c n v), .int .i64 (mintE c n v)]) ∧ Below w.heap.size w w' := by
  by_cases h1 : Fine c
  · by_cases h2 : 0 ≤ n ∧ n ≤ 7
    · by_cases h3 : c.k = 0
      · have e1 : mintE c n v = 41 := by simp [mintE, h1, h2, MintR, h3]
        rw [mintR, e1]
        exact rmint_none c n v w hf h1 (by omega) (by omega) h3
      · by_cases h4 : v = 0
        · have e1 : mintE c n v = 0 := by simp [mintE, h1, h2, MintR, h3, h4]
          rw [mintR, e1, if_pos rfl]
          by_cases hl : Lim c.k
          · have := rmint_less c n v w hf h1 (by omega) (by omega) h3 h4 hl
            simpa [mintC, hl, h4] using this
          · have := rmint_plain c n v w hf h1 (by omega) (by omega) h3 h4 hl
            simpa [mintC, hl, h4] using this
        · by_cases h5 : Bad c.k ∧ c.b = 0
          · have e1 : mintE c n v = 0 := by simp [mintE, h1, h2, MintR, h3, h4, h5.1, h5.2]
            have hl : Lim c.k := by have := h5.1; unfold Bad at this; unfold Lim; omega
            rw [mintR, e1, if_pos rfl]
            have := rmint_badge c n v w hf h1 (by omega) (by omega) h3 (by omega) h5.1 (by omega) hl
            simpa [mintC, hl, h4] using this
          · have hm : MintR c v := .inr ⟨h4, h5⟩
            have e1 : mintE c n v = 41 := by rw [mintE, if_pos h1, if_pos h2, if_pos hm]
            rw [mintR, e1]
            by_cases h6 : Bad c.k
            · have hb := hf.b
              have h7 : ¬ c.b = 0 := fun h => h5 ⟨h6, h⟩
              exact rmint_twice c n v w hf h1 (by omega) (by omega) h3 (by omega) h6 (by omega)
            · exact rmint_unbadged c n v w hf h1 (by omega) (by omega) h3 (by omega) h6
    · have e1 : mintE c n v = 1 := by rw [mintE, if_pos h1, if_neg h2]
      rw [mintR, e1]
      by_cases h7 : n < 0
      · exact rmint_lo c n v w hf h1 h7
      · exact rmint_hi c n v w hf h1 (by omega)
  · have e1 : mintE c n v = 40 := by rw [mintE, if_neg h1]
    rw [mintR, e1]
    exact rmint_form c n v w hf h1
end Go.Proofs.YtokehmkegnmfdaaDoor
