/-
  What Unpack of package caps returns, for every two words; no condition but that they fit, and that the program's four places lie as it laid them.
-/
import Derived.Test.YtokehmkegnmfdaaDoorCPackC
namespace Go.Proofs.YtokehmkegnmfdaaDoor
open Go.RowKit Go.Deep
set_option linter.unusedSectionVars false
variable [dCp : DecidableEq Cp] [dLim : ∀ k, Decidable (Lim k)] [dBad : ∀ k, Decidable (Bad k)] [dFit : ∀ g z, Decidable (Fit g z)] [dFine : ∀ c, Decidable (Fine c)] [dMint : ∀ c v, Decidable (MintR c v)] [dWho : ∀ x y, Decidable (Whose x y)]
set_option maxHeartbeats 2000000 in
theorem unpack_form (x y : Int) (w : World) (hl : Laid w) (x0 : 0 ≤ x ∧ x ≤ 18446744073709551615) (y0 : 0 ≤ y ∧ y ≤ 18446744073709551615) (h1 : ¬ Fine (readC x y)) : Calls Tryd.prog 22 #[encW x y] w fun e w' => e = .returned (.tuple #[encC no, .int .i64 40]) ∧ Below w.heap.size w w' := by
  have Xh1 : Hid (¬ Fine (readC x y)) := h1
  clear h1
  have b1 := two_new w (objW x y) (objC no)
  have a1 := (AtW.new w x y).below (below_new _ (objC no))
  have a2 := AtC.new (w.alloc (objW x y)) no
  rw [World.size_alloc] at a2
  have l1 := hl.below b1 hl.size
  have hs := hl.size
  clear hl
  have XF : Hid ((readC x y).Fits) := read_fits x y y0
  have X0 : Hid (0 ≤ x ∧ x ≤ 18446744073709551615) := x0
  clear y0
  simp only [encW, objC, objW, no] at b1 a1 a2 l1 ⊢
  go_enter Tryd.func22, Tryd.ntmps22
  go_wp2_with fail
  refine (read_any x y _ l1 X0.out).mono ?_
  rintro e w2 ⟨rfl, b2⟩
  have a3 := a1.below b2
  have a4 := a2.below b2
  have b3 := Below.then b1 b2 b1.size
  have l2 := l1.below b2 l1.size
  clear a1 a2 b1 b2 l1
  have hr : w.heap.size + 1 < w2.heap.size := a4.lt
  generalize hr0 : w.heap.size = r at *
  have HR : Hid (w.heap.size = r) := hr0
  clear hr0
  have a5 := a3.below (below_new _ (objC (readC x y)))
  have a6 := a4.below (below_new _ (objC (readC x y)))
  have a7 := AtC.new w2 (readC x y)
  have b5 := Below.then b3 (below_new w2 (objC (readC x y))) (by omega)
  have l3 := l2.below (below_new w2 (objC (readC x y))) l2.size
  clear a3 a4 b3 l2 x0
  generalize hc : readC x y = c at *
  have HC : Hid (readC x y = c) := hc
  clear hc
  simp only [encC]
  go_wp2_with fail
  simp only [objC] at a5 a6 a7 b5 l3
  generalize w2.alloc (Obj.cells #[.int .i64 c.k, .int .i64 c.o, .int .i64 c.r, .int .u64 c.b, .int .u64 c.g, .int .i64 c.z] 24) = w3 at *
  generalize w2.heap.size = q at *
  refine (pack_any c _ l3 XF.out).mono ?_
  rintro e w4 ⟨rfl, b2⟩
  rw [packX, packY, checkE, if_neg Xh1.out, if_neg Xh1.out, if_neg Xh1.out]
  have a8 := a5.below b2
  have a9 := a6.below b2
  have a10 := a7.below b2
  have b6 := Below.then b5 b2 (Nat.le_of_lt (Nat.lt_of_le_of_lt (Nat.le_succ _) a6.lt))
  have hq4 : q < w4.heap.size := a10.lt
  have hr4 : r + 1 < w4.heap.size := a9.lt
  clear a5 a6 a7 b5 b2 l3 XF X0
  have a11 := a8.below (below_new _ (objW (0) (0)))
  have a12 := a9.below (below_new _ (objW (0) (0)))
  have a13 := a10.below (below_new _ (objW (0) (0)))
  have a14 := AtW.new w4 (0) (0)
  have b7 := Below.then b6 (below_new w4 (objW (0) (0))) (by omega)
  clear a8 a9 a10 b6
  simp only [objW] at a11 a12 a13 a14 b7
  simp only [encW]
  go_upto_region 3 with fail
  generalize w4.alloc (Obj.cells #[.int .u64 (0), .int .u64 (0)] 33) = w5 at *
  obtain ⟨g0, g1⟩ := a11.cells
  obtain ⟨d0, d1, d2, d3, d4, d5⟩ := a12.cells
  obtain ⟨e0, e1, e2, e3, e4, e5⟩ := a13.cells
  obtain ⟨h0, h1⟩ := a14.cells
  have f12 := a12.frozen
  have B : Hid (Below r w w5) := b7
  clear a11 a12 a13 a14 b7
  go_wp2
  refine bodyPost_ret (v := .tuple #[encC no, .int .i64 40]) ?_ rfl ⟨rfl, ?_⟩
  · simp [results, Tryd.f22, go_sem, encC, no, d0, d1, d2, d3, d4, d5]
  · rw [HR.out]; exact six_sets B.out (by omega) _ _ _ _ _ _
set_option maxHeartbeats 2000000 in
theorem unpack_else (x y : Int) (w : World) (hl : Laid w) (x0 : 0 ≤ x ∧ x ≤ 18446744073709551615) (y0 : 0 ≤ y ∧ y ≤ 18446744073709551615) (h1 : Fine (readC x y)) (h2 : ¬ (wordC (readC x y) = x ∧ restC (readC x y) = y)) : Calls Tryd.prog 22 #[encW x y] w fun e w' => e = .returned (.tuple #[encC no, .int .i64 40]) ∧ Below w.heap.size w w' := by
  have Xh1 : Hid (Fine (readC x y)) := h1
  clear h1
  have Xh2 : Hid (¬ (wordC (readC x y) = x ∧ restC (readC x y) = y)) := h2
  clear h2
  have b1 := two_new w (objW x y) (objC no)
  have a1 := (AtW.new w x y).below (below_new _ (objC no))
  have a2 := AtC.new (w.alloc (objW x y)) no
  rw [World.size_alloc] at a2
  have l1 := hl.below b1 hl.size
  have hs := hl.size
  clear hl
  have XF : Hid ((readC x y).Fits) := read_fits x y y0
  have X0 : Hid (0 ≤ x ∧ x ≤ 18446744073709551615) := x0
  clear y0
  simp only [encW, objC, objW, no] at b1 a1 a2 l1 ⊢
  go_enter Tryd.func22, Tryd.ntmps22
  go_wp2_with fail
  refine (read_any x y _ l1 X0.out).mono ?_
  rintro e w2 ⟨rfl, b2⟩
  have a3 := a1.below b2
  have a4 := a2.below b2
  have b3 := Below.then b1 b2 b1.size
  have l2 := l1.below b2 l1.size
  clear a1 a2 b1 b2 l1
  have hr : w.heap.size + 1 < w2.heap.size := a4.lt
  generalize hr0 : w.heap.size = r at *
  have HR : Hid (w.heap.size = r) := hr0
  clear hr0
  have a5 := a3.below (below_new _ (objC (readC x y)))
  have a6 := a4.below (below_new _ (objC (readC x y)))
  have a7 := AtC.new w2 (readC x y)
  have b5 := Below.then b3 (below_new w2 (objC (readC x y))) (by omega)
  have l3 := l2.below (below_new w2 (objC (readC x y))) l2.size
  clear a3 a4 b3 l2 x0
  generalize hc : readC x y = c at *
  have HC : Hid (readC x y = c) := hc
  clear hc
  simp only [encC]
  go_wp2_with fail
  simp only [objC] at a5 a6 a7 b5 l3
  generalize w2.alloc (Obj.cells #[.int .i64 c.k, .int .i64 c.o, .int .i64 c.r, .int .u64 c.b, .int .u64 c.g, .int .i64 c.z] 24) = w3 at *
  generalize w2.heap.size = q at *
  refine (pack_any c _ l3 XF.out).mono ?_
  rintro e w4 ⟨rfl, b2⟩
  rw [packX, packY, checkE, if_pos Xh1.out, if_pos Xh1.out, if_pos Xh1.out]
  have a8 := a5.below b2
  have a9 := a6.below b2
  have a10 := a7.below b2
  have b6 := Below.then b5 b2 (Nat.le_of_lt (Nat.lt_of_le_of_lt (Nat.le_succ _) a6.lt))
  have hq4 : q < w4.heap.size := a10.lt
  have hr4 : r + 1 < w4.heap.size := a9.lt
  clear a5 a6 a7 b5 b2 l3 XF X0
  have a11 := a8.below (below_new _ (objW (wordC c) (restC c)))
  have a12 := a9.below (below_new _ (objW (wordC c) (restC c)))
  have a13 := a10.below (below_new _ (objW (wordC c) (restC c)))
  have a14 := AtW.new w4 (wordC c) (restC c)
  have b7 := Below.then b6 (below_new w4 (objW (wordC c) (restC c))) (by omega)
  clear a8 a9 a10 b6
  simp only [objW] at a11 a12 a13 a14 b7
  simp only [encW]
  go_upto_region 3 with fail
  generalize w4.alloc (Obj.cells #[.int .u64 (wordC c), .int .u64 (restC c)] 33) = w5 at *
  obtain ⟨g0, g1⟩ := a11.cells
  obtain ⟨d0, d1, d2, d3, d4, d5⟩ := a12.cells
  obtain ⟨e0, e1, e2, e3, e4, e5⟩ := a13.cells
  obtain ⟨h0, h1⟩ := a14.cells
  have f12 := a12.frozen
  have B : Hid (Below r w w5) := b7
  clear a11 a12 a13 a14 b7
  have HQ : ∀ W, (Op.equalIn 10000 33 (.agg #[.int .u64 (wordC c), .int .u64 (restC c)]) (.agg #[.int .u64 x, .int .u64 y])).run Tryd.prog W = .ok false W := fun W => by
    rw [eq_words]
    congr 1
    simp only [decide_eq_false_iff_not]
    exact Xh2.out
  go_wp2
  refine bodyPost_ret (v := .tuple #[encC no, .int .i64 40]) ?_ rfl ⟨rfl, ?_⟩
  · simp [results, Tryd.f22, go_sem, encC, no, d0, d1, d2, d3, d4, d5]
  · rw [HR.out]; exact six_sets B.out (by omega) _ _ _ _ _ _
set_option maxHeartbeats 2000000 in
theorem unpack_yes (x y : Int) (w : World) (hl : Laid w) (x0 : 0 ≤ x ∧ x ≤ 18446744073709551615) (y0 : 0 ≤ y ∧ y ≤ 18446744073709551615) (h1 : Fine (readC x y)) (h2 : wordC (readC x y) = x ∧ restC (readC x y) = y) : Calls Tryd.prog 22 #[encW x y] w fun e w' => e = .returned (.tuple #[encC (readC x y), .int .i64 0]) ∧ Below w.heap.size w w' := by
  have Xh1 : Hid (Fine (readC x y)) := h1
  clear h1
  have Xh2 : Hid (wordC (readC x y) = x ∧ restC (readC x y) = y) := h2
  clear h2
  have b1 := two_new w (objW x y) (objC no)
  have a1 := (AtW.new w x y).below (below_new _ (objC no))
  have a2 := AtC.new (w.alloc (objW x y)) no
  rw [World.size_alloc] at a2
  have l1 := hl.below b1 hl.size
  have hs := hl.size
  clear hl
  have XF : Hid ((readC x y).Fits) := read_fits x y y0
  have X0 : Hid (0 ≤ x ∧ x ≤ 18446744073709551615) := x0
  clear y0
  simp only [encW, objC, objW, no] at b1 a1 a2 l1 ⊢
  go_enter Tryd.func22, Tryd.ntmps22
  go_wp2_with fail
  refine (read_any x y _ l1 X0.out).mono ?_
  rintro e w2 ⟨rfl, b2⟩
  have a3 := a1.below b2
  have a4 := a2.below b2
  have b3 := Below.then b1 b2 b1.size
  have l2 := l1.below b2 l1.size
  clear a1 a2 b1 b2 l1
  have hr : w.heap.size + 1 < w2.heap.size := a4.lt
  generalize hr0 : w.heap.size = r at *
  have HR : Hid (w.heap.size = r) := hr0
  clear hr0
  have a5 := a3.below (below_new _ (objC (readC x y)))
  have a6 := a4.below (below_new _ (objC (readC x y)))
  have a7 := AtC.new w2 (readC x y)
  have b5 := Below.then b3 (below_new w2 (objC (readC x y))) (by omega)
  have l3 := l2.below (below_new w2 (objC (readC x y))) l2.size
  clear a3 a4 b3 l2 x0
  generalize hc : readC x y = c at *
  have HC : Hid (readC x y = c) := hc
  clear hc
  simp only [encC]
  go_wp2_with fail
  simp only [objC] at a5 a6 a7 b5 l3
  generalize w2.alloc (Obj.cells #[.int .i64 c.k, .int .i64 c.o, .int .i64 c.r, .int .u64 c.b, .int .u64 c.g, .int .i64 c.z] 24) = w3 at *
  generalize w2.heap.size = q at *
  refine (pack_any c _ l3 XF.out).mono ?_
  rintro e w4 ⟨rfl, b2⟩
  rw [packX, packY, checkE, if_pos Xh1.out, if_pos Xh1.out, if_pos Xh1.out]
  have a8 := a5.below b2
  have a9 := a6.below b2
  have a10 := a7.below b2
  have b6 := Below.then b5 b2 (Nat.le_of_lt (Nat.lt_of_le_of_lt (Nat.le_succ _) a6.lt))
  have hq4 : q < w4.heap.size := a10.lt
  have hr4 : r + 1 < w4.heap.size := a9.lt
  clear a5 a6 a7 b5 b2 l3 XF X0
  have a11 := a8.below (below_new _ (objW (wordC c) (restC c)))
  have a12 := a9.below (below_new _ (objW (wordC c) (restC c)))
  have a13 := a10.below (below_new _ (objW (wordC c) (restC c)))
  have a14 := AtW.new w4 (wordC c) (restC c)
  have b7 := Below.then b6 (below_new w4 (objW (wordC c) (restC c))) (by omega)
  clear a8 a9 a10 b6
  simp only [objW] at a11 a12 a13 a14 b7
  simp only [encW]
  go_upto_region 3 with fail
  generalize w4.alloc (Obj.cells #[.int .u64 (wordC c), .int .u64 (restC c)] 33) = w5 at *
  obtain ⟨g0, g1⟩ := a11.cells
  obtain ⟨d0, d1, d2, d3, d4, d5⟩ := a12.cells
  obtain ⟨e0, e1, e2, e3, e4, e5⟩ := a13.cells
  obtain ⟨h0, h1⟩ := a14.cells
  have f12 := a12.frozen
  have B : Hid (Below r w w5) := b7
  clear a11 a12 a13 a14 b7
  have HQ : ∀ W, (Op.equalIn 10000 33 (.agg #[.int .u64 (wordC c), .int .u64 (restC c)]) (.agg #[.int .u64 x, .int .u64 y])).run Tryd.prog W = .ok true W := fun W => by
    rw [eq_words]
    congr 1
    simp only [decide_eq_true_eq]
    exact Xh2.out
  go_wp2
  refine bodyPost_ret (v := .tuple #[encC c, .int .i64 0]) ?_ rfl ⟨by rw [HC.out], ?_⟩
  · simp [results, Tryd.f22, go_sem, encC, d0, d1, d2, d3, d4, d5]
  · rw [HR.out]; exact six_sets B.out (by omega) _ _ _ _ _ _
theorem unpack_any (x y : Int) (w : World) (hl : Laid w) (x0 : 0 ≤ x ∧ x ≤ 18446744073709551615) (y0 : 0 ≤ y ∧ y ≤ 18446744073709551615) : Calls Tryd.prog 22 #[encW x y] w fun e w' => e = .returned (.tuple #[encC (unpackR x y), .int .i64 (unpackE x y)]) ∧ Below w.heap.size w w' := by
  by_cases h1 : Fine (readC x y)
  · by_cases h2 : wordC (readC x y) = x ∧ restC (readC x y) = y
    · rw [unpackR, unpackE, if_pos ⟨h1, h2⟩, if_pos ⟨h1, h2⟩]
      exact unpack_yes x y w hl x0 y0 h1 h2
    · rw [unpackR, unpackE, if_neg fun h => h2 h.2, if_neg fun h => h2 h.2]
      exact unpack_else x y w hl x0 y0 h1 h2
  · rw [unpackR, unpackE, if_neg fun h => h1 h.1, if_neg fun h => h1 h.1]
    exact unpack_form x y w hl x0 y0 h1
end Go.Proofs.YtokehmkegnmfdaaDoor
