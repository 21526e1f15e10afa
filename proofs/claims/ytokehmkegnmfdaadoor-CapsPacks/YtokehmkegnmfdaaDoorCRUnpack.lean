/-
  What Unpack of the document's answer returns, for every two words; no condition but that they fit.
-/
import Derived.Test.YtokehmkegnmfdaaDoorCRPack
import Derived.Test.YtokehmkegnmfdaaDoorCMint
import Derived.Deep.CutRange
namespace Go.Proofs.YtokehmkegnmfdaaDoor
open Go.RowKit Go.Deep
set_option linter.unusedSectionVars false
variable [dCp : DecidableEq Cp] [dLim : ∀ k, Decidable (Lim k)] [dBad : ∀ k, Decidable (Bad k)] [dFit : ∀ g z, Decidable (Fit g z)] [dFine : ∀ c, Decidable (Fine c)] [dMint : ∀ c v, Decidable (MintR c v)] [dWho : ∀ x y, Decidable (Whose x y)]
set_option maxHeartbeats 2000000 in
theorem runpack_form (x y : Int) (w : World) (x0 : 0 ≤ x ∧ x ≤ 18446744073709551615) (y0 : 0 ≤ y ∧ y ≤ 18446744073709551615) (h1 : ¬ Fine (readC x y)) : Calls Tryd.prog 23 #[encW x y] w fun e w' => e = .returned (.tuple #[encC no, .int .i64 40]) ∧ Below w.heap.size w w' := by
  have Xh1 : Hid (¬ Fine (readC x y)) := h1
  clear h1
  have b1 := two_new w (objW x y) (objC no)
  have a1 := (AtW.new w x y).below (below_new _ (objC no))
  have a2 := AtC.new (w.alloc (objW x y)) no
  rw [World.size_alloc] at a2
  have XF : Hid ((readC x y).Fits) := read_fits x y y0
  have X0 : Hid (0 ≤ x ∧ x ≤ 18446744073709551615) := x0
  clear y0
  simp only [encW, objC, objW, no] at b1 a1 a2 ⊢
  go_enter Tryd.func23, Tryd.ntmps23
  have a5 := a1.below (below_new _ (objC (readC x y)))
  have a6 := a2.below (below_new _ (objC (readC x y)))
  have a7 := AtC.new ((w.alloc (.cells #[.int .u64 x, .int .u64 y] 33)).alloc (.cells #[.int .i64 0, .int .i64 0, .int .i64 0, .int .u64 0, .int .u64 0, .int .i64 0] 24)) (readC x y)
  have b5 := Below.then b1 (below_new _ (objC (readC x y))) b1.size
  rw [World.size_alloc, World.size_alloc] at a7
  clear a1 a2 b1
  go_upto_if 29 with fail
  go_cut [30] from 30 to 35 (fun _ wx => wx = ((w.alloc (.cells #[.int .u64 x, .int .u64 y] 33)).alloc (.cells #[.int .i64 0, .int .i64 0, .int .i64 0, .int .u64 0, .int .u64 0, .int .i64 0] 24)).alloc (objC (readC x y)))
  case first =>
   clear a5 a6 a7 b5
   go_wp2_with fail
   all_goals go_meet
   all_goals rename_i hk
   all_goals simp only [beq_iff_eq, beq_eq_false_iff_ne] at hk
   all_goals simp [readC, objC, hk]
  subst hcut
  generalize ((w.alloc (.cells #[.int .u64 x, .int .u64 y] 33)).alloc (.cells #[.int .i64 0, .int .i64 0, .int .i64 0, .int .u64 0, .int .u64 0, .int .i64 0] 24)).alloc (objC (readC x y)) = w3 at *
  clear x0
  generalize hc : readC x y = c at *
  have HC : Hid (readC x y = c) := hc
  clear hc
  generalize hr0 : w.heap.size = r at *
  have HR : Hid (w.heap.size = r) := hr0
  clear hr0
  generalize hq0 : r + 1 + 1 = q at *
  clear hq0
  obtain ⟨e0, e1, e2, e3, e4, e5⟩ := a7.cells
  go_wp2_with fail
  clear e0 e1 e2 e3 e4 e5
  refine (rpack_any c _ XF.out).mono ?_
  rintro e w4 ⟨rfl, b2⟩
  rw [packX, packY, checkE, if_neg Xh1.out, if_neg Xh1.out, if_neg Xh1.out]
  have a8 := a5.below b2
  have a9 := a6.below b2
  have a10 := a7.below b2
  have b6 := Below.then b5 b2 (Nat.le_of_lt (Nat.lt_of_le_of_lt (Nat.le_succ _) a6.lt))
  have hq4 : q < w4.heap.size := a10.lt
  have hr4 : r + 1 < w4.heap.size := a9.lt
  clear a5 a6 a7 b5 b2 XF X0
  have a11 := a8.below (below_new _ (objW (0) (0)))
  have a12 := a9.below (below_new _ (objW (0) (0)))
  have a13 := a10.below (below_new _ (objW (0) (0)))
  have a14 := AtW.new w4 (0) (0)
  have b7 := Below.then b6 (below_new w4 (objW (0) (0))) (by omega)
  clear a8 a9 a10 b6
  simp only [objW] at a11 a12 a13 a14 b7
  simp only [encW]
  go_upto_region 6 with fail
  generalize w4.alloc (Obj.cells #[.int .u64 (0), .int .u64 (0)] 33) = w5 at *
  obtain ⟨g0, g1⟩ := a11.cells
  obtain ⟨d0, d1, d2, d3, d4, d5⟩ := a12.cells
  obtain ⟨e0, e1, e2, e3, e4, e5⟩ := a13.cells
  obtain ⟨h0, h1⟩ := a14.cells
  have f12 := a12.frozen
  have B : Hid (Below r w w5) := b7
  clear a11 a12 a13 a14 b7
  go_wp2
  refine bodyPost_ret (v := .tuple #[encC no, .int .i64 40]) ?_ rfl ⟨rfl, ?_⟩
  · simp [results, Tryd.f23, go_sem, encC, no, d0, d1, d2, d3, d4, d5]
  · rw [HR.out]; exact six_sets B.out (by omega) _ _ _ _ _ _
set_option maxHeartbeats 2000000 in
theorem runpack_else (x y : Int) (w : World) (x0 : 0 ≤ x ∧ x ≤ 18446744073709551615) (y0 : 0 ≤ y ∧ y ≤ 18446744073709551615) (h1 : Fine (readC x y)) (h2 : ¬ (wordC (readC x y) = x ∧ restC (readC x y) = y)) : Calls Tryd.prog 23 #[encW x y] w fun e w' => e = .returned (.tuple #[encC no, .int .i64 40]) ∧ Below w.heap.size w w' := by
  have Xh1 : Hid (Fine (readC x y)) := h1
  clear h1
  have Xh2 : Hid (¬ (wordC (readC x y) = x ∧ restC (readC x y) = y)) := h2
  clear h2
  have b1 := two_new w (objW x y) (objC no)
  have a1 := (AtW.new w x y).below (below_new _ (objC no))
  have a2 := AtC.new (w.alloc (objW x y)) no
  rw [World.size_alloc] at a2
  have XF : Hid ((readC x y).Fits) := read_fits x y y0
  have X0 : Hid (0 ≤ x ∧ x ≤ 18446744073709551615) := x0
  clear y0
  simp only [encW, objC, objW, no] at b1 a1 a2 ⊢
  go_enter Tryd.func23, Tryd.ntmps23
  have a5 := a1.below (below_new _ (objC (readC x y)))
  have a6 := a2.below (below_new _ (objC (readC x y)))
  have a7 := AtC.new ((w.alloc (.cells #[.int .u64 x, .int .u64 y] 33)).alloc (.cells #[.int .i64 0, .int .i64 0, .int .i64 0, .int .u64 0, .int .u64 0, .int .i64 0] 24)) (readC x y)
  have b5 := Below.then b1 (below_new _ (objC (readC x y))) b1.size
  rw [World.size_alloc, World.size_alloc] at a7
  clear a1 a2 b1
  go_upto_if 29 with fail
  go_cut [30] from 30 to 35 (fun _ wx => wx = ((w.alloc (.cells #[.int .u64 x, .int .u64 y] 33)).alloc (.cells #[.int .i64 0, .int .i64 0, .int .i64 0, .int .u64 0, .int .u64 0, .int .i64 0] 24)).alloc (objC (readC x y)))
  case first =>
   clear a5 a6 a7 b5
   go_wp2_with fail
   all_goals go_meet
   all_goals rename_i hk
   all_goals simp only [beq_iff_eq, beq_eq_false_iff_ne] at hk
   all_goals simp [readC, objC, hk]
  subst hcut
  generalize ((w.alloc (.cells #[.int .u64 x, .int .u64 y] 33)).alloc (.cells #[.int .i64 0, .int .i64 0, .int .i64 0, .int .u64 0, .int .u64 0, .int .i64 0] 24)).alloc (objC (readC x y)) = w3 at *
  clear x0
  generalize hc : readC x y = c at *
  have HC : Hid (readC x y = c) := hc
  clear hc
  generalize hr0 : w.heap.size = r at *
  have HR : Hid (w.heap.size = r) := hr0
  clear hr0
  generalize hq0 : r + 1 + 1 = q at *
  clear hq0
  obtain ⟨e0, e1, e2, e3, e4, e5⟩ := a7.cells
  go_wp2_with fail
  clear e0 e1 e2 e3 e4 e5
  refine (rpack_any c _ XF.out).mono ?_
  rintro e w4 ⟨rfl, b2⟩
  rw [packX, packY, checkE, if_pos Xh1.out, if_pos Xh1.out, if_pos Xh1.out]
  have a8 := a5.below b2
  have a9 := a6.below b2
  have a10 := a7.below b2
  have b6 := Below.then b5 b2 (Nat.le_of_lt (Nat.lt_of_le_of_lt (Nat.le_succ _) a6.lt))
  have hq4 : q < w4.heap.size := a10.lt
  have hr4 : r + 1 < w4.heap.size := a9.lt
  clear a5 a6 a7 b5 b2 XF X0
  have a11 := a8.below (below_new _ (objW (wordC c) (restC c)))
  have a12 := a9.below (below_new _ (objW (wordC c) (restC c)))
  have a13 := a10.below (below_new _ (objW (wordC c) (restC c)))
  have a14 := AtW.new w4 (wordC c) (restC c)
  have b7 := Below.then b6 (below_new w4 (objW (wordC c) (restC c))) (by omega)
  clear a8 a9 a10 b6
  simp only [objW] at a11 a12 a13 a14 b7
  simp only [encW]
  go_upto_region 6 with fail
  generalize w4.alloc (Obj.cells #[.int .u64 (wordC c), .int .u64 (restC c)] 33) = w5 at *
  obtain ⟨g0, g1⟩ := a11.cells
  obtain ⟨d0, d1, d2, d3, d4, d5⟩ := a12.cells
  obtain ⟨e0, e1, e2, e3, e4, e5⟩ := a13.cells
  obtain ⟨h0, h1⟩ := a14.cells
  have f12 := a12.frozen
  have B : Hid (Below r w w5) := b7
  clear a11 a12 a13 a14 b7
  have HQ : ∀ W, (Op.equalIn 10000 33 (.agg #[.int .u64 (wordC c), .int .u64 (restC c)]) (.agg #[.int .u64 x, .int .u64 y])).run Tryd.prog W = .ok false W := fun W => by
    rw [eq_words]
    congr 1
    simp only [decide_eq_false_iff_not]
    exact Xh2.out
  go_wp2
  refine bodyPost_ret (v := .tuple #[encC no, .int .i64 40]) ?_ rfl ⟨rfl, ?_⟩
  · simp [results, Tryd.f23, go_sem, encC, no, d0, d1, d2, d3, d4, d5]
  · rw [HR.out]; exact six_sets B.out (by omega) _ _ _ _ _ _
set_option maxHeartbeats 2000000 in
theorem runpack_yes (x y : Int) (w : World) (x0 : 0 ≤ x ∧ x ≤ 18446744073709551615) (y0 : 0 ≤ y ∧ y ≤ 18446744073709551615) (h1 : Fine (readC x y)) (h2 : wordC (readC x y) = x ∧ restC (readC x y) = y) : Calls Tryd.prog 23 #[encW x y] w fun e w' => e = .returned (.tuple #[encC (readC x y), .int .i64 0]) ∧ Below w.heap.size w w' := by
  have Xh1 : Hid (Fine (readC x y)) := h1
  clear h1
  have Xh2 : Hid (wordC (readC x y) = x ∧ restC (readC x y) = y) := h2
  clear h2
  have b1 := two_new w (objW x y) (objC no)
  have a1 := (AtW.new w x y).below (below_new _ (objC no))
  have a2 := AtC.new (w.alloc (objW x y)) no
  rw [World.size_alloc] at a2
  have XF : Hid ((readC x y).Fits) := read_fits x y y0
  have X0 : Hid (0 ≤ x ∧ x ≤ 18446744073709551615) := x0
  clear y0
  simp only [encW, objC, objW, no] at b1 a1 a2 ⊢
  go_enter Tryd.func23, Tryd.ntmps23
  have a5 := a1.below (below_new _ (objC (readC x y)))
  have a6 := a2.below (below_new _ (objC (readC x y)))
  have a7 := AtC.new ((w.alloc (.cells #[.int .u64 x, .int .u64 y] 33)).alloc (.cells #[.int .i64 0, .int .i64 0, .int .i64 0, .int .u64 0, .int .u64 0, .int .i64 0] 24)) (readC x y)
  have b5 := Below.then b1 (below_new _ (objC (readC x y))) b1.size
  rw [World.size_alloc, World.size_alloc] at a7
  clear a1 a2 b1
  go_upto_if 29 with fail
  go_cut [30] from 30 to 35 (fun _ wx => wx = ((w.alloc (.cells #[.int .u64 x, .int .u64 y] 33)).alloc (.cells #[.int .i64 0, .int .i64 0, .int .i64 0, .int .u64 0, .int .u64 0, .int .i64 0] 24)).alloc (objC (readC x y)))
  case first =>
   clear a5 a6 a7 b5
   go_wp2_with fail
   all_goals go_meet
   all_goals rename_i hk
   all_goals simp only [beq_iff_eq, beq_eq_false_iff_ne] at hk
   all_goals simp [readC, objC, hk]
  subst hcut
  generalize ((w.alloc (.cells #[.int .u64 x, .int .u64 y] 33)).alloc (.cells #[.int .i64 0, .int .i64 0, .int .i64 0, .int .u64 0, .int .u64 0, .int .i64 0] 24)).alloc (objC (readC x y)) = w3 at *
  clear x0
  generalize hc : readC x y = c at *
  have HC : Hid (readC x y = c) := hc
  clear hc
  generalize hr0 : w.heap.size = r at *
  have HR : Hid (w.heap.size = r) := hr0
  clear hr0
  generalize hq0 : r + 1 + 1 = q at *
  clear hq0
  obtain ⟨e0, e1, e2, e3, e4, e5⟩ := a7.cells
  go_wp2_with fail
  clear e0 e1 e2 e3 e4 e5
  refine (rpack_any c _ XF.out).mono ?_
  rintro e w4 ⟨rfl, b2⟩
  rw [packX, packY, checkE, if_pos Xh1.out, if_pos Xh1.out, if_pos Xh1.out]
  have a8 := a5.below b2
  have a9 := a6.below b2
  have a10 := a7.below b2
  have b6 := Below.then b5 b2 (Nat.le_of_lt (Nat.lt_of_le_of_lt (Nat.le_succ _) a6.lt))
  have hq4 : q < w4.heap.size := a10.lt
  have hr4 : r + 1 < w4.heap.size := a9.lt
  clear a5 a6 a7 b5 b2 XF X0
  have a11 := a8.below (below_new _ (objW (wordC c) (restC c)))
  have a12 := a9.below (below_new _ (objW (wordC c) (restC c)))
  have a13 := a10.below (below_new _ (objW (wordC c) (restC c)))
  have a14 := AtW.new w4 (wordC c) (restC c)
  have b7 := Below.then b6 (below_new w4 (objW (wordC c) (restC c))) (by omega)
  clear a8 a9 a10 b6
  simp only [objW] at a11 a12 a13 a14 b7
  simp only [encW]
  go_upto_region 6 with fail
  generalize w4.alloc (Obj.cells #[.int .u64 (wordC c), .int .u64 (restC c)] 33) = w5 at *
  obtain ⟨g0, g1⟩ := a11.cells
  obtain ⟨d0, d1, d2, d3, d4, d5⟩ := a12.cells
  obtain ⟨e0, e1, e2, e3, e4, e5⟩ := a13.cells
  obtain ⟨h0, h1⟩ := a14.cells
  have f12 := a12.frozen
  have B : Hid (Below r w w5) := b7
  clear a11 a12 a13 a14 b7
  have HQ : ∀ W, (Op.equalIn 10000 33 (.agg #[.int .u64 (wordC c), .int .u64 (restC c)]) (.agg #[.int .u64 x, .int .u64 y])).run Tryd.prog W = .ok true W := fun W => by
    rw [eq_words]
    congr 1
    simp only [decide_eq_true_eq]
    exact Xh2.out
  go_wp2
  refine bodyPost_ret (v := .tuple #[encC c, .int .i64 0]) ?_ rfl ⟨by rw [HC.out], ?_⟩
  · simp [results, Tryd.f23, go_sem, encC, d0, d1, d2, d3, d4, d5]
  · rw [HR.out]; exact six_sets B.out (by omega) _ _ _ _ _ _
theorem runpack_any (x y : Int) (w : World) (x0 : 0 ≤ x ∧ x ≤ 18446744073709551615) (y0 : 0 ≤ y ∧ y ≤ 18446744073709551615) : Calls Tryd.prog 23 #[encW x y] w fun e w' => e = .returned (.tuple #[encC (unpackR x y), .int .i64 (unpackE x y)]) ∧ Below w.heap.size w w' := by
  by_cases h1 : Fine (readC x y)
  · by_cases h2 : wordC (readC x y) = x ∧ restC (readC x y) = y
    · rw [unpackR, unpackE, if_pos ⟨h1, h2⟩, if_pos ⟨h1, h2⟩]
      exact runpack_yes x y w x0 y0 h1 h2
    · rw [unpackR, unpackE, if_neg fun h => h2 h.2, if_neg fun h => h2 h.2]
      exact runpack_else x y w x0 y0 h1 h2
  · rw [unpackR, unpackE, if_neg fun h => h1 h.1, if_neg fun h => h1 h.1]
    exact runpack_form x y w x0 y0 h1
end Go.Proofs.YtokehmkegnmfdaaDoor
