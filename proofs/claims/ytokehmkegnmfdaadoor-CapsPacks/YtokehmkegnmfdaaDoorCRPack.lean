/-
  What Pack of the document's answer returns, for every capability; no condition but that the numbers fit.
-/
import Derived.Test.YtokehmkegnmfdaaDoorCRCheck
import Derived.Test.YtokehmkegnmfdaaDoorCPackNo
namespace Go.Proofs.YtokehmkegnmfdaaDoor
open Go.RowKit Go.Deep
set_option linter.unusedSectionVars false
variable [dCp : DecidableEq Cp] [dLim : ∀ k, Decidable (Lim k)] [dBad : ∀ k, Decidable (Bad k)] [dFit : ∀ g z, Decidable (Fit g z)] [dFine : ∀ c, Decidable (Fine c)] [dMint : ∀ c v, Decidable (MintR c v)] [dWho : ∀ x y, Decidable (Whose x y)]
theorem rpack_no (c : Cp) (w : World) (hf : c.Fits) (h1 : ¬ Fine c) : Calls Tryd.prog 21 #[encC c] w fun e w' => e = .returned (.tuple #[encW 0 0, .int .i64 40]) ∧ Below w.heap.size w w' := by
  have HF : Hid c.Fits := hf
  have b1 := two_new w (objC c) (objW 0 0)
  have a1 := (AtC.new w c).below (below_new _ (objW 0 0))
  have a2 := AtW.new (w.alloc (objC c)) 0 0
  rw [World.size_alloc] at a2
  clear hf
  have X1 : Hid (¬ Fine c) := h1
  clear h1
  simp only [encC, objC, objW] at b1 a1 a2 ⊢
  go_enter Tryd.func21, Tryd.ntmps21
  go_wp2_with fail
  refine (rcheck_any c _ HF.out).mono ?_
  rintro e w2 ⟨rfl, b2⟩
  rw [checkE, if_neg X1.out]
  have a3 := a1.below b2
  have a4 := a2.below b2
  have b3 := Below.then b1 b2 b1.size
  clear a1 a2 b1 b2
  have hr : w.heap.size + 1 < w2.heap.size := a4.lt
  generalize hr0 : w.heap.size = r at *
  have HR : Hid (w.heap.size = r) := hr0
  clear hr0
  obtain ⟨c0, c1, c2, c3, c4, c5⟩ := a3.cells
  obtain ⟨d0, d1⟩ := a4.cells
  have f4 := a4.frozen
  have B : Hid (Below r w w2) := b3
  clear a3 a4 b3
  clear c0 c1 c2 c3 c4 c5
  go_wp2
  refine bodyPost_ret (v := .tuple #[encW 0 0, .int .i64 40]) ?_ rfl ⟨rfl, ?_⟩
  · simp [results, Tryd.f21, go_sem, encW, d0, d1]
  · rw [HR.out]; exact two_sets B.out (by omega) _ _
set_option maxHeartbeats 2000000 in
theorem rpack_yes (c : Cp) (w : World) (hf : c.Fits) (h1 : Fine c) : Calls Tryd.prog 21 #[encC c] w fun e w' => e = .returned (.tuple #[encW (wordC c) (restC c), .int .i64 0]) ∧ Below w.heap.size w w' := by
  have hb0 := hf.b
  have hg0 := hf.g
  have HF : Hid c.Fits := hf
  have b1 := two_new w (objC c) (objW 0 0)
  have a1 := (AtC.new w c).below (below_new _ (objW 0 0))
  have a2 := AtW.new (w.alloc (objC c)) 0 0
  rw [World.size_alloc] at a2
  clear hf
  have X1 : Hid (Fine c) := h1
  clear h1
  simp only [encC, objC, objW] at b1 a1 a2 ⊢
  go_enter Tryd.func21, Tryd.ntmps21
  go_wp2_with fail
  refine (rcheck_any c _ HF.out).mono ?_
  rintro e w2 ⟨rfl, b2⟩
  rw [checkE, if_pos X1.out]
  have a3 := a1.below b2
  have a4 := a2.below b2
  have b3 := Below.then b1 b2 b1.size
  clear a1 a2 b1 b2
  have hr : w.heap.size + 1 < w2.heap.size := a4.lt
  generalize hr0 : w.heap.size = r at *
  have HR : Hid (w.heap.size = r) := hr0
  clear hr0
  obtain ⟨c0, c1, c2, c3, c4, c5⟩ := a3.cells
  obtain ⟨d0, d1⟩ := a4.cells
  have f4 := a4.frozen
  have B : Hid (Below r w w2) := b3
  clear a3 a4 b3
  obtain ⟨p1, p2, p3, p4, p5, p6, p7, p8⟩ := fine_word X1.out
  have hsum := rest_sum X1.out
  have hbd : c.b + c.g ≤ 18446744073709551615 := by
    rw [hsum]; unfold restC; split <;> omega
  have hword : c.k + c.r * 16 + c.z * 128 + c.o * 65536 = wordC c := by unfold wordC; omega
  have HS : Hid (c.b + c.g = restC c) := hsum
  have HW : Hid (c.k + c.r * 16 + c.z * 128 + c.o * 65536 = wordC c) := hword
  clear hsum hword
  have u1 : IntKind.u64.wrap c.k = c.k := by rw [IntKind.wrap_u64]; omega
  have u2 : IntKind.u64.wrap c.r = c.r := by rw [IntKind.wrap_u64]; omega
  have u3 : IntKind.u64.wrap c.z = c.z := by rw [IntKind.wrap_u64]; omega
  have u4 : IntKind.u64.wrap c.o = c.o := by rw [IntKind.wrap_u64]; omega
  go_wp2
  refine bodyPost_ret (v := .tuple #[encW (c.k + c.r * 16 + c.z * 128 + c.o * 65536) (c.b + c.g), .int .i64 0]) ?_ rfl ⟨by rw [HW.out, HS.out], ?_⟩
  · simp [results, Tryd.f21, go_sem, encW, d0, d1]
  · rw [HR.out]; exact two_sets B.out (by omega) _ _
theorem rpack_any (c : Cp) (w : World) (hf : c.Fits) : Calls Tryd.prog 21 #[encC c] w fun e w' => e = .returned (.tuple #[encW (packX c) (packY c), .int .i64 (checkE c)]) ∧ Below w.heap.size w w' := by
  by_cases h1 : Fine c
  · rw [packX, packY, checkE, if_pos h1, if_pos h1, if_pos h1]
    exact rpack_yes c w hf h1
  · rw [packX, packY, checkE, if_neg h1, if_neg h1, if_neg h1]
    exact rpack_no c w hf h1
end Go.Proofs.YtokehmkegnmfdaaDoor
