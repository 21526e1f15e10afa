/-
  What Pack of package caps returns where the capability may not be; no condition but that the numbers fit.
-/
import Derived.Test.YtokehmkegnmfdaaDoorCFormed
namespace Go.Proofs.YtokehmkegnmfdaaDoor
open Go.RowKit Go.Deep
set_option linter.unusedSectionVars false
variable [dCp : DecidableEq Cp] [dLim : ∀ k, Decidable (Lim k)] [dBad : ∀ k, Decidable (Bad k)] [dFit : ∀ g z, Decidable (Fit g z)] [dFine : ∀ c, Decidable (Fine c)] [dMint : ∀ c v, Decidable (MintR c v)] [dWho : ∀ x y, Decidable (Whose x y)]
theorem two_sets {B q : Nat} {w u : World} (h : Below B w u) (hq : B ≤ q) (a b : Value) : Below B w ((u.setCell ⟨q, 0, none⟩ a).setCell ⟨q, 1, none⟩ b) :=
  (h.setCell (p := ⟨q, 0, none⟩) hq a).setCell (p := ⟨q, 1, none⟩) hq b
theorem pack_no (c : Cp) (w : World) (hf : c.Fits) (h1 : ¬ Fine c) : Calls Tryd.prog 20 #[encC c] w fun e w' => e = .returned (.tuple #[encW 0 0, .int .i64 40]) ∧ Below w.heap.size w w' := by
  have HF : Hid c.Fits := hf
  have b1 := two_new w (objC c) (objW 0 0)
  have a1 := (AtC.new w c).below (below_new _ (objW 0 0))
  have a2 := AtW.new (w.alloc (objC c)) 0 0
  rw [World.size_alloc] at a2
  clear hf
  have X1 : Hid (¬ Fine c) := h1
  clear h1
  simp only [encC, objC, objW] at b1 a1 a2 ⊢
  go_enter Tryd.func20, Tryd.ntmps20
  go_wp2_with fail
  refine (check_any c _ HF.out).mono ?_
  rintro e w2 ⟨rfl, b2⟩
  rw [checkE, if_neg X1.out]
  have a3 := a1.below b2
  have a4 := a2.below b2
  have b3 := Below.then b1 b2 b1.size
  clear a1 a2 b1 b2
  have hr : w.heap.size + 1 < w2.heap.size := a4.lt
  generalize hr0 : w.heap.size = r at *
  have HR : Hid (w.heap.size = r) := hr0
  clear hr0
  obtain ⟨c0, c1, c2, c3, c4, c5⟩ := a3.cells
  obtain ⟨d0, d1⟩ := a4.cells
  have f4 := a4.frozen
  have B : Hid (Below r w w2) := b3
  clear a3 a4 b3
  clear c0 c1 c2 c3 c4 c5
  go_wp2
  refine bodyPost_ret (v := .tuple #[encW 0 0, .int .i64 40]) ?_ rfl ⟨rfl, ?_⟩
  · simp [results, Tryd.f20, go_sem, encW, d0, d1]
  · rw [HR.out]; exact two_sets B.out (by omega) _ _
end Go.Proofs.YtokehmkegnmfdaaDoor
