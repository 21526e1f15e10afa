/-
  What Derives of package caps answers, for every two capabilities; no condition of ours.
-/
import Derived.Test.YtokehmkegnmfdaaDoorCBase
namespace Go.Proofs.YtokehmkegnmfdaaDoor
open Go.RowKit Go.Deep
set_option linter.unusedSectionVars false
variable [dCp : DecidableEq Cp] [dLim : ∀ k, Decidable (Lim k)] [dBad : ∀ k, Decidable (Bad k)] [dFit : ∀ g z, Decidable (Fit g z)] [dFine : ∀ c, Decidable (Fine c)] [dMint : ∀ c v, Decidable (MintR c v)] [dWho : ∀ x y, Decidable (Whose x y)]
theorem der_any (p c : Cp) (w : World) : Calls Tryd.prog 14 #[encC p, encC c] w fun e w' => e = .returned (.bool (derB p c)) ∧ Below w.heap.size w w' := by
  have b2 := two_new w (objC p) (objC c)
  have a1 := (AtC.new w p).below (below_new _ (objC c))
  have a2 := AtC.new (w.alloc (objC p)) c
  rw [World.size_alloc] at a2
  simp only [encC, objC] at *
  go_enter Tryd.func14, Tryd.ntmps14
  go_wp2_with fail
  refine (same_any p c _).mono ?_
  rintro e w' ⟨rfl, b3⟩
  have a3 := a1.below b3
  have a4 := a2.below b3
  have b4 := Below.then b2 b3 b2.size
  clear a1 a2 b2 b3
  obtain ⟨_, _, c2, c3, _, _⟩ := a3.cells
  obtain ⟨_, _, d2, d3, _, _⟩ := a4.cells
  clear a3 a4
  have H : Hid (Below w.heap.size w w') := b4
  clear b4
  cases hs : sameB p c with
  | false =>
    go_wp2
    go_ret
    exact ⟨by simp [derB, hs], H.out⟩
  | true =>
    go_wp2
    all_goals go_ret
    all_goals exact ⟨ret_bool (by simp_all [derB]), H.out⟩
end Go.Proofs.YtokehmkegnmfdaaDoor
