/-
  What Same and Derives of the document's answer answer; no condition but that a capability's numbers fit.
-/
import Derived.Test.YtokehmkegnmfdaaDoorCBase
import Derived.Test.YtokehmkegnmfdaaDoorCRights
namespace Go.Proofs.YtokehmkegnmfdaaDoor
open Go.RowKit Go.Deep
set_option linter.unusedSectionVars false
variable [dCp : DecidableEq Cp] [dLim : ∀ k, Decidable (Lim k)] [dBad : ∀ k, Decidable (Bad k)] [dFit : ∀ g z, Decidable (Fit g z)] [dFine : ∀ c, Decidable (Fine c)] [dMint : ∀ c v, Decidable (MintR c v)] [dWho : ∀ x y, Decidable (Whose x y)]
theorem rsame_any (a c : Cp) (w : World) : Calls Tryd.prog 13 #[encC a, encC c] w fun e w' => e = .returned (.bool (sameB a c)) ∧ Below w.heap.size w w' := by
  simp only [encC]
  go_enter Tryd.func13, Tryd.ntmps13
  go_wp2
  all_goals go_ret
  all_goals exact ⟨ret_bool (by simp_all [sameB]), two_new _ _ _⟩
theorem rder_any (p c : Cp) (w : World) (hc : c.Fits) : Calls Tryd.prog 15 #[encC p, encC c] w fun e w' => e = .returned (.bool (derB p c)) ∧ Below w.heap.size w w' := by
  have HD : Hid (bits .andNot .i64 c.r p.r = 0 ↔ bits .and .i64 c.r p.r = c.r) := der_bits c.r p.r hc.r.1 hc.r.2
  clear hc
  have b2 := two_new w (objC p) (objC c)
  have a1 := (AtC.new w p).below (below_new _ (objC c))
  have a2 := AtC.new (w.alloc (objC p)) c
  rw [World.size_alloc] at a2
  simp only [encC, objC] at *
  go_enter Tryd.func15, Tryd.ntmps15
  go_wp2_with fail
  refine (rsame_any p c _).mono ?_
  rintro e w' ⟨rfl, b3⟩
  have a3 := a1.below b3
  have a4 := a2.below b3
  have b4 := Below.then b2 b3 b2.size
  clear a1 a2 b2 b3
  obtain ⟨_, _, c2, c3, _, _⟩ := a3.cells
  obtain ⟨_, _, d2, d3, _, _⟩ := a4.cells
  clear a3 a4
  have H : Hid (Below w.heap.size w w') := b4
  clear b4
  cases hs : sameB p c with
  | false =>
    go_wp2
    go_ret
    exact ⟨by simp [derB, hs], H.out⟩
  | true =>
    go_wp2
    all_goals go_ret
    all_goals exact ⟨ret_bool (by have hd := HD.out; simp only [derB, hs, Bool.true_and, Bool.and_eq_true, decide_eq_true_eq, beq_iff_eq, Bool.false_eq_true, Bool.or_eq_true, true_iff, false_iff, hd]; omega), H.out⟩
end Go.Proofs.YtokehmkegnmfdaaDoor
