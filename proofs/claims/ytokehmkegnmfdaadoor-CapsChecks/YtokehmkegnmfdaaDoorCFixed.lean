/-
  The calls whose answers the document fixes (the law's own function fixed) answer as they should, where the program's four places lie as it laid them.
-/
import Derived.Test.YtokehmkegnmfdaaDoorCUnpack
import Derived.Test.YtokehmkegnmfdaaDoorCGuard
import Derived.Test.YtokehmkegnmfdaaDoorCDer
namespace Go.Proofs.YtokehmkegnmfdaaDoor
open Go.RowKit Go.Deep
set_option linter.unusedSectionVars false
variable [dCp : DecidableEq Cp] [dLim : ∀ k, Decidable (Lim k)] [dBad : ∀ k, Decidable (Bad k)] [dFit : ∀ g z, Decidable (Fit g z)] [dFine : ∀ c, Decidable (Fine c)] [dMint : ∀ c v, Decidable (MintR c v)] [dWho : ∀ x y, Decidable (Whose x y)]
theorem fx1 (w : World) : Calls Tryd.prog 16 #[.agg #[.int .i64 4, .int .i64 3, .int .i64 7, .int .u64 0, .int .u64 0, .int .i64 0], .int .i64 1, .int .u64 5] w fun e w' => e = .returned (.tuple #[.agg #[.int .i64 4, .int .i64 3, .int .i64 1, .int .u64 5, .int .u64 0, .int .i64 0], .int .i64 0]) ∧ Below w.heap.size w w' := by
  have h := mint_any (⟨4, 3, 7, 0, 0, 0⟩ : Cp) 1 5 w ⟨by decide, by decide, by decide, by decide, by decide, by decide⟩
  rw [show mintR (⟨4, 3, 7, 0, 0, 0⟩ : Cp) 1 5 = (⟨4, 3, 1, 5, 0, 0⟩ : Cp) by obtain rfl : dCp = decCp := Subsingleton.elim _ _; obtain rfl : dLim = decLim := Subsingleton.elim _ _; obtain rfl : dBad = decBad := Subsingleton.elim _ _; obtain rfl : dFit = decFit := Subsingleton.elim _ _; obtain rfl : dFine = decFine := Subsingleton.elim _ _; obtain rfl : dMint = decMint := Subsingleton.elim _ _; obtain rfl : dWho = decWho := Subsingleton.elim _ _; kernel_rfl] at h
  rw [show mintE (⟨4, 3, 7, 0, 0, 0⟩ : Cp) 1 5 = 0 by obtain rfl : dCp = decCp := Subsingleton.elim _ _; obtain rfl : dLim = decLim := Subsingleton.elim _ _; obtain rfl : dBad = decBad := Subsingleton.elim _ _; obtain rfl : dFit = decFit := Subsingleton.elim _ _; obtain rfl : dFine = decFine := Subsingleton.elim _ _; obtain rfl : dMint = decMint := Subsingleton.elim _ _; obtain rfl : dWho = decWho := Subsingleton.elim _ _; kernel_rfl] at h
  exact h
theorem fx2 (w : World) : Calls Tryd.prog 16 #[.agg #[.int .i64 4, .int .i64 3, .int .i64 1, .int .u64 5, .int .u64 0, .int .i64 0], .int .i64 7, .int .u64 6] w fun e w' => e = .returned (.tuple #[.agg #[.int .i64 0, .int .i64 0, .int .i64 0, .int .u64 0, .int .u64 0, .int .i64 0], .int .i64 41]) ∧ Below w.heap.size w w' := by
  have h := mint_any (⟨4, 3, 1, 5, 0, 0⟩ : Cp) 7 6 w ⟨by decide, by decide, by decide, by decide, by decide, by decide⟩
  rw [show mintR (⟨4, 3, 1, 5, 0, 0⟩ : Cp) 7 6 = no by obtain rfl : dCp = decCp := Subsingleton.elim _ _; obtain rfl : dLim = decLim := Subsingleton.elim _ _; obtain rfl : dBad = decBad := Subsingleton.elim _ _; obtain rfl : dFit = decFit := Subsingleton.elim _ _; obtain rfl : dFine = decFine := Subsingleton.elim _ _; obtain rfl : dMint = decMint := Subsingleton.elim _ _; obtain rfl : dWho = decWho := Subsingleton.elim _ _; kernel_rfl] at h
  rw [show mintE (⟨4, 3, 1, 5, 0, 0⟩ : Cp) 7 6 = 41 by obtain rfl : dCp = decCp := Subsingleton.elim _ _; obtain rfl : dLim = decLim := Subsingleton.elim _ _; obtain rfl : dBad = decBad := Subsingleton.elim _ _; obtain rfl : dFit = decFit := Subsingleton.elim _ _; obtain rfl : dFine = decFine := Subsingleton.elim _ _; obtain rfl : dMint = decMint := Subsingleton.elim _ _; obtain rfl : dWho = decWho := Subsingleton.elim _ _; kernel_rfl] at h
  exact h
theorem fx3 (w : World) : Calls Tryd.prog 18 #[.agg #[.int .i64 2, .int .i64 0, .int .i64 7, .int .u64 0, .int .u64 0, .int .i64 0], .int .u64 5, .int .i64 3] w fun e w' => e = .returned (.tuple #[.agg #[.int .i64 2, .int .i64 0, .int .i64 7, .int .u64 0, .int .u64 5, .int .i64 3], .int .i64 0]) ∧ Below w.heap.size w w' := by
  have h := guard_any (⟨2, 0, 7, 0, 0, 0⟩ : Cp) 5 3 w ⟨by decide, by decide, by decide, by decide, by decide, by decide⟩ (by decide)
  rw [show guardR (⟨2, 0, 7, 0, 0, 0⟩ : Cp) 5 3 = (⟨2, 0, 7, 0, 5, 3⟩ : Cp) by obtain rfl : dCp = decCp := Subsingleton.elim _ _; obtain rfl : dLim = decLim := Subsingleton.elim _ _; obtain rfl : dBad = decBad := Subsingleton.elim _ _; obtain rfl : dFit = decFit := Subsingleton.elim _ _; obtain rfl : dFine = decFine := Subsingleton.elim _ _; obtain rfl : dMint = decMint := Subsingleton.elim _ _; obtain rfl : dWho = decWho := Subsingleton.elim _ _; kernel_rfl] at h
  rw [show guardE (⟨2, 0, 7, 0, 0, 0⟩ : Cp) 5 3 = 0 by obtain rfl : dCp = decCp := Subsingleton.elim _ _; obtain rfl : dLim = decLim := Subsingleton.elim _ _; obtain rfl : dBad = decBad := Subsingleton.elim _ _; obtain rfl : dFit = decFit := Subsingleton.elim _ _; obtain rfl : dFine = decFine := Subsingleton.elim _ _; obtain rfl : dMint = decMint := Subsingleton.elim _ _; obtain rfl : dWho = decWho := Subsingleton.elim _ _; kernel_rfl] at h
  exact h
theorem fx4 (w : World) : Calls Tryd.prog 18 #[.agg #[.int .i64 4, .int .i64 3, .int .i64 7, .int .u64 0, .int .u64 0, .int .i64 0], .int .u64 0, .int .i64 0] w fun e w' => e = .returned (.tuple #[.agg #[.int .i64 0, .int .i64 0, .int .i64 0, .int .u64 0, .int .u64 0, .int .i64 0], .int .i64 41]) ∧ Below w.heap.size w w' := by
  have h := guard_any (⟨4, 3, 7, 0, 0, 0⟩ : Cp) 0 0 w ⟨by decide, by decide, by decide, by decide, by decide, by decide⟩ (by decide)
  rw [show guardR (⟨4, 3, 7, 0, 0, 0⟩ : Cp) 0 0 = no by obtain rfl : dCp = decCp := Subsingleton.elim _ _; obtain rfl : dLim = decLim := Subsingleton.elim _ _; obtain rfl : dBad = decBad := Subsingleton.elim _ _; obtain rfl : dFit = decFit := Subsingleton.elim _ _; obtain rfl : dFine = decFine := Subsingleton.elim _ _; obtain rfl : dMint = decMint := Subsingleton.elim _ _; obtain rfl : dWho = decWho := Subsingleton.elim _ _; kernel_rfl] at h
  rw [show guardE (⟨4, 3, 7, 0, 0, 0⟩ : Cp) 0 0 = 41 by obtain rfl : dCp = decCp := Subsingleton.elim _ _; obtain rfl : dLim = decLim := Subsingleton.elim _ _; obtain rfl : dBad = decBad := Subsingleton.elim _ _; obtain rfl : dFit = decFit := Subsingleton.elim _ _; obtain rfl : dFine = decFine := Subsingleton.elim _ _; obtain rfl : dMint = decMint := Subsingleton.elim _ _; obtain rfl : dWho = decWho := Subsingleton.elim _ _; kernel_rfl] at h
  exact h
theorem fx5 (w : World) (hl : Laid w) : Calls Tryd.prog 20 #[.agg #[.int .i64 4, .int .i64 3, .int .i64 1, .int .u64 5, .int .u64 0, .int .i64 0]] w fun e w' => e = .returned (.tuple #[.agg #[.int .u64 196628, .int .u64 5], .int .i64 0]) ∧ Below w.heap.size w w' := by
  have h := pack_any (⟨4, 3, 1, 5, 0, 0⟩ : Cp) w hl ⟨by decide, by decide, by decide, by decide, by decide, by decide⟩
  rw [show packX (⟨4, 3, 1, 5, 0, 0⟩ : Cp) = 196628 by obtain rfl : dCp = decCp := Subsingleton.elim _ _; obtain rfl : dLim = decLim := Subsingleton.elim _ _; obtain rfl : dBad = decBad := Subsingleton.elim _ _; obtain rfl : dFit = decFit := Subsingleton.elim _ _; obtain rfl : dFine = decFine := Subsingleton.elim _ _; obtain rfl : dMint = decMint := Subsingleton.elim _ _; obtain rfl : dWho = decWho := Subsingleton.elim _ _; kernel_rfl] at h
  rw [show packY (⟨4, 3, 1, 5, 0, 0⟩ : Cp) = 5 by obtain rfl : dCp = decCp := Subsingleton.elim _ _; obtain rfl : dLim = decLim := Subsingleton.elim _ _; obtain rfl : dBad = decBad := Subsingleton.elim _ _; obtain rfl : dFit = decFit := Subsingleton.elim _ _; obtain rfl : dFine = decFine := Subsingleton.elim _ _; obtain rfl : dMint = decMint := Subsingleton.elim _ _; obtain rfl : dWho = decWho := Subsingleton.elim _ _; kernel_rfl] at h
  rw [show checkE (⟨4, 3, 1, 5, 0, 0⟩ : Cp) = 0 by obtain rfl : dCp = decCp := Subsingleton.elim _ _; obtain rfl : dLim = decLim := Subsingleton.elim _ _; obtain rfl : dBad = decBad := Subsingleton.elim _ _; obtain rfl : dFit = decFit := Subsingleton.elim _ _; obtain rfl : dFine = decFine := Subsingleton.elim _ _; obtain rfl : dMint = decMint := Subsingleton.elim _ _; obtain rfl : dWho = decWho := Subsingleton.elim _ _; kernel_rfl] at h
  exact h
theorem fx6 (w : World) (hl : Laid w) : Calls Tryd.prog 22 #[.agg #[.int .u64 196628, .int .u64 5]] w fun e w' => e = .returned (.tuple #[.agg #[.int .i64 4, .int .i64 3, .int .i64 1, .int .u64 5, .int .u64 0, .int .i64 0], .int .i64 0]) ∧ Below w.heap.size w w' := by
  have h := unpack_any 196628 5 w hl (by decide) (by decide)
  rw [show unpackR 196628 5 = (⟨4, 3, 1, 5, 0, 0⟩ : Cp) by obtain rfl : dCp = decCp := Subsingleton.elim _ _; obtain rfl : dLim = decLim := Subsingleton.elim _ _; obtain rfl : dBad = decBad := Subsingleton.elim _ _; obtain rfl : dFit = decFit := Subsingleton.elim _ _; obtain rfl : dFine = decFine := Subsingleton.elim _ _; obtain rfl : dMint = decMint := Subsingleton.elim _ _; obtain rfl : dWho = decWho := Subsingleton.elim _ _; kernel_rfl] at h
  rw [show unpackE 196628 5 = 0 by obtain rfl : dCp = decCp := Subsingleton.elim _ _; obtain rfl : dLim = decLim := Subsingleton.elim _ _; obtain rfl : dBad = decBad := Subsingleton.elim _ _; obtain rfl : dFit = decFit := Subsingleton.elim _ _; obtain rfl : dFine = decFine := Subsingleton.elim _ _; obtain rfl : dMint = decMint := Subsingleton.elim _ _; obtain rfl : dWho = decWho := Subsingleton.elim _ _; kernel_rfl] at h
  exact h
theorem fx7 (w : World) (hl : Laid w) : Calls Tryd.prog 22 #[.agg #[.int .u64 15, .int .u64 0]] w fun e w' => e = .returned (.tuple #[.agg #[.int .i64 0, .int .i64 0, .int .i64 0, .int .u64 0, .int .u64 0, .int .i64 0], .int .i64 40]) ∧ Below w.heap.size w w' := by
  have h := unpack_any 15 0 w hl (by decide) (by decide)
  rw [show unpackR 15 0 = no by obtain rfl : dCp = decCp := Subsingleton.elim _ _; obtain rfl : dLim = decLim := Subsingleton.elim _ _; obtain rfl : dBad = decBad := Subsingleton.elim _ _; obtain rfl : dFit = decFit := Subsingleton.elim _ _; obtain rfl : dFine = decFine := Subsingleton.elim _ _; obtain rfl : dMint = decMint := Subsingleton.elim _ _; obtain rfl : dWho = decWho := Subsingleton.elim _ _; kernel_rfl] at h
  rw [show unpackE 15 0 = 40 by obtain rfl : dCp = decCp := Subsingleton.elim _ _; obtain rfl : dLim = decLim := Subsingleton.elim _ _; obtain rfl : dBad = decBad := Subsingleton.elim _ _; obtain rfl : dFit = decFit := Subsingleton.elim _ _; obtain rfl : dFine = decFine := Subsingleton.elim _ _; obtain rfl : dMint = decMint := Subsingleton.elim _ _; obtain rfl : dWho = decWho := Subsingleton.elim _ _; kernel_rfl] at h
  exact h
theorem fx8 (w : World) : Calls Tryd.prog 14 #[.agg #[.int .i64 4, .int .i64 3, .int .i64 7, .int .u64 0, .int .u64 0, .int .i64 0], .agg #[.int .i64 4, .int .i64 3, .int .i64 1, .int .u64 5, .int .u64 0, .int .i64 0]] w fun e w' => e = .returned (.bool true) ∧ Below w.heap.size w w' := by
  have h := der_any (⟨4, 3, 7, 0, 0, 0⟩ : Cp) (⟨4, 3, 1, 5, 0, 0⟩ : Cp) w
  rw [show derB (⟨4, 3, 7, 0, 0, 0⟩ : Cp) (⟨4, 3, 1, 5, 0, 0⟩ : Cp) = true by obtain rfl : dCp = decCp := Subsingleton.elim _ _; obtain rfl : dLim = decLim := Subsingleton.elim _ _; obtain rfl : dBad = decBad := Subsingleton.elim _ _; obtain rfl : dFit = decFit := Subsingleton.elim _ _; obtain rfl : dFine = decFine := Subsingleton.elim _ _; obtain rfl : dMint = decMint := Subsingleton.elim _ _; obtain rfl : dWho = decWho := Subsingleton.elim _ _; kernel_rfl] at h
  exact h
theorem fx9 (w : World) : Calls Tryd.prog 14 #[.agg #[.int .i64 4, .int .i64 3, .int .i64 1, .int .u64 5, .int .u64 0, .int .i64 0], .agg #[.int .i64 4, .int .i64 3, .int .i64 7, .int .u64 0, .int .u64 0, .int .i64 0]] w fun e w' => e = .returned (.bool false) ∧ Below w.heap.size w w' := by
  have h := der_any (⟨4, 3, 1, 5, 0, 0⟩ : Cp) (⟨4, 3, 7, 0, 0, 0⟩ : Cp) w
  rw [show derB (⟨4, 3, 1, 5, 0, 0⟩ : Cp) (⟨4, 3, 7, 0, 0, 0⟩ : Cp) = false by obtain rfl : dCp = decCp := Subsingleton.elim _ _; obtain rfl : dLim = decLim := Subsingleton.elim _ _; obtain rfl : dBad = decBad := Subsingleton.elim _ _; obtain rfl : dFit = decFit := Subsingleton.elim _ _; obtain rfl : dFine = decFine := Subsingleton.elim _ _; obtain rfl : dMint = decMint := Subsingleton.elim _ _; obtain rfl : dWho = decWho := Subsingleton.elim _ _; kernel_rfl] at h
  exact h
theorem fx10 (w : World) : Calls Tryd.prog 12 #[.agg #[.int .i64 4, .int .i64 3, .int .i64 1, .int .u64 5, .int .u64 0, .int .i64 0], .agg #[.int .i64 4, .int .i64 3, .int .i64 7, .int .u64 0, .int .u64 0, .int .i64 0]] w fun e w' => e = .returned (.bool true) ∧ Below w.heap.size w w' := by
  have h := same_any (⟨4, 3, 1, 5, 0, 0⟩ : Cp) (⟨4, 3, 7, 0, 0, 0⟩ : Cp) w
  rw [show sameB (⟨4, 3, 1, 5, 0, 0⟩ : Cp) (⟨4, 3, 7, 0, 0, 0⟩ : Cp) = true by obtain rfl : dCp = decCp := Subsingleton.elim _ _; obtain rfl : dLim = decLim := Subsingleton.elim _ _; obtain rfl : dBad = decBad := Subsingleton.elim _ _; obtain rfl : dFit = decFit := Subsingleton.elim _ _; obtain rfl : dFine = decFine := Subsingleton.elim _ _; obtain rfl : dMint = decMint := Subsingleton.elim _ _; obtain rfl : dWho = decWho := Subsingleton.elim _ _; kernel_rfl] at h
  exact h
theorem fx11 (w : World) : Calls Tryd.prog 10 #[.agg #[.int .i64 3, .int .i64 0, .int .i64 0, .int .u64 0, .int .u64 0, .int .i64 0]] w fun e w' => e = .returned (.int .i64 40) ∧ Below w.heap.size w w' := by
  have h := check_any (⟨3, 0, 0, 0, 0, 0⟩ : Cp) w ⟨by decide, by decide, by decide, by decide, by decide, by decide⟩
  rw [show checkE (⟨3, 0, 0, 0, 0, 0⟩ : Cp) = 40 by obtain rfl : dCp = decCp := Subsingleton.elim _ _; obtain rfl : dLim = decLim := Subsingleton.elim _ _; obtain rfl : dBad = decBad := Subsingleton.elim _ _; obtain rfl : dFit = decFit := Subsingleton.elim _ _; obtain rfl : dFine = decFine := Subsingleton.elim _ _; obtain rfl : dMint = decMint := Subsingleton.elim _ _; obtain rfl : dWho = decWho := Subsingleton.elim _ _; kernel_rfl] at h
  exact h
set_option maxHeartbeats 4000000 in
theorem fixed_any (w : World) (hl : Laid w) : Calls Tryd.prog 9 #[] w fun e w' => e = .returned (.bool true) ∧ Below w.heap.size w w' := by
  have HQ1 : ∀ W, (Op.equalIn 10000 24 (.agg #[.int .i64 4, .int .i64 3, .int .i64 1, .int .u64 5, .int .u64 0, .int .i64 0]) (.agg #[.int .i64 4, .int .i64 3, .int .i64 1, .int .u64 5, .int .u64 0, .int .i64 0])).run Tryd.prog W = .ok true W := fun W => by
    have h := eq_caps W (⟨4, 3, 1, 5, 0, 0⟩ : Cp) (⟨4, 3, 1, 5, 0, 0⟩ : Cp)
    rwa [show decide ((⟨4, 3, 1, 5, 0, 0⟩ : Cp) = (⟨4, 3, 1, 5, 0, 0⟩ : Cp)) = true by obtain rfl : dCp = decCp := Subsingleton.elim _ _; obtain rfl : dLim = decLim := Subsingleton.elim _ _; obtain rfl : dBad = decBad := Subsingleton.elim _ _; obtain rfl : dFit = decFit := Subsingleton.elim _ _; obtain rfl : dFine = decFine := Subsingleton.elim _ _; obtain rfl : dMint = decMint := Subsingleton.elim _ _; obtain rfl : dWho = decWho := Subsingleton.elim _ _; kernel_rfl] at h
  have HQ2 : ∀ W, (Op.equalIn 10000 33 (.agg #[.int .u64 196628, .int .u64 5]) (.agg #[.int .u64 196628, .int .u64 5])).run Tryd.prog W = .ok true W := fun W => by
    have h := eq_words W 196628 5 196628 5
    rwa [show decide ((196628 : Int) = 196628 ∧ (5 : Int) = 5) = true by obtain rfl : dCp = decCp := Subsingleton.elim _ _; obtain rfl : dLim = decLim := Subsingleton.elim _ _; obtain rfl : dBad = decBad := Subsingleton.elim _ _; obtain rfl : dFit = decFit := Subsingleton.elim _ _; obtain rfl : dFine = decFine := Subsingleton.elim _ _; obtain rfl : dMint = decMint := Subsingleton.elim _ _; obtain rfl : dWho = decWho := Subsingleton.elim _ _; kernel_rfl] at h
  have b := below_new w (objC (⟨4, 3, 7, 0, 0, 0⟩ : Cp))
  have s0 := AtC.new w (⟨4, 3, 7, 0, 0, 0⟩ : Cp)
  have l := hl.below b hl.size
  clear hl
  simp only [objC] at b s0 l
  go_enter Tryd.func9, Tryd.ntmps9
  go_wp2_with fail
  generalize w.alloc (Obj.cells #[.int .i64 4, .int .i64 3, .int .i64 7, .int .u64 0, .int .u64 0, .int .i64 0] 24) = v0 at *
  generalize hr : w.heap.size = r at *
  have HR : Hid (w.heap.size = r) := hr
  clear hr
  have hb := s0.lt
  refine (fx1 _).mono ?_
  rintro e u1 ⟨rfl, b2⟩
  have s0 := (s0.below b2).below (below_new _ (objC (⟨4, 3, 1, 5, 0, 0⟩ : Cp)))
  have b := Below.then (Below.then b b2 (by omega)) (below_new u1 (objC (⟨4, 3, 1, 5, 0, 0⟩ : Cp))) (by have := b2.size; omega)
  have l := (l.below b2 l.size).below (below_new u1 (objC (⟨4, 3, 1, 5, 0, 0⟩ : Cp))) (l.below b2 l.size).size
  have s1 := AtC.new u1 (⟨4, 3, 1, 5, 0, 0⟩ : Cp)
  clear b2 hb
  simp only [objC] at b l s0 s1
  obtain ⟨s1c0, s1c1, s1c2, s1c3, s1c4, s1c5⟩ := s1.cells
  go_wp2_with fail
  clear s1c0 s1c1 s1c2 s1c3 s1c4 s1c5
  generalize u1.alloc (Obj.cells #[.int .i64 4, .int .i64 3, .int .i64 1, .int .u64 5, .int .u64 0, .int .i64 0] 24) = v1 at *
  generalize u1.heap.size = q1 at *
  have hb := s0.lt
  refine (fx2 _).mono ?_
  rintro e u2 ⟨rfl, b2⟩
  have s0 := (s0.below b2).below (below_new _ (objC (⟨0, 0, 0, 0, 0, 0⟩ : Cp)))
  have s1 := (s1.below b2).below (below_new _ (objC (⟨0, 0, 0, 0, 0, 0⟩ : Cp)))
  have b := Below.then (Below.then b b2 (by omega)) (below_new u2 (objC (⟨0, 0, 0, 0, 0, 0⟩ : Cp))) (by have := b2.size; omega)
  have l := (l.below b2 l.size).below (below_new u2 (objC (⟨0, 0, 0, 0, 0, 0⟩ : Cp))) (l.below b2 l.size).size
  have s2 := AtC.new u2 (⟨0, 0, 0, 0, 0, 0⟩ : Cp)
  clear b2 hb
  simp only [objC] at b l s0 s1 s2
  go_wp2_with fail
  generalize u2.alloc (Obj.cells #[.int .i64 0, .int .i64 0, .int .i64 0, .int .u64 0, .int .u64 0, .int .i64 0] 24) = v2 at *
  generalize u2.heap.size = q2 at *
  have hb := s0.lt
  clear s2
  refine (fx3 _).mono ?_
  rintro e u3 ⟨rfl, b2⟩
  have s0 := (s0.below b2).below (below_new _ (objC (⟨2, 0, 7, 0, 5, 3⟩ : Cp)))
  have s1 := (s1.below b2).below (below_new _ (objC (⟨2, 0, 7, 0, 5, 3⟩ : Cp)))
  have b := Below.then (Below.then b b2 (by omega)) (below_new u3 (objC (⟨2, 0, 7, 0, 5, 3⟩ : Cp))) (by have := b2.size; omega)
  have l := (l.below b2 l.size).below (below_new u3 (objC (⟨2, 0, 7, 0, 5, 3⟩ : Cp))) (l.below b2 l.size).size
  have s3 := AtC.new u3 (⟨2, 0, 7, 0, 5, 3⟩ : Cp)
  clear b2 hb
  simp only [objC] at b l s0 s1 s3
  obtain ⟨s0c0, s0c1, s0c2, s0c3, s0c4, s0c5⟩ := s0.cells
  go_wp2_with fail
  clear s0c0 s0c1 s0c2 s0c3 s0c4 s0c5
  generalize u3.alloc (Obj.cells #[.int .i64 2, .int .i64 0, .int .i64 7, .int .u64 0, .int .u64 5, .int .i64 3] 24) = v3 at *
  generalize u3.heap.size = q3 at *
  have hb := s0.lt
  refine (fx4 _).mono ?_
  rintro e u4 ⟨rfl, b2⟩
  have s0 := (s0.below b2).below (below_new _ (objC (⟨0, 0, 0, 0, 0, 0⟩ : Cp)))
  have s1 := (s1.below b2).below (below_new _ (objC (⟨0, 0, 0, 0, 0, 0⟩ : Cp)))
  have s3 := (s3.below b2).below (below_new _ (objC (⟨0, 0, 0, 0, 0, 0⟩ : Cp)))
  have b := Below.then (Below.then b b2 (by omega)) (below_new u4 (objC (⟨0, 0, 0, 0, 0, 0⟩ : Cp))) (by have := b2.size; omega)
  have l := (l.below b2 l.size).below (below_new u4 (objC (⟨0, 0, 0, 0, 0, 0⟩ : Cp))) (l.below b2 l.size).size
  have s4 := AtC.new u4 (⟨0, 0, 0, 0, 0, 0⟩ : Cp)
  clear b2 hb
  simp only [objC] at b l s0 s1 s3 s4
  obtain ⟨s1c0, s1c1, s1c2, s1c3, s1c4, s1c5⟩ := s1.cells
  go_wp2_with fail
  clear s1c0 s1c1 s1c2 s1c3 s1c4 s1c5
  generalize u4.alloc (Obj.cells #[.int .i64 0, .int .i64 0, .int .i64 0, .int .u64 0, .int .u64 0, .int .i64 0] 24) = v4 at *
  generalize u4.heap.size = q4 at *
  have hb := s0.lt
  clear s4
  refine (fx5 _ l).mono ?_
  rintro e u5 ⟨rfl, b2⟩
  have s0 := (s0.below b2).below (below_new _ (objW 196628 5))
  have s1 := (s1.below b2).below (below_new _ (objW 196628 5))
  have s3 := (s3.below b2).below (below_new _ (objW 196628 5))
  have b := Below.then (Below.then b b2 (by omega)) (below_new u5 (objW 196628 5)) (by have := b2.size; omega)
  have l := (l.below b2 l.size).below (below_new u5 (objW 196628 5)) (l.below b2 l.size).size
  have s5 := AtW.new u5 196628 5
  clear b2 hb
  simp only [objW] at b l s0 s1 s3 s5
  obtain ⟨s5c0, s5c1⟩ := s5.cells
  go_wp2_with fail
  clear s5c0 s5c1
  generalize u5.alloc (Obj.cells #[.int .u64 196628, .int .u64 5] 33) = v5 at *
  generalize u5.heap.size = q5 at *
  have hb := s0.lt
  refine (fx6 _ l).mono ?_
  rintro e u6 ⟨rfl, b2⟩
  have s0 := (s0.below b2).below (below_new _ (objC (⟨4, 3, 1, 5, 0, 0⟩ : Cp)))
  have s1 := (s1.below b2).below (below_new _ (objC (⟨4, 3, 1, 5, 0, 0⟩ : Cp)))
  have s3 := (s3.below b2).below (below_new _ (objC (⟨4, 3, 1, 5, 0, 0⟩ : Cp)))
  have s5 := (s5.below b2).below (below_new _ (objC (⟨4, 3, 1, 5, 0, 0⟩ : Cp)))
  have b := Below.then (Below.then b b2 (by omega)) (below_new u6 (objC (⟨4, 3, 1, 5, 0, 0⟩ : Cp))) (by have := b2.size; omega)
  have l := (l.below b2 l.size).below (below_new u6 (objC (⟨4, 3, 1, 5, 0, 0⟩ : Cp))) (l.below b2 l.size).size
  have s6 := AtC.new u6 (⟨4, 3, 1, 5, 0, 0⟩ : Cp)
  clear b2 hb
  simp only [objC] at b l s0 s1 s3 s5 s6
  go_wp2_with fail
  generalize u6.alloc (Obj.cells #[.int .i64 4, .int .i64 3, .int .i64 1, .int .u64 5, .int .u64 0, .int .i64 0] 24) = v6 at *
  generalize u6.heap.size = q6 at *
  have hb := s0.lt
  refine (fx7 _ l).mono ?_
  rintro e u7 ⟨rfl, b2⟩
  have s0 := (s0.below b2).below (below_new _ (objC (⟨0, 0, 0, 0, 0, 0⟩ : Cp)))
  have s1 := (s1.below b2).below (below_new _ (objC (⟨0, 0, 0, 0, 0, 0⟩ : Cp)))
  have s3 := (s3.below b2).below (below_new _ (objC (⟨0, 0, 0, 0, 0, 0⟩ : Cp)))
  have s5 := (s5.below b2).below (below_new _ (objC (⟨0, 0, 0, 0, 0, 0⟩ : Cp)))
  have s6 := (s6.below b2).below (below_new _ (objC (⟨0, 0, 0, 0, 0, 0⟩ : Cp)))
  have b := Below.then (Below.then b b2 (by omega)) (below_new u7 (objC (⟨0, 0, 0, 0, 0, 0⟩ : Cp))) (by have := b2.size; omega)
  have l := (l.below b2 l.size).below (below_new u7 (objC (⟨0, 0, 0, 0, 0, 0⟩ : Cp))) (l.below b2 l.size).size
  have s7 := AtC.new u7 (⟨0, 0, 0, 0, 0, 0⟩ : Cp)
  clear b2 hb
  simp only [objC] at b l s0 s1 s3 s5 s6 s7
  clear s7
  go_upto_region 9 with fail
  generalize u7.alloc (Obj.cells #[.int .i64 0, .int .i64 0, .int .i64 0, .int .u64 0, .int .u64 0, .int .i64 0] 24) = v7 at *
  generalize u7.heap.size = q7 at *
  obtain ⟨s0c0, s0c1, s0c2, s0c3, s0c4, s0c5⟩ := s0.cells
  obtain ⟨s1c0, s1c1, s1c2, s1c3, s1c4, s1c5⟩ := s1.cells
  obtain ⟨s3c0, s3c1, s3c2, s3c3, s3c4, s3c5⟩ := s3.cells
  obtain ⟨s5c0, s5c1⟩ := s5.cells
  obtain ⟨s6c0, s6c1, s6c2, s6c3, s6c4, s6c5⟩ := s6.cells
  simp only at s0c0 s0c1 s0c2 s0c3 s0c4 s0c5 s1c0 s1c1 s1c2 s1c3 s1c4 s1c5 s3c0 s3c1 s3c2 s3c3 s3c4 s3c5 s6c0 s6c1 s6c2 s6c3 s6c4 s6c5
  have S0 : Hid (AtC v7 r (⟨4, 3, 7, 0, 0, 0⟩ : Cp)) := s0
  have S1 : Hid (AtC v7 q1 (⟨4, 3, 1, 5, 0, 0⟩ : Cp)) := s1
  have B : Hid (Below r w v7) := b
  clear s0 s1 s3 s5 s6 b l
  go_wp2_with fail
  refine (fx8 _).mono ?_
  rintro e v8 ⟨rfl, b2⟩
  have s0 := S0.out.below b2
  have s1 := S1.out.below b2
  have b := Below.then B.out b2 (Nat.le_of_lt S0.out.lt)
  clear S0 S1 B b2 s0c0 s0c1 s0c2 s0c3 s0c4 s0c5 s1c0 s1c1 s1c2 s1c3 s1c4 s1c5 s3c0 s3c1 s3c2 s3c3 s3c4 s3c5 s6c0 s6c1 s6c2 s6c3 s6c4 s6c5 s5c0 s5c1
  obtain ⟨s0c0, s0c1, s0c2, s0c3, s0c4, s0c5⟩ := s0.cells
  obtain ⟨s1c0, s1c1, s1c2, s1c3, s1c4, s1c5⟩ := s1.cells
  have S0 : Hid (AtC v8 r (⟨4, 3, 7, 0, 0, 0⟩ : Cp)) := s0
  have S1 : Hid (AtC v8 q1 (⟨4, 3, 1, 5, 0, 0⟩ : Cp)) := s1
  have B : Hid (Below r w v8) := b
  clear s0 s1 b
  go_wp2_with fail
  refine (fx9 _).mono ?_
  rintro e v9 ⟨rfl, b2⟩
  have s0 := S0.out.below b2
  have s1 := S1.out.below b2
  have b := Below.then B.out b2 (Nat.le_of_lt S0.out.lt)
  clear S0 S1 B b2 s0c0 s0c1 s0c2 s0c3 s0c4 s0c5 s1c0 s1c1 s1c2 s1c3 s1c4 s1c5
  obtain ⟨s0c0, s0c1, s0c2, s0c3, s0c4, s0c5⟩ := s0.cells
  obtain ⟨s1c0, s1c1, s1c2, s1c3, s1c4, s1c5⟩ := s1.cells
  have S0 : Hid (AtC v9 r (⟨4, 3, 7, 0, 0, 0⟩ : Cp)) := s0
  have S1 : Hid (AtC v9 q1 (⟨4, 3, 1, 5, 0, 0⟩ : Cp)) := s1
  have B : Hid (Below r w v9) := b
  clear s0 s1 b
  go_wp2_with fail
  refine (fx10 _).mono ?_
  rintro e v10 ⟨rfl, b2⟩
  have s0 := S0.out.below b2
  have s1 := S1.out.below b2
  have b := Below.then B.out b2 (Nat.le_of_lt S0.out.lt)
  clear S0 S1 B b2 s0c0 s0c1 s0c2 s0c3 s0c4 s0c5 s1c0 s1c1 s1c2 s1c3 s1c4 s1c5
  obtain ⟨s0c0, s0c1, s0c2, s0c3, s0c4, s0c5⟩ := s0.cells
  obtain ⟨s1c0, s1c1, s1c2, s1c3, s1c4, s1c5⟩ := s1.cells
  have S0 : Hid (AtC v10 r (⟨4, 3, 7, 0, 0, 0⟩ : Cp)) := s0
  have S1 : Hid (AtC v10 q1 (⟨4, 3, 1, 5, 0, 0⟩ : Cp)) := s1
  have B : Hid (Below r w v10) := b
  clear s0 s1 b
  go_wp2_with fail
  refine (fx11 _).mono ?_
  rintro e v11 ⟨rfl, b2⟩
  have b := Below.then B.out b2 (Nat.le_of_lt S0.out.lt)
  clear S0 S1 B b2 s0c0 s0c1 s0c2 s0c3 s0c4 s0c5 s1c0 s1c1 s1c2 s1c3 s1c4 s1c5
  go_wp2
  go_ret
  exact ⟨rfl, by rw [HR.out]; exact b⟩
end Go.Proofs.YtokehmkegnmfdaaDoor
