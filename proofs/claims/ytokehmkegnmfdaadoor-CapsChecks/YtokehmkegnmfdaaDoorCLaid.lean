/-
  The program's four places, as it laid them; no condition of ours.
-/
import Derived.Test.YtokehmkegnmfdaaDoorCBase
namespace Go.Proofs.YtokehmkegnmfdaaDoor
open Go.RowKit Go.Deep
set_option linter.unusedSectionVars false
variable [dCp : DecidableEq Cp] [dLim : ∀ k, Decidable (Lim k)] [dBad : ∀ k, Decidable (Bad k)] [dFit : ∀ g z, Decidable (Fit g z)] [dFine : ∀ c, Decidable (Fine c)] [dMint : ∀ c v, Decidable (MintR c v)] [dWho : ∀ x y, Decidable (Whose x y)]
/-- The four places lie as the program laid them. -/
structure Laid (w : World) : Prop where
  size : 4 ≤ w.heap.size
  k0 : w.cell? ⟨0, 0, none⟩ = some (.int .i64 0)
  k1 : w.cell? ⟨0, 1, none⟩ = some (.int .i64 4)
  r0 : w.cell? ⟨1, 0, none⟩ = some (.int .i64 4)
  r1 : w.cell? ⟨1, 1, none⟩ = some (.int .i64 3)
  b0 : w.cell? ⟨2, 0, none⟩ = some (.int .i64 7)
  b1 : w.cell? ⟨2, 1, none⟩ = some (.int .i64 7)
  o0 : w.cell? ⟨3, 0, none⟩ = some (.int .i64 16)
  o1 : w.cell? ⟨3, 1, none⟩ = some (.int .i64 31)
theorem Laid.below {w w' : World} {B : Nat} (h : Laid w) (b : Below B w w') (hB : 4 ≤ B) : Laid w' := by
  have g : ∀ p : Addr, p.block < 4 → w'.cell? p = w.cell? p := fun p hp => b.cell (p := p) (by omega)
  exact ⟨Nat.le_trans h.size b.size, (g _ (by decide)).trans h.k0, (g _ (by decide)).trans h.k1, (g _ (by decide)).trans h.r0, (g _ (by decide)).trans h.r1, (g _ (by decide)).trans h.b0, (g _ (by decide)).trans h.b1, (g _ (by decide)).trans h.o0, (g _ (by decide)).trans h.o1⟩
end Go.Proofs.YtokehmkegnmfdaaDoor
