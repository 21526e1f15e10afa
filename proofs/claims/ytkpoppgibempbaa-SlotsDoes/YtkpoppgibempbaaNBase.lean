/-
  How a capability lies in the world, and when two are equal to the program; no condition of ours.
-/
import Derived.Test.YtkpoppgibempbaaNFields
import Derived.Deep.QuietTactic
import Derived.BigQuiet
import Derived.Laws.StructEq
import Derived.Below
import Derived.Deep.OwnRows
import Derived.Deep.RegionWith
import Derived.Deep.RegionHeld3
namespace Go.Proofs.Ytkpoppgibempbaa
open Go.RowKit Go.Deep
set_option linter.unusedSectionVars false
variable [dCp : DecidableEq Cp] [dLim : ∀ k, Decidable (Lim k)] [dBad : ∀ k, Decidable (Bad k)] [dFit : ∀ g z, Decidable (Fit g z)] [dFine : ∀ c, Decidable (Fine c)] [dMint : ∀ c v, Decidable (MintR c v)] [dWho : ∀ x y, Decidable (Whose x y)]

def sixC (c : Cp) : List Value := [.int .i64 c.k, .int .i64 c.o, .int .i64 c.r, .int .u64 c.b, .int .u64 c.g, .int .i64 c.z]
def encC (c : Cp) : Value := .agg #[.int .i64 c.k, .int .i64 c.o, .int .i64 c.r, .int .u64 c.b, .int .u64 c.g, .int .i64 c.z]
def objC (c : Cp) : Obj := .cells #[.int .i64 c.k, .int .i64 c.o, .int .i64 c.r, .int .u64 c.b, .int .u64 c.g, .int .i64 c.z] 33

theorem below_new (w : World) (o : Obj) : Below w.heap.size w (w.alloc o) := (Below.refl _ _).alloc (Nat.le_refl _) _
theorem Below.then {B : Nat} {a b c : World} (h : Below B a b) (k : Below b.heap.size b c) (hB : B ≤ b.heap.size) : Below B a c := h.trans (k.mono hB)
/-- Block q is the capability c. -/
def AtC (w : World) (q : Nat) (c : Cp) : Prop := w.heap[q]? = some (objC c)
theorem AtC.lt {w : World} {q : Nat} {c : Cp} (h : AtC w q c) : q < w.heap.size := (Array.getElem?_eq_some_iff.1 h).1
theorem AtC.new (w : World) (c : Cp) : AtC (w.alloc (objC c)) w.heap.size c := blk_alloc_new _ _
theorem AtC.below {w w' : World} {q : Nat} {c : Cp} (h : AtC w q c) (u : Below w.heap.size w w') : AtC w' q c := (u.block _ h.lt).trans h
theorem AtC.cells {w : World} {q : Nat} {c : Cp} (h : AtC w q c) : w.cell? ⟨q, 0, none⟩ = some (.int .i64 c.k) ∧ w.cell? ⟨q, 1, none⟩ = some (.int .i64 c.o) ∧ w.cell? ⟨q, 2, none⟩ = some (.int .i64 c.r) ∧ w.cell? ⟨q, 3, none⟩ = some (.int .u64 c.b) ∧ w.cell? ⟨q, 4, none⟩ = some (.int .u64 c.g) ∧ w.cell? ⟨q, 5, none⟩ = some (.int .i64 c.z) := by
  unfold AtC objC at h
  refine ⟨?_, ?_, ?_, ?_, ?_, ?_⟩ <;> simp [World.cell?, h]
theorem AtC.frozen {w : World} {q : Nat} {c : Cp} (h : AtC w q c) (j : Nat) : w.frozen? ⟨q, j, none⟩ = false := by
  unfold AtC objC at h
  simp [World.frozen?, h]

/-! ### Equal to the program -/
theorem eq_caps (w : World) (a c : Cp) :
    (Op.equalIn 10000 33 (.agg #[.int .i64 a.k, .int .i64 a.o, .int .i64 a.r, .int .u64 a.b, .int .u64 a.g, .int .i64 a.z]) (.agg #[.int .i64 c.k, .int .i64 c.o, .int .i64 c.r, .int .u64 c.b, .int .u64 c.g, .int .i64 c.z])).run Try.prog w
      = .ok (decide (a = c)) w := by
  have u3 := Try.underlying3
  have u4 := Try.underlying31
  have a3 := Try.isAgg3
  have a4 := Try.isAgg31
  have z3 := Try.sizeOf3
  have z4 := Try.sizeOf31
  have hS : Try.prog.underlying 33 = some (.struct (Try.prog.fieldsOf 33)) := by kernel_rfl
  have hp : Try.prog.stoodInHeld 33 = false := by kernel_rfl
  rw [show (10000 : Nat) = 9999 + 1 from rfl, run_equalIn_agg w 9999 33 _ _ hS hp]
  simp only [Program.fieldsOf, Try.underlying33]
  go_simp
  obtain ⟨k, o, r, b, g, z⟩ := a
  obtain ⟨k', o', r', b', g', z'⟩ := c
  by_cases h1 : k = k' <;> by_cases h2 : o = o' <;> by_cases h3 : r = r' <;> by_cases h4 : b = b' <;> by_cases h5 : g = g' <;> by_cases h6 : z = z' <;> simp [h1, h2, h3, h4, h5, h6]
theorem ret_bool {a b : Bool} (h : a = true ↔ b = true) : Ending.returned (.bool a) = .returned (.bool b) := by rw [Bool.eq_iff_iff.2 h]
theorem two_new (w : World) (o o' : Obj) : Below w.heap.size w ((w.alloc o).alloc o') := ((Below.refl _ _).alloc (Nat.le_refl _) _).alloc (by simp) _
end Go.Proofs.Ytkpoppgibempbaa
