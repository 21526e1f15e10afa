/-
  What the statements' own frame gives: a list of words and a call of a script that came in; no condition of ours.
-/
import Derived.Test.YtfdddikgcfejpaaMemFixed
import Derived.ProofKit
import Derived.OpenShut
import Derived.ShutString
import Derived.ChangeOld
import Derived.Lib.SmallJoins
import Derived.Deep.Slices
namespace Go.Proofs.Ytfdddikgcfejpaa
open Go.ChangeShapes Go.WideShapes Go.ChangeAt Go.RowKit Go.Joins
theorem own : ownKnob Try.prog.godebug = none := by kernel_rfl
theorem laidOut : laidOutB Try.prog = true := by kernel_rfl
/-- What an int holds. -/
def I64 (x : Int) : Prop := -9223372036854775808 ≤ x ∧ x ≤ 9223372036854775807
section
variable {H : Type} {enc : TypeId × Value → H} {W : World} {r : Reach} {b0 base : Nat} {sp : Nat → Bool} {held : Bool} {v : Value} {d : DataW H} {p : List MemPlace}
theorem open_words (hv : Value.okWide Try.prog W r b0 36 v) (h : DataW.Trod enc Try.prog W 0 (fun _ => true) held 36 v d p) :
    ∃ (ao : Option Addr) (L : List Int) (cap : Nat), v = .slice ao L.length cap ∧ Told W ao L ∧ L.length ≤ 9223372036854775807 := by
  obtain ⟨a0, len0, cap0, rfl⟩ := okWide_slice Try.underlying36 hv
  obtain ⟨fuel, hf⟩ := h
  rcases open_ints Try.underlying36 Try.underlying30 (by kernel_rfl) hf with ⟨hcs, _⟩ | ⟨x, l, c, zs, hcs, _, hl, hm, hz, _, hcell, hwz⟩
  · simp [Value.cells] at hcs
    obtain ⟨rfl, rfl, rfl⟩ := hcs
    exact ⟨none, [], 0, rfl, .inl rfl, by simp⟩
  · simp [Value.cells] at hcs
    obtain ⟨rfl, rfl, rfl⟩ := hcs
    have hz' : zs.length = cap0 := by simpa using hz
    have hlen : (zs.take len0).length = len0 := by simp; omega
    refine ⟨some x, zs.take len0, cap0, by rw [hlen], ?_, by rw [hlen]; unfold maxLen at hm; omega⟩
    by_cases h0 : len0 = 0
    · subst h0
      exact .inl (by simp)
    · obtain ⟨b, off, spot⟩ := x
      have hc0 := hcell 0 (by omega)
      have hspot : spot = none := by simpa [Addr.add] using World.cell?_spot hc0
      subst hspot
      have ea : ∀ j, (⟨b, off, none⟩ : Addr).add j = ⟨b, off + j, none⟩ := fun j => by unfold Addr.add; split <;> simp_all
      refine .inr ⟨b, off, rfl, ?_, fun j hj => ?_⟩
      · rw [ea] at hc0
        exact World.block_lt_of_cell? W _ hc0
      · rw [hlen] at hj
        have := hcell j (by omega)
        rw [ea] at this
        rw [this]
        simp [hj]
theorem op_cells {fuel : Nat} {cs : List Value} {x : DataW H × List MemPlace} (h : DataW.trod enc Try.prog W base sp held fuel 32 cs = some x) :
    ∃ k a f n y : Int, cs = [.int .i64 k, .int .i64 a, .int .i64 f, .int .i64 n, .int .u64 y] ∧ I64 k ∧ I64 a ∧ I64 f ∧ I64 n := by
  obtain ⟨xs, m, _, _, hl, hlen, hf⟩ := DataW.trod_struct Try.underlying32 h
  have c5 : Try.prog.cellsOf 32 = 5 := by kernel_rfl
  have ci : Try.prog.cellsOf 3 = 1 := by kernel_rfl
  have cu : Try.prog.cellsOf 30 = 1 := by kernel_rfl
  rw [c5] at hl
  match cs, hl with
  | [c0, c1, c2, c3, c4], _ =>
    have h5 : xs.length = 5 := hlen
    match xs, h5 with
    | [x0, x1, x2, x3, x4], _ =>
      have e0 : DataW.trod enc Try.prog W base sp held m 3 (([c0, c1, c2, c3, c4].drop 0).take (Try.prog.cellsOf 3)) = some x0 := hf 0 _ rfl
      rw [ci] at e0
      have e1 : DataW.trod enc Try.prog W base sp held m 3 (([c0, c1, c2, c3, c4].drop 1).take (Try.prog.cellsOf 3)) = some x1 := hf 1 _ rfl
      rw [ci] at e1
      have e2 : DataW.trod enc Try.prog W base sp held m 3 (([c0, c1, c2, c3, c4].drop 2).take (Try.prog.cellsOf 3)) = some x2 := hf 2 _ rfl
      rw [ci] at e2
      have e3 : DataW.trod enc Try.prog W base sp held m 3 (([c0, c1, c2, c3, c4].drop 3).take (Try.prog.cellsOf 3)) = some x3 := hf 3 _ rfl
      rw [ci] at e3
      have e4 : DataW.trod enc Try.prog W base sp held m 30 (([c0, c1, c2, c3, c4].drop 4).take (Try.prog.cellsOf 30)) = some x4 := hf 4 _ rfl
      rw [cu] at e4
      obtain ⟨k0, q0, _, g0⟩ := DataW.trod_int Try.underlying3 (show DataW.trod enc Try.prog W base sp held m 3 [c0] = some x0 from e0)
      obtain ⟨k1, q1, _, g1⟩ := DataW.trod_int Try.underlying3 (show DataW.trod enc Try.prog W base sp held m 3 [c1] = some x1 from e1)
      obtain ⟨k2, q2, _, g2⟩ := DataW.trod_int Try.underlying3 (show DataW.trod enc Try.prog W base sp held m 3 [c2] = some x2 from e2)
      obtain ⟨k3, q3, _, g3⟩ := DataW.trod_int Try.underlying3 (show DataW.trod enc Try.prog W base sp held m 3 [c3] = some x3 from e3)
      obtain ⟨k4, q4, _, g4⟩ := DataW.trod_int Try.underlying30 (show DataW.trod enc Try.prog W base sp held m 30 [c4] = some x4 from e4)
      simp only [List.cons.injEq, and_true] at q0 q1 q2 q3 q4
      subst q0 q1 q2 q3 q4
      exact ⟨k0, k1, k2, k3, k4, rfl, bounds_i64 g0, bounds_i64 g1, bounds_i64 g2, bounds_i64 g3⟩
theorem open_op (hv : Value.okWide Try.prog W r b0 32 v) (h : DataW.Trod enc Try.prog W base sp held 32 v d p) :
    ∃ k a f n y : Int, v = .agg #[.int .i64 k, .int .i64 a, .int .i64 f, .int .i64 n, .int .u64 y] ∧ I64 k ∧ I64 a ∧ I64 f ∧ I64 n := by
  obtain ⟨cs, rfl, _⟩ := okWide_struct Try.underlying32 hv
  obtain ⟨fuel, hf⟩ := h
  obtain ⟨k, a, f, n, y, e, q⟩ := op_cells hf
  refine ⟨k, a, f, n, y, ?_, q⟩
  have : cs.toList = [.int .i64 k, .int .i64 a, .int .i64 f, .int .i64 n, .int .u64 y] := by simpa [Value.cells] using e
  rw [← Array.toArray_toList (xs := cs), this]
end
end Go.Proofs.Ytfdddikgcfejpaa
