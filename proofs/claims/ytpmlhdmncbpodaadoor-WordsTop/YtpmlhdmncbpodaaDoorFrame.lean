/-
  What the statements' own frame gives: the listed table's cells, a struct of two ints and an array of four words as values, each with its bounds; no condition of ours.
-/
import Derived.Test.YtpmlhdmncbpodaaDoorWhole
import Derived.Test.YtpmlhdmncbpodaaDoorCards
import Derived.Test.YtpmlhdmncbpodaaDoorTie
import Derived.WalkKit
import Derived.ProofKit
import Derived.OpenShut
import Derived.LaidMore
import Derived.Deep.DeepHandedRow
import Derived.Lib.LaidTab
import Derived.Lib.SmallJoins
namespace Go.Proofs.YtpmlhdmncbpodaaDoor
open Go.ChangeShapes Go.WideShapes Go.ChangeAt Go.RowKit Go.Joins

theorem own : ownKnob Tryd.prog.godebug = none := by kernel_rfl
theorem laidOut : laidOutB Tryd.prog = true := by kernel_rfl
theorem gTab : Tryd.prog.globalNamed "buttress/words.halves" = some 0 := by kernel_rfl
theorem gTabType : (Tryd.prog.globals[0]?).map (·.type) = some 46 := by kernel_rfl
theorem cellsTab : Tryd.prog.cellsOf 46 = 6 := by kernel_rfl
theorem cellsUint : Tryd.prog.cellsOf 42 = 1 := by kernel_rfl
theorem table {W : World} (h : laidMetH Tryd.prog [("buttress/words.halves", Rows.laid_buttress_words_halves)] W) : Tab W := by
  have t : Lib.TabIs Tryd.prog W "buttress/words.halves" .u64 [32, 16, 8, 4, 2, 1] :=
    Lib.tabIs_of_head (rest := []) gTab gTabType Tryd.underlying46 Tryd.underlying42 cellsUint cellsTab h
  have c : ∀ k, k < 6 → W.cell? ⟨0, k, none⟩ = some (.int .u64 (half k : Nat)) := by
    intro k hk
    have : k = 0 ∨ k = 1 ∨ k = 2 ∨ k = 3 ∨ k = 4 ∨ k = 5 := by omega
    rcases this with rfl | rfl | rfl | rfl | rfl | rfl
    · exact t.cell gTab 0 (by decide)
    · exact t.cell gTab 1 (by decide)
    · exact t.cell gTab 2 (by decide)
    · exact t.cell gTab 3 (by decide)
    · exact t.cell gTab 4 (by decide)
    · exact t.cell gTab 5 (by decide)
  refine ⟨?_, c⟩
  have c0 := c 0 (by decide)
  apply Nat.lt_of_not_le
  intro hle
  have e : W.heap[0]? = none := Array.getElem?_eq_none (by omega)
  simp only [World.cell?, e] at c0
  cases c0
theorem word_wf {b : Int} (h : (Lit.int .u64 b).wf = true) : Word b := ⟨(bounds_u64 h).1, (bounds_u64 h).2⟩

section
variable {H : Type} {enc : TypeId × Value → H} {W : World} {r : Reach} {b0 base : Nat} {sp : Nat → Bool} {held : Bool} {v : Value} {d : DataW H} {p : List MemPlace}
theorem array4 {cs : Array Value} (h : cs.size = 4) : ∃ a b c d, cs = #[a, b, c, d] := by
  obtain ⟨l⟩ := cs
  match l, h with
  | [a, b, c, d], _ => exact ⟨a, b, c, d, rfl⟩
theorem open_bits (hv : Value.okWide Tryd.prog W r b0 35 v) (h : DataW.Trod enc Tryd.prog W base sp held 35 v d p) :
    ∃ x0 x1 x2 x3 : Int, v = .agg #[.int .u64 x0, .int .u64 x1, .int .u64 x2, .int .u64 x3] ∧ Word x0 ∧ Word x1 ∧ Word x2 ∧ Word x3 := by
  have hu : Tryd.prog.underlying 35 = some (.array 4 22) := Tryd.underlying35
  have c4 : Tryd.prog.cellsOf 35 = 4 := by kernel_rfl
  have c1 : Tryd.prog.cellsOf 22 = 1 := by kernel_rfl
  unfold Value.okWide at hv
  rw [hu] at hv
  obtain ⟨cs, rfl, hsz, _⟩ := hv
  obtain ⟨a, b, c, e, rfl⟩ := array4 (hsz.trans c4)
  obtain ⟨fuel, hf⟩ := h
  obtain ⟨xs, m, _, _, _, _, hel⟩ := DataW.trod_array hu hf
  have e0 := hel 0 (by decide)
  have e1 := hel 1 (by decide)
  have e2 := hel 2 (by decide)
  have e3 := hel 3 (by decide)
  rw [c1] at e0 e1 e2 e3
  have n4 : xs.length = 4 := by assumption
  match xs, n4 with
  | [y0, y1, y2, y3], _ =>
    obtain ⟨k0, q0, _, g0⟩ := DataW.trod_int Tryd.underlying22 (show DataW.trod enc Tryd.prog W base sp held m 22 [a] = some y0 from e0)
    obtain ⟨k1, q1, _, g1⟩ := DataW.trod_int Tryd.underlying22 (show DataW.trod enc Tryd.prog W base sp held m 22 [b] = some y1 from e1)
    obtain ⟨k2, q2, _, g2⟩ := DataW.trod_int Tryd.underlying22 (show DataW.trod enc Tryd.prog W base sp held m 22 [c] = some y2 from e2)
    obtain ⟨k3, q3, _, g3⟩ := DataW.trod_int Tryd.underlying22 (show DataW.trod enc Tryd.prog W base sp held m 22 [e] = some y3 from e3)
    simp only [List.cons.injEq, and_true] at q0 q1 q2 q3
    subst q0 q1 q2 q3
    exact ⟨k0, k1, k2, k3, rfl, word_wf g0, word_wf g1, word_wf g2, word_wf g3⟩
theorem open_part (hv : Value.okWide Tryd.prog W r b0 24 v) (h : DataW.Trod enc Tryd.prog W base sp held 24 v d p) :
    ∃ x y : Int, v = .agg #[.int .i64 x, .int .i64 y] ∧ (-9223372036854775808 ≤ x ∧ x ≤ 9223372036854775807) ∧ (-9223372036854775808 ≤ y ∧ y ≤ 9223372036854775807) := by
  obtain ⟨c0, c1, y0, y1, m, rfl, _, _, hy0, hy1⟩ := open_agg2 Tryd.underlying24 (by kernel_rfl) (by kernel_rfl) hv h
  obtain ⟨a, e0, _, wa⟩ := DataW.trod_int Tryd.underlying3 hy0
  obtain ⟨b, e1, _, wb⟩ := DataW.trod_int Tryd.underlying3 hy1
  simp only [List.cons.injEq, and_true] at e0 e1
  subst e0 e1
  exact ⟨a, b, rfl, bounds_i64 wa, bounds_i64 wb⟩
end
end Go.Proofs.YtpmlhdmncbpodaaDoor
