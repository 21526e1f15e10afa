/-
  What the statements' own frame gives: lines and calls that came in; no condition of ours.
-/
import Derived.Test.YtekjoeebomcmeaaGSay
import Derived.Test.YtekjoeebomcmeaaYEq
namespace Go.Proofs.Ytekjoeebomcmeaa
open Go.ChangeShapes Go.WideShapes Go.ChangeAt Go.RowKit Go.Joins Go.Deep
/-- A call: which, a line. -/
structure Oc where
  k : Int
  l : Lr
section
variable {H : Type} {enc : TypeId × Value → H} {W : World} {r : Reach} {b0 base : Nat} {sp : Nat → Bool} {held : Bool} {v : Value} {d : DataW H} {p : List MemPlace}
set_option maxRecDepth 100000 in
theorem page_cells {fuel : Nat} {cs : List Value} {x : DataW H × List MemPlace} (h : DataW.trod enc Try.prog W base sp held fuel 31 cs = some x) : ∃ a b : Int, cs = [.int .i64 a, .int .i64 b] := by
  obtain ⟨xs, m, _, _, hl, hlen, hf⟩ := DataW.trod_struct Try.underlying31 h
  have c2 : Try.prog.cellsOf 31 = 2 := by kernel_rfl
  have ci : Try.prog.cellsOf 3 = 1 := by kernel_rfl
  rw [c2] at hl
  match cs, hl with
  | [c0, c1], _ =>
    have h2 : xs.length = 2 := hlen
    match xs, h2 with
    | [x0, x1], _ =>
      have e0 : DataW.trod enc Try.prog W base sp held m 3 (([c0, c1].drop 0).take (Try.prog.cellsOf 3)) = some x0 := hf 0 _ rfl
      have e1 : DataW.trod enc Try.prog W base sp held m 3 (([c0, c1].drop 1).take (Try.prog.cellsOf 3)) = some x1 := hf 1 _ rfl
      rw [ci] at e0 e1
      obtain ⟨k0, q0, _⟩ := int_cells (show DataW.trod enc Try.prog W base sp held m 3 [c0] = some x0 from e0)
      obtain ⟨k1, q1, _⟩ := int_cells (show DataW.trod enc Try.prog W base sp held m 3 [c1] = some x1 from e1)
      simp only [List.cons.injEq, and_true] at q0 q1
      subst q0 q1
      exact ⟨k0, k1, rfl⟩
set_option maxRecDepth 100000 in
theorem line_cells {fuel : Nat} {cs : List Value} {x : DataW H × List MemPlace} (h : DataW.trod enc Try.prog W base sp held fuel 33 cs = some x) : ∃ x : Lr, cs = cL x ∧ True := by
  obtain ⟨xs, m, _, _, hl, hlen, hf⟩ := DataW.trod_struct Try.underlying33 h
  have c4 : Try.prog.cellsOf 33 = 4 := by kernel_rfl
  have ci : Try.prog.cellsOf 3 = 1 := by kernel_rfl
  have cp : Try.prog.cellsOf 31 = 2 := by kernel_rfl
  rw [c4] at hl
  match cs, hl with
  | [c0, c1, c2, c3], _ =>
    have h3 : xs.length = 3 := hlen
    match xs, h3 with
    | [x0, x1, x2], _ =>
      have e0 : DataW.trod enc Try.prog W base sp held m 3 (([c0, c1, c2, c3].drop 0).take (Try.prog.cellsOf 3)) = some x0 := hf 0 _ rfl
      have e1 : DataW.trod enc Try.prog W base sp held m 3 (([c0, c1, c2, c3].drop 1).take (Try.prog.cellsOf 3)) = some x1 := hf 1 _ rfl
      have e2 : DataW.trod enc Try.prog W base sp held m 31 (([c0, c1, c2, c3].drop 2).take (Try.prog.cellsOf 31)) = some x2 := hf 2 _ rfl
      rw [ci] at e0 e1
      rw [cp] at e2
      obtain ⟨k0, q0, _⟩ := int_cells (show DataW.trod enc Try.prog W base sp held m 3 [c0] = some x0 from e0)
      obtain ⟨k1, q1, _⟩ := int_cells (show DataW.trod enc Try.prog W base sp held m 3 [c1] = some x1 from e1)
      obtain ⟨k2, k3, q2⟩ := page_cells (show DataW.trod enc Try.prog W base sp held m 31 [c2, c3] = some x2 from e2)
      simp only [List.cons.injEq, and_true] at q0 q1 q2
      obtain ⟨q2, q3⟩ := q2
      subst q0 q1 q2 q3
      exact ⟨⟨k0, k1, k2, k3⟩, rfl, trivial⟩
set_option maxRecDepth 100000 in
theorem open_line (hv : Value.okWide Try.prog W r b0 33 v) (h : DataW.Trod enc Try.prog W base sp held 33 v d p) : ∃ x : Lr, v = encL x ∧ True := by
  obtain ⟨cs, rfl, _⟩ := okWide_struct Try.underlying33 hv
  obtain ⟨fuel, hf⟩ := h
  obtain ⟨x, e, q⟩ := line_cells hf
  refine ⟨x, ?_, q⟩
  have : cs.toList = cL x := by simpa [Value.cells] using e
  unfold encL
  rw [← Array.toArray_toList (xs := cs), this]
  rfl
set_option maxRecDepth 100000 in
theorem open_lines (hv : Value.okWide Try.prog W r b0 42 v) (h : DataW.Trod enc Try.prog W 0 (fun _ => true) held 42 v d p) :
    ∃ (ao : Option Addr) (X : St) (cap : Nat), v = .slice ao X.length cap ∧ SeeL W ao X ∧ X.length ≤ 9223372036854775807 := by
  obtain ⟨ao, X, cap, e, hs, hl⟩ := open_rows (k := 4) (by omega) cL (fun _ => rfl) (fun _ => True) lr0 42 33 Try.underlying42 (by kernel_rfl) (fun _ _ _ h => line_cells h) hv h
  refine ⟨ao, X, cap, e, fun i x hx => ?_, hl⟩
  obtain ⟨_, b, o, e, hb, hc⟩ := hs i x hx
  exact ⟨b, o, e, hb, hc⟩
end
theorem SeeL.from {W W' : World} {ao : Option Addr} {X : St} {r : Nat} (h : SeeL W ao X) (hr : W.heap.size = r) (hb : Below r W W') : SeeL W' ao X := h.below (by rw [hr]; exact hb)
end Go.Proofs.Ytekjoeebomcmeaa
