/-
  What the statements' own frame gives: calls that came in, each with its bounds; no condition of ours.
-/
import Derived.Test.YthjcodkgcffamaaPSay0
namespace Go.Proofs.Ythjcodkgcffamaa
open Go.ChangeShapes Go.WideShapes Go.ChangeAt Go.RowKit Go.Joins Go.Deep
/-- A call: which, of which place or page, a number, a page. -/
structure Oc where
  k : Int
  l : Int
  n : Int
  p : Pg
def cO (x : Oc) : List Value := [.int .i64 x.k, .int .i64 x.l, .int .i64 x.n, .int .i64 x.p.fr, .int .i64 x.p.rt]
def encO (x : Oc) : Value := .agg #[.int .i64 x.k, .int .i64 x.l, .int .i64 x.n, .int .i64 x.p.fr, .int .i64 x.p.rt]
def objO (x : Oc) : Obj := .cells #[.int .i64 x.k, .int .i64 x.l, .int .i64 x.n, .int .i64 x.p.fr, .int .i64 x.p.rt] 33
structure Oc.Fits (x : Oc) : Prop where
  k : I64 x.k
  l : I64 x.l
  n : I64 x.n
  f : I64 x.p.fr
  t : I64 x.p.rt
abbrev Ops (W : World) (ao : Option Addr) (X : List Oc) : Prop := SeeK 5 cO Oc.Fits W ao X
theorem Ops.at {W : World} {ao : Option Addr} {X : List Oc} (h : Ops W ao X) {i : Nat} {x : Oc} (hx : X[i]? = some x) : x.Fits ∧ ∃ b o, ao = some ⟨b, o, none⟩ ∧ W.cell? ⟨b, o + i * 5, none⟩ = some (.int .i64 x.k) ∧ W.cell? ⟨b, o + i * 5 + 1, none⟩ = some (.int .i64 x.l) ∧ W.cell? ⟨b, o + i * 5 + 2, none⟩ = some (.int .i64 x.n) ∧ W.cell? ⟨b, o + i * 5 + 3, none⟩ = some (.int .i64 x.p.fr) ∧ W.cell? ⟨b, o + i * 5 + 4, none⟩ = some (.int .i64 x.p.rt) := by
  obtain ⟨h1, b, o, e, _, hc⟩ := h i x hx
  exact ⟨h1, b, o, e, hc 0 _ rfl, hc 1 _ rfl, hc 2 _ rfl, hc 3 _ rfl, hc 4 _ rfl⟩
section
variable {H : Type} {enc : TypeId × Value → H} {W : World} {r : Reach} {b0 base : Nat} {sp : Nat → Bool} {held : Bool} {v : Value} {d : DataW H} {p : List MemPlace}
set_option maxRecDepth 100000 in
theorem op_cells {fuel : Nat} {cs : List Value} {x : DataW H × List MemPlace} (h : DataW.trod enc Try.prog W base sp held fuel 33 cs = some x) :
    ∃ x : Oc, cs = cO x ∧ x.Fits := by
  obtain ⟨xs, m, _, _, hl, hlen, hf⟩ := DataW.trod_struct Try.underlying33 h
  have c5 : Try.prog.cellsOf 33 = 5 := by kernel_rfl
  have ci : Try.prog.cellsOf 3 = 1 := by kernel_rfl
  have cp : Try.prog.cellsOf 31 = 2 := by kernel_rfl
  rw [c5] at hl
  match cs, hl with
  | [c0, c1, c2, c3, c4], _ =>
    have h4 : xs.length = 4 := hlen
    match xs, h4 with
    | [x0, x1, x2, x3], _ =>
      have e0 : DataW.trod enc Try.prog W base sp held m 3 (([c0, c1, c2, c3, c4].drop 0).take (Try.prog.cellsOf 3)) = some x0 := hf 0 _ rfl
      have e1 : DataW.trod enc Try.prog W base sp held m 3 (([c0, c1, c2, c3, c4].drop 1).take (Try.prog.cellsOf 3)) = some x1 := hf 1 _ rfl
      have e2 : DataW.trod enc Try.prog W base sp held m 3 (([c0, c1, c2, c3, c4].drop 2).take (Try.prog.cellsOf 3)) = some x2 := hf 2 _ rfl
      have e3 : DataW.trod enc Try.prog W base sp held m 31 (([c0, c1, c2, c3, c4].drop 3).take (Try.prog.cellsOf 31)) = some x3 := hf 3 _ rfl
      rw [ci] at e0 e1 e2
      rw [cp] at e3
      obtain ⟨k0, q0, g0⟩ := int_cells (show DataW.trod enc Try.prog W base sp held m 3 [c0] = some x0 from e0)
      obtain ⟨k1, q1, g1⟩ := int_cells (show DataW.trod enc Try.prog W base sp held m 3 [c1] = some x1 from e1)
      obtain ⟨k2, q2, g2⟩ := int_cells (show DataW.trod enc Try.prog W base sp held m 3 [c2] = some x2 from e2)
      obtain ⟨k3, q3, g3, g4⟩ := page_cells (show DataW.trod enc Try.prog W base sp held m 31 [c3, c4] = some x3 from e3)
      simp only [cI, List.cons.injEq, and_true] at q0 q1 q2 q3
      obtain ⟨q3, q4⟩ := q3
      subst q0 q1 q2 q3 q4
      exact ⟨⟨k0, k1, k2, k3⟩, rfl, ⟨g0, g1, g2, g3, g4⟩⟩
set_option maxRecDepth 100000 in
theorem open_op (hv : Value.okWide Try.prog W r b0 33 v) (h : DataW.Trod enc Try.prog W base sp held 33 v d p) : ∃ x : Oc, v = encO x ∧ x.Fits := by
  obtain ⟨cs, rfl, _⟩ := okWide_struct Try.underlying33 hv
  obtain ⟨fuel, hf⟩ := h
  obtain ⟨x, e, q⟩ := op_cells hf
  refine ⟨x, ?_, q⟩
  have : cs.toList = cO x := by simpa [Value.cells] using e
  unfold encO
  rw [← Array.toArray_toList (xs := cs), this]
  rfl
set_option maxRecDepth 100000 in
theorem open_ops (hv : Value.okWide Try.prog W r b0 22 v) (h : DataW.Trod enc Try.prog W 0 (fun _ => true) held 22 v d p) :
    ∃ (ao : Option Addr) (X : List Oc) (cap : Nat), v = .slice ao X.length cap ∧ Ops W ao X ∧ X.length ≤ 9223372036854775807 :=
  open_rows (k := 5) (by omega) cO (fun _ => rfl) Oc.Fits ⟨0, 0, 0, ⟨0, 0⟩⟩ 22 33 Try.underlying22 (by kernel_rfl) (fun _ _ _ h => op_cells h) hv h
end
section
variable {w0 w : World} {r : Nat} {R : List Th}
theorem Sep.opAt {q : Nat} {x : Oc} (h : Sep w0 r w R) (hm : blk q (objO x) ∈ R) : w.cell? ⟨q, 0, none⟩ = some (.int .i64 x.k) ∧ w.cell? ⟨q, 1, none⟩ = some (.int .i64 x.l) ∧ w.cell? ⟨q, 2, none⟩ = some (.int .i64 x.n) ∧ w.cell? ⟨q, 3, none⟩ = some (.int .i64 x.p.fr) ∧ w.cell? ⟨q, 4, none⟩ = some (.int .i64 x.p.rt) := by
  have h1 : w.heap[q]? = some (objO x) := (h.each _ hm).1
  unfold objO at h1
  refine ⟨?_, ?_, ?_, ?_, ?_⟩ <;> simp [World.cell?, h1]
end
end Go.Proofs.Ythjcodkgcffamaa
