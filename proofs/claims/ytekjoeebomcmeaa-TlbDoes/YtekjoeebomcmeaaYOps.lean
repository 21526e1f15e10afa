/-
  What the statements' own frame gives: calls that came in; no condition of ours.
-/
import Derived.Test.YtekjoeebomcmeaaYSay
namespace Go.Proofs.Ytekjoeebomcmeaa
open Go.ChangeShapes Go.WideShapes Go.ChangeAt Go.RowKit Go.Joins Go.Deep
def cO (x : Oc) : List Value := [.int .i64 x.k, .int .i64 x.l.s, .int .i64 x.l.p, .int .i64 x.l.f, .int .i64 x.l.r]
def objO (x : Oc) : Obj := .cells #[.int .i64 x.k, .int .i64 x.l.s, .int .i64 x.l.p, .int .i64 x.l.f, .int .i64 x.l.r] 35
abbrev Ops (W : World) (ao : Option Addr) (X : List Oc) : Prop := SeeK 5 cO (fun x => I64 x.k) W ao X
theorem Ops.at {W : World} {ao : Option Addr} {X : List Oc} (h : Ops W ao X) {i : Nat} {x : Oc} (hx : X[i]? = some x) : I64 x.k ∧ ∃ b o, ao = some ⟨b, o, none⟩ ∧ W.cell? ⟨b, o + i * 5, none⟩ = some (.int .i64 x.k) ∧ W.cell? ⟨b, o + i * 5 + 1, none⟩ = some (.int .i64 x.l.s) ∧ W.cell? ⟨b, o + i * 5 + 2, none⟩ = some (.int .i64 x.l.p) ∧ W.cell? ⟨b, o + i * 5 + 3, none⟩ = some (.int .i64 x.l.f) ∧ W.cell? ⟨b, o + i * 5 + 4, none⟩ = some (.int .i64 x.l.r) := by
  obtain ⟨h1, b, o, e, _, hc⟩ := h i x hx
  exact ⟨h1, b, o, e, hc 0 _ rfl, hc 1 _ rfl, hc 2 _ rfl, hc 3 _ rfl, hc 4 _ rfl⟩
section
variable {H : Type} {enc : TypeId × Value → H} {W : World} {r : Reach} {b0 base : Nat} {sp : Nat → Bool} {held : Bool} {v : Value} {d : DataW H} {p : List MemPlace}
set_option maxRecDepth 100000 in
theorem op_cells {fuel : Nat} {cs : List Value} {x : DataW H × List MemPlace} (h : DataW.trod enc Try.prog W base sp held fuel 35 cs = some x) :
    ∃ x : Oc, cs = cO x ∧ I64 x.k := by
  obtain ⟨xs, m, _, _, hl, hlen, hf⟩ := DataW.trod_struct Try.underlying35 h
  have c5 : Try.prog.cellsOf 35 = 5 := by kernel_rfl
  have ci : Try.prog.cellsOf 3 = 1 := by kernel_rfl
  have cp : Try.prog.cellsOf 33 = 4 := by kernel_rfl
  rw [c5] at hl
  match cs, hl with
  | [c0, c1, c2, c3, c4], _ =>
    have h2 : xs.length = 2 := hlen
    match xs, h2 with
    | [x0, x1], _ =>
      have e0 : DataW.trod enc Try.prog W base sp held m 3 (([c0, c1, c2, c3, c4].drop 0).take (Try.prog.cellsOf 3)) = some x0 := hf 0 _ rfl
      have e1 : DataW.trod enc Try.prog W base sp held m 33 (([c0, c1, c2, c3, c4].drop 1).take (Try.prog.cellsOf 33)) = some x1 := hf 1 _ rfl
      rw [ci] at e0
      rw [cp] at e1
      obtain ⟨k0, q0, g0⟩ := int_cells (show DataW.trod enc Try.prog W base sp held m 3 [c0] = some x0 from e0)
      obtain ⟨k1, q1, _⟩ := line_cells (show DataW.trod enc Try.prog W base sp held m 33 [c1, c2, c3, c4] = some x1 from e1)
      simp only [cL, List.cons.injEq, and_true] at q0 q1
      obtain ⟨q1, q2, q3, q4⟩ := q1
      subst q0 q1 q2 q3 q4
      exact ⟨⟨k0, k1⟩, rfl, g0⟩
set_option maxRecDepth 100000 in
theorem open_ops (hv : Value.okWide Try.prog W r b0 22 v) (h : DataW.Trod enc Try.prog W 0 (fun _ => true) held 22 v d p) :
    ∃ (ao : Option Addr) (X : List Oc) (cap : Nat), v = .slice ao X.length cap ∧ Ops W ao X ∧ X.length ≤ 9223372036854775807 :=
  open_rows (k := 5) (by omega) cO (fun _ => rfl) (fun x => I64 x.k) ⟨0, lr0⟩ 22 35 Try.underlying22 (by kernel_rfl) (fun _ _ _ h => op_cells h) hv h
end
section
variable {w0 w : World} {r : Nat} {R : List Th}
theorem Sep.opAt {q : Nat} {x : Oc} (h : Sep w0 r w R) (hm : blk q (objO x) ∈ R) : w.cell? ⟨q, 0, none⟩ = some (.int .i64 x.k) ∧ w.cell? ⟨q, 1, none⟩ = some (.int .i64 x.l.s) ∧ w.cell? ⟨q, 2, none⟩ = some (.int .i64 x.l.p) ∧ w.cell? ⟨q, 3, none⟩ = some (.int .i64 x.l.f) ∧ w.cell? ⟨q, 4, none⟩ = some (.int .i64 x.l.r) := by
  have h1 : w.heap[q]? = some (objO x) := (h.each _ hm).1
  unfold objO at h1
  refine ⟨?_, ?_, ?_, ?_, ?_⟩ <;> simp [World.cell?, h1]
end
end Go.Proofs.Ytekjoeebomcmeaa
