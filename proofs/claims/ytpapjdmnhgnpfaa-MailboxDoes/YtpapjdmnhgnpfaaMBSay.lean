/-
  What the statements' own frame gives: numbers, calls and messages that came in; no condition of ours.
-/
import Derived.Test.YtpapjdmnhgnpfaaGSay
import Derived.Test.YtpapjdmnhgnpfaaGMask
import Derived.Test.YtpapjdmnhgnpfaaMBBase
namespace Go.Proofs.Ytpapjdmnhgnpfaa
open Go.ChangeShapes Go.WideShapes Go.ChangeAt Go.RowKit Go.Joins Go.Deep
/-- A call: which, of which cores, of which kind, about what. -/
structure Oc where
  k : Int
  f : Int
  t : Int
  h : Int
  a : Int
def cO (x : Oc) : List Value := [.int .i64 x.k, .int .i64 x.f, .int .i64 x.t, .int .i64 x.h, .int .i64 x.a]
def objO (x : Oc) : Obj := .cells #[.int .i64 x.k, .int .i64 x.f, .int .i64 x.t, .int .i64 x.h, .int .i64 x.a] 31
def OcI (x : Oc) : Prop := I64 x.k ∧ I64 x.f ∧ I64 x.t ∧ I64 x.h ∧ I64 x.a
abbrev Ops (W : World) (ao : Option Addr) (X : List Oc) : Prop := SeeK 5 cO OcI W ao X
theorem Ops.at {W : World} {ao : Option Addr} {X : List Oc} (h : Ops W ao X) {i : Nat} {x : Oc} (hx : X[i]? = some x) : OcI x ∧ ∃ b o, ao = some ⟨b, o, none⟩ ∧ W.cell? ⟨b, o + i * 5, none⟩ = some (.int .i64 x.k) ∧ W.cell? ⟨b, o + i * 5 + 1, none⟩ = some (.int .i64 x.f) ∧ W.cell? ⟨b, o + i * 5 + 2, none⟩ = some (.int .i64 x.t) ∧ W.cell? ⟨b, o + i * 5 + 3, none⟩ = some (.int .i64 x.h) ∧ W.cell? ⟨b, o + i * 5 + 4, none⟩ = some (.int .i64 x.a) := by
  obtain ⟨h1, b, o, e, _, hc⟩ := h i x hx
  exact ⟨h1, b, o, e, hc 0 _ rfl, hc 1 _ rfl, hc 2 _ rfl, hc 3 _ rfl, hc 4 _ rfl⟩
section
variable {H : Type} {enc : TypeId × Value → H} {W : World} {r : Reach} {b0 base : Nat} {sp : Nat → Bool} {held : Bool} {v : Value} {d : DataW H} {p : List MemPlace}
set_option maxRecDepth 100000 in
theorem op_cells {fuel : Nat} {cs : List Value} {x : DataW H × List MemPlace} (h : DataW.trod enc Try.prog W base sp held fuel 31 cs = some x) :
    ∃ x : Oc, cs = cO x ∧ I64 x.k ∧ I64 x.f ∧ I64 x.t ∧ I64 x.h ∧ I64 x.a := by
  obtain ⟨xs, m, _, _, hl, hlen, hf⟩ := DataW.trod_struct Try.underlying31 h
  have c2 : Try.prog.cellsOf 31 = 5 := by kernel_rfl
  have ci : Try.prog.cellsOf 3 = 1 := by kernel_rfl
  rw [c2] at hl
  match cs, hl with
  | [c0, c1, c2, c3, c4], _ =>
    have h2 : xs.length = 5 := hlen
    match xs, h2 with
    | [x0, x1, x2, x3, x4], _ =>
      have e0 : DataW.trod enc Try.prog W base sp held m 3 (([c0, c1, c2, c3, c4].drop 0).take (Try.prog.cellsOf 3)) = some x0 := hf 0 _ rfl
      have e1 : DataW.trod enc Try.prog W base sp held m 3 (([c0, c1, c2, c3, c4].drop 1).take (Try.prog.cellsOf 3)) = some x1 := hf 1 _ rfl
      have e2 : DataW.trod enc Try.prog W base sp held m 3 (([c0, c1, c2, c3, c4].drop 2).take (Try.prog.cellsOf 3)) = some x2 := hf 2 _ rfl
      have e3 : DataW.trod enc Try.prog W base sp held m 3 (([c0, c1, c2, c3, c4].drop 3).take (Try.prog.cellsOf 3)) = some x3 := hf 3 _ rfl
      have e4 : DataW.trod enc Try.prog W base sp held m 3 (([c0, c1, c2, c3, c4].drop 4).take (Try.prog.cellsOf 3)) = some x4 := hf 4 _ rfl
      rw [ci] at e0 e1 e2 e3 e4
      obtain ⟨k0, q0, g0⟩ := int_cells (show DataW.trod enc Try.prog W base sp held m 3 [c0] = some x0 from e0)
      obtain ⟨k1, q1, g1⟩ := int_cells (show DataW.trod enc Try.prog W base sp held m 3 [c1] = some x1 from e1)
      obtain ⟨k2, q2, g2⟩ := int_cells (show DataW.trod enc Try.prog W base sp held m 3 [c2] = some x2 from e2)
      obtain ⟨k3, q3, g3⟩ := int_cells (show DataW.trod enc Try.prog W base sp held m 3 [c3] = some x3 from e3)
      obtain ⟨k4, q4, g4⟩ := int_cells (show DataW.trod enc Try.prog W base sp held m 3 [c4] = some x4 from e4)
      simp only [List.cons.injEq, and_true] at q0 q1 q2 q3 q4
      subst q0 q1 q2 q3 q4
      exact ⟨⟨k0, k1, k2, k3, k4⟩, rfl, g0, g1, g2, g3, g4⟩
set_option maxRecDepth 100000 in
theorem mail_cells {fuel : Nat} {cs : List Value} {x : DataW H × List MemPlace} (h : DataW.trod enc Try.prog W base sp held fuel 35 cs = some x) :
    ∃ x : Ml, cs = cM x ∧ I64 x.f ∧ I64 x.k ∧ I64 x.a := by
  obtain ⟨xs, m, _, _, hl, hlen, hf⟩ := DataW.trod_struct Try.underlying35 h
  have c2 : Try.prog.cellsOf 35 = 3 := by kernel_rfl
  have ci : Try.prog.cellsOf 3 = 1 := by kernel_rfl
  rw [c2] at hl
  match cs, hl with
  | [c0, c1, c2], _ =>
    have h2 : xs.length = 3 := hlen
    match xs, h2 with
    | [x0, x1, x2], _ =>
      have e0 : DataW.trod enc Try.prog W base sp held m 3 (([c0, c1, c2].drop 0).take (Try.prog.cellsOf 3)) = some x0 := hf 0 _ rfl
      have e1 : DataW.trod enc Try.prog W base sp held m 3 (([c0, c1, c2].drop 1).take (Try.prog.cellsOf 3)) = some x1 := hf 1 _ rfl
      have e2 : DataW.trod enc Try.prog W base sp held m 3 (([c0, c1, c2].drop 2).take (Try.prog.cellsOf 3)) = some x2 := hf 2 _ rfl
      rw [ci] at e0 e1 e2
      obtain ⟨k0, q0, g0⟩ := int_cells (show DataW.trod enc Try.prog W base sp held m 3 [c0] = some x0 from e0)
      obtain ⟨k1, q1, g1⟩ := int_cells (show DataW.trod enc Try.prog W base sp held m 3 [c1] = some x1 from e1)
      obtain ⟨k2, q2, g2⟩ := int_cells (show DataW.trod enc Try.prog W base sp held m 3 [c2] = some x2 from e2)
      simp only [List.cons.injEq, and_true] at q0 q1 q2
      subst q0 q1 q2
      exact ⟨⟨k0, k1, k2⟩, rfl, g0, g1, g2⟩
set_option maxRecDepth 100000 in
theorem open_ops (hv : Value.okWide Try.prog W r b0 22 v) (h : DataW.Trod enc Try.prog W 0 (fun _ => true) held 22 v d p) :
    ∃ (ao : Option Addr) (X : List Oc) (cap : Nat), v = .slice ao X.length cap ∧ Ops W ao X ∧ X.length ≤ 9223372036854775807 :=
  open_rows (k := 5) (by omega) cO (fun _ => rfl) OcI ⟨0, 0, 0, 0, 0⟩ 22 31 Try.underlying22 (by kernel_rfl) (fun _ _ _ h => op_cells h) hv h
set_option maxRecDepth 100000 in
theorem open_mail (hv : Value.okWide Try.prog W r b0 35 v) (h : DataW.Trod enc Try.prog W base sp held 35 v d p) : ∃ x : Ml, v = encM x ∧ I64 x.f ∧ I64 x.k ∧ I64 x.a := by
  obtain ⟨cs, rfl, _⟩ := okWide_struct Try.underlying35 hv
  obtain ⟨fuel, hf⟩ := h
  obtain ⟨x, e, q⟩ := mail_cells hf
  refine ⟨x, ?_, q⟩
  have : cs.toList = cM x := by simpa [Value.cells] using e
  unfold encM
  rw [← Array.toArray_toList (xs := cs), this]
  rfl
end
section
variable {w0 w : World} {r : Nat} {R : List Th}
theorem Sep.sub {R' : List Th} (h : Sep w0 r w R) (k : R'.Sublist R) : Sep w0 r w R' := ⟨h.low, h.size, fun t ht => h.each t (k.subset ht), h.apart.sublist k⟩
theorem Sep.opAt {q : Nat} {x : Oc} (h : Sep w0 r w R) (hm : blk q (objO x) ∈ R) : w.cell? ⟨q, 0, none⟩ = some (.int .i64 x.k) ∧ w.cell? ⟨q, 1, none⟩ = some (.int .i64 x.f) ∧ w.cell? ⟨q, 2, none⟩ = some (.int .i64 x.t) ∧ w.cell? ⟨q, 3, none⟩ = some (.int .i64 x.h) ∧ w.cell? ⟨q, 4, none⟩ = some (.int .i64 x.a) := by
  have h1 : w.heap[q]? = some (objO x) := (h.each _ hm).1
  unfold objO at h1
  exact ⟨by simp [World.cell?, h1], by simp [World.cell?, h1], by simp [World.cell?, h1], by simp [World.cell?, h1], by simp [World.cell?, h1]⟩
end
end Go.Proofs.Ytpapjdmnhgnpfaa
