/-
  What the statements' own frame gives: numbers and calls that came in; what a mask leaves; no condition of ours.
-/
import Derived.Test.YtgokacdljnemgaaGSay
import Derived.Test.YtgokacdljnemgaaPNums
import Derived.Test.YtgokacdljnemgaaGMask
namespace Go.Proofs.Ytgokacdljnemgaa
open Go.ChangeShapes Go.WideShapes Go.ChangeAt Go.RowKit Go.Joins Go.Deep
/-- A call: which, of which core. -/
structure Oc where
  k : Int
  c : Int
def cO (x : Oc) : List Value := [.int .i64 x.k, .int .i64 x.c]
def objO (x : Oc) : Obj := .cells #[.int .i64 x.k, .int .i64 x.c] 31
abbrev Ops (W : World) (ao : Option Addr) (X : List Oc) : Prop := SeeK 2 cO (fun x => I64 x.k ∧ I64 x.c) W ao X
theorem Ops.at {W : World} {ao : Option Addr} {X : List Oc} (h : Ops W ao X) {i : Nat} {x : Oc} (hx : X[i]? = some x) : (I64 x.k ∧ I64 x.c) ∧ ∃ b o, ao = some ⟨b, o, none⟩ ∧ W.cell? ⟨b, o + i * 2, none⟩ = some (.int .i64 x.k) ∧ W.cell? ⟨b, o + i * 2 + 1, none⟩ = some (.int .i64 x.c) := by
  obtain ⟨h1, b, o, e, _, hc⟩ := h i x hx
  exact ⟨h1, b, o, e, hc 0 _ rfl, hc 1 _ rfl⟩
section
variable {H : Type} {enc : TypeId × Value → H} {W : World} {r : Reach} {b0 base : Nat} {sp : Nat → Bool} {held : Bool} {v : Value} {d : DataW H} {p : List MemPlace}
set_option maxRecDepth 100000 in
theorem op_cells {fuel : Nat} {cs : List Value} {x : DataW H × List MemPlace} (h : DataW.trod enc Try.prog W base sp held fuel 31 cs = some x) :
    ∃ x : Oc, cs = cO x ∧ I64 x.k ∧ I64 x.c := by
  obtain ⟨xs, m, _, _, hl, hlen, hf⟩ := DataW.trod_struct Try.underlying31 h
  have c2 : Try.prog.cellsOf 31 = 2 := by kernel_rfl
  have ci : Try.prog.cellsOf 3 = 1 := by kernel_rfl
  rw [c2] at hl
  match cs, hl with
  | [c0, c1], _ =>
    have h2 : xs.length = 2 := hlen
    match xs, h2 with
    | [x0, x1], _ =>
      have e0 : DataW.trod enc Try.prog W base sp held m 3 (([c0, c1].drop 0).take (Try.prog.cellsOf 3)) = some x0 := hf 0 _ rfl
      have e1 : DataW.trod enc Try.prog W base sp held m 3 (([c0, c1].drop 1).take (Try.prog.cellsOf 3)) = some x1 := hf 1 _ rfl
      rw [ci] at e0 e1
      obtain ⟨k0, q0, g0⟩ := int_cells (show DataW.trod enc Try.prog W base sp held m 3 [c0] = some x0 from e0)
      obtain ⟨k1, q1, g1⟩ := int_cells (show DataW.trod enc Try.prog W base sp held m 3 [c1] = some x1 from e1)
      simp only [List.cons.injEq, and_true] at q0 q1
      subst q0 q1
      exact ⟨⟨k0, k1⟩, rfl, g0, g1⟩
set_option maxRecDepth 100000 in
theorem open_ops (hv : Value.okWide Try.prog W r b0 22 v) (h : DataW.Trod enc Try.prog W 0 (fun _ => true) held 22 v d p) :
    ∃ (ao : Option Addr) (X : List Oc) (cap : Nat), v = .slice ao X.length cap ∧ Ops W ao X ∧ X.length ≤ 9223372036854775807 :=
  open_rows (k := 2) (by omega) cO (fun _ => rfl) (fun x => I64 x.k ∧ I64 x.c) ⟨0, 0⟩ 22 31 Try.underlying22 (by kernel_rfl) (fun _ _ _ h => op_cells h) hv h
set_option maxRecDepth 100000 in
theorem open_ints (hv : Value.okWide Try.prog W r b0 38 v) (h : DataW.Trod enc Try.prog W 0 (fun _ => true) held 38 v d p) :
    ∃ (ao : Option Addr) (X : List Int) (cap : Nat), v = .slice ao X.length cap ∧ SeeI W ao X ∧ X.length ≤ 9223372036854775807 := by
  obtain ⟨ao, X, cap, e, hs, hl⟩ := open_rows (k := 1) (by omega) cI (fun _ => rfl) I64 0 38 3 Try.underlying38 (by kernel_rfl) (fun _ _ _ h => int_cells h) hv h
  refine ⟨ao, X, cap, e, fun i x hx => ?_, hl⟩
  obtain ⟨_, b, o, e, hb, hc⟩ := hs i x hx
  have := hc 0 _ rfl
  rw [Nat.mul_one, Nat.add_zero] at this
  exact ⟨b, o, e, hb, this⟩
end
theorem SeeI.from {W W' : World} {ao : Option Addr} {X : List Int} {r : Nat} (h : SeeI W ao X) (hr : W.heap.size = r) (hb : Below r W W') : SeeI W' ao X := h.below (by rw [hr]; exact hb)
section
variable {w0 w : World} {r : Nat} {R : List Th}
theorem Sep.opAt {q : Nat} {x : Oc} (h : Sep w0 r w R) (hm : blk q (objO x) ∈ R) : w.cell? ⟨q, 0, none⟩ = some (.int .i64 x.k) ∧ w.cell? ⟨q, 1, none⟩ = some (.int .i64 x.c) := by
  have h1 : w.heap[q]? = some (objO x) := (h.each _ hm).1
  unfold objO at h1
  exact ⟨by simp [World.cell?, h1], by simp [World.cell?, h1]⟩
end
end Go.Proofs.Ytgokacdljnemgaa
