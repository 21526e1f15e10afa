/-
  What the statements' own frame gives: a script of calls, a slot, that came in; no condition of ours.
-/
import Derived.Test.YtkpoppgibempbaaNFixed
import Derived.Test.YtkpoppgibempbaaNSame
import Derived.ProofKit
import Derived.OpenShut
import Derived.ShutString
import Derived.ChangeOld
import Derived.Lib.SmallJoins
import Derived.Deep.Slices
namespace Go.Proofs.Ytkpoppgibempbaa
open Go.ChangeShapes Go.WideShapes Go.ChangeAt Go.RowKit Go.Joins Go.Deep
set_option linter.unusedSectionVars false
variable [dCp : DecidableEq Cp] [dLim : ∀ k, Decidable (Lim k)] [dBad : ∀ k, Decidable (Bad k)] [dFit : ∀ g z, Decidable (Fit g z)] [dFine : ∀ c, Decidable (Fine c)] [dMint : ∀ c v, Decidable (MintR c v)] [dWho : ∀ x y, Decidable (Whose x y)] [dSl : DecidableEq Sl] [dLt : ∀ a b, Decidable (ltS a b)] [iSl : Inhabited Sl] [iCp : Inhabited Cp]
theorem own : ownKnob Try.prog.godebug = none := by kernel_rfl
/-- One call of a script. -/
structure Oc where
  k : Int
  n : Int
  a : Sl
  b : Sl
  c : Cp
structure Oc.Fits (x : Oc) : Prop where
  k : I64 x.k
  n : I64 x.n
  a : x.a.Fits
  b : x.b.Fits
  c : x.c.Fits
def encO (x : Oc) : List Value := [.int .i64 x.k, .int .i64 x.n, .int .i64 x.a.n, .int .i64 x.a.i, .int .i64 x.b.n, .int .i64 x.b.i, .int .i64 x.c.k, .int .i64 x.c.o, .int .i64 x.c.r, .int .u64 x.c.b, .int .u64 x.c.g, .int .i64 x.c.z]
/-- The calls X lie where the slice leads to. -/
def Script (w : World) (ao : Option Addr) (X : List Oc) : Prop := ∀ i x, X[i]? = some x → x.Fits ∧ ∃ b o, ao = some ⟨b, o, none⟩ ∧ b < w.heap.size ∧ ∀ j, j < 12 → w.cell? ⟨b, o + i * 12 + j, none⟩ = some ((encO x)[j]!)
theorem Script.below {w w' : World} {ao : Option Addr} {X : List Oc} (h : Script w ao X) {B : Nat} (u : Below B w w') (hB : w.heap.size ≤ B) : Script w' ao X := fun i x hx => by
  obtain ⟨h1, b, o, e, hb, hc⟩ := h i x hx
  exact ⟨h1, b, o, e, Nat.lt_of_lt_of_le hb u.size, fun j hj => (u.cell (p := ⟨b, o + i * 12 + j, none⟩) (by simp only; omega)).trans (hc j hj)⟩
section
variable {H : Type} {enc : TypeId × Value → H} {W : World} {r : Reach} {b0 base : Nat} {sp : Nat → Bool} {held : Bool} {v : Value} {d : DataW H} {p : List MemPlace}
set_option maxRecDepth 100000 in
theorem slot_cells {fuel : Nat} {cs : List Value} {x : DataW H × List MemPlace} (h : DataW.trod enc Try.prog W base sp held fuel 30 cs = some x) :
    ∃ s : Sl, cs = [.int .i64 s.n, .int .i64 s.i] ∧ s.Fits := by
  obtain ⟨xs, m, _, _, hl, hlen, hf⟩ := DataW.trod_struct Try.underlying30 h
  have c2 : Try.prog.cellsOf 30 = 2 := by kernel_rfl
  have ci : Try.prog.cellsOf 3 = 1 := by kernel_rfl
  rw [c2] at hl
  match cs, hl with
  | [c0, c1], _ =>
    have h2 : xs.length = 2 := hlen
    match xs, h2 with
    | [x0, x1], _ =>
      have e0 : DataW.trod enc Try.prog W base sp held m 3 (([c0, c1].drop 0).take (Try.prog.cellsOf 3)) = some x0 := hf 0 _ rfl
      rw [ci] at e0
      have e1 : DataW.trod enc Try.prog W base sp held m 3 (([c0, c1].drop 1).take (Try.prog.cellsOf 3)) = some x1 := hf 1 _ rfl
      rw [ci] at e1
      obtain ⟨k0, q0, _, g0⟩ := DataW.trod_int Try.underlying3 (show DataW.trod enc Try.prog W base sp held m 3 [c0] = some x0 from e0)
      obtain ⟨k1, q1, _, g1⟩ := DataW.trod_int Try.underlying3 (show DataW.trod enc Try.prog W base sp held m 3 [c1] = some x1 from e1)
      simp only [List.cons.injEq, and_true] at q0 q1
      subst q0 q1
      exact ⟨⟨k0, k1⟩, rfl, bounds_i64 g0, bounds_i64 g1⟩
set_option maxRecDepth 100000 in
theorem cap_cells {fuel : Nat} {cs : List Value} {x : DataW H × List MemPlace} (h : DataW.trod enc Try.prog W base sp held fuel 33 cs = some x) :
    ∃ c : Cp, cs = [.int .i64 c.k, .int .i64 c.o, .int .i64 c.r, .int .u64 c.b, .int .u64 c.g, .int .i64 c.z] ∧ c.Fits := by
  obtain ⟨xs, m, _, _, hl, hlen, hf⟩ := DataW.trod_struct Try.underlying33 h
  have c6 : Try.prog.cellsOf 33 = 6 := by kernel_rfl
  have ci : Try.prog.cellsOf 3 = 1 := by kernel_rfl
  have cu : Try.prog.cellsOf 31 = 1 := by kernel_rfl
  rw [c6] at hl
  match cs, hl with
  | [c0, c1, c2, c3, c4, c5], _ =>
    have h6 : xs.length = 6 := hlen
    match xs, h6 with
    | [x0, x1, x2, x3, x4, x5], _ =>
      have e0 : DataW.trod enc Try.prog W base sp held m 3 (([c0, c1, c2, c3, c4, c5].drop 0).take (Try.prog.cellsOf 3)) = some x0 := hf 0 _ rfl
      rw [ci] at e0
      have e1 : DataW.trod enc Try.prog W base sp held m 3 (([c0, c1, c2, c3, c4, c5].drop 1).take (Try.prog.cellsOf 3)) = some x1 := hf 1 _ rfl
      rw [ci] at e1
      have e2 : DataW.trod enc Try.prog W base sp held m 3 (([c0, c1, c2, c3, c4, c5].drop 2).take (Try.prog.cellsOf 3)) = some x2 := hf 2 _ rfl
      rw [ci] at e2
      have e3 : DataW.trod enc Try.prog W base sp held m 31 (([c0, c1, c2, c3, c4, c5].drop 3).take (Try.prog.cellsOf 31)) = some x3 := hf 3 _ rfl
      rw [cu] at e3
      have e4 : DataW.trod enc Try.prog W base sp held m 31 (([c0, c1, c2, c3, c4, c5].drop 4).take (Try.prog.cellsOf 31)) = some x4 := hf 4 _ rfl
      rw [cu] at e4
      have e5 : DataW.trod enc Try.prog W base sp held m 3 (([c0, c1, c2, c3, c4, c5].drop 5).take (Try.prog.cellsOf 3)) = some x5 := hf 5 _ rfl
      rw [ci] at e5
      obtain ⟨k0, q0, _, g0⟩ := DataW.trod_int Try.underlying3 (show DataW.trod enc Try.prog W base sp held m 3 [c0] = some x0 from e0)
      obtain ⟨k1, q1, _, g1⟩ := DataW.trod_int Try.underlying3 (show DataW.trod enc Try.prog W base sp held m 3 [c1] = some x1 from e1)
      obtain ⟨k2, q2, _, g2⟩ := DataW.trod_int Try.underlying3 (show DataW.trod enc Try.prog W base sp held m 3 [c2] = some x2 from e2)
      obtain ⟨k3, q3, _, g3⟩ := DataW.trod_int Try.underlying31 (show DataW.trod enc Try.prog W base sp held m 31 [c3] = some x3 from e3)
      obtain ⟨k4, q4, _, g4⟩ := DataW.trod_int Try.underlying31 (show DataW.trod enc Try.prog W base sp held m 31 [c4] = some x4 from e4)
      obtain ⟨k5, q5, _, g5⟩ := DataW.trod_int Try.underlying3 (show DataW.trod enc Try.prog W base sp held m 3 [c5] = some x5 from e5)
      simp only [List.cons.injEq, and_true] at q0 q1 q2 q3 q4 q5
      subst q0 q1 q2 q3 q4 q5
      exact ⟨⟨k0, k1, k2, k3, k4, k5⟩, rfl, bounds_i64 g0, bounds_i64 g1, bounds_i64 g2, bounds_u64 g3, bounds_u64 g4, bounds_i64 g5⟩
set_option maxRecDepth 100000 in
theorem op_cells {fuel : Nat} {cs : List Value} {x : DataW H × List MemPlace} (h : DataW.trod enc Try.prog W base sp held fuel 35 cs = some x) :
    ∃ x : Oc, cs = encO x ∧ x.Fits := by
  obtain ⟨xs, m, _, _, hl, hlen, hf⟩ := DataW.trod_struct Try.underlying35 h
  have c12 : Try.prog.cellsOf 35 = 12 := by kernel_rfl
  have ci : Try.prog.cellsOf 3 = 1 := by kernel_rfl
  have cs2 : Try.prog.cellsOf 30 = 2 := by kernel_rfl
  have cc : Try.prog.cellsOf 33 = 6 := by kernel_rfl
  rw [c12] at hl
  match cs, hl with
  | [c0, c1, c2, c3, c4, c5, c6, c7, c8, c9, c10, c11], _ =>
    have h5 : xs.length = 5 := hlen
    match xs, h5 with
    | [x0, x1, x2, x3, x4], _ =>
      have e0 : DataW.trod enc Try.prog W base sp held m 3 (([c0, c1, c2, c3, c4, c5, c6, c7, c8, c9, c10, c11].drop 0).take (Try.prog.cellsOf 3)) = some x0 := hf 0 _ rfl
      rw [ci] at e0
      have e1 : DataW.trod enc Try.prog W base sp held m 3 (([c0, c1, c2, c3, c4, c5, c6, c7, c8, c9, c10, c11].drop 1).take (Try.prog.cellsOf 3)) = some x1 := hf 1 _ rfl
      rw [ci] at e1
      have e2 : DataW.trod enc Try.prog W base sp held m 30 (([c0, c1, c2, c3, c4, c5, c6, c7, c8, c9, c10, c11].drop 2).take (Try.prog.cellsOf 30)) = some x2 := hf 2 _ rfl
      rw [cs2] at e2
      have e3 : DataW.trod enc Try.prog W base sp held m 30 (([c0, c1, c2, c3, c4, c5, c6, c7, c8, c9, c10, c11].drop 4).take (Try.prog.cellsOf 30)) = some x3 := hf 3 _ rfl
      rw [cs2] at e3
      have e4 : DataW.trod enc Try.prog W base sp held m 33 (([c0, c1, c2, c3, c4, c5, c6, c7, c8, c9, c10, c11].drop 6).take (Try.prog.cellsOf 33)) = some x4 := hf 4 _ rfl
      rw [cc] at e4
      obtain ⟨k0, q0, _, g0⟩ := DataW.trod_int Try.underlying3 (show DataW.trod enc Try.prog W base sp held m 3 [c0] = some x0 from e0)
      obtain ⟨k1, q1, _, g1⟩ := DataW.trod_int Try.underlying3 (show DataW.trod enc Try.prog W base sp held m 3 [c1] = some x1 from e1)
      obtain ⟨s2, q2, g2⟩ := slot_cells (show DataW.trod enc Try.prog W base sp held m 30 [c2, c3] = some x2 from e2)
      obtain ⟨s3, q3, g3⟩ := slot_cells (show DataW.trod enc Try.prog W base sp held m 30 [c4, c5] = some x3 from e3)
      obtain ⟨k4, q4, g4⟩ := cap_cells (show DataW.trod enc Try.prog W base sp held m 33 [c6, c7, c8, c9, c10, c11] = some x4 from e4)
      simp only [List.cons.injEq, and_true] at q0 q1 q2 q3 q4
      obtain ⟨rfl, rfl⟩ := q2
      obtain ⟨rfl, rfl⟩ := q3
      obtain ⟨rfl, rfl, rfl, rfl, rfl, rfl⟩ := q4
      subst q0 q1
      exact ⟨⟨k0, k1, s2, s3, k4⟩, rfl, ⟨bounds_i64 g0, bounds_i64 g1, g2, g3, g4⟩⟩
theorem open_slot (hv : Value.okWide Try.prog W r b0 30 v) (h : DataW.Trod enc Try.prog W base sp held 30 v d p) : ∃ s : Sl, v = encS s ∧ s.Fits := by
  obtain ⟨cs, rfl, _⟩ := okWide_struct Try.underlying30 hv
  obtain ⟨fuel, hf⟩ := h
  obtain ⟨s, e, q⟩ := slot_cells hf
  refine ⟨s, ?_, q⟩
  have : cs.toList = [.int .i64 s.n, .int .i64 s.i] := by simpa [Value.cells] using e
  unfold encS
  rw [← Array.toArray_toList (xs := cs), this]
theorem open_ops (hv : Value.okWide Try.prog W r b0 22 v) (h : DataW.Trod enc Try.prog W 0 (fun _ => true) held 22 v d p) :
    ∃ (ao : Option Addr) (X : List Oc) (cap : Nat), v = .slice ao X.length cap ∧ Script W ao X ∧ X.length ≤ 9223372036854775807 := by
  obtain ⟨a0, len0, cap0, rfl⟩ := okWide_slice Try.underlying22 hv
  obtain ⟨fuel, hf⟩ := h
  have c12 : Try.prog.cellsOf 35 = 12 := by kernel_rfl
  rcases open_slice Try.underlying22 hf with ⟨hcs, _⟩ | ⟨x, len, cap, m, n, D, Pl, hcs, _, hl, hm, hmm, _, hx⟩
  · simp [Value.cells] at hcs
    obtain ⟨rfl, rfl, rfl⟩ := hcs
    exact ⟨none, [], 0, rfl, fun i x hx => by simp at hx, by simp⟩
  · simp [Value.cells] at hcs
    obtain ⟨rfl, rfl, rfl⟩ := hcs
    simp only [if_true] at hmm
    obtain ⟨b, off, spot⟩ := x
    have each : ∀ i, i < len0 → ∃ x : Oc, x.Fits ∧ ∀ j, j < 12 → W.cell? ((⟨b, off, spot⟩ : Addr).add (i * 12 + j)) = some ((encO x)[j]!) := by
      intro i hi
      obtain ⟨cs', h1, h2⟩ := hx i (by omega)
      rw [c12] at h1
      obtain ⟨_, hlen, hcell⟩ := World.cells?_some h1
      obtain ⟨x, rfl, q⟩ := op_cells h2
      refine ⟨x, q, fun j hj => ?_⟩
      have e := hcell j (by omega)
      rw [add_add] at e
      rw [e]
      have hj' : j < (encO x).length := hj
      rw [getElem!_pos _ j hj']
      simp
    obtain ⟨X, hX, hXe⟩ : ∃ X : List Oc, X.length = len0 ∧ ∀ i x, X[i]? = some x → x.Fits ∧ ∀ j, j < 12 → W.cell? ((⟨b, off, spot⟩ : Addr).add (i * 12 + j)) = some ((encO x)[j]!) := by
      refine ⟨(List.range len0).map fun i => if h : i < len0 then (each i h).choose else ⟨0, 0, ⟨0, 0⟩, ⟨0, 0⟩, no⟩, by simp, fun i x hx => ?_⟩
      have hi : i < len0 := by
        have := (List.getElem?_eq_some_iff.1 hx).1
        simpa using this
      simp only [List.getElem?_map, List.getElem?_range hi, Option.map_some, dif_pos hi, Option.some.injEq] at hx
      rw [← hx]
      exact (each i hi).choose_spec
    refine ⟨some ⟨b, off, spot⟩, X, cap0, by rw [hX], fun i x hx => ?_, by rw [hX]; unfold maxLen at hm; omega⟩
    obtain ⟨hfx, hc⟩ := hXe i x hx
    have hpos : 0 < X.length := by have := (List.getElem?_eq_some_iff.1 hx).1; omega
    have z0 := (hXe 0 _ (List.getElem?_eq_getElem hpos)).2 0 (by omega)
    have hspot : spot = none := by
      have := World.cell?_spot z0
      simpa [Addr.add] using this
    subst hspot
    have ea : ∀ j, (⟨b, off, none⟩ : Addr).add j = ⟨b, off + j, none⟩ := fun j => by unfold Addr.add; split <;> simp_all
    rw [ea] at z0
    refine ⟨hfx, b, off, rfl, World.block_lt_of_cell? W _ z0, fun j hj => ?_⟩
    have := hc j hj
    rw [ea] at this
    rw [← this]
    congr 2
    omega
end
end Go.Proofs.Ytkpoppgibempbaa
