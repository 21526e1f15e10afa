/-
  What the statements' own frame gives: nodes' bits and what is put into which slots, an address with its root, a way, that came in; no condition of ours.
-/
import Derived.Test.YtafjgoelofobmaaKFixed
import Derived.ProofKit
import Derived.OpenShut
import Derived.ShutString
import Derived.ChangeOld
import Derived.Lib.SmallJoins
import Derived.Deep.Slices
namespace Go.Proofs.Ytafjgoelofobmaa
open Go.ChangeShapes Go.WideShapes Go.ChangeAt Go.RowKit Go.Joins Go.Deep
set_option linter.unusedSectionVars false
variable [dCp : DecidableEq Cp] [dLim : ∀ k, Decidable (Lim k)] [dBad : ∀ k, Decidable (Bad k)] [dFit : ∀ g z, Decidable (Fit g z)] [dFine : ∀ c, Decidable (Fine c)] [dMint : ∀ c v, Decidable (MintR c v)] [dWho : ∀ x y, Decidable (Whose x y)] [dSl : DecidableEq Sl] [dLt : ∀ a b, Decidable (ltS a b)] [dIsN : ∀ S c, Decidable (isN S c)] [dGuN : ∀ a c d, Decidable (GuardN a c d)]
theorem own : ownKnob Try.prog.godebug = none := by kernel_rfl
section
variable {H : Type} {enc : TypeId × Value → H} {W : World} {r : Reach} {b0 base : Nat} {sp : Nat → Bool} {held : Bool} {v : Value} {d : DataW H} {p : List MemPlace}
set_option maxRecDepth 100000 in
theorem slot_cells {fuel : Nat} {cs : List Value} {x : DataW H × List MemPlace} (h : DataW.trod enc Try.prog W base sp held fuel 36 cs = some x) :
    ∃ s : Sl, cs = [.int .i64 s.n, .int .i64 s.i] ∧ s.Fits := by
  obtain ⟨xs, m, _, _, hl, hlen, hf⟩ := DataW.trod_struct Try.underlying36 h
  have c2 : Try.prog.cellsOf 36 = 2 := by kernel_rfl
  have ci : Try.prog.cellsOf 3 = 1 := by kernel_rfl
  rw [c2] at hl
  match cs, hl with
  | [c0, c1], _ =>
    have h2 : xs.length = 2 := hlen
    match xs, h2 with
    | [x0, x1], _ =>
      have e0 : DataW.trod enc Try.prog W base sp held m 3 (([c0, c1].drop 0).take (Try.prog.cellsOf 3)) = some x0 := hf 0 _ rfl
      rw [ci] at e0
      have e1 : DataW.trod enc Try.prog W base sp held m 3 (([c0, c1].drop 1).take (Try.prog.cellsOf 3)) = some x1 := hf 1 _ rfl
      rw [ci] at e1
      obtain ⟨k0, q0, _, g0⟩ := DataW.trod_int Try.underlying3 (show DataW.trod enc Try.prog W base sp held m 3 [c0] = some x0 from e0)
      obtain ⟨k1, q1, _, g1⟩ := DataW.trod_int Try.underlying3 (show DataW.trod enc Try.prog W base sp held m 3 [c1] = some x1 from e1)
      simp only [List.cons.injEq, and_true] at q0 q1
      subst q0 q1
      exact ⟨⟨k0, k1⟩, rfl, bounds_i64 g0, bounds_i64 g1⟩
set_option maxRecDepth 100000 in
theorem cap_cells {fuel : Nat} {cs : List Value} {x : DataW H × List MemPlace} (h : DataW.trod enc Try.prog W base sp held fuel 28 cs = some x) :
    ∃ c : Cp, cs = [.int .i64 c.k, .int .i64 c.o, .int .i64 c.r, .int .u64 c.b, .int .u64 c.g, .int .i64 c.z] ∧ c.Fits := by
  obtain ⟨xs, m, _, _, hl, hlen, hf⟩ := DataW.trod_struct Try.underlying28 h
  have c6 : Try.prog.cellsOf 28 = 6 := by kernel_rfl
  have ci : Try.prog.cellsOf 3 = 1 := by kernel_rfl
  have cu : Try.prog.cellsOf 26 = 1 := by kernel_rfl
  rw [c6] at hl
  match cs, hl with
  | [c0, c1, c2, c3, c4, c5], _ =>
    have h6 : xs.length = 6 := hlen
    match xs, h6 with
    | [x0, x1, x2, x3, x4, x5], _ =>
      have e0 : DataW.trod enc Try.prog W base sp held m 3 (([c0, c1, c2, c3, c4, c5].drop 0).take (Try.prog.cellsOf 3)) = some x0 := hf 0 _ rfl
      rw [ci] at e0
      have e1 : DataW.trod enc Try.prog W base sp held m 3 (([c0, c1, c2, c3, c4, c5].drop 1).take (Try.prog.cellsOf 3)) = some x1 := hf 1 _ rfl
      rw [ci] at e1
      have e2 : DataW.trod enc Try.prog W base sp held m 3 (([c0, c1, c2, c3, c4, c5].drop 2).take (Try.prog.cellsOf 3)) = some x2 := hf 2 _ rfl
      rw [ci] at e2
      have e3 : DataW.trod enc Try.prog W base sp held m 26 (([c0, c1, c2, c3, c4, c5].drop 3).take (Try.prog.cellsOf 26)) = some x3 := hf 3 _ rfl
      rw [cu] at e3
      have e4 : DataW.trod enc Try.prog W base sp held m 26 (([c0, c1, c2, c3, c4, c5].drop 4).take (Try.prog.cellsOf 26)) = some x4 := hf 4 _ rfl
      rw [cu] at e4
      have e5 : DataW.trod enc Try.prog W base sp held m 3 (([c0, c1, c2, c3, c4, c5].drop 5).take (Try.prog.cellsOf 3)) = some x5 := hf 5 _ rfl
      rw [ci] at e5
      obtain ⟨k0, q0, _, g0⟩ := DataW.trod_int Try.underlying3 (show DataW.trod enc Try.prog W base sp held m 3 [c0] = some x0 from e0)
      obtain ⟨k1, q1, _, g1⟩ := DataW.trod_int Try.underlying3 (show DataW.trod enc Try.prog W base sp held m 3 [c1] = some x1 from e1)
      obtain ⟨k2, q2, _, g2⟩ := DataW.trod_int Try.underlying3 (show DataW.trod enc Try.prog W base sp held m 3 [c2] = some x2 from e2)
      obtain ⟨k3, q3, _, g3⟩ := DataW.trod_int Try.underlying26 (show DataW.trod enc Try.prog W base sp held m 26 [c3] = some x3 from e3)
      obtain ⟨k4, q4, _, g4⟩ := DataW.trod_int Try.underlying26 (show DataW.trod enc Try.prog W base sp held m 26 [c4] = some x4 from e4)
      obtain ⟨k5, q5, _, g5⟩ := DataW.trod_int Try.underlying3 (show DataW.trod enc Try.prog W base sp held m 3 [c5] = some x5 from e5)
      simp only [List.cons.injEq, and_true] at q0 q1 q2 q3 q4 q5
      subst q0 q1 q2 q3 q4 q5
      exact ⟨⟨k0, k1, k2, k3, k4, k5⟩, rfl, bounds_i64 g0, bounds_i64 g1, bounds_i64 g2, bounds_u64 g3, bounds_u64 g4, bounds_i64 g5⟩
set_option maxRecDepth 100000 in
theorem held_cells {fuel : Nat} {cs : List Value} {x : DataW H × List MemPlace} (h : DataW.trod enc Try.prog W base sp held fuel 66 cs = some x) :
    ∃ x : Sl × Cp, cs = encK x ∧ x.1.Fits ∧ x.2.Fits := by
  obtain ⟨xs, m, _, _, hl, hlen, hf⟩ := DataW.trod_struct Try.underlying66 h
  have c8 : Try.prog.cellsOf 66 = 8 := by kernel_rfl
  have cs2 : Try.prog.cellsOf 36 = 2 := by kernel_rfl
  have cc : Try.prog.cellsOf 28 = 6 := by kernel_rfl
  rw [c8] at hl
  match cs, hl with
  | [c0, c1, c2, c3, c4, c5, c6, c7], _ =>
    have h2 : xs.length = 2 := hlen
    match xs, h2 with
    | [x0, x1], _ =>
      have e0 : DataW.trod enc Try.prog W base sp held m 36 (([c0, c1, c2, c3, c4, c5, c6, c7].drop 0).take (Try.prog.cellsOf 36)) = some x0 := hf 0 _ rfl
      rw [cs2] at e0
      have e1 : DataW.trod enc Try.prog W base sp held m 28 (([c0, c1, c2, c3, c4, c5, c6, c7].drop 2).take (Try.prog.cellsOf 28)) = some x1 := hf 1 _ rfl
      rw [cc] at e1
      obtain ⟨s, q0, g0⟩ := slot_cells (show DataW.trod enc Try.prog W base sp held m 36 [c0, c1] = some x0 from e0)
      obtain ⟨k, q1, g1⟩ := cap_cells (show DataW.trod enc Try.prog W base sp held m 28 [c2, c3, c4, c5, c6, c7] = some x1 from e1)
      simp only [List.cons.injEq, and_true] at q0 q1
      obtain ⟨rfl, rfl⟩ := q0
      obtain ⟨rfl, rfl, rfl, rfl, rfl, rfl⟩ := q1
      exact ⟨(s, k), rfl, g0, g1⟩
theorem addr_add (b o j : Nat) : (⟨b, o, none⟩ : Addr).add j = ⟨b, o + j, none⟩ := by unfold Addr.add; split <;> simp_all
set_option maxRecDepth 100000 in
theorem ints_cells {fuel : Nat} {c : Value} {x : DataW H × List MemPlace} (hf : DataW.trod enc Try.prog W 0 (fun _ => true) held fuel 22 [c] = some x) :
    ∃ (ao : Option Addr) (L : List Int) (cap : Nat), c = .slice ao L.length cap ∧ Ints W ao L ∧ L.length ≤ 9223372036854775807 := by
  have c1 : Try.prog.cellsOf 3 = 1 := by kernel_rfl
  rcases open_slice Try.underlying22 hf with ⟨hcs, _⟩ | ⟨x, len, cap, m, n, D, Pl, hcs, _, hl, hm, hmm, _, hx⟩
  · simp only [List.cons.injEq, and_true] at hcs
    subst hcs
    exact ⟨none, [], 0, rfl, fun i x hx => by simp at hx, by simp⟩
  · simp only [List.cons.injEq, and_true] at hcs
    subst hcs
    simp only [if_true] at hmm
    obtain ⟨b, off, spot⟩ := x
    have each : ∀ i, i < len → ∃ x : Int, I64 x ∧ W.cell? ((⟨b, off, spot⟩ : Addr).add i) = some (.int .i64 x) := by
      intro i hi
      obtain ⟨cs', h1, h2⟩ := hx i (by omega)
      rw [c1] at h1
      obtain ⟨_, hlen, hcell⟩ := World.cells?_some h1
      match cs', hlen with
      | [c'], _ =>
        obtain ⟨k, q, _, g⟩ := DataW.trod_int Try.underlying3 h2
        simp only [List.cons.injEq, and_true] at q
        subst q
        have e := hcell 0 (by omega)
        rw [add_add] at e
        refine ⟨k, bounds_i64 g, ?_⟩
        rw [show i * 1 + 0 = i by omega] at e
        simpa using e
    obtain ⟨X, hX, hXe⟩ : ∃ X : List Int, X.length = len ∧ ∀ i x, X[i]? = some x → I64 x ∧ W.cell? ((⟨b, off, spot⟩ : Addr).add i) = some (.int .i64 x) := by
      refine ⟨(List.range len).map fun i => if h : i < len then (each i h).choose else 0, by simp, fun i x hx => ?_⟩
      have hi : i < len := by
        have := (List.getElem?_eq_some_iff.1 hx).1
        simpa using this
      simp only [List.getElem?_map, List.getElem?_range hi, Option.map_some, dif_pos hi, Option.some.injEq] at hx
      rw [← hx]
      exact (each i hi).choose_spec
    refine ⟨some ⟨b, off, spot⟩, X, cap, by rw [hX], fun i x hx => ?_, by rw [hX]; unfold maxLen at hm; omega⟩
    obtain ⟨hfx, hc⟩ := hXe i x hx
    have hpos : 0 < X.length := by have := (List.getElem?_eq_some_iff.1 hx).1; omega
    have z0 := (hXe 0 _ (List.getElem?_eq_getElem hpos)).2
    have hspot : spot = none := by
      have := World.cell?_spot z0
      simpa [Addr.add] using this
    subst hspot
    rw [addr_add] at hc
    exact ⟨hfx, b, off, rfl, World.block_lt_of_cell? W _ hc, hc⟩
set_option maxRecDepth 100000 in
theorem helds_cells {fuel : Nat} {c : Value} {x : DataW H × List MemPlace} (hf : DataW.trod enc Try.prog W 0 (fun _ => true) held fuel 23 [c] = some x) :
    ∃ (ao : Option Addr) (L : List (Sl × Cp)) (cap : Nat), c = .slice ao L.length cap ∧ Helds W ao L ∧ L.length ≤ 9223372036854775807 := by
  have c8 : Try.prog.cellsOf 66 = 8 := by kernel_rfl
  rcases open_slice Try.underlying23 hf with ⟨hcs, _⟩ | ⟨x, len, cap, m, n, D, Pl, hcs, _, hl, hm, hmm, _, hx⟩
  · simp only [List.cons.injEq, and_true] at hcs
    subst hcs
    exact ⟨none, [], 0, rfl, fun i x hx => by simp at hx, by simp⟩
  · simp only [List.cons.injEq, and_true] at hcs
    subst hcs
    simp only [if_true] at hmm
    obtain ⟨b, off, spot⟩ := x
    have each : ∀ i, i < len → ∃ x : Sl × Cp, (x.1.Fits ∧ x.2.Fits) ∧ ∀ j, j < 8 → W.cell? ((⟨b, off, spot⟩ : Addr).add (i * 8 + j)) = some ((encK x)[j]!) := by
      intro i hi
      obtain ⟨cs', h1, h2⟩ := hx i (by omega)
      rw [c8] at h1
      obtain ⟨_, hlen, hcell⟩ := World.cells?_some h1
      obtain ⟨x, rfl, q⟩ := held_cells h2
      refine ⟨x, q, fun j hj => ?_⟩
      have e := hcell j (by omega)
      rw [add_add] at e
      rw [e]
      have hj' : j < (encK x).length := hj
      rw [getElem!_pos _ j hj']
      simp
    obtain ⟨X, hX, hXe⟩ : ∃ X : List (Sl × Cp), X.length = len ∧ ∀ i x, X[i]? = some x → (x.1.Fits ∧ x.2.Fits) ∧ ∀ j, j < 8 → W.cell? ((⟨b, off, spot⟩ : Addr).add (i * 8 + j)) = some ((encK x)[j]!) := by
      refine ⟨(List.range len).map fun i => if h : i < len then (each i h).choose else (⟨0, 0⟩, no), by simp, fun i x hx => ?_⟩
      have hi : i < len := by
        have := (List.getElem?_eq_some_iff.1 hx).1
        simpa using this
      simp only [List.getElem?_map, List.getElem?_range hi, Option.map_some, dif_pos hi, Option.some.injEq] at hx
      rw [← hx]
      exact (each i hi).choose_spec
    refine ⟨some ⟨b, off, spot⟩, X, cap, by rw [hX], fun i x hx => ?_, by rw [hX]; unfold maxLen at hm; omega⟩
    obtain ⟨hfx, hc⟩ := hXe i x hx
    have hpos : 0 < X.length := by have := (List.getElem?_eq_some_iff.1 hx).1; omega
    have z0 := (hXe 0 _ (List.getElem?_eq_getElem hpos)).2 0 (by omega)
    have hspot : spot = none := by
      have := World.cell?_spot z0
      simpa [Addr.add] using this
    subst hspot
    rw [addr_add] at z0
    refine ⟨hfx, b, off, rfl, World.block_lt_of_cell? W _ z0, fun j hj => ?_⟩
    have := hc j hj
    rw [addr_add] at this
    rw [show off + i * 8 + j = off + (i * 8 + j) by omega]
    exact this
set_option maxRecDepth 100000 in
theorem open_ints (hv : Value.okWide Try.prog W r b0 22 v) (h : DataW.Trod enc Try.prog W 0 (fun _ => true) held 22 v d p) : ∃ (ao : Option Addr) (L : List Int) (cap : Nat), v = .slice ao L.length cap ∧ Ints W ao L ∧ L.length ≤ 9223372036854775807 := by
  obtain ⟨a0, len0, cap0, rfl⟩ := okWide_slice Try.underlying22 hv
  obtain ⟨fuel, hf⟩ := h
  exact ints_cells (show DataW.trod enc Try.prog W 0 (fun _ => true) held fuel 22 [.slice a0 len0 cap0] = some (d, p) from hf)
set_option maxRecDepth 100000 in
theorem open_cap (hv : Value.okWide Try.prog W r b0 28 v) (h : DataW.Trod enc Try.prog W base sp held 28 v d p) : ∃ c : Cp, v = encC c ∧ c.Fits := by
  obtain ⟨cs, rfl, _⟩ := okWide_struct Try.underlying28 hv
  obtain ⟨fuel, hf⟩ := h
  obtain ⟨c, e, q⟩ := cap_cells hf
  refine ⟨c, ?_, q⟩
  have : cs.toList = [.int .i64 c.k, .int .i64 c.o, .int .i64 c.r, .int .u64 c.b, .int .u64 c.g, .int .i64 c.z] := by simpa [Value.cells] using e
  unfold encC
  rw [← Array.toArray_toList (xs := cs), this]
/-- A root, an address, how many of its bits count. -/
structure Ak where
  c : Cp
  a : Int
  d : Int
structure Ak.Fits (x : Ak) : Prop where
  c : x.c.Fits
  a : 0 ≤ x.a ∧ x.a ≤ 18446744073709551615
  d : I64 x.d
def encA (x : Ak) : Value := .agg #[.int .i64 x.c.k, .int .i64 x.c.o, .int .i64 x.c.r, .int .u64 x.c.b, .int .u64 x.c.g, .int .i64 x.c.z, .int .u64 x.a, .int .i64 x.d]
def objK (x : Ak) : Obj := .cells #[.int .i64 x.c.k, .int .i64 x.c.o, .int .i64 x.c.r, .int .u64 x.c.b, .int .u64 x.c.g, .int .i64 x.c.z, .int .u64 x.a, .int .i64 x.d] 30
theorem ak_cells {w : World} {q : Nat} {x : Ak} (h : w.heap[q]? = some (objK x)) : w.cell? ⟨q, 0, none⟩ = some (.int .i64 x.c.k) ∧ w.cell? ⟨q, 1, none⟩ = some (.int .i64 x.c.o) ∧ w.cell? ⟨q, 2, none⟩ = some (.int .i64 x.c.r) ∧ w.cell? ⟨q, 3, none⟩ = some (.int .u64 x.c.b) ∧ w.cell? ⟨q, 4, none⟩ = some (.int .u64 x.c.g) ∧ w.cell? ⟨q, 5, none⟩ = some (.int .i64 x.c.z) ∧ w.cell? ⟨q, 6, none⟩ = some (.int .u64 x.a) ∧ w.cell? ⟨q, 7, none⟩ = some (.int .i64 x.d) := by
  unfold objK at h
  refine ⟨?_, ?_, ?_, ?_, ?_, ?_, ?_, ?_⟩ <;> simp [World.cell?, h]
set_option maxRecDepth 100000 in
theorem ask_cells {fuel : Nat} {cs : List Value} {x : DataW H × List MemPlace} (h : DataW.trod enc Try.prog W base sp held fuel 30 cs = some x) :
    ∃ x : Ak, cs = [.int .i64 x.c.k, .int .i64 x.c.o, .int .i64 x.c.r, .int .u64 x.c.b, .int .u64 x.c.g, .int .i64 x.c.z, .int .u64 x.a, .int .i64 x.d] ∧ x.Fits := by
  obtain ⟨xs, m, _, _, hl, hlen, hf⟩ := DataW.trod_struct Try.underlying30 h
  have c8 : Try.prog.cellsOf 30 = 8 := by kernel_rfl
  have cc : Try.prog.cellsOf 28 = 6 := by kernel_rfl
  have ci : Try.prog.cellsOf 3 = 1 := by kernel_rfl
  have cu : Try.prog.cellsOf 26 = 1 := by kernel_rfl
  rw [c8] at hl
  match cs, hl with
  | [c0, c1, c2, c3, c4, c5, c6, c7], _ =>
    have h3 : xs.length = 3 := hlen
    match xs, h3 with
    | [x0, x1, x2], _ =>
      have e0 : DataW.trod enc Try.prog W base sp held m 28 (([c0, c1, c2, c3, c4, c5, c6, c7].drop 0).take (Try.prog.cellsOf 28)) = some x0 := hf 0 _ rfl
      rw [cc] at e0
      have e1 : DataW.trod enc Try.prog W base sp held m 26 (([c0, c1, c2, c3, c4, c5, c6, c7].drop 6).take (Try.prog.cellsOf 26)) = some x1 := hf 1 _ rfl
      rw [cu] at e1
      have e2 : DataW.trod enc Try.prog W base sp held m 3 (([c0, c1, c2, c3, c4, c5, c6, c7].drop 7).take (Try.prog.cellsOf 3)) = some x2 := hf 2 _ rfl
      rw [ci] at e2
      obtain ⟨k, q0, g0⟩ := cap_cells (show DataW.trod enc Try.prog W base sp held m 28 [c0, c1, c2, c3, c4, c5] = some x0 from e0)
      obtain ⟨a, q1, _, g1⟩ := DataW.trod_int Try.underlying26 (show DataW.trod enc Try.prog W base sp held m 26 [c6] = some x1 from e1)
      obtain ⟨d, q2, _, g2⟩ := DataW.trod_int Try.underlying3 (show DataW.trod enc Try.prog W base sp held m 3 [c7] = some x2 from e2)
      simp only [List.cons.injEq, and_true] at q0 q1 q2
      obtain ⟨rfl, rfl, rfl, rfl, rfl, rfl⟩ := q0
      subst q1 q2
      exact ⟨⟨k, a, d⟩, rfl, ⟨g0, bounds_u64 g1, bounds_i64 g2⟩⟩
set_option maxRecDepth 100000 in
theorem open_ask (hv : Value.okWide Try.prog W r b0 30 v) (h : DataW.Trod enc Try.prog W base sp held 30 v d p) : ∃ x : Ak, v = encA x ∧ x.Fits := by
  obtain ⟨cs, rfl, _⟩ := okWide_struct Try.underlying30 hv
  obtain ⟨fuel, hf⟩ := h
  obtain ⟨x, e, q⟩ := ask_cells hf
  refine ⟨x, ?_, q⟩
  have : cs.toList = [.int .i64 x.c.k, .int .i64 x.c.o, .int .i64 x.c.r, .int .u64 x.c.b, .int .u64 x.c.g, .int .i64 x.c.z, .int .u64 x.a, .int .i64 x.d] := by simpa [Value.cells] using e
  unfold encA
  rw [← Array.toArray_toList (xs := cs), this]
/-- Nodes' bits, and what is put into which slots, where they lie. -/
structure Bd (W : World) (ao : Option Addr) (B : List Int) (ho : Option Addr) (H : List (Sl × Cp)) : Prop where
  ints : Ints W ao B
  helds : Helds W ho H
  lb : B.length ≤ 9223372036854775807
  lh : H.length ≤ 9223372036854775807
set_option maxRecDepth 100000 in
theorem build_cells {fuel : Nat} {cs : List Value} {x : DataW H × List MemPlace} (h : DataW.trod enc Try.prog W 0 (fun _ => true) held fuel 25 cs = some x) :
    ∃ ao B cap ho H cap2, cs = [.slice ao B.length cap, .slice ho H.length cap2] ∧ Bd W ao B ho H := by
  obtain ⟨xs, m, _, _, hl, hlen, hf⟩ := DataW.trod_struct Try.underlying25 h
  have c2 : Try.prog.cellsOf 25 = 2 := by kernel_rfl
  have ci : Try.prog.cellsOf 22 = 1 := by kernel_rfl
  have ch : Try.prog.cellsOf 23 = 1 := by kernel_rfl
  rw [c2] at hl
  match cs, hl with
  | [c0, c1], _ =>
    have h2 : xs.length = 2 := hlen
    match xs, h2 with
    | [x0, x1], _ =>
      have e0 : DataW.trod enc Try.prog W 0 (fun _ => true) held m 22 (([c0, c1].drop 0).take (Try.prog.cellsOf 22)) = some x0 := hf 0 _ rfl
      rw [ci] at e0
      have e1 : DataW.trod enc Try.prog W 0 (fun _ => true) held m 23 (([c0, c1].drop 1).take (Try.prog.cellsOf 23)) = some x1 := hf 1 _ rfl
      rw [ch] at e1
      obtain ⟨ao, B, cap, rfl, hB, lB⟩ := ints_cells (show DataW.trod enc Try.prog W 0 (fun _ => true) held m 22 [c0] = some x0 from e0)
      obtain ⟨ho, L, cap2, rfl, hL, lL⟩ := helds_cells (show DataW.trod enc Try.prog W 0 (fun _ => true) held m 23 [c1] = some x1 from e1)
      exact ⟨ao, B, cap, ho, L, cap2, rfl, hB, hL, lB, lL⟩
set_option maxRecDepth 100000 in
theorem open_build (hv : Value.okWide Try.prog W r b0 25 v) (h : DataW.Trod enc Try.prog W 0 (fun _ => true) held 25 v d p) : ∃ ao B cap ho H cap2, v = encB ao B.length cap ho H.length cap2 ∧ Bd W ao B ho H := by
  obtain ⟨cs, rfl, _⟩ := okWide_struct Try.underlying25 hv
  obtain ⟨fuel, hf⟩ := h
  obtain ⟨ao, B, cap, ho, L, cap2, e, q⟩ := build_cells hf
  refine ⟨ao, B, cap, ho, L, cap2, ?_, q⟩
  have : cs.toList = [.slice ao B.length cap, .slice ho L.length cap2] := by simpa [Value.cells] using e
  unfold encB
  rw [← Array.toArray_toList (xs := cs), this]
end
end Go.Proofs.Ytafjgoelofobmaa
