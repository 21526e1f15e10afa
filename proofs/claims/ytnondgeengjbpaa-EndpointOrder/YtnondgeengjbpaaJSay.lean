/-
  What the statements' own frame gives: messages, calls and numbers that came in, each with its bounds; no condition of ours.
-/
import Derived.Test.YtnondgeengjbpaaJBase
import Derived.WalkKit
import Derived.ProofKit
import Derived.OpenShut
import Derived.LaidMore
import Derived.Deep.DeepHandedRow
import Derived.Lib.SmallJoins
import Derived.Laws.IdiomArrays
import Derived.Deep.Slices
namespace Go.Proofs.Ytnondgeengjbpaa
open Go.ChangeShapes Go.WideShapes Go.ChangeAt Go.RowKit Go.Joins Go.Deep

theorem own : ownKnob Try.prog.godebug = none := by kernel_rfl
theorem laidOut : laidOutB Try.prog = true := by kernel_rfl
/-- A call: which, of whom, a message, does it wait. -/
structure Oc where
  k : Int
  n : Int
  m : Ms
  z : Bool
def cO (x : Oc) : List Value := [.int .i64 x.k, .int .i64 x.n, .int .i64 x.m.l, .int .u64 x.m.a, .int .u64 x.m.b, .int .u64 x.m.c, .int .u64 x.m.d, .int .u64 x.m.g, .bool x.m.q, .bool x.z]
def encO (x : Oc) : Value := .agg #[.int .i64 x.k, .int .i64 x.n, .int .i64 x.m.l, .int .u64 x.m.a, .int .u64 x.m.b, .int .u64 x.m.c, .int .u64 x.m.d, .int .u64 x.m.g, .bool x.m.q, .bool x.z]
def objO (x : Oc) : Obj := .cells #[.int .i64 x.k, .int .i64 x.n, .int .i64 x.m.l, .int .u64 x.m.a, .int .u64 x.m.b, .int .u64 x.m.c, .int .u64 x.m.d, .int .u64 x.m.g, .bool x.m.q, .bool x.z] 35
def U64 (x : Int) : Prop := 0 ≤ x ∧ x ≤ 18446744073709551615
structure Ms.Fits (m : Ms) : Prop where
  l : I64 m.l
  a : U64 m.a
  b : U64 m.b
  c : U64 m.c
  d : U64 m.d
  g : U64 m.g
structure Oc.Fits (x : Oc) : Prop where
  k : I64 x.k
  n : I64 x.n
  m : x.m.Fits
/-- Elements X, of k cells each, lie where the slice leads to. -/
def SeeK {α : Type} (k : Nat) (enc : α → List Value) (P : α → Prop) (W : World) (ao : Option Addr) (X : List α) : Prop :=
  ∀ i x, X[i]? = some x → P x ∧ ∃ b o, ao = some ⟨b, o, none⟩ ∧ b < W.heap.size ∧ ∀ j v, (enc x)[j]? = some v → W.cell? ⟨b, o + i * k + j, none⟩ = some v
theorem SeeK.below {α : Type} {k : Nat} {enc : α → List Value} {P : α → Prop} {W W' : World} {ao : Option Addr} {X : List α} {r : Nat} (h : SeeK k enc P W ao X) (hb : Below r W W') (hr : W.heap.size ≤ r) : SeeK k enc P W' ao X := fun i x hx => by
  obtain ⟨h1, b, o, e, hlt, hc⟩ := h i x hx
  exact ⟨h1, b, o, e, Nat.lt_of_lt_of_le hlt hb.size, fun j v hj => (hb.cell (p := ⟨b, o + i * k + j, none⟩) (by simp only; omega)).trans (hc j v hj)⟩
abbrev Ops (W : World) (ao : Option Addr) (X : List Oc) : Prop := SeeK 10 cO Oc.Fits W ao X
theorem Ops.at {W : World} {ao : Option Addr} {X : List Oc} (h : Ops W ao X) {i : Nat} {x : Oc} (hx : X[i]? = some x) : x.Fits ∧ ∃ b o, ao = some ⟨b, o, none⟩ ∧ W.cell? ⟨b, o + i * 10, none⟩ = some (.int .i64 x.k) ∧ W.cell? ⟨b, o + i * 10 + 1, none⟩ = some (.int .i64 x.n) ∧ W.cell? ⟨b, o + i * 10 + 2, none⟩ = some (.int .i64 x.m.l) ∧ W.cell? ⟨b, o + i * 10 + 3, none⟩ = some (.int .u64 x.m.a) ∧ W.cell? ⟨b, o + i * 10 + 4, none⟩ = some (.int .u64 x.m.b) ∧ W.cell? ⟨b, o + i * 10 + 5, none⟩ = some (.int .u64 x.m.c) ∧ W.cell? ⟨b, o + i * 10 + 6, none⟩ = some (.int .u64 x.m.d) ∧ W.cell? ⟨b, o + i * 10 + 7, none⟩ = some (.int .u64 x.m.g) ∧ W.cell? ⟨b, o + i * 10 + 8, none⟩ = some (.bool x.m.q) ∧ W.cell? ⟨b, o + i * 10 + 9, none⟩ = some (.bool x.z) := by
  obtain ⟨h1, b, o, e, _, hc⟩ := h i x hx
  exact ⟨h1, b, o, e, hc 0 _ rfl, hc 1 _ rfl, hc 2 _ rfl, hc 3 _ rfl, hc 4 _ rfl, hc 5 _ rfl, hc 6 _ rfl, hc 7 _ rfl, hc 8 _ rfl, hc 9 _ rfl⟩
abbrev Ints (W : World) (ao : Option Addr) (X : List Int) : Prop := SeeK 1 cI I64 W ao X
theorem Ints.at {W : World} {ao : Option Addr} {X : List Int} (h : Ints W ao X) {i : Nat} {x : Int} (hx : X[i]? = some x) : I64 x ∧ ∃ b o, ao = some ⟨b, o, none⟩ ∧ W.cell? ⟨b, o + i, none⟩ = some (.int .i64 x) := by
  obtain ⟨h1, b, o, e, _, hc⟩ := h i x hx
  exact ⟨h1, b, o, e, by have := hc 0 _ rfl; simpa using this⟩
section
variable {H : Type} {enc : TypeId × Value → H} {W : World} {r : Reach} {b0 base : Nat} {sp : Nat → Bool} {held : Bool} {v : Value} {d : DataW H} {p : List MemPlace}
set_option maxRecDepth 100000 in
theorem int_cells {fuel : Nat} {cs : List Value} {x : DataW H × List MemPlace} (h : DataW.trod enc Try.prog W base sp held fuel 3 cs = some x) : ∃ n : Int, cs = cI n ∧ I64 n := by
  obtain ⟨k0, q0, _, g0⟩ := DataW.trod_int Try.underlying3 h
  exact ⟨k0, q0, bounds_i64 g0⟩
set_option maxRecDepth 100000 in
theorem word_cells {fuel : Nat} {cs : List Value} {x : DataW H × List MemPlace} (h : DataW.trod enc Try.prog W base sp held fuel 30 cs = some x) : ∃ n : Int, cs = [.int .u64 n] ∧ 0 ≤ n ∧ n ≤ 18446744073709551615 := by
  obtain ⟨k0, q0, _, g0⟩ := DataW.trod_int Try.underlying30 h
  exact ⟨k0, q0, bounds_u64 g0⟩
set_option maxRecDepth 100000 in
theorem bool_cells {fuel : Nat} {cs : List Value} {x : DataW H × List MemPlace} (h : DataW.trod enc Try.prog W base sp held fuel 4 cs = some x) : ∃ n : Bool, cs = [.bool n] := by
  obtain ⟨k0, q0, _⟩ := DataW.trod_bool Try.underlying4 h
  exact ⟨k0, q0⟩
set_option maxRecDepth 100000 in
theorem msg_cells {fuel : Nat} {c0 c1 c2 c3 c4 c5 c6 : Value} {x : DataW H × List MemPlace} (h : DataW.trod enc Try.prog W base sp held fuel 33 [c0, c1, c2, c3, c4, c5, c6] = some x) :
    ∃ m : Ms, [c0, c1, c2, c3, c4, c5, c6] = cM m ∧ m.Fits := by
  obtain ⟨xs, m, _, _, hl, hlen, hf⟩ := DataW.trod_struct Try.underlying33 h
  have ci : Try.prog.cellsOf 3 = 1 := by kernel_rfl
  have cu : Try.prog.cellsOf 30 = 1 := by kernel_rfl
  have ca : Try.prog.cellsOf 31 = 4 := by kernel_rfl
  have cb : Try.prog.cellsOf 4 = 1 := by kernel_rfl
  have h4 : xs.length = 4 := hlen
  match xs, h4 with
  | [x0, x1, x2, x3], _ =>
    have e0 : DataW.trod enc Try.prog W base sp held m 3 (([c0, c1, c2, c3, c4, c5, c6].drop 0).take (Try.prog.cellsOf 3)) = some x0 := hf 0 _ rfl
    have e1 : DataW.trod enc Try.prog W base sp held m 31 (([c0, c1, c2, c3, c4, c5, c6].drop 1).take (Try.prog.cellsOf 31)) = some x1 := hf 1 _ rfl
    have e2 : DataW.trod enc Try.prog W base sp held m 30 (([c0, c1, c2, c3, c4, c5, c6].drop 5).take (Try.prog.cellsOf 30)) = some x2 := hf 2 _ rfl
    have e3 : DataW.trod enc Try.prog W base sp held m 4 (([c0, c1, c2, c3, c4, c5, c6].drop 6).take (Try.prog.cellsOf 4)) = some x3 := hf 3 _ rfl
    rw [ci] at e0
    rw [ca] at e1
    rw [cu] at e2
    rw [cb] at e3
    obtain ⟨k0, q0, g0⟩ := int_cells (show DataW.trod enc Try.prog W base sp held m 3 [c0] = some x0 from e0)
    obtain ⟨_, _, _, _, _, _, a0, a1, a2, a3⟩ := trod_array4 Try.underlying31 cu (show DataW.trod enc Try.prog W base sp held m 31 [c1, c2, c3, c4] = some x1 from e1)
    obtain ⟨k1, q1, g1⟩ := word_cells a0
    obtain ⟨k2, q2, g2⟩ := word_cells a1
    obtain ⟨k3, q3, g3⟩ := word_cells a2
    obtain ⟨k4, q4, g4⟩ := word_cells a3
    obtain ⟨k5, q5, g5⟩ := word_cells (show DataW.trod enc Try.prog W base sp held m 30 [c5] = some x2 from e2)
    obtain ⟨k6, q6⟩ := bool_cells (show DataW.trod enc Try.prog W base sp held m 4 [c6] = some x3 from e3)
    simp only [cI, List.cons.injEq, and_true] at q0 q1 q2 q3 q4 q5 q6
    subst q0 q1 q2 q3 q4 q5 q6
    exact ⟨⟨k0, k1, k2, k3, k4, k5, k6⟩, rfl, ⟨g0, g1, g2, g3, g4, g5⟩⟩
set_option maxRecDepth 100000 in
theorem op_cells {fuel : Nat} {cs : List Value} {x : DataW H × List MemPlace} (h : DataW.trod enc Try.prog W base sp held fuel 35 cs = some x) :
    ∃ x : Oc, cs = cO x ∧ x.Fits := by
  obtain ⟨xs, m, _, _, hl, hlen, hf⟩ := DataW.trod_struct Try.underlying35 h
  have c10 : Try.prog.cellsOf 35 = 10 := by kernel_rfl
  have ci : Try.prog.cellsOf 3 = 1 := by kernel_rfl
  have cm : Try.prog.cellsOf 33 = 7 := by kernel_rfl
  have cb : Try.prog.cellsOf 4 = 1 := by kernel_rfl
  rw [c10] at hl
  match cs, hl with
  | [c0, c1, c2, c3, c4, c5, c6, c7, c8, c9], _ =>
    have h4 : xs.length = 4 := hlen
    match xs, h4 with
    | [x0, x1, x2, x3], _ =>
      have e0 : DataW.trod enc Try.prog W base sp held m 3 (([c0, c1, c2, c3, c4, c5, c6, c7, c8, c9].drop 0).take (Try.prog.cellsOf 3)) = some x0 := hf 0 _ rfl
      have e1 : DataW.trod enc Try.prog W base sp held m 3 (([c0, c1, c2, c3, c4, c5, c6, c7, c8, c9].drop 1).take (Try.prog.cellsOf 3)) = some x1 := hf 1 _ rfl
      have e2 : DataW.trod enc Try.prog W base sp held m 33 (([c0, c1, c2, c3, c4, c5, c6, c7, c8, c9].drop 2).take (Try.prog.cellsOf 33)) = some x2 := hf 2 _ rfl
      have e3 : DataW.trod enc Try.prog W base sp held m 4 (([c0, c1, c2, c3, c4, c5, c6, c7, c8, c9].drop 9).take (Try.prog.cellsOf 4)) = some x3 := hf 3 _ rfl
      rw [ci] at e0 e1
      rw [cm] at e2
      rw [cb] at e3
      obtain ⟨k0, q0, g0⟩ := int_cells (show DataW.trod enc Try.prog W base sp held m 3 [c0] = some x0 from e0)
      obtain ⟨k1, q1, g1⟩ := int_cells (show DataW.trod enc Try.prog W base sp held m 3 [c1] = some x1 from e1)
      obtain ⟨k2, q2, g2⟩ := msg_cells (show DataW.trod enc Try.prog W base sp held m 33 [c2, c3, c4, c5, c6, c7, c8] = some x2 from e2)
      obtain ⟨k3, q3⟩ := bool_cells (show DataW.trod enc Try.prog W base sp held m 4 [c9] = some x3 from e3)
      simp only [cI, cM, List.cons.injEq, and_true] at q0 q1 q2 q3
      obtain ⟨rfl, rfl, rfl, rfl, rfl, rfl, rfl⟩ := q2
      subst q0 q1 q3
      exact ⟨⟨k0, k1, k2, k3⟩, rfl, ⟨g0, g1, g2⟩⟩
set_option maxRecDepth 100000 in
theorem open_op (hv : Value.okWide Try.prog W r b0 35 v) (h : DataW.Trod enc Try.prog W base sp held 35 v d p) : ∃ x : Oc, v = encO x ∧ x.Fits := by
  obtain ⟨cs, rfl, _⟩ := okWide_struct Try.underlying35 hv
  obtain ⟨fuel, hf⟩ := h
  obtain ⟨x, e, q⟩ := op_cells hf
  refine ⟨x, ?_, q⟩
  have : cs.toList = cO x := by simpa [Value.cells] using e
  unfold encO
  rw [← Array.toArray_toList (xs := cs), this]
  rfl
set_option maxRecDepth 100000 in
theorem open_rows {α : Type} {k : Nat} (hk : 0 < k) (code : α → List Value) (hlen : ∀ x, (code x).length = k) (P : α → Prop) (z : α) (t e : TypeId) (ht : Try.prog.underlying t = some (.slice e)) (ck : Try.prog.cellsOf e = k)
    (dec : ∀ fuel cs x, DataW.trod enc Try.prog W 0 (fun _ => true) held fuel e cs = some x → ∃ y, cs = code y ∧ P y)
    (hv : Value.okWide Try.prog W r b0 t v) (h : DataW.Trod enc Try.prog W 0 (fun _ => true) held t v d p) :
    ∃ (ao : Option Addr) (X : List α) (cap : Nat), v = .slice ao X.length cap ∧ SeeK k code P W ao X ∧ X.length ≤ 9223372036854775807 := by
  obtain ⟨a0, len0, cap0, rfl⟩ := okWide_slice ht hv
  obtain ⟨fuel, hf⟩ := h
  rcases open_slice ht hf with ⟨hcs, _⟩ | ⟨x, len, cap, m, n, D, Pl, hcs, _, hl, hm, hmm, _, hx⟩
  · simp [Value.cells] at hcs
    obtain ⟨rfl, rfl, rfl⟩ := hcs
    exact ⟨none, [], 0, rfl, fun i x hx => by simp at hx, by simp⟩
  · simp [Value.cells] at hcs
    obtain ⟨rfl, rfl, rfl⟩ := hcs
    simp only [if_true] at hmm
    obtain ⟨b, off, spot⟩ := x
    have each : ∀ i, i < len0 → ∃ x : α, P x ∧ ∀ j v, (code x)[j]? = some v → W.cell? ((⟨b, off, spot⟩ : Addr).add (i * k + j)) = some v := by
      intro i hi
      obtain ⟨cs', h1, h2⟩ := hx i (by omega)
      rw [ck] at h1
      obtain ⟨_, hl2, hcell⟩ := World.cells?_some h1
      obtain ⟨x, rfl, hP⟩ := dec _ _ _ h2
      refine ⟨x, hP, fun j v hj => ?_⟩
      have hj' := (List.getElem?_eq_some_iff.1 hj).1
      rw [hlen] at hj'
      have e := hcell j (by omega)
      rw [add_add] at e
      rw [e]
      exact hj
    obtain ⟨X, hX, hXe⟩ : ∃ X : List α, X.length = len0 ∧ ∀ (i : Nat) (x : α), X[i]? = some x → P x ∧ ∀ j v, (code x)[j]? = some v → W.cell? ((⟨b, off, spot⟩ : Addr).add (i * k + j)) = some v := by
      refine ⟨(List.range len0).map fun i => if h : i < len0 then (each i h).choose else z, by simp, fun i x hx => ?_⟩
      have hi : i < len0 := by
        have := (List.getElem?_eq_some_iff.1 hx).1
        simpa using this
      simp only [List.getElem?_map, List.getElem?_range hi, Option.map_some, dif_pos hi, Option.some.injEq] at hx
      rw [← hx]
      exact (each i hi).choose_spec
    refine ⟨some ⟨b, off, spot⟩, X, cap0, by rw [hX], fun i x hx => ?_, by rw [hX]; unfold maxLen at hm; omega⟩
    obtain ⟨hP, hc⟩ := hXe i x hx
    have hX0 : 0 < X.length := by have := (List.getElem?_eq_some_iff.1 hx).1; omega
    have hpos : 0 < (code X[0]).length := by rw [hlen]; exact hk
    have z0 := (hXe 0 _ (List.getElem?_eq_getElem hX0)).2 0 _ (List.getElem?_eq_getElem hpos)
    have hspot : spot = none := by
      have := World.cell?_spot z0
      simpa [Addr.add] using this
    subst hspot
    have ea : ∀ j, (⟨b, off, none⟩ : Addr).add j = ⟨b, off + j, none⟩ := fun j => by unfold Addr.add; split <;> simp_all
    rw [ea] at z0
    refine ⟨hP, b, off, rfl, World.block_lt_of_cell? W _ z0, fun j v hj => ?_⟩
    have := hc j v hj
    rw [ea] at this
    rw [← this]
    congr 2
    omega
set_option maxRecDepth 100000 in
theorem open_ops (hv : Value.okWide Try.prog W r b0 22 v) (h : DataW.Trod enc Try.prog W 0 (fun _ => true) held 22 v d p) :
    ∃ (ao : Option Addr) (X : List Oc) (cap : Nat), v = .slice ao X.length cap ∧ Ops W ao X ∧ X.length ≤ 9223372036854775807 :=
  open_rows (k := 10) (by omega) cO (fun _ => rfl) Oc.Fits ⟨0, 0, ms0, false⟩ 22 35 Try.underlying22 (by kernel_rfl) (fun _ _ _ h => op_cells h) hv h
set_option maxRecDepth 100000 in
theorem open_ints (hv : Value.okWide Try.prog W r b0 27 v) (h : DataW.Trod enc Try.prog W 0 (fun _ => true) held 27 v d p) :
    ∃ (ao : Option Addr) (X : List Int) (cap : Nat), v = .slice ao X.length cap ∧ Ints W ao X ∧ X.length ≤ 9223372036854775807 :=
  open_rows (k := 1) (by omega) cI (fun _ => rfl) I64 0 27 3 Try.underlying27 (by kernel_rfl) (fun _ _ _ h => int_cells h) hv h
set_option maxRecDepth 100000 in
theorem open_msg (hv : Value.okWide Try.prog W r b0 33 v) (h : DataW.Trod enc Try.prog W base sp held 33 v d p) : ∃ m : Ms, v = encM m ∧ m.Fits := by
  obtain ⟨cs, rfl, _⟩ := okWide_struct Try.underlying33 hv
  obtain ⟨fuel, hf⟩ := h
  have hl : cs.toList.length = 7 := by
    obtain ⟨xs, m, _, _, hl, _⟩ := DataW.trod_struct Try.underlying33 hf
    have c7 : Try.prog.cellsOf 33 = 7 := by kernel_rfl
    rw [c7] at hl
    simpa [Value.cells] using hl
  have hf' : DataW.trod enc Try.prog W base sp held fuel 33 cs.toList = some (d, p) := by simpa [Value.cells] using hf
  obtain ⟨l, hl2⟩ : ∃ l, l = cs.toList := ⟨_, rfl⟩
  rw [← hl2] at hl hf'
  match l, hl, hf', hl2 with
  | [c0, c1, c2, c3, c4, c5, c6], _, hf', hl2 =>
    obtain ⟨m, e, q⟩ := msg_cells hf'
    refine ⟨m, ?_, q⟩
    unfold encM
    rw [← Array.toArray_toList (xs := cs), ← hl2, e]
    rfl
end
section
variable {w0 w : World} {r : Nat} {R : List Th}
theorem Sep.opAt {q : Nat} {x : Oc} (h : Sep w0 r w R) (hm : blk q (objO x) ∈ R) : w.cell? ⟨q, 0, none⟩ = some (.int .i64 x.k) ∧ w.cell? ⟨q, 1, none⟩ = some (.int .i64 x.n) ∧ w.cell? ⟨q, 2, none⟩ = some (.int .i64 x.m.l) ∧ w.cell? ⟨q, 3, none⟩ = some (.int .u64 x.m.a) ∧ w.cell? ⟨q, 4, none⟩ = some (.int .u64 x.m.b) ∧ w.cell? ⟨q, 5, none⟩ = some (.int .u64 x.m.c) ∧ w.cell? ⟨q, 6, none⟩ = some (.int .u64 x.m.d) ∧ w.cell? ⟨q, 7, none⟩ = some (.int .u64 x.m.g) ∧ w.cell? ⟨q, 8, none⟩ = some (.bool x.m.q) ∧ w.cell? ⟨q, 9, none⟩ = some (.bool x.z) := by
  have h1 : w.heap[q]? = some (objO x) := (h.each _ hm).1
  unfold objO at h1
  refine ⟨?_, ?_, ?_, ?_, ?_, ?_, ?_, ?_, ?_, ?_⟩ <;> simp [World.cell?, h1]
theorem Sep.msgAt {q : Nat} {m : Ms} (h : Sep w0 r w R) (hm : blk q (objM m) ∈ R) : AtM w q m := atM_of (h.each _ hm).1
theorem Sep.metAt {q : Nat} {x : Mt} (h : Sep w0 r w R) (hm : blk q (objT x) ∈ R) : AtT w q x := atT_of (h.each _ hm).1
end
end Go.Proofs.Ytnondgeengjbpaa
