/-
  What the statements' own frame gives: the listed table's cells, a memory and what is asked for as values, each with its bounds; no condition of ours.
-/
import Derived.Test.YtkelblkegpmlpaaDoorUFixed
import Derived.Test.YtkelblkegpmlpaaDoorCards
import Derived.Test.YtkelblkegpmlpaaDoorTie
import Derived.WalkKit
import Derived.ProofKit
import Derived.OpenShut
import Derived.LaidMore
import Derived.Deep.DeepHandedRow
import Derived.Lib.LaidTab
import Derived.Lib.SmallJoins
namespace Go.Proofs.YtkelblkegpmlpaaDoor
open Go.ChangeShapes Go.WideShapes Go.ChangeAt Go.RowKit Go.Joins

theorem own : ownKnob Tryd.prog.godebug = none := by kernel_rfl
theorem laidOut : laidOutB Tryd.prog = true := by kernel_rfl
section
variable {H : Type} {enc : TypeId × Value → H} {W : World} {r : Reach} {b0 base : Nat} {sp : Nat → Bool} {held : Bool} {v : Value} {d : DataW H} {p : List MemPlace}
theorem ext_cells {fuel : Nat} {cs : List Value} {x : DataW H × List MemPlace} {a b c : Int} (h : DataW.trod enc Tryd.prog W base sp held fuel 47 cs = some x) (hx1 : x.1 = .agg [.lit (.int .i64 a), .lit (.int .i64 b), .lit (.int .i64 c)]) : cs = [.int .i64 a, .int .i64 b, .int .i64 c] := by
  obtain ⟨y, z⟩ := x
  obtain rfl : y = _ := hx1
  obtain ⟨xs, m, _, hx, hl, hlen, hf⟩ := DataW.trod_struct Tryd.underlying47 h
  have c3 : Tryd.prog.cellsOf 47 = 3 := by kernel_rfl
  have ci : Tryd.prog.cellsOf 3 = 1 := by kernel_rfl
  rw [c3] at hl
  match cs, hl with
  | [e0, e1, e2], _ =>
    have h3 : xs.length = 3 := hlen
    match xs, h3 with
    | [x0, x1, x2], _ =>
      have t0 : DataW.trod enc Tryd.prog W base sp held m 3 (([e0, e1, e2].drop 0).take (Tryd.prog.cellsOf 3)) = some x0 := hf 0 _ rfl
      have t1 : DataW.trod enc Tryd.prog W base sp held m 3 (([e0, e1, e2].drop 1).take (Tryd.prog.cellsOf 3)) = some x1 := hf 1 _ rfl
      have t2 : DataW.trod enc Tryd.prog W base sp held m 3 (([e0, e1, e2].drop 2).take (Tryd.prog.cellsOf 3)) = some x2 := hf 2 _ rfl
      rw [ci] at t0 t1 t2
      obtain ⟨k0, q0, y0, _⟩ := DataW.trod_int Tryd.underlying3 (show DataW.trod enc Tryd.prog W base sp held m 3 [e0] = some x0 from t0)
      obtain ⟨k1, q1, y1, _⟩ := DataW.trod_int Tryd.underlying3 (show DataW.trod enc Tryd.prog W base sp held m 3 [e1] = some x1 from t1)
      obtain ⟨k2, q2, y2, _⟩ := DataW.trod_int Tryd.underlying3 (show DataW.trod enc Tryd.prog W base sp held m 3 [e2] = some x2 from t2)
      subst y0 y1 y2
      simp at hx q0 q1 q2
      rw [q0, q1, q2, hx.1.1, hx.1.2.1, hx.1.2.2]
theorem un_cells {fuel : Nat} {cs : List Value} {x : DataW H × List MemPlace} (h : DataW.trod enc Tryd.prog W base sp held fuel 24 cs = some x) :
    ∃ u : Un, cs = [.int .u64 u.base, .int .i64 u.bits, .int .u64 u.used] ∧ u.Fits := by
  obtain ⟨xs, m, _, _, hl, hlen, hf⟩ := DataW.trod_struct Tryd.underlying24 h
  have c3 : Tryd.prog.cellsOf 24 = 3 := by kernel_rfl
  have ci : Tryd.prog.cellsOf 3 = 1 := by kernel_rfl
  have cu : Tryd.prog.cellsOf 22 = 1 := by kernel_rfl
  rw [c3] at hl
  match cs, hl with
  | [c0, c1, c2], _ =>
    have h3 : xs.length = 3 := hlen
    match xs, h3 with
    | [x0, x1, x2], _ =>
      have e0 : DataW.trod enc Tryd.prog W base sp held m 22 (([c0, c1, c2].drop 0).take (Tryd.prog.cellsOf 22)) = some x0 := hf 0 _ rfl
      have e1 : DataW.trod enc Tryd.prog W base sp held m 3 (([c0, c1, c2].drop 1).take (Tryd.prog.cellsOf 3)) = some x1 := hf 1 _ rfl
      have e2 : DataW.trod enc Tryd.prog W base sp held m 22 (([c0, c1, c2].drop 2).take (Tryd.prog.cellsOf 22)) = some x2 := hf 2 _ rfl
      rw [ci] at e1
      rw [cu] at e0 e2
      obtain ⟨k0, q0, _, g0⟩ := DataW.trod_int Tryd.underlying22 (show DataW.trod enc Tryd.prog W base sp held m 22 [c0] = some x0 from e0)
      obtain ⟨k1, q1, _, g1⟩ := DataW.trod_int Tryd.underlying3 (show DataW.trod enc Tryd.prog W base sp held m 3 [c1] = some x1 from e1)
      obtain ⟨k2, q2, _, g2⟩ := DataW.trod_int Tryd.underlying22 (show DataW.trod enc Tryd.prog W base sp held m 22 [c2] = some x2 from e2)
      simp only [List.cons.injEq, and_true] at q0 q1 q2
      subst q0 q1 q2
      exact ⟨⟨k0, k1, k2⟩, rfl, ⟨bounds_u64 g0, bounds_i64 g1, bounds_u64 g2⟩⟩
theorem open_un (hv : Value.okWide Tryd.prog W r b0 24 v) (h : DataW.Trod enc Tryd.prog W base sp held 24 v d p) :
    ∃ u : Un, v = encU u ∧ u.Fits := by
  obtain ⟨cs, rfl, _⟩ := okWide_struct Tryd.underlying24 hv
  obtain ⟨fuel, hf⟩ := h
  obtain ⟨u, e, q⟩ := un_cells hf
  refine ⟨u, ?_, q⟩
  have : cs.toList = [.int .u64 u.base, .int .i64 u.bits, .int .u64 u.used] := by simpa [Value.cells] using e
  rw [← Array.toArray_toList (xs := cs), this]
  rfl
def encO (k b n : Int) : Value := .agg #[.int .i64 k, .int .i64 b, .int .i64 n]
theorem what_cells {fuel : Nat} {cs : List Value} {x : DataW H × List MemPlace} (h : DataW.trod enc Tryd.prog W base sp held fuel 26 cs = some x) :
    ∃ k b n : Int, cs = [.int .i64 k, .int .i64 b, .int .i64 n] ∧ (-9223372036854775808 ≤ k ∧ k ≤ 9223372036854775807) ∧ (-9223372036854775808 ≤ b ∧ b ≤ 9223372036854775807) ∧ (-9223372036854775808 ≤ n ∧ n ≤ 9223372036854775807) := by
  obtain ⟨xs, m, _, _, hl, hlen, hf⟩ := DataW.trod_struct Tryd.underlying26 h
  have c3 : Tryd.prog.cellsOf 26 = 3 := by kernel_rfl
  have ci : Tryd.prog.cellsOf 3 = 1 := by kernel_rfl
  rw [c3] at hl
  match cs, hl with
  | [c0, c1, c2], _ =>
    have h3 : xs.length = 3 := hlen
    match xs, h3 with
    | [x0, x1, x2], _ =>
      have e0 : DataW.trod enc Tryd.prog W base sp held m 3 (([c0, c1, c2].drop 0).take (Tryd.prog.cellsOf 3)) = some x0 := hf 0 _ rfl
      have e1 : DataW.trod enc Tryd.prog W base sp held m 3 (([c0, c1, c2].drop 1).take (Tryd.prog.cellsOf 3)) = some x1 := hf 1 _ rfl
      have e2 : DataW.trod enc Tryd.prog W base sp held m 3 (([c0, c1, c2].drop 2).take (Tryd.prog.cellsOf 3)) = some x2 := hf 2 _ rfl
      rw [ci] at e0 e1 e2
      obtain ⟨k0, q0, _, g0⟩ := DataW.trod_int Tryd.underlying3 (show DataW.trod enc Tryd.prog W base sp held m 3 [c0] = some x0 from e0)
      obtain ⟨k1, q1, _, g1⟩ := DataW.trod_int Tryd.underlying3 (show DataW.trod enc Tryd.prog W base sp held m 3 [c1] = some x1 from e1)
      obtain ⟨k2, q2, _, g2⟩ := DataW.trod_int Tryd.underlying3 (show DataW.trod enc Tryd.prog W base sp held m 3 [c2] = some x2 from e2)
      simp only [List.cons.injEq, and_true] at q0 q1 q2
      subst q0 q1 q2
      exact ⟨k0, k1, k2, rfl, bounds_i64 g0, bounds_i64 g1, bounds_i64 g2⟩
theorem open_what (hv : Value.okWide Tryd.prog W r b0 26 v) (h : DataW.Trod enc Tryd.prog W base sp held 26 v d p) :
    ∃ k b n : Int, v = encO k b n ∧ (-9223372036854775808 ≤ k ∧ k ≤ 9223372036854775807) ∧ (-9223372036854775808 ≤ b ∧ b ≤ 9223372036854775807) ∧ (-9223372036854775808 ≤ n ∧ n ≤ 9223372036854775807) := by
  obtain ⟨cs, rfl, _⟩ := okWide_struct Tryd.underlying26 hv
  obtain ⟨fuel, hf⟩ := h
  obtain ⟨k, b, n, e, q⟩ := what_cells hf
  refine ⟨k, b, n, ?_, q⟩
  have : cs.toList = [.int .i64 k, .int .i64 b, .int .i64 n] := by simpa [Value.cells] using e
  rw [← Array.toArray_toList (xs := cs), this]
  rfl
theorem take3 {cs l : List Value} {n : Nat} (h : (cs.drop n).take 3 = l) : cs.drop n = l ++ cs.drop (n + 3) := by
  have := List.take_append_drop 3 (cs.drop n)
  rw [h, List.drop_drop] at this
  exact this.symm
theorem tab_cells {fuel : Nat} {cs : List Value} (h : DataW.trod enc Tryd.prog W base sp held fuel 48 cs = some (Rows.laid_buttress_untyped_sizes, p)) : cs = tabL.map (Value.int .i64) := by
  have hu : Tryd.prog.underlying 48 = some (.array 10 47) := Tryd.underlying48
  have c3 : Tryd.prog.cellsOf 47 = 3 := by kernel_rfl
  have c30 : Tryd.prog.cellsOf 48 = 30 := by kernel_rfl
  obtain ⟨xs, m, _, hx, hl, hlen, hf⟩ := DataW.trod_array hu h
  rw [c30] at hl
  match xs, hlen with
  | [x0, x1, x2, x3, x4, x5, x6, x7, x8, x9], _ =>
    simp only [Rows.laid_buttress_untyped_sizes, Prod.mk.injEq, DataW.agg.injEq, List.map_cons, List.map_nil, List.cons.injEq, and_true] at hx
    obtain ⟨⟨e0, e1, e2, e3, e4, e5, e6, e7, e8, e9⟩, -⟩ := hx
    have t0 := take3 (n := 0) (ext_cells (x := x0) (a := 0) (b := 0) (c := 0) (by have := hf 0 (by decide); rw [c3] at this; simpa using this) e0.symm)
    have t1 := take3 (n := 3) (ext_cells (x := x1) (a := 0) (b := 4) (c := 20) (by have := hf 1 (by decide); rw [c3] at this; simpa using this) e1.symm)
    have t2 := take3 (n := 6) (ext_cells (x := x2) (a := 2) (b := 1) (c := 8) (by have := hf 2 (by decide); rw [c3] at this; simpa using this) e2.symm)
    have t3 := take3 (n := 9) (ext_cells (x := x3) (a := 5) (b := 0) (c := 0) (by have := hf 3 (by decide); rw [c3] at this; simpa using this) e3.symm)
    have t4 := take3 (n := 12) (ext_cells (x := x4) (a := 2) (b := 0) (c := 0) (by have := hf 4 (by decide); rw [c3] at this; simpa using this) e4.symm)
    have t5 := take3 (n := 15) (ext_cells (x := x5) (a := 2) (b := 0) (c := 0) (by have := hf 5 (by decide); rw [c3] at this; simpa using this) e5.symm)
    have t6 := take3 (n := 18) (ext_cells (x := x6) (a := 6) (b := 0) (c := 0) (by have := hf 6 (by decide); rw [c3] at this; simpa using this) e6.symm)
    have t7 := take3 (n := 21) (ext_cells (x := x7) (a := 6) (b := 0) (c := 0) (by have := hf 7 (by decide); rw [c3] at this; simpa using this) e7.symm)
    have t8 := take3 (n := 24) (ext_cells (x := x8) (a := 6) (b := 0) (c := 0) (by have := hf 8 (by decide); rw [c3] at this; simpa using this) e8.symm)
    have t9 := take3 (n := 27) (ext_cells (x := x9) (a := 0) (b := 0) (c := 0) (by have := hf 9 (by decide); rw [c3] at this; simpa using this) e9.symm)
    have z : cs.drop 30 = [] := List.drop_eq_nil_of_le (by omega)
    rw [t1, t2, t3, t4, t5, t6, t7, t8, t9, z] at t0
    exact t0
end
theorem gTab : Tryd.prog.globalNamed "buttress/untyped.sizes" = some 0 := by kernel_rfl
theorem tTab : (Tryd.prog.globals[0]?).map (·.type) = some 48 := by kernel_rfl
theorem table {W : World} (h : laidMetH Tryd.prog [("buttress/untyped.sizes", Rows.laid_buttress_untyped_sizes)] W) : Tab W := by
  have h' : laidMet Tryd.prog [("buttress/untyped.sizes", Rows.laid_buttress_untyped_sizes)] W := h
  clear h
  obtain ⟨ps, ⟨g1, t1, cs1, f1, p1, q1, hg1, ht1, hv1, hd1, _, _⟩, _⟩ := h'
  obtain rfl := Option.some.inj (gTab.symm.trans hg1)
  obtain rfl := Option.some.inj (tTab.symm.trans ht1)
  have hc := tab_cells hd1
  have e : cs1 = (tabL.map (Value.int .i64)).toArray := by rw [← Array.toArray_toList (xs := cs1), hc]
  subst e
  have cell : ∀ i, i < 30 → W.cell? ⟨0, i, none⟩ = some (.int .i64 (tabL.getD i 0)) := by
    intro i hi
    have := World.var?_cell gTab hv1 i
    rw [this]
    have hl : i < tabL.length := hi
    simp [hl]
  have s := World.block_lt_of_cell? W _ (cell 0 (by decide))
  exact ⟨by simp only at s; omega, cell⟩
end Go.Proofs.YtkelblkegpmlpaaDoor
