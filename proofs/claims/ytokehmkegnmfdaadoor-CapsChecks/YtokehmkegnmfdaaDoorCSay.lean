/-
  What the statements' own frame gives: the four places' cells, a capability and two words as values, each with its bounds; no condition of ours.
-/
import Derived.Test.YtokehmkegnmfdaaDoorCLaid
import Derived.Test.YtokehmkegnmfdaaDoorCards
import Derived.Test.YtokehmkegnmfdaaDoorTie
import Derived.WalkKit
import Derived.ProofKit
import Derived.OpenShut
import Derived.LaidMore
import Derived.Deep.DeepHandedRow
import Derived.Lib.LaidTab
import Derived.Lib.SmallJoins
namespace Go.Proofs.YtokehmkegnmfdaaDoor
open Go.ChangeShapes Go.WideShapes Go.ChangeAt Go.RowKit Go.Joins
set_option linter.unusedSectionVars false
variable [dCp : DecidableEq Cp] [dLim : ∀ k, Decidable (Lim k)] [dBad : ∀ k, Decidable (Bad k)] [dFit : ∀ g z, Decidable (Fit g z)] [dFine : ∀ c, Decidable (Fine c)] [dMint : ∀ c v, Decidable (MintR c v)] [dWho : ∀ x y, Decidable (Whose x y)]

theorem own : ownKnob Tryd.prog.godebug = none := by kernel_rfl
theorem laidOut : laidOutB Tryd.prog = true := by kernel_rfl
section
variable {H : Type} {enc : TypeId × Value → H} {W : World} {r : Reach} {b0 base : Nat} {sp : Nat → Bool} {held : Bool} {v : Value} {d : DataW H} {p : List MemPlace}
theorem place_cells {fuel : Nat} {cs : List Value} {a b : Int} (h : DataW.trod enc Tryd.prog W base sp held fuel 46 cs = some (.agg [.lit (.int .i64 a), .lit (.int .i64 b)], p)) : cs = [.int .i64 a, .int .i64 b] := by
  obtain ⟨xs, m, _, hx, hl, hlen, hf⟩ := DataW.trod_struct Tryd.underlying46 h
  have c2 : Tryd.prog.cellsOf 46 = 2 := by kernel_rfl
  have ci : Tryd.prog.cellsOf 3 = 1 := by kernel_rfl
  rw [c2] at hl
  match cs, hl with
  | [e0, e1], _ =>
    have h2 : xs.length = 2 := hlen
    match xs, h2 with
    | [x0, x1], _ =>
      have t0 : DataW.trod enc Tryd.prog W base sp held m 3 (([e0, e1].drop 0).take (Tryd.prog.cellsOf 3)) = some x0 := hf 0 _ rfl
      have t1 : DataW.trod enc Tryd.prog W base sp held m 3 (([e0, e1].drop 1).take (Tryd.prog.cellsOf 3)) = some x1 := hf 1 _ rfl
      rw [ci] at t0 t1
      obtain ⟨k0, q0, y0, _⟩ := DataW.trod_int Tryd.underlying3 (show DataW.trod enc Tryd.prog W base sp held m 3 [e0] = some x0 from t0)
      obtain ⟨k1, q1, y1, _⟩ := DataW.trod_int Tryd.underlying3 (show DataW.trod enc Tryd.prog W base sp held m 3 [e1] = some x1 from t1)
      subst y0 y1
      simp at hx q0 q1
      rw [q0, q1, hx.1.1, hx.1.2]
theorem cap_cells {fuel : Nat} {cs : List Value} {x : DataW H × List MemPlace} (h : DataW.trod enc Tryd.prog W base sp held fuel 24 cs = some x) :
    ∃ c : Cp, cs = sixC c ∧ c.Fits := by
  obtain ⟨xs, m, _, _, hl, hlen, hf⟩ := DataW.trod_struct Tryd.underlying24 h
  have c6 : Tryd.prog.cellsOf 24 = 6 := by kernel_rfl
  have ci : Tryd.prog.cellsOf 3 = 1 := by kernel_rfl
  have cu : Tryd.prog.cellsOf 22 = 1 := by kernel_rfl
  rw [c6] at hl
  match cs, hl with
  | [c0, c1, c2, c3, c4, c5], _ =>
    have h6 : xs.length = 6 := hlen
    match xs, h6 with
    | [x0, x1, x2, x3, x4, x5], _ =>
      have e0 : DataW.trod enc Tryd.prog W base sp held m 3 (([c0, c1, c2, c3, c4, c5].drop 0).take (Tryd.prog.cellsOf 3)) = some x0 := hf 0 _ rfl
      have e1 : DataW.trod enc Tryd.prog W base sp held m 3 (([c0, c1, c2, c3, c4, c5].drop 1).take (Tryd.prog.cellsOf 3)) = some x1 := hf 1 _ rfl
      have e2 : DataW.trod enc Tryd.prog W base sp held m 3 (([c0, c1, c2, c3, c4, c5].drop 2).take (Tryd.prog.cellsOf 3)) = some x2 := hf 2 _ rfl
      have e3 : DataW.trod enc Tryd.prog W base sp held m 22 (([c0, c1, c2, c3, c4, c5].drop 3).take (Tryd.prog.cellsOf 22)) = some x3 := hf 3 _ rfl
      have e4 : DataW.trod enc Tryd.prog W base sp held m 22 (([c0, c1, c2, c3, c4, c5].drop 4).take (Tryd.prog.cellsOf 22)) = some x4 := hf 4 _ rfl
      have e5 : DataW.trod enc Tryd.prog W base sp held m 3 (([c0, c1, c2, c3, c4, c5].drop 5).take (Tryd.prog.cellsOf 3)) = some x5 := hf 5 _ rfl
      rw [ci] at e0 e1 e2 e5
      rw [cu] at e3 e4
      obtain ⟨k0, q0, _, g0⟩ := DataW.trod_int Tryd.underlying3 (show DataW.trod enc Tryd.prog W base sp held m 3 [c0] = some x0 from e0)
      obtain ⟨k1, q1, _, g1⟩ := DataW.trod_int Tryd.underlying3 (show DataW.trod enc Tryd.prog W base sp held m 3 [c1] = some x1 from e1)
      obtain ⟨k2, q2, _, g2⟩ := DataW.trod_int Tryd.underlying3 (show DataW.trod enc Tryd.prog W base sp held m 3 [c2] = some x2 from e2)
      obtain ⟨k3, q3, _, g3⟩ := DataW.trod_int Tryd.underlying22 (show DataW.trod enc Tryd.prog W base sp held m 22 [c3] = some x3 from e3)
      obtain ⟨k4, q4, _, g4⟩ := DataW.trod_int Tryd.underlying22 (show DataW.trod enc Tryd.prog W base sp held m 22 [c4] = some x4 from e4)
      obtain ⟨k5, q5, _, g5⟩ := DataW.trod_int Tryd.underlying3 (show DataW.trod enc Tryd.prog W base sp held m 3 [c5] = some x5 from e5)
      simp only [List.cons.injEq, and_true] at q0 q1 q2 q3 q4 q5
      subst q0 q1 q2 q3 q4 q5
      exact ⟨⟨k0, k1, k2, k3, k4, k5⟩, rfl, ⟨bounds_i64 g0, bounds_i64 g1, bounds_i64 g2, bounds_u64 g3, bounds_u64 g4, bounds_i64 g5⟩⟩
theorem open_cap (hv : Value.okWide Tryd.prog W r b0 24 v) (h : DataW.Trod enc Tryd.prog W base sp held 24 v d p) :
    ∃ c : Cp, v = encC c ∧ c.Fits := by
  obtain ⟨cs, rfl, _⟩ := okWide_struct Tryd.underlying24 hv
  obtain ⟨fuel, hf⟩ := h
  obtain ⟨c, e, q⟩ := cap_cells hf
  refine ⟨c, ?_, q⟩
  have : cs.toList = sixC c := by simpa [Value.cells] using e
  rw [← Array.toArray_toList (xs := cs), this]
  rfl
theorem array2 {cs : Array Value} (h : cs.size = 2) : ∃ a b, cs = #[a, b] := by
  obtain ⟨l⟩ := cs
  match l, h with
  | [a, b], _ => exact ⟨a, b, rfl⟩
theorem open_pair (hv : Value.okWide Tryd.prog W r b0 33 v) (h : DataW.Trod enc Tryd.prog W base sp held 33 v d p) :
    ∃ x y : Int, v = encW x y ∧ (0 ≤ x ∧ x ≤ 18446744073709551615) ∧ (0 ≤ y ∧ y ≤ 18446744073709551615) := by
  have hu : Tryd.prog.underlying 33 = some (.array 2 22) := Tryd.underlying33
  have c2 : Tryd.prog.cellsOf 33 = 2 := by kernel_rfl
  have c1 : Tryd.prog.cellsOf 22 = 1 := by kernel_rfl
  unfold Value.okWide at hv
  rw [hu] at hv
  obtain ⟨cs, rfl, hsz, _⟩ := hv
  obtain ⟨a, b, rfl⟩ := array2 (hsz.trans c2)
  obtain ⟨fuel, hf⟩ := h
  obtain ⟨xs, m, _, _, _, _, hel⟩ := DataW.trod_array hu hf
  have e0 := hel 0 (by decide)
  have e1 := hel 1 (by decide)
  rw [c1] at e0 e1
  have n2 : xs.length = 2 := by assumption
  match xs, n2 with
  | [y0, y1], _ =>
    obtain ⟨k0, q0, _, g0⟩ := DataW.trod_int Tryd.underlying22 (show DataW.trod enc Tryd.prog W base sp held m 22 [a] = some y0 from e0)
    obtain ⟨k1, q1, _, g1⟩ := DataW.trod_int Tryd.underlying22 (show DataW.trod enc Tryd.prog W base sp held m 22 [b] = some y1 from e1)
    simp only [List.cons.injEq, and_true] at q0 q1
    subst q0 q1
    exact ⟨k0, k1, rfl, bounds_u64 g0, bounds_u64 g1⟩
end
theorem var_cells {W : World} {n : String} {g : Nat} {cs : Array Value} {a b : Int} (hg : Tryd.prog.globalNamed n = some g) (hv : W.var? Tryd.prog n = some cs) (hc : cs.toList = [.int .i64 a, .int .i64 b]) :
    W.cell? ⟨g, 0, none⟩ = some (.int .i64 a) ∧ W.cell? ⟨g, 1, none⟩ = some (.int .i64 b) := by
  have e : cs = #[.int .i64 a, .int .i64 b] := by rw [← Array.toArray_toList (xs := cs), hc]
  subst e
  exact ⟨by simpa using World.var?_cell hg hv 0, by simpa using World.var?_cell hg hv 1⟩
theorem gK : Tryd.prog.globalNamed "buttress/caps.kindPlace" = some 0 := by kernel_rfl
theorem gR : Tryd.prog.globalNamed "buttress/caps.rightsPlace" = some 1 := by kernel_rfl
theorem gB : Tryd.prog.globalNamed "buttress/caps.bitsPlace" = some 2 := by kernel_rfl
theorem gO : Tryd.prog.globalNamed "buttress/caps.objPlace" = some 3 := by kernel_rfl
theorem tK : (Tryd.prog.globals[0]?).map (·.type) = some 46 := by kernel_rfl
theorem tR : (Tryd.prog.globals[1]?).map (·.type) = some 46 := by kernel_rfl
theorem tB : (Tryd.prog.globals[2]?).map (·.type) = some 46 := by kernel_rfl
theorem tO : (Tryd.prog.globals[3]?).map (·.type) = some 46 := by kernel_rfl
theorem table {W : World} (h : laidMetH Tryd.prog [("buttress/caps.kindPlace", Rows.laid_buttress_caps_kindPlace), ("buttress/caps.rightsPlace", Rows.laid_buttress_caps_rightsPlace), ("buttress/caps.bitsPlace", Rows.laid_buttress_caps_bitsPlace), ("buttress/caps.objPlace", Rows.laid_buttress_caps_objPlace)] W) : Laid W := by
  have h' : laidMet Tryd.prog [("buttress/caps.kindPlace", Rows.laid_buttress_caps_kindPlace), ("buttress/caps.rightsPlace", Rows.laid_buttress_caps_rightsPlace), ("buttress/caps.bitsPlace", Rows.laid_buttress_caps_bitsPlace), ("buttress/caps.objPlace", Rows.laid_buttress_caps_objPlace)] W := h
  clear h
  obtain ⟨ps, ⟨g1, t1, cs1, f1, p1, q1, hg1, ht1, hv1, hd1, ⟨g2, t2, cs2, f2, p2, q2, hg2, ht2, hv2, hd2, ⟨g3, t3, cs3, f3, p3, q3, hg3, ht3, hv3, hd3, ⟨g4, t4, cs4, f4, p4, q4, hg4, ht4, hv4, hd4, _, _⟩, _⟩, _⟩, _⟩, _⟩ := h'
  obtain rfl := Option.some.inj (gK.symm.trans hg1)
  obtain rfl := Option.some.inj (gR.symm.trans hg2)
  obtain rfl := Option.some.inj (gB.symm.trans hg3)
  obtain rfl := Option.some.inj (gO.symm.trans hg4)
  obtain rfl := Option.some.inj (tK.symm.trans ht1)
  obtain rfl := Option.some.inj (tR.symm.trans ht2)
  obtain rfl := Option.some.inj (tB.symm.trans ht3)
  obtain rfl := Option.some.inj (tO.symm.trans ht4)
  obtain ⟨k0, k1⟩ := var_cells gK hv1 (place_cells hd1)
  obtain ⟨r0, r1⟩ := var_cells gR hv2 (place_cells hd2)
  obtain ⟨b0, b1⟩ := var_cells gB hv3 (place_cells hd3)
  obtain ⟨o0, o1⟩ := var_cells gO hv4 (place_cells hd4)
  have s1 := World.block_lt_of_cell? W _ k0
  have s2 := World.block_lt_of_cell? W _ r0
  have s3 := World.block_lt_of_cell? W _ b0
  have s4 := World.block_lt_of_cell? W _ o0
  exact ⟨by simp only at s1 s2 s3 s4; omega, k0, k1, r0, r1, b0, b1, o0, o1⟩
end Go.Proofs.YtokehmkegnmfdaaDoor
