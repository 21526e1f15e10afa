/-
  What the statements' own frame gives: a script of calls, a slot, that came in; masks; no condition of ours.
-/
import Derived.Test.YthfoeppcageneaaTLaid
import Derived.ProofKit
import Derived.OpenShut
import Derived.ShutString
import Derived.ChangeOld
import Derived.Lib.SmallJoins
import Derived.Deep.Slices
namespace Go.Proofs.Ythfoeppcageneaa
set_option linter.unusedSectionVars false
variable [DecidableEq Sl]
open Go.ChangeShapes Go.WideShapes Go.ChangeAt Go.RowKit Go.Joins Go.Deep
theorem own : ownKnob Try.prog.godebug = none := by kernel_rfl
section
variable {H : Type} {enc : TypeId × Value → H} {W : World} {r : Reach} {b0 base : Nat} {sp : Nat → Bool} {held : Bool} {v : Value} {d : DataW H} {p : List MemPlace}
set_option maxRecDepth 100000 in
theorem slot_cells {fuel : Nat} {cs : List Value} {x : DataW H × List MemPlace} (h : DataW.trod enc Try.prog W base sp held fuel 31 cs = some x) :
    ∃ s : Sl, cs = [.int .i64 s.n, .int .i64 s.i] := by
  obtain ⟨xs, m, _, _, hl, hlen, hf⟩ := DataW.trod_struct Try.underlying31 h
  have c2 : Try.prog.cellsOf 31 = 2 := by kernel_rfl
  have ci : Try.prog.cellsOf 3 = 1 := by kernel_rfl
  rw [c2] at hl
  match cs, hl with
  | [c0, c1], _ =>
    have h2 : xs.length = 2 := hlen
    match xs, h2 with
    | [x0, x1], _ =>
      have e0 : DataW.trod enc Try.prog W base sp held m 3 (([c0, c1].drop 0).take (Try.prog.cellsOf 3)) = some x0 := hf 0 _ rfl
      rw [ci] at e0
      have e1 : DataW.trod enc Try.prog W base sp held m 3 (([c0, c1].drop 1).take (Try.prog.cellsOf 3)) = some x1 := hf 1 _ rfl
      rw [ci] at e1
      obtain ⟨k0, q0, _, _⟩ := DataW.trod_int Try.underlying3 (show DataW.trod enc Try.prog W base sp held m 3 [c0] = some x0 from e0)
      obtain ⟨k1, q1, _, _⟩ := DataW.trod_int Try.underlying3 (show DataW.trod enc Try.prog W base sp held m 3 [c1] = some x1 from e1)
      simp only [List.cons.injEq, and_true] at q0 q1
      subst q0 q1
      exact ⟨⟨k0, k1⟩, rfl⟩
set_option maxRecDepth 100000 in
theorem opx_cells {fuel : Nat} {cs : List Value} {x : DataW H × List MemPlace} (h : DataW.trod enc Try.prog W base sp held fuel 33 cs = some x) :
    ∃ x : Oc, cs = encO x := by
  obtain ⟨xs, m, _, _, hl, hlen, hf⟩ := DataW.trod_struct Try.underlying33 h
  have c5 : Try.prog.cellsOf 33 = 5 := by kernel_rfl
  have ci : Try.prog.cellsOf 3 = 1 := by kernel_rfl
  have cs2 : Try.prog.cellsOf 31 = 2 := by kernel_rfl
  rw [c5] at hl
  match cs, hl with
  | [c0, c1, c2, c3, c4], _ =>
    have h3 : xs.length = 3 := hlen
    match xs, h3 with
    | [x0, x1, x2], _ =>
      have e0 : DataW.trod enc Try.prog W base sp held m 3 (([c0, c1, c2, c3, c4].drop 0).take (Try.prog.cellsOf 3)) = some x0 := hf 0 _ rfl
      rw [ci] at e0
      have e1 : DataW.trod enc Try.prog W base sp held m 31 (([c0, c1, c2, c3, c4].drop 1).take (Try.prog.cellsOf 31)) = some x1 := hf 1 _ rfl
      rw [cs2] at e1
      have e2 : DataW.trod enc Try.prog W base sp held m 31 (([c0, c1, c2, c3, c4].drop 3).take (Try.prog.cellsOf 31)) = some x2 := hf 2 _ rfl
      rw [cs2] at e2
      obtain ⟨k0, q0, _, _⟩ := DataW.trod_int Try.underlying3 (show DataW.trod enc Try.prog W base sp held m 3 [c0] = some x0 from e0)
      obtain ⟨s1, q1⟩ := slot_cells (show DataW.trod enc Try.prog W base sp held m 31 [c1, c2] = some x1 from e1)
      obtain ⟨s2, q2⟩ := slot_cells (show DataW.trod enc Try.prog W base sp held m 31 [c3, c4] = some x2 from e2)
      simp only [List.cons.injEq, and_true] at q0 q1 q2
      obtain ⟨rfl, rfl⟩ := q1
      obtain ⟨rfl, rfl⟩ := q2
      subst q0
      exact ⟨⟨k0, s1, s2⟩, rfl⟩
theorem open_slot (hv : Value.okWide Try.prog W r b0 31 v) (h : DataW.Trod enc Try.prog W base sp held 31 v d p) : ∃ s : Sl, v = encS s ∧ True := by
  obtain ⟨cs, rfl, _⟩ := okWide_struct Try.underlying31 hv
  obtain ⟨fuel, hf⟩ := h
  obtain ⟨s, e⟩ := slot_cells hf
  refine ⟨s, ?_, trivial⟩
  have : cs.toList = [.int .i64 s.n, .int .i64 s.i] := by simpa [Value.cells] using e
  unfold encS
  rw [← Array.toArray_toList (xs := cs), this]
theorem open_ops (hv : Value.okWide Try.prog W r b0 22 v) (h : DataW.Trod enc Try.prog W 0 (fun _ => true) held 22 v d p) :
    ∃ (ao : Option Addr) (X : List Oc) (cap : Nat), v = .slice ao X.length cap ∧ Script W ao X ∧ X.length ≤ 9223372036854775807 := by
  obtain ⟨a0, len0, cap0, rfl⟩ := okWide_slice Try.underlying22 hv
  obtain ⟨fuel, hf⟩ := h
  have c5 : Try.prog.cellsOf 33 = 5 := by kernel_rfl
  rcases open_slice Try.underlying22 hf with ⟨hcs, _⟩ | ⟨x, len, cap, m, n, D, Pl, hcs, _, hl, hm, hmm, _, hx⟩
  · simp [Value.cells] at hcs
    obtain ⟨rfl, rfl, rfl⟩ := hcs
    exact ⟨none, [], 0, rfl, fun i x hx => by simp at hx, by simp⟩
  · simp [Value.cells] at hcs
    obtain ⟨rfl, rfl, rfl⟩ := hcs
    simp only [if_true] at hmm
    obtain ⟨b, off, spot⟩ := x
    have each : ∀ i, i < len0 → ∃ x : Oc, ∀ j, j < 5 → W.cell? ((⟨b, off, spot⟩ : Addr).add (i * 5 + j)) = some ((encO x)[j]!) := by
      intro i hi
      obtain ⟨cs', h1, h2⟩ := hx i (by omega)
      rw [c5] at h1
      obtain ⟨_, hlen, hcell⟩ := World.cells?_some h1
      obtain ⟨x, rfl⟩ := opx_cells h2
      refine ⟨x, fun j hj => ?_⟩
      have e := hcell j (by omega)
      rw [add_add] at e
      rw [e]
      have hj' : j < (encO x).length := hj
      rw [getElem!_pos _ j hj']
      simp
    obtain ⟨X, hX, hXe⟩ : ∃ X : List Oc, X.length = len0 ∧ ∀ (i : Nat) (x : Oc), X[i]? = some x → ∀ j, j < 5 → W.cell? ((⟨b, off, spot⟩ : Addr).add (i * 5 + j)) = some ((encO x)[j]!) := by
      refine ⟨(List.range len0).map fun i => if h : i < len0 then (each i h).choose else ⟨0, no, no⟩, by simp, fun i x hx => ?_⟩
      have hi : i < len0 := by
        have := (List.getElem?_eq_some_iff.1 hx).1
        simpa using this
      simp only [List.getElem?_map, List.getElem?_range hi, Option.map_some, dif_pos hi, Option.some.injEq] at hx
      rw [← hx]
      exact (each i hi).choose_spec
    refine ⟨some ⟨b, off, spot⟩, X, cap0, by rw [hX], fun i x hx => ?_, by rw [hX]; unfold maxLen at hm; omega⟩
    have hc := hXe i x hx
    have hpos : 0 < X.length := by have := (List.getElem?_eq_some_iff.1 hx).1; omega
    have z0 := hXe 0 _ (List.getElem?_eq_getElem hpos) 0 (by omega)
    have hspot : spot = none := by
      have := World.cell?_spot z0
      simpa [Addr.add] using this
    subst hspot
    have ea : ∀ j, (⟨b, off, none⟩ : Addr).add j = ⟨b, off + j, none⟩ := fun j => by unfold Addr.add; split <;> simp_all
    rw [ea] at z0
    refine ⟨b, off, rfl, World.block_lt_of_cell? W _ z0, fun j hj => ?_⟩
    have := hc j hj
    rw [ea] at this
    rw [← this]
    congr 2
    omega
end

/-! ### Masks -/
theorem vec_toInt (x : Int) : ∃ v : BitVec 64, ∀ y, bits .and .i64 x y = IntKind.i64.wrap ((v &&& BitVec.ofInt 64 y).toNat : Int) := ⟨BitVec.ofInt 64 x, fun _ => rfl⟩
theorem mask16 (x : Int) : ∃ a : Nat, a ≤ 65535 ∧ bits BinOp.and IntKind.i64 x 65535 = (a : Int) := by
  obtain ⟨v, hv⟩ := vec_toInt x
  have e : (BitVec.ofInt 64 (65535 : Int)).toNat = 2 ^ 16 - 1 := by decide
  have hb : v.toNat &&& (2 ^ 16 - 1) < 2 ^ 16 := by
    rw [Nat.and_two_pow_sub_one_eq_mod]
    exact Nat.mod_lt _ (by decide)
  refine ⟨v.toNat &&& (2 ^ 16 - 1), by omega, ?_⟩
  rw [hv, BitVec.toNat_and, e, IntKind.wrap_i64]
  omega
end Go.Proofs.Ythfoeppcageneaa
