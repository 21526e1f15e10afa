/-
  What the statements' own frame gives: a string, an item, a list of items that came in; no condition of ours.
-/
import Derived.Test.YtkbbjpnkfmegnaaSFixed
import Derived.ProofKit
import Derived.OpenShut
import Derived.ShutString
import Derived.ChangeOld
import Derived.ChangeMaps5
import Derived.Lib.SmallJoins
import Derived.Deep.Slices
namespace Go.Proofs.Ytkbbjpnkfmegnaa
open Go.ChangeShapes Go.WideShapes Go.ChangeAt Go.RowKit Go.Joins Go.Deep
theorem own : ownKnob Try.prog.godebug = none := by kernel_rfl
theorem laidOut : laidOutB Try.prog = true := by kernel_rfl
/-- What an int holds. -/
def I64 (x : Int) : Prop := -9223372036854775808 ≤ x ∧ x ≤ 9223372036854775807
theorem Below.then {B : Nat} {a b c : World} (h : Below B a b) (k : Below b.heap.size b c) (hB : B ≤ b.heap.size) : Below B a c := h.trans (k.mono hB)
/-- A string cut behind its first n bytes. -/
theorem run_cut_str (P : Program) (t : TypeId) (ht : P.underlying t = some .string) (s : ByteArray) (k : IntKind) (n : Nat) (hn : n ≤ s.size) (w : World) :
    (Instr.slice t (.string s) none (some (.int k n)) none).run P w = .ok (.string (s.extract 0 n)) w := by
  have hj : 0 ≤ (n : Int) ∧ (n : Int) ≤ (s.size : Int) := ⟨by omega, by omega⟩
  simp [Instr.slice, Instr.sliceBounds, Instr.sliceBound, asIntOf, run_underlying ht, hj]
  intro h
  omega
section
variable {H : Type} {enc : TypeId × Value → H} {W : World} {r : Reach} {b0 base : Nat} {sp : Nat → Bool} {held : Bool} {v : Value} {d : DataW H} {p : List MemPlace}
theorem open_str (hv : Value.okWide Try.prog W r b0 9 v) (h : DataW.Trod enc Try.prog W base sp held 9 v d p) :
    ∃ l : List Int, v = .string (strOfNums l) ∧ Bytes8 l ∧ l.length ≤ 9223372036854775807 := by
  obtain ⟨s, rfl, _, _, hs⟩ := Go.ChangeMaps.open_string Try.underlying9 hv h
  refine ⟨numsOf s, by rw [str_nums], nums_bytes s, ?_⟩
  have e : (numsOf s).length = s.size := by show (List.map _ s.data.toList).length = s.data.size; rw [List.length_map, Array.length_toList]
  rw [e]
  unfold maxLen at hs
  omega
theorem item_cells {fuel : Nat} {cs : List Value} {x : DataW H × List MemPlace} (h : DataW.trod enc Try.prog W base sp held fuel 29 cs = some x) :
    ∃ y : It, cs = fourI y := by
  obtain ⟨xs, m, _, _, hl, hlen, hf⟩ := DataW.trod_struct Try.underlying29 h
  have c4 : Try.prog.cellsOf 29 = 4 := by kernel_rfl
  have ci : Try.prog.cellsOf 3 = 1 := by kernel_rfl
  rw [c4] at hl
  match cs, hl with
  | [c0, c1, c2, c3], _ =>
    have h4 : xs.length = 4 := hlen
    match xs, h4 with
    | [x0, x1, x2, x3], _ =>
      have e0 : DataW.trod enc Try.prog W base sp held m 3 (([c0, c1, c2, c3].drop 0).take (Try.prog.cellsOf 3)) = some x0 := hf 0 _ rfl
      rw [ci] at e0
      have e1 : DataW.trod enc Try.prog W base sp held m 3 (([c0, c1, c2, c3].drop 1).take (Try.prog.cellsOf 3)) = some x1 := hf 1 _ rfl
      rw [ci] at e1
      have e2 : DataW.trod enc Try.prog W base sp held m 3 (([c0, c1, c2, c3].drop 2).take (Try.prog.cellsOf 3)) = some x2 := hf 2 _ rfl
      rw [ci] at e2
      have e3 : DataW.trod enc Try.prog W base sp held m 3 (([c0, c1, c2, c3].drop 3).take (Try.prog.cellsOf 3)) = some x3 := hf 3 _ rfl
      rw [ci] at e3
      obtain ⟨k0, q0, _, g0⟩ := DataW.trod_int Try.underlying3 (show DataW.trod enc Try.prog W base sp held m 3 [c0] = some x0 from e0)
      obtain ⟨k1, q1, _, g1⟩ := DataW.trod_int Try.underlying3 (show DataW.trod enc Try.prog W base sp held m 3 [c1] = some x1 from e1)
      obtain ⟨k2, q2, _, g2⟩ := DataW.trod_int Try.underlying3 (show DataW.trod enc Try.prog W base sp held m 3 [c2] = some x2 from e2)
      obtain ⟨k3, q3, _, g3⟩ := DataW.trod_int Try.underlying3 (show DataW.trod enc Try.prog W base sp held m 3 [c3] = some x3 from e3)
      simp only [List.cons.injEq, and_true] at q0 q1 q2 q3
      subst q0 q1 q2 q3
      exact ⟨⟨k0, k1, k2, k3⟩, rfl⟩
theorem open_item (hv : Value.okWide Try.prog W r b0 29 v) (h : DataW.Trod enc Try.prog W base sp held 29 v d p) :
    ∃ y : It, v = encI y := by
  obtain ⟨cs, rfl, _⟩ := okWide_struct Try.underlying29 hv
  obtain ⟨fuel, hf⟩ := h
  obtain ⟨y, e⟩ := item_cells hf
  refine ⟨y, ?_⟩
  have : cs.toList = fourI y := by simpa [Value.cells] using e
  rw [encI, ← Array.toArray_toList (xs := cs), this]
theorem open_items (hv : Value.okWide Try.prog W r b0 24 v) (h : DataW.Trod enc Try.prog W 0 (fun _ => true) held 24 v d p) :
    ∃ (ao : Option Addr) (L : List It) (cap : Nat), v = .slice ao L.length cap ∧ ToldI W ao L ∧ L.length ≤ 9223372036854775807 ∧ L.length ≤ cap ∧ (ao = none → cap = 0) ∧ cap ≤ 9223372036854775807 := by
  obtain ⟨a0, len0, cap0, rfl⟩ := okWide_slice Try.underlying24 hv
  obtain ⟨fuel, hf⟩ := h
  have c4 : Try.prog.cellsOf 29 = 4 := by kernel_rfl
  rcases open_slice Try.underlying24 hf with ⟨hcs, _⟩ | ⟨x, len, cap, m, n, D, Pl, hcs, _, hl, hm, hmm, _, hx⟩
  · simp [Value.cells] at hcs
    obtain ⟨rfl, rfl, rfl⟩ := hcs
    exact ⟨none, [], 0, rfl, .inl rfl, by simp, Nat.le_refl _, fun _ => rfl, by omega⟩
  · simp [Value.cells] at hcs
    obtain ⟨rfl, rfl, rfl⟩ := hcs
    simp only [if_true] at hmm
    obtain ⟨b, off, spot⟩ := x
    have each : ∀ i, ∃ y : It, i < len0 → W.cell? ((⟨b, off, spot⟩ : Addr).add (i * 4)) = some (.int .i64 y.k) ∧ W.cell? ((⟨b, off, spot⟩ : Addr).add (i * 4 + 1)) = some (.int .i64 y.c) ∧ W.cell? ((⟨b, off, spot⟩ : Addr).add (i * 4 + 2)) = some (.int .i64 y.a) ∧ W.cell? ((⟨b, off, spot⟩ : Addr).add (i * 4 + 3)) = some (.int .i64 y.b) := by
      intro i
      by_cases hi : i < len0
      · obtain ⟨cs', h1, h2⟩ := hx i (by omega)
        rw [c4] at h1
        obtain ⟨_, hlen, hcell⟩ := World.cells?_some h1
        obtain ⟨y, rfl⟩ := item_cells h2
        have e0 := hcell 0 (by omega)
        have e1 := hcell 1 (by omega)
        have e2 := hcell 2 (by omega)
        have e3 := hcell 3 (by omega)
        rw [add_add] at e0 e1 e2 e3
        exact ⟨y, fun _ => ⟨by simpa [fourI] using e0, by simpa [fourI] using e1, by simpa [fourI] using e2, by simpa [fourI] using e3⟩⟩
      · exact ⟨⟨0, 0, 0, 0⟩, fun h => absurd h hi⟩
    obtain ⟨f, hf⟩ := Classical.axiomOfChoice each
    have hlen : ((List.range len0).map f).length = len0 := by simp
    refine ⟨some ⟨b, off, spot⟩, (List.range len0).map f, cap0, by rw [hlen], ?_, by rw [hlen]; unfold maxLen at hm; omega, by rw [hlen]; omega, (fun h => by cases h), by unfold maxLen at hm; omega⟩
    by_cases h0 : len0 = 0
    · subst h0
      exact .inl rfl
    obtain ⟨z0, _⟩ := hf 0 (by omega)
    have hspot : spot = none := by simpa [Addr.add] using World.cell?_spot z0
    subst hspot
    have ea : ∀ j, (⟨b, off, none⟩ : Addr).add j = ⟨b, off + j, none⟩ := fun j => by unfold Addr.add; split <;> simp_all
    rw [ea] at z0
    refine .inr ⟨b, off, rfl, World.block_lt_of_cell? W _ z0, fun i x hi => ?_⟩
    have hil : i < len0 := by have := (List.getElem?_eq_some_iff.1 hi).1; rwa [hlen] at this
    obtain rfl : f i = x := by simpa [hil] using hi
    obtain ⟨e0, e1, e2, e3⟩ := hf i hil
    rw [ea] at e0 e1 e2 e3
    exact ⟨e0, by simpa [Nat.add_assoc] using e1, by simpa [Nat.add_assoc] using e2, by simpa [Nat.add_assoc] using e3⟩
end
end Go.Proofs.Ytkbbjpnkfmegnaa
