/-
  What the statements' own frame gives: numbers that came in, each with its bounds; rows that came in; no condition of ours.
-/
import Derived.Test.YtpapjdmnhgnpfaaGRow
import Derived.WalkKit
import Derived.ProofKit
import Derived.OpenShut
import Derived.LaidMore
import Derived.Deep.DeepHandedRow
import Derived.Lib.SmallJoins
import Derived.Laws.IdiomArrays
import Derived.Deep.Slices
namespace Go.Proofs.Ytpapjdmnhgnpfaa
open Go.ChangeShapes Go.WideShapes Go.ChangeAt Go.RowKit Go.Joins Go.Deep

theorem ownK : ownKnob Try.prog.godebug = none := by kernel_rfl
theorem laidOut : laidOutB Try.prog = true := by kernel_rfl
/-- Elements X, of k cells each, lie where the slice leads to. -/
def SeeK {α : Type} (k : Nat) (enc : α → List Value) (P : α → Prop) (W : World) (ao : Option Addr) (X : List α) : Prop :=
  ∀ i x, X[i]? = some x → P x ∧ ∃ b o, ao = some ⟨b, o, none⟩ ∧ b < W.heap.size ∧ ∀ j v, (enc x)[j]? = some v → W.cell? ⟨b, o + i * k + j, none⟩ = some v
theorem SeeK.below {α : Type} {k : Nat} {enc : α → List Value} {P : α → Prop} {W W' : World} {ao : Option Addr} {X : List α} {r : Nat} (h : SeeK k enc P W ao X) (hb : Below r W W') (hr : W.heap.size ≤ r) : SeeK k enc P W' ao X := fun i x hx => by
  obtain ⟨h1, b, o, e, hlt, hc⟩ := h i x hx
  exact ⟨h1, b, o, e, Nat.lt_of_lt_of_le hlt hb.size, fun j v hj => (hb.cell (p := ⟨b, o + i * k + j, none⟩) (by simp only; omega)).trans (hc j v hj)⟩
section
variable {H : Type} {enc : TypeId × Value → H} {W : World} {r : Reach} {b0 base : Nat} {sp : Nat → Bool} {held : Bool} {v : Value} {d : DataW H} {p : List MemPlace}
set_option maxRecDepth 100000 in
theorem int_cells {fuel : Nat} {cs : List Value} {x : DataW H × List MemPlace} (h : DataW.trod enc Try.prog W base sp held fuel 3 cs = some x) : ∃ n : Int, cs = [.int .i64 n] ∧ I64 n := by
  obtain ⟨k0, q0, _, g0⟩ := DataW.trod_int Try.underlying3 h
  exact ⟨k0, q0, bounds_i64 g0⟩
set_option maxRecDepth 100000 in
theorem open_rows {α : Type} {k : Nat} (hk : 0 < k) (code : α → List Value) (hlen : ∀ x, (code x).length = k) (P : α → Prop) (z : α) (t e : TypeId) (ht : Try.prog.underlying t = some (.slice e)) (ck : Try.prog.cellsOf e = k)
    (dec : ∀ fuel cs x, DataW.trod enc Try.prog W 0 (fun _ => true) held fuel e cs = some x → ∃ y, cs = code y ∧ P y)
    (hv : Value.okWide Try.prog W r b0 t v) (h : DataW.Trod enc Try.prog W 0 (fun _ => true) held t v d p) :
    ∃ (ao : Option Addr) (X : List α) (cap : Nat), v = .slice ao X.length cap ∧ SeeK k code P W ao X ∧ X.length ≤ 9223372036854775807 := by
  obtain ⟨a0, len0, cap0, rfl⟩ := okWide_slice ht hv
  obtain ⟨fuel, hf⟩ := h
  rcases open_slice ht hf with ⟨hcs, _⟩ | ⟨x, len, cap, m, n, D, Pl, hcs, _, hl, hm, hmm, _, hx⟩
  · simp [Value.cells] at hcs
    obtain ⟨rfl, rfl, rfl⟩ := hcs
    exact ⟨none, [], 0, rfl, fun i x hx => by simp at hx, by simp⟩
  · simp [Value.cells] at hcs
    obtain ⟨rfl, rfl, rfl⟩ := hcs
    simp only [if_true] at hmm
    obtain ⟨b, off, spot⟩ := x
    have each : ∀ i, i < len0 → ∃ x : α, P x ∧ ∀ j v, (code x)[j]? = some v → W.cell? ((⟨b, off, spot⟩ : Addr).add (i * k + j)) = some v := by
      intro i hi
      obtain ⟨cs', h1, h2⟩ := hx i (by omega)
      rw [ck] at h1
      obtain ⟨_, hl2, hcell⟩ := World.cells?_some h1
      obtain ⟨x, rfl, hP⟩ := dec _ _ _ h2
      refine ⟨x, hP, fun j v hj => ?_⟩
      have hj' := (List.getElem?_eq_some_iff.1 hj).1
      rw [hlen] at hj'
      have e := hcell j (by omega)
      rw [add_add] at e
      rw [e]
      exact hj
    obtain ⟨X, hX, hXe⟩ : ∃ X : List α, X.length = len0 ∧ ∀ (i : Nat) (x : α), X[i]? = some x → P x ∧ ∀ j v, (code x)[j]? = some v → W.cell? ((⟨b, off, spot⟩ : Addr).add (i * k + j)) = some v := by
      refine ⟨(List.range len0).map fun i => if h : i < len0 then (each i h).choose else z, by simp, fun i x hx => ?_⟩
      have hi : i < len0 := by
        have := (List.getElem?_eq_some_iff.1 hx).1
        simpa using this
      simp only [List.getElem?_map, List.getElem?_range hi, Option.map_some, dif_pos hi, Option.some.injEq] at hx
      rw [← hx]
      exact (each i hi).choose_spec
    refine ⟨some ⟨b, off, spot⟩, X, cap0, by rw [hX], fun i x hx => ?_, by rw [hX]; unfold maxLen at hm; omega⟩
    obtain ⟨hP, hc⟩ := hXe i x hx
    have hX0 : 0 < X.length := by have := (List.getElem?_eq_some_iff.1 hx).1; omega
    have hpos : 0 < (code X[0]).length := by rw [hlen]; exact hk
    have z0 := (hXe 0 _ (List.getElem?_eq_getElem hX0)).2 0 _ (List.getElem?_eq_getElem hpos)
    have hspot : spot = none := by
      have := World.cell?_spot z0
      simpa [Addr.add] using this
    subst hspot
    have ea : ∀ j, (⟨b, off, none⟩ : Addr).add j = ⟨b, off + j, none⟩ := fun j => by unfold Addr.add; split <;> simp_all
    rw [ea] at z0
    refine ⟨hP, b, off, rfl, World.block_lt_of_cell? W _ z0, fun j v hj => ?_⟩
    have := hc j v hj
    rw [ea] at this
    rw [← this]
    congr 2
    omega
end
end Go.Proofs.Ytpapjdmnhgnpfaa
