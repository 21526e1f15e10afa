/-
  A list of calls that a law makes, among things that lie apart; no condition but that it is short.
-/
import Derived.Test.YtnjmjhmngjodcaaDoorQLists
import Derived.Test.YtnjmjhmngjodcaaDoorQFirst
namespace Go.Proofs.YtnjmjhmngjodcaaDoor
open Go.RowKit Go.Deep Go.Shelf

theorem cO_len (x : Oc) : (cO x).length = 3 := rfl
theorem cO_one (x : Oc) : ∀ v ∈ cO x, v.oneCell' = true := by simp [cO, Value.oneCell']
theorem infoO : (Tryd.prog.info? 30).map (fun i => (i.zero, i.size, i.bytes)) = some (some (.agg #[.int .i64 0, .int .i64 0, .int .i64 0]), 3, 24) := by kernel_rfl
/-- A slice value that owns the row of the calls Z. -/
def RowO (w : World) (v : Value) (Z : List Oc) : Prop := w.ownsRow 0 30 3 v Z.length (flatK cO Z)
def lstO (v : Value) (Z : List Oc) : Th where
  F := fun x => v.ownBlock = some x
  H := fun w => RowO w v Z
  lt := fun _ h x hx => (World.ownsRow.lt h x hx).2
  keep := fun _ _ h k => own_of_block h fun g hg => k g hg
theorem RowO.slice {w : World} {v : Value} {Z : List Oc} (h : RowO w v Z) : ∃ ao cap, v = .slice ao Z.length cap ∧ (∀ i, i < Z.length → ∃ g, ao = some ⟨g, 0, none⟩) := by
  rcases h.2 with ⟨rfl, h0⟩ | ⟨g, cap, cur, rfl, _⟩
  · exact ⟨none, 0, by rw [h0], fun i hi => by omega⟩
  · exact ⟨some ⟨g, 0, none⟩, cap, rfl, fun _ _ => ⟨g, rfl⟩⟩
theorem RowO.cells {w : World} {g cap n : Nat} {Z : List Oc} (h : RowO w (.slice (some ⟨g, 0, none⟩) n cap) Z) {i : Nat} {x : Oc} (hi : Z[i]? = some x) : w.cell? ⟨g, i * 3, none⟩ = some (.int .i64 x.k) ∧ w.cell? ⟨g, i * 3 + 1, none⟩ = some (.int .i64 x.p) ∧ w.cell? ⟨g, i * 3 + 2, none⟩ = some (.int .i64 x.n) := by
  have hc := World.ownsRow.cells h (g := g) rfl
  have e := fun j hj => flatK_get cO_len hi (j := j) hj
  have e0 := hc (i * 3 + 0) _ (e 0 (by omega))
  have e1 := hc (i * 3 + 1) _ (e 1 (by omega))
  have e2 := hc (i * 3 + 2) _ (e 2 (by omega))
  rw [add_none] at e0 e1 e2
  simp only [Nat.zero_add, Nat.add_zero] at e0 e1 e2
  exact ⟨e0, e1, e2⟩
section
variable {w0 w : World} {r : Nat} {R : List Th}
theorem Sep.madeO (h : Sep w0 r w R) : Sep w0 r (w.alloc (.cells #[] 30)) (lstO (.slice (some ⟨w.heap.size, 0, none⟩) 0 0) [] :: R) :=
  h.new (t := lstO (.slice (some ⟨w.heap.size, 0, none⟩) 0 0) []) (own_low (World.ownsRow_made w #[] 0 (Nat.le_refl _) (by unfold maxLen; omega) rfl)) (below_new _ _) fun x hx => by
    have : some w.heap.size = some x := hx
    cases this
    exact Nat.le_refl _
theorem Sep.moreO {u : Value} {Z : List Oc} (h : Sep w0 r w (lstO u Z :: R)) (x : Oc) (hl : Z.length ≤ 1000000) :
    ∃ v' w', (Builtin.append_ #[22, 22] 22 #[u, .slice (some ⟨w.heap.size, 0, none⟩) 1 1]).run Tryd.prog (w.alloc (.cells #[.int .i64 x.k, .int .i64 x.p, .int .i64 x.n] 30)) = .ok v' w' ∧ Sep w0 r w' (lstO v' (Z ++ [x]) :: R) := by
  have h1 := h.below (below_new w (objO x))
  obtain ⟨i, hi, hz⟩ := Option.map_eq_some_iff.1 infoO
  simp only [Prod.mk.injEq] at hz
  obtain ⟨v', w', r1, r2, r3, _, r5⟩ := run_append_own_at (P := Tryd.prog) (w := w.alloc (objO x)) 0 22 22 30 i _ 3 24 Tryd.underlying22 hi hz.1 hz.2.1 hz.2.2 rfl (by decide) u Z.length (flatK cO Z) h1.head ⟨w.heap.size, 0, none⟩ 1 1 (cO x) rfl
    (fun j v hj => by
      rw [add_none, Nat.zero_add]
      have := blk_alloc_new w (objO x)
      simp only [World.cell?]
      rw [this]
      simpa [cO, objO] using hj) (cO_one x) (by unfold maxLen; omega) (by omega) (by omega)
  refine ⟨v', w', r1, h1.turn (t := lstO u Z) (t' := lstO v' (Z ++ [x])) ?_ (Turn.grown r3 fun k hk => .inl hk) fun y hy => ?_⟩
  · show RowO w' v' (Z ++ [x])
    unfold RowO
    rw [List.length_append, flatK_app, flatK_cons]
    simpa [flatK] using r2
  · rcases r5 with e | e
    · exact .inl (e.symm.trans hy)
    · have : some (w.alloc (objO x)).heap.size = some y := e.symm.trans hy
      cases this
      exact .inr (Nat.le_refl _)
theorem Sep.opsIs {v : Value} {Z : List Oc} (h : Sep w0 r w R) (hm : lstO v Z ∈ R) : ∃ ao cap, v = .slice ao Z.length cap := by
  obtain ⟨ao, cap, e, _⟩ := RowO.slice (h.each _ hm).1
  exact ⟨ao, cap, e⟩
theorem Sep.opsAt {ao : Option Addr} {n cap : Nat} {Z : List Oc} (h : Sep w0 r w R) (hm : lstO (.slice ao n cap) Z ∈ R) {k : Nat} {x : Oc} (hk : Z[k]? = some x) : ∃ g, ao = some ⟨g, 0, none⟩ ∧ w.cell? ⟨g, k * 3, none⟩ = some (.int .i64 x.k) ∧ w.cell? ⟨g, k * 3 + 1, none⟩ = some (.int .i64 x.p) ∧ w.cell? ⟨g, k * 3 + 2, none⟩ = some (.int .i64 x.n) := by
  have row : RowO w (.slice ao n cap) Z := (h.each _ hm).1
  obtain ⟨ao', cap', e, hg⟩ := row.slice
  cases e
  obtain ⟨g, rfl⟩ := hg k (List.getElem?_eq_some_iff.1 hk).1
  exact ⟨g, rfl, row.cells hk⟩
end
/-- What stands in line of a call that put a number in. -/
def inO (x : Oc) : In := ⟨x.p.toNat, x.n⟩
end Go.Proofs.YtnjmjhmngjodcaaDoor
