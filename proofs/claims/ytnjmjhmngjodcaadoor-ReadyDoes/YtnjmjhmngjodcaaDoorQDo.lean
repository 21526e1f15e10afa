/-
  What the whole script's law needs besides: a list that is written over, a new queue of the document, things in another order; no condition of ours.
-/
import Derived.Test.YtnjmjhmngjodcaaDoorQRefB
namespace Go.Proofs.YtnjmjhmngjodcaaDoor
open Go.RowKit Go.Deep Go.Shelf

theorem RowI.set {w : World} {g cap n : Nat} {L : List Int} (h : RowI w (.slice (some ⟨g, 0, none⟩) n cap) L) {j : Nat} (hj : j < L.length) (x : Int) : RowI (w.setCell ⟨g, j, none⟩ (.int .i64 x)) (.slice (some ⟨g, 0, none⟩) n cap) (L.set j x) := by
  obtain ⟨Z, hg, hz, hn⟩ := row_parts h
  obtain ⟨_, _, ev, hc, hm, _⟩ := h.slice
  cases ev
  have hl : (L.set j x).length = L.length := List.length_set
  have e : (flatK cI L ++ Z).set j (.int .i64 x) = flatK cI (L.set j x) ++ Z := by
    rw [List.set_append, if_pos (by rw [flatI, List.length_map]; exact hj), flatI, flatI, List.map_set]
  have hg' : (w.setCell ⟨g, j, none⟩ (.int .i64 x)).heap[g]? = some (.cells (flatK cI (L.set j x) ++ Z).toArray 3 (0, 0)) := by
    rw [← e]
    simp only [World.setCell, Array.getElem?_modify, hg, Option.map_some]
    simp
  have := own_parts (cap := cap) hg' (by rw [hl]; exact hz) (by rw [hl]; exact hc) hm
  rw [hl] at this
  exact this
/-- A list of n ints that is written over. -/
def anyI (v : Value) (n : Nat) : Th where
  F := fun x => v.ownBlock = some x
  H := fun w => ∃ A : List Int, A.length = n ∧ RowI w v A
  lt := fun _ ⟨_, _, h⟩ _ hx => h.lt hx
  keep := fun _ _ ⟨A, e, h⟩ k => ⟨A, e, h.keep k⟩
section
variable {w0 w : World} {r : Nat} {R : List Th}
theorem Sep.any {v : Value} {A : List Int} (h : Sep w0 r w (lstI v A :: R)) : Sep w0 r w (anyI v A.length :: R) :=
  h.turn (t' := anyI v A.length) ⟨A, rfl, h.head⟩ (Turn.refl _ _) fun _ hx => .inl hx
theorem Sep.over {ao : Option Addr} {n cap : Nat} (h : Sep w0 r w (anyI (.slice ao n cap) n :: R)) {j : Nat} (hj : j < n) : ∃ g, ao = some ⟨g, 0, none⟩ ∧ (∃ y, w.cell? ⟨g, j, none⟩ = some (.int .i64 y)) ∧ w.frozen? ⟨g, j, none⟩ = false ∧ ∀ x, Sep w0 r (w.setCell ⟨g, j, none⟩ (.int .i64 x)) (anyI (.slice ao n cap) n :: R) := by
  obtain ⟨A, hA, row⟩ := h.head
  obtain ⟨ao', cap', ev, _, _, hg, _⟩ := row.slice
  cases ev
  obtain ⟨g, rfl⟩ := hg j (by omega)
  refine ⟨g, rfl, ⟨A[j], row.cell (List.getElem?_eq_getElem (by omega))⟩, row.frozen j, fun x => h.turn (t' := anyI _ _) ⟨A.set j x, by rw [List.length_set], row.set (by omega) x⟩ (Turn.setCell _ _ _ _ rfl) fun _ hx => .inl hx⟩
theorem Sep.newR (h : Sep w0 r w R) : Sep w0 r (w.alloc (.cells #[.slice none 0 0] 28)) (rtT w.heap.size (.slice none 0 0) [] :: R) :=
  h.new (t := rtT w.heap.size (.slice none 0 0) []) ⟨blk_alloc_new _ _, ⟨rfl, .inl ⟨rfl, rfl⟩⟩, by simp [Value.ownBlock], good_nil⟩ (below_new _ _) fun x hx => by
    rcases hx with rfl | hx
    · exact Nat.le_refl _
    · simp [Value.ownBlock] at hx
theorem Sep.fourth {a b c d : Th} (h : Sep w0 r w (a :: b :: c :: d :: R)) : Sep w0 r w (d :: a :: b :: c :: R) :=
  h.perm (((List.Perm.cons a (List.Perm.cons b (List.Perm.swap d c R))).trans (List.Perm.cons a (List.Perm.swap d b (c :: R)))).trans (List.Perm.swap d a (b :: c :: R)))
end
end Go.Proofs.YtnjmjhmngjodcaaDoor
