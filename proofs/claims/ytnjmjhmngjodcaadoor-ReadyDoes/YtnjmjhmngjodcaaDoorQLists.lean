/-
  Lists of ints that a law makes or reads, among things that lie apart; no condition but that they are short.
-/
import Derived.Test.YtnjmjhmngjodcaaDoorQQuiet
namespace Go.Proofs.YtnjmjhmngjodcaaDoor
open Go.RowKit Go.Deep Go.Shelf

/-! ### Lists that a law makes -/
section
variable {w0 w : World} {r : Nat} {R : List Th}
theorem Sep.madeI (h : Sep w0 r w R) : Sep w0 r (w.alloc (.cells #[] 3)) (lstI (.slice (some ⟨w.heap.size, 0, none⟩) 0 0) [] :: R) :=
  h.new (t := lstI (.slice (some ⟨w.heap.size, 0, none⟩) 0 0) []) (own_low (World.ownsRow_made w #[] 0 (Nat.le_refl _) (by unfold maxLen; omega) rfl)) (below_new _ _) fun x hx => by
    have : some w.heap.size = some x := hx
    cases this
    exact Nat.le_refl _
theorem Sep.more {u : Value} {A : List Int} (h : Sep w0 r w (lstI u A :: R)) (n : Int) (hl : A.length ≤ 1000000) :
    ∃ v' w', (Builtin.append_ #[38, 38] 38 #[u, .slice (some ⟨w.heap.size, 0, none⟩) 1 1]).run Tryd.prog (w.alloc (.cells #[.int .i64 n] 3)) = .ok v' w' ∧ Sep w0 r w' (lstI v' (A ++ [n]) :: R) := by
  have h1 := h.below (below_new w (objI n))
  obtain ⟨v', w', r1, r2, r3, r4⟩ := append_one (w.alloc (objI n)) 38 u A n w.heap.size h1.head (by have := blk_alloc_new w (objI n); simp only [World.cell?]; rw [this]; rfl) hl
  refine ⟨v', w', r1, h1.turn (t := lstI u A) (t' := lstI v' (A ++ [n])) r2 (Turn.grown r3 fun k hk => .inl hk) fun x hx => ?_⟩
  rcases r4 with e | e
  · exact .inl (e.symm.trans hx)
  · have : some (w.alloc (objI n)).heap.size = some x := e.symm.trans hx
    cases this
    exact .inr (Nat.le_refl _)
theorem Sep.onto {u v : Value} {A B : List Int} (h : Sep w0 r w (lstI u A :: R)) (hm : lstI v B ∈ R) (hl : A.length + B.length ≤ 1000000) :
    ∃ v' w', (Builtin.append_ #[38, 38] 38 #[u, v]).run Tryd.prog w = .ok v' w' ∧ Sep w0 r w' (lstI v' (A ++ B) :: R) := by
  obtain ⟨v', w', r1, r2, r3, r4, _⟩ := append_row w 38 u v A B h.head (h.each _ (List.mem_cons_of_mem _ hm)).1 hl
  refine ⟨v', w', r1, h.turn (t := lstI u A) (t' := lstI v' (A ++ B)) r2 (Turn.grown r3 fun k hk => .inl hk) fun x hx => ?_⟩
  rcases r4 with e | e
  · exact .inl (e.symm.trans hx)
  · have : some w.heap.size = some x := e.symm.trans hx
    cases this
    exact .inr (Nat.le_refl _)
theorem Sep.listAt {ao : Option Addr} {n cap : Nat} {A : List Int} (h : Sep w0 r w R) (hm : lstI (.slice ao n cap) A ∈ R) {k : Nat} {x : Int} (hk : A[k]? = some x) : ∃ g, ao = some ⟨g, 0, none⟩ ∧ w.cell? ⟨g, k, none⟩ = some (.int .i64 x) := by
  have row : RowI w (.slice ao n cap) A := (h.each _ hm).1
  obtain ⟨ao', cap', e, _, _, hg, _⟩ := row.slice
  cases e
  obtain ⟨g, rfl⟩ := hg k (List.getElem?_eq_some_iff.1 hk).1
  exact ⟨g, rfl, row.cell hk⟩
theorem Sep.listIs {v : Value} {A : List Int} (h : Sep w0 r w R) (hm : lstI v A ∈ R) : ∃ ao cap, v = .slice ao A.length cap := by
  obtain ⟨ao, cap, e, _⟩ := RowI.slice (h.each _ hm).1
  exact ⟨ao, cap, e⟩
end
end Go.Proofs.YtnjmjhmngjodcaaDoor
