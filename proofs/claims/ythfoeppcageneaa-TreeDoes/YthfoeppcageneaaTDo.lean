/-
  A list of slots that is written over; no condition of ours.
-/
import Derived.Test.YthfoeppcageneaaTRSep
import Derived.Test.YthfoeppcageneaaTTwo
import Derived.Test.YthfoeppcageneaaTLaw2
namespace Go.Proofs.Ythfoeppcageneaa
set_option linter.unusedSectionVars false
variable [DecidableEq Sl]
open Go.RowKit Go.Deep Go.Shelf
/-- n slots, whichever. -/
def anyS (ao : Option Addr) (n : Nat) : Th where
  F := fun x => (Value.slice ao n 0).ownBlock = some x
  H := fun w => n = 0 ∧ ao = none ∨ ∃ g cur, ao = some ⟨g, 0, none⟩ ∧ w.heap[g]? = some (.cells cur 31 (0, 0)) ∧ n * 2 ≤ cur.size
  lt := fun w h x hx => by
    rcases h with ⟨_, rfl⟩ | ⟨g, cur, rfl, h, _⟩
    · simp [Value.ownBlock] at hx
    · simp [Value.ownBlock] at hx
      subst hx
      exact (Array.getElem?_eq_some_iff.1 h).1
  keep := fun w w' h k => by
    rcases h with h | ⟨g, cur, rfl, h, hc⟩
    · exact .inl h
    · exact .inr ⟨g, cur, rfl, (k g rfl).trans h, hc⟩
section
variable {w0 : World} {r : Nat} {w : World} {R : List Th} {ao : Option Addr} {n cap : Nat} {A : List Sl}
theorem Sep.anyS (h : Sep w0 r w (lstS (.slice ao A.length cap) A :: R)) : Sep w0 r w (Go.Proofs.Ythfoeppcageneaa.anyS ao A.length :: R) := by
  have hr : RowS w (.slice ao A.length cap) A := h.head
  have hF : (Go.Proofs.Ythfoeppcageneaa.anyS ao A.length).F = (lstS (.slice ao A.length cap) A).F := by
    funext x
    cases ao <;> rfl
  refine ⟨h.low, h.size, fun t ht => ?_, ?_⟩
  · rcases List.mem_cons.1 ht with rfl | ht
    · refine ⟨?_, by rw [hF]; exact (h.each _ (List.mem_cons_self ..)).2⟩
      rcases hr.2 with ⟨e, h0⟩ | ⟨g, c, cur, e, _, hg, hc1, _, hc2, _⟩
      · obtain ⟨rfl, -, -⟩ := Value.slice.inj e
        exact .inl ⟨h0, rfl⟩
      · obtain ⟨rfl, -, rfl⟩ := Value.slice.inj e
        exact .inr ⟨g, cur, rfl, hg, by rw [hc2]; exact Nat.mul_le_mul_right 2 hc1⟩
    · exact h.each t (List.mem_cons_of_mem _ ht)
  · obtain ⟨h1, h2⟩ := List.pairwise_cons.1 h.apart
    exact List.pairwise_cons.2 ⟨fun b hb x hx => h1 b hb x (by rw [← hF]; exact hx), h2⟩
/-- One of the slots may be written. -/
theorem Sep.over (h : Sep w0 r w (Go.Proofs.Ythfoeppcageneaa.anyS ao n :: R)) {j : Nat} (hj : j < n) : ∃ g u, ao = some ⟨g, 0, none⟩ ∧ w.cell? ⟨g, j * 2 + 1, none⟩ = some u ∧ w.frozen? ⟨g, j * 2 + 1, none⟩ = false ∧ ∀ y, Sep w0 r (w.setCell ⟨g, j * 2 + 1, none⟩ y) (Go.Proofs.Ythfoeppcageneaa.anyS ao n :: R) := by
  have hh : n = 0 ∧ ao = none ∨ ∃ g cur, ao = some ⟨g, 0, none⟩ ∧ w.heap[g]? = some (.cells cur 31 (0, 0)) ∧ n * 2 ≤ cur.size := h.head
  rcases hh with ⟨h0, _⟩ | ⟨g, cur, rfl, hg, hc⟩
  · omega
  refine ⟨g, cur[j * 2 + 1]'(by omega), rfl, ?_, by simp [World.frozen?, hg], fun y => ?_⟩
  · simp [World.cell?, hg, Array.getElem?_eq_getElem (show j * 2 + 1 < cur.size by omega)]
  · refine h.turn (t' := Go.Proofs.Ythfoeppcageneaa.anyS (some ⟨g, 0, none⟩) n) (.inr ⟨g, cur.set! (j * 2 + 1) y, rfl, ?_, ?_⟩) (Turn.setCell _ w ⟨g, j * 2 + 1, none⟩ y rfl) (Out.refl _ _)
    · simp [World.setCell, Array.getElem?_modify, hg]
    · simpa using hc
theorem Sep.rtAt {k : Nat} {a b : Value} {T : St} (h : Sep w0 r w R) (ht : rtT k a b T ∈ R) : ∃ bo ca, a = .slice bo T.length ca ∧ w.cell? ⟨k, 0, none⟩ = some (.slice bo T.length ca) := by
  have h1 : RtH k a b T w := (h.each _ ht).1
  obtain ⟨ao, ca, bo, cb, e1, -, -, -, c0, -⟩ := h1.slices
  exact ⟨ao, ca, e1, c0⟩
theorem rsame_is {k ca : Nat} {bo : Option Addr} {b : Value} {T : St} (h : Sep w0 r w R) (hm : lstS (.slice ao A.length cap) A ∈ R) (ht : rtT k (.slice bo T.length ca) b T ∈ R) (hA : allS T = A) (hl : A.length ≤ 1000) :
    Calls Try.prog 18 #[.slice ao A.length cap, .slice bo T.length ca] w fun e w' => e = .returned (.bool true) ∧ Sep w0 r w' R := by
  have h1 : RtH k (.slice bo T.length ca) b T w := (h.each _ ht).1
  have h2 : RowS w (.slice ao A.length cap) A := (h.each _ hm).1
  have h3 : RowS w (.slice bo T.length ca) (allS T) := h1.rowS
  have := same_any ao bo cap ca A (allS T) w h2.see h3.see hl
  rw [alls_len, hA, same_self] at this
  exact this.mono fun _ _ ⟨he, k⟩ => ⟨he, h.below k⟩
theorem rparent_is {k : Nat} {a b : Value} {T : St} (s t : Sl) (β : Bool) (h : Sep w0 r w (rtT k a b T :: R)) (hl : T.length ≤ 1000) (ht : parS T s = t) (hb : parB T s = β) :
    Calls Try.prog 17 #[.pointer (some ⟨k, 0, none⟩), .agg #[.int .i64 s.n, .int .i64 s.i]] w fun e w' => e = .returned (.tuple #[.agg #[.int .i64 t.n, .int .i64 t.i], .bool β]) ∧ Sep w0 r w' (rtT k a b T :: R) := by
  rw [← ht, ← hb]
  exact rparent_sep s h hl
theorem runder_is {k : Nat} {a b : Value} {T : St} (s : Sl) (U : List Sl) (h : Sep w0 r w (rtT k a b T :: R)) (hl : T.length ≤ 1000) (hU : underS T s = U) :
    Calls Try.prog 19 #[.pointer (some ⟨k, 0, none⟩), .agg #[.int .i64 s.n, .int .i64 s.i]] w fun e w' => ∃ ao cap, e = .returned (.slice ao U.length cap) ∧ Sep w0 r w' (rtT k a b T :: lstS (.slice ao U.length cap) U :: R) := by
  rw [← hU]
  exact runder_sep s h hl
theorem does_is {p k : Nat} {v a b : Value} {S T : St} (x : Oc) (h : Sep w0 r w (trT p v S :: rtT k a b S :: R)) (hl : S.length ≤ 1000) (hT : stepS S x = T) :
    Calls Try.prog 13 #[.pointer (some ⟨p, 0, none⟩), .pointer (some ⟨k, 0, none⟩), .agg #[.int .i64 x.k, .int .i64 x.a.n, .int .i64 x.a.i, .int .i64 x.b.n, .int .i64 x.b.i]] w fun e w' => e = .returned (.bool true) ∧ ∃ v' a' b', Sep w0 r w' (trT p v' T :: rtT k a' b' T :: R) := by
  rw [← hT]
  exact does_sep x h hl
/-- The n-th thing goes ahead. -/
theorem Sep.fore (l1 : List Th) {t : Th} {l2 : List Th} (h : Sep w0 r w (l1 ++ t :: l2)) : Sep w0 r w (t :: (l1 ++ l2)) := h.perm List.perm_middle
end
theorem new_ref (w : World) : RtH w.heap.size (.slice none 0 0) (.slice none 0 0) [] (w.alloc (.cells #[.slice none 0 0, .slice none 0 0] 29)) :=
  ⟨blk_alloc_new w _, World.ownsRow_nil _ _ _ _, World.ownsRow_nil _ _ _ _, good_nil⟩
theorem Sep.ref {w0 : World} {r : Nat} {w : World} {R : List Th} (h : Sep w0 r w R) : Sep w0 r (w.alloc (.cells #[.slice none 0 0, .slice none 0 0] 29)) (rtT w.heap.size (.slice none 0 0) (.slice none 0 0) [] :: R) :=
  h.new (t := rtT w.heap.size (.slice none 0 0) (.slice none 0 0) []) (new_ref w) (below_new _ _) fun x hx => by
    rcases hx with rfl | hx | hx
    · exact Nat.le_refl _
    · simp [Value.ownBlock] at hx
    · simp [Value.ownBlock] at hx
end Go.Proofs.Ythfoeppcageneaa
