/-
  Plain facts on numbers taken out one by one, without the program: the next one, where it was put in, and what is left; no condition but that each number is in one line, once.
-/
import Derived.Test.YtnjmjhmngjodcaaDoorQMath
namespace Go.Proofs.YtnjmjhmngjodcaaDoor

def ix (S : St) (n : Int) : Nat := S.findIdx fun x => x.n == n
theorem ix_of {S : St} (g : Good S) {d : Nat} (h : d < S.length) : ix S S[d].n = d := by
  unfold ix
  rw [List.findIdx_eq h]
  refine ⟨by simp, fun j hj => ?_⟩
  have := List.pairwise_iff_getElem.1 g.one j d (by omega) h hj
  simpa using this
theorem ix_pair {S : St} (g : Good S) : S.Pairwise fun x y => ix S x.n < ix S y.n := by
  rw [List.pairwise_iff_getElem]
  intro i j hi hj hij
  rw [ix_of g hi, ix_of g hj]
  exact hij
theorem next_parts {T : St} (g : Good T) {x : In} (h : nextO T = some x) : ∃ A B, T = A ++ x :: B ∧ (∀ a ∈ A, a.p ≠ x.p) ∧ takeS T x.n = A ++ B := by
  have hx : (x.p : Int) = topS T := by simpa using List.find?_some h
  obtain ⟨_, A, B, e, hA⟩ := List.find?_eq_some_iff_append.1 h
  refine ⟨A, B, e, fun a ha e2 => ?_, ?_⟩
  · have := hA a ha
    rw [← hx, e2] at this
    simp at this
  · have g1 := g.one
    rw [e, List.pairwise_append, List.pairwise_cons] at g1
    obtain ⟨_, ⟨h2, _⟩, h4⟩ := g1
    unfold takeS
    rw [e, List.filter_append, List.filter_cons_of_neg (by simp)]
    congr 1
    · rw [List.filter_eq_self]
      intro a ha
      simpa using h4 a ha x (by simp)
    · rw [List.filter_eq_self]
      intro a ha
      simpa using (h2 a ha).symm
/-- The next one is taken out. -/
theorem first_step {S T : St} (g : Good S) (hs : T.Sublist S) (hT : T ≠ []) :
    ∃ (x : In) (d : Nat) (h : d < S.length), S[d] = x ∧ x ∈ T ∧ nextN T = x.n ∧ nextB T = true ∧ whI T x.n = x.p ∧ whB T x.n = true ∧ (∀ j (hj : j < S.length), j < d → S[j].n ≠ x.n) ∧
      (takeS T x.n).Sublist S ∧ (takeS T x.n).length + 1 = T.length ∧ (∀ y ∈ takeS T x.n, y.p ≤ x.p) ∧ (∀ y ∈ takeS T x.n, y.p = x.p → d < ix S y.n) ∧ ix S x.n = d := by
  have gT := good_sub g hs
  rcases next_cases gT with ⟨e, _⟩ | ⟨x, L, hx, _, e1, e2, e3, _, _, e5⟩
  · exact absurd e hT
  · obtain ⟨A, B, eT, hA, eK⟩ := next_parts gT e1
    obtain ⟨d, hd, ed⟩ := List.mem_iff_getElem.1 (hs.subset hx)
    have hix : ix S x.n = d := by rw [← ed]; exact ix_of g hd
    refine ⟨x, d, hd, ed, hx, e2, e3, (whB_of gT hx).2, (whB_of gT hx).1, fun j hj hjd => ?_, List.filter_sublist.trans hs, ?_, fun y hy => e5 y (take_mem.1 hy).1, fun y hy hyp => ?_, hix⟩
    · have := List.pairwise_iff_getElem.1 g.one j d hj hd hjd
      rw [ed] at this
      exact this
    · rw [eK, eT]
      simp
      omega
    · have hp := (ix_pair g).sublist hs
      rw [eT, List.pairwise_append, List.pairwise_cons] at hp
      rw [eK, List.mem_append] at hy
      rcases hy with hy | hy
      · exact absurd hyp (hA y hy)
      · have := hp.2.1.1 y hy
        rw [hix] at this
        exact this
end Go.Proofs.YtnjmjhmngjodcaaDoor
