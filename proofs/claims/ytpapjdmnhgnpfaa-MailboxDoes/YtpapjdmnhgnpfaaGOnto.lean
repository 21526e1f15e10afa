/-
  A part of a row, from some place on, is appended to a row; no condition of ours but that rows are short.
-/
import Derived.Test.YtpapjdmnhgnpfaaGRow
namespace Go.Proofs.Ytpapjdmnhgnpfaa
open Go.RowKit Go.Deep Go.Shelf
section
variable {α : Type} {E : El α} {w0 w w' : World} {r : Nat} {R : List Th} {v : Value} {L : List α}
/-- The row of L from d on. -/
theorem Row.tailAt (ok : El.Ok E) {g cap n : Nat} (h : Row E w (.slice (some ⟨g, 0, none⟩) n cap) L) (d : Nat) (j : Nat) (u : Value) (hj : (flatK E.enc (L.drop d))[j]? = some u) : w.cell? ((⟨g, d * E.k, none⟩ : Addr).add j) = some u := by
  rw [flatK_drop ok.len, List.getElem?_drop] at hj
  have := World.ownsRow.cells h (g := g) rfl (d * E.k + j) u hj
  rw [add_none, Nat.zero_add] at this
  rw [add_none]
  exact this
theorem append_see (ok : El.Ok E) (ty : TypeId) (hown : Row E w v L) (ad : Addr) (c : Nat) (A : List α) (hsee : ∀ j u, (flatK E.enc A)[j]? = some u → w.cell? (ad.add j) = some u) (hl : L.length + A.length ≤ 1000000) :
    ∃ v' w', (Builtin.append_ #[E.sl, E.sl] ty #[v, .slice (some ad) A.length c]).run Try.prog w = .ok v' w' ∧ Row E w' v' (L ++ A) ∧ w.grownBy w' v.ownBlock ∧ (v'.ownBlock = v.ownBlock ∨ v'.ownBlock = some w.heap.size) := by
  obtain ⟨i, z, hi, z1, z2, z3, z4⟩ := ok.info
  have hs := ok.small
  obtain ⟨v', w', r1, r2, r3, r4, r5⟩ := run_append_own_at (P := Try.prog) (w := w) 0 E.sl ty E.e i z E.k E.by' ok.hu hi z1 z2 z3 z4 ok.pos v L.length (flatK E.enc L) hown ad A.length c (flatK E.enc A) (flatK_len ok.len A)
    hsee (flatK_one ok.one _) (by unfold maxLen; omega) (Nat.le_trans (Nat.mul_le_mul hl hs) (by decide)) (Nat.zero_le _)
  refine ⟨v', w', r1, ?_, r3, r5⟩
  unfold Row
  rw [List.length_append, flatK_app]
  exact r2
theorem Sep.ontoAt (ok : El.Ok E) {u : Value} {A B : List α} (h : Sep w0 r w (lst E u A :: R)) (ad : Addr) (c n : Nat) (hn : B.length = n) (hsee : ∀ j u, (flatK E.enc B)[j]? = some u → w.cell? (ad.add j) = some u) (ty : TypeId) (hl : A.length + B.length ≤ 1000000) :
    ∃ v' w', (Builtin.append_ #[E.sl, E.sl] ty #[u, .slice (some ad) n c]).run Try.prog w = .ok v' w' ∧ Sep w0 r w' (lst E v' (A ++ B) :: R) := by
  subst hn
  obtain ⟨v', w', r1, r2, r3, r4⟩ := append_see ok ty h.head ad c B hsee hl
  refine ⟨v', w', r1, h.turn (t := lst E u A) (t' := lst E v' (A ++ B)) r2 (Turn.grown r3 fun k hk => .inl hk) fun x hx => ?_⟩
  rcases r4 with e | e
  · exact .inl (e.symm.trans hx)
  · have : some w.heap.size = some x := e.symm.trans hx
    cases this
    exact .inr (Nat.le_refl _)
end
end Go.Proofs.Ytpapjdmnhgnpfaa
