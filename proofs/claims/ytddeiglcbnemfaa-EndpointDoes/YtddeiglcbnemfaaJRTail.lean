/-
  A row onto another one from any place on; what the document's own Send and Recv come to, plainly; no condition but that rows are short.
-/
import Derived.Test.YtddeiglcbnemfaaJRef
namespace Go.Proofs.Ytddeiglcbnemfaa
open Go.RowKit Go.Deep Go.Shelf

section
variable {α : Type} {E : El α} {w0 w : World} {r : Nat} {R : List Th}
theorem Sep.ontoAt (ok : El.Ok E) {u : Value} {A B : List α} (h : Sep w0 r w (lst E u A :: R)) (ad : Addr) (c : Nat) (hsrc : ∀ j v, (flatK E.enc B)[j]? = some v → w.cell? (ad.add j) = some v) (ty : TypeId) (hl : A.length + B.length ≤ 1000000) :
    ∃ v' w', (Builtin.append_ #[E.sl, E.sl] ty #[u, .slice (some ad) B.length c]).run Try.prog w = .ok v' w' ∧ Sep w0 r w' (lst E v' (A ++ B) :: R) := by
  obtain ⟨i, z, hi, z1, z2, z3, z4⟩ := ok.info
  have hs := ok.small
  obtain ⟨v', w', r1, r2, r3, _, r5⟩ := run_append_own_at (P := Try.prog) (w := w) 0 E.sl ty E.e i z E.k E.by' ok.hu hi z1 z2 z3 z4 ok.pos u A.length (flatK E.enc A) h.head ad B.length c (flatK E.enc B) (flatK_len ok.len B) hsrc (flatK_one ok.one _) (by unfold maxLen; omega) (Nat.le_trans (Nat.mul_le_mul hl hs) (by decide)) (Nat.zero_le _)
  have row : Row E w' v' (A ++ B) := by
    unfold Row
    rw [List.length_append, flatK_app]
    exact r2
  refine ⟨v', w', r1, h.turn (t := lst E u A) (t' := lst E v' (A ++ B)) row (Turn.grown r3 fun k hk => .inl hk) fun x hx => ?_⟩
  rcases r5 with e | e
  · exact .inl (e.symm.trans hx)
  · have : some w.heap.size = some x := e.symm.trans hx
    cases this
    exact .inr (Nat.le_refl _)
theorem Row.tailAt (ok : El.Ok E) {g n cap : Nat} {x : α} {B : List α} (h : Row E w (.slice (some ⟨g, 0, none⟩) n cap) (x :: B)) : ∀ j v, (flatK E.enc B)[j]? = some v → w.cell? ((⟨g, E.k, none⟩ : Addr).add j) = some v := fun j v hj => by
  have := World.ownsRow.cells h (g := g) rfl (E.k + j) v (by
    rw [flatK_cons, List.getElem?_append_right (by rw [ok.len]; omega), ok.len, Nat.add_sub_cancel_left]
    exact hj)
  rw [add_none] at this ⊢
  rw [Nat.zero_add] at this
  exact this
theorem Sep.one3 {a b c d : Th} (h : Sep w0 r w (d :: a :: b :: c :: R)) : Sep w0 r w (a :: b :: c :: d :: R) :=
  h.perm (((List.Perm.cons a (List.Perm.cons b (List.Perm.swap d c R))).trans (List.Perm.cons a (List.Perm.swap d b (c :: R)))).trans (List.Perm.swap d a (b :: c :: R))).symm
theorem Sep.in2 {a b c : Th} (h : Sep w0 r w (a :: b :: c :: R)) : Sep w0 r w (a :: c :: b :: R) := h.perm (List.Perm.cons _ (List.Perm.swap _ _ _))
end
/-- What comes of Send, and of Recv, of those that send and those that receive. -/
def rE (A : List Wt) (B : List Int) (n : Int) : Int := if rthB A B n = true then 110 else 0
def rsM (A : List Wt) (B : List Int) (n : Int) (m : Ms) : Mt := if rthB A B n = true then mt0 else match B with
  | [] => mt0
  | t :: _ => ⟨true, n, t, m⟩
def rsA (A : List Wt) (B : List Int) (n : Int) (m : Ms) (z : Bool) : List Wt := if rthB A B n = true then A else match B with
  | [] => if z = true then A ++ [⟨n, true, m⟩] else A
  | _ :: _ => A
def rsB (A : List Wt) (B : List Int) (n : Int) : List Int := if rthB A B n = true then B else B.tail
def rrM (A : List Wt) (B : List Int) (n : Int) : Mt := if rthB A B n = true then mt0 else match A with
  | [] => mt0
  | x :: _ => ⟨true, x.n, n, x.m⟩
def rrA (A : List Wt) (B : List Int) (n : Int) : List Wt := if rthB A B n = true then A else A.tail
def rrB (A : List Wt) (B : List Int) (n : Int) (z : Bool) : List Int := if rthB A B n = true then B else match A with
  | [] => if z = true then B ++ [n] else B
  | _ :: _ => B
end Go.Proofs.Ytddeiglcbnemfaa
