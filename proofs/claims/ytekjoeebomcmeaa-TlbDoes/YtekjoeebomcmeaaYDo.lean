/-
  What TlbDoes needs besides: a list that is written over, the document's list held against one that is told; no condition.
-/
import Derived.Test.YtekjoeebomcmeaaYLaw
import Derived.Test.YtekjoeebomcmeaaYOps
import Derived.Test.YtekjoeebomcmeaaYRLook
import Derived.Test.YtekjoeebomcmeaaYRFill
namespace Go.Proofs.Ytekjoeebomcmeaa
open Go.RowKit Go.Deep Go.Shelf
/-- A list of n lines that is written over. -/
def anyL (v : Value) (n : Nat) : Th where
  F := fun x => v.ownBlock = some x
  H := fun w => ∃ A : St, A.length = n ∧ RowL w v A
  lt := fun _ ⟨_, _, h⟩ _ hx => h.lt hx
  keep := fun _ _ ⟨A, e, h⟩ k => ⟨A, e, h.keep k⟩
section
variable {w0 w : World} {r p n N : Nat} {v u : Value} {S : St} {R : List Th}
theorem Sep.anyL {v : Value} {A : St} {n : Nat} (h : Sep w0 r w (lstL v A :: R)) (hn : A.length = n) : Sep w0 r w (anyL v n :: R) :=
  h.turn (t' := Go.Proofs.Ytekjoeebomcmeaa.anyL v n) ⟨A, hn, h.head⟩ (Turn.refl _ _) fun _ hx => .inl hx
theorem Sep.overL {ao : Option Addr} {n cap : Nat} (h : Sep w0 r w (Go.Proofs.Ytekjoeebomcmeaa.anyL (.slice ao n cap) n :: R)) {j : Nat} (hj : j < n) : ∃ g, ao = some ⟨g, 0, none⟩ ∧ (∃ y, w.cell? ⟨g, j * 4 + 1, none⟩ = some (.int .i64 y)) ∧ w.frozen? ⟨g, j * 4 + 1, none⟩ = false ∧ ∀ x, Sep w0 r (w.setCell ⟨g, j * 4 + 1, none⟩ (.int .i64 x)) (Go.Proofs.Ytekjoeebomcmeaa.anyL (.slice ao n cap) n :: R) := by
  obtain ⟨A, hA, row⟩ := h.head
  obtain ⟨ao', cap', ev, _, _, hg, _⟩ := row.slice
  cases ev
  obtain ⟨g, rfl⟩ := hg j (by omega)
  have hj2 : j < A.length := by omega
  have hx := List.getElem?_eq_getElem hj2
  refine ⟨g, rfl, ⟨A[j].p, (RowL.at row hx).cells.2.1⟩, Row.frozen row _, fun x => h.turn (t' := Go.Proofs.Ytekjoeebomcmeaa.anyL _ _) ⟨A.set j ⟨A[j].s, x, A[j].f, A[j].r⟩, by rw [List.length_set], ?_⟩ (Turn.setCell _ _ _ _ rfl) fun _ hx => .inl hx⟩
  exact Row.set okL row hx (j := 1) (c := .int .i64 x) (y := ⟨A[j].s, x, A[j].f, A[j].r⟩) (by decide) rfl
theorem same_do {a : Option Addr} {k c : Nat} (h : Sep w0 r w (tbT kP N p v S :: lstL (.slice a n c) S :: tbT kR N k u S :: R)) (hn : S.length = n) :
    Calls Try.prog 23 #[.slice a n c, u] w fun e w' => e = .returned (.bool true) ∧ Sep w0 r w' (tbT kP N p v S :: lstL (.slice a n c) S :: tbT kR N k u S :: R) := by
  subst hn
  have hl := h.good.few
  have ha : RowL w (.slice a S.length c) S := h.drop.head
  have hb : RowL w u S := h.drop.drop.rowP
  obtain ⟨bo, cb, rfl, _⟩ := Row.slice hb
  exact (same_see true a bo c cb S S w ha.see hb.see (by omega) ⟨fun _ => rfl, fun _ => rfl⟩).mono fun _ _ ⟨he, b⟩ => ⟨he, h.below b⟩
end
end Go.Proofs.Ytekjoeebomcmeaa
