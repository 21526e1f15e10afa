/-
  A line in a block of its own, whose frame is written over; no condition.
-/
import Derived.Test.YtekjoeebomcmeaaYSep
namespace Go.Proofs.Ytekjoeebomcmeaa
open Go.RowKit Go.Deep Go.Shelf
section
variable {w0 w w' : World} {r p n : Nat} {v : Value} {S T : St} {R : List Th}
theorem frozenL {q : Nat} {x : Lr} (h : w.heap[q]? = some (objL x)) (j : Nat) : w.frozen? ⟨q, j, none⟩ = false := by
  unfold objL at h
  simp [World.frozen?, h]
theorem Sep.putF {q : Nat} {x : Lr} (h : Sep w0 r w (blk q (objL x) :: R)) (f : Int) : Sep w0 r (w.setCell ⟨q, 2, none⟩ (.int .i64 f)) (blk q (objL ⟨x.s, x.p, f, x.r⟩) :: R) := by
  have h1 : w.heap[q]? = some (objL x) := h.head
  unfold objL at h1
  have h2 := setBlock (j := 2) h1 (.int .i64 f)
  exact h.turn (t' := blk q (objL ⟨x.s, x.p, f, x.r⟩)) h2 (Turn.setCell (blk q (objL x)).F w ⟨q, 2, none⟩ _ rfl) fun x hx => .inl hx
end
end Go.Proofs.Ytekjoeebomcmeaa
