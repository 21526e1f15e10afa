/-
  A tree and its copy beside each other; a slot that is written over; no condition but that the tree is small.
-/
import Derived.Test.YthfoeppcageneaaTLaw2
import Derived.Test.YthfoeppcageneaaTCopy
namespace Go.Proofs.Ythfoeppcageneaa
set_option linter.unusedSectionVars false
variable [DecidableEq Sl]
open Go.RowKit Go.Deep Go.Shelf
section
variable {w0 : World} {r : Nat} {w : World} {p : Nat} {v : Value} {S : St} {R : List Th}
theorem copy_sep (h : Sep w0 r w (trT p v S :: R)) (hl : S.length ≤ 1000) :
    Calls Try.prog 10 #[.pointer (some ⟨p, 0, none⟩)] w fun e w' => ∃ q v', e = .returned (.pointer (some ⟨q, 0, none⟩)) ∧ Sep w0 r w' (trT q v' S :: trT p v S :: R) :=
  (copy_any p v S w h.head hl).mono fun _ _ ⟨q, v', he, h1, h2, b⟩ => ⟨q, v', he, h.new (t := trT q v' S) h1 b h2⟩
theorem Sep.put2 {q : Nat} {z : Sl} (h : Sep w0 r w (blk q (objS z) :: R)) (y : Sl) : Sep w0 r ((w.setCell ⟨q, 0, none⟩ (.int .i64 y.n)).setCell ⟨q, 1, none⟩ (.int .i64 y.i)) (blk q (objS y) :: R) := by
  have h0 : w.heap[q]? = some (objS z) := h.head
  refine h.turn (t' := blk q (objS y)) ?_ ?_ (Out.refl _ _)
  · show ((w.setCell ⟨q, 0, none⟩ (.int .i64 y.n)).setCell ⟨q, 1, none⟩ (.int .i64 y.i)).heap[q]? = some (objS y)
    unfold objS at h0 ⊢
    simp [World.setCell, Array.getElem?_modify, h0]
  · exact (Turn.setCell (fun x => x = q) w ⟨q, 0, none⟩ (.int .i64 y.n) rfl).trans (Turn.setCell (fun x => x = q) _ ⟨q, 1, none⟩ (.int .i64 y.i) rfl) fun x hx => .inl hx
theorem Sep.frozenAt {q : Nat} {s : Sl} (h : Sep w0 r w R) (hm : blk q (objS s) ∈ R) (j : Nat) : w.frozen? ⟨q, j, none⟩ = false := by
  have h0 : w.heap[q]? = some (objS s) := (h.each _ hm).1
  unfold objS at h0
  simp [World.frozen?, h0]
end
theorem par_of {S : St} {s t : Sl} {b : Bool} (h1 : parS S s = t) (h2 : parB S s = b) : parO S s = if b then some t else none := by
  unfold parS at h1
  unfold parB at h2
  cases hp : parO S s with
  | none =>
    rw [hp] at h2
    subst h2
    rfl
  | some x =>
    rw [hp] at h1 h2
    subst h1 h2
    rfl
theorem parS_no {S : St} {s : Sl} (h : parB S s = false) : parS S s = no := by
  unfold parB at h
  unfold parS
  cases hp : parO S s with
  | none => rfl
  | some x => rw [hp] at h; cases h
end Go.Proofs.Ythfoeppcageneaa
