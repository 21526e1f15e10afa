/-
  What Copy of package tree answers: another tree in the same state, in memory of its own; no condition but that the tree is small.
-/
import Derived.Test.YthfoeppcageneaaTClone
import Derived.Test.YthfoeppcageneaaTCalls
namespace Go.Proofs.Ythfoeppcageneaa
set_option linter.unusedSectionVars false
variable [DecidableEq Sl]
open Go.RowKit Go.Deep Go.Shelf

theorem copy_any (p : Nat) (v : Value) (S : St) (w : World) (h : TrH p v S w) (hl : S.length ≤ 1000) :
    Calls Try.prog 10 #[.pointer (some ⟨p, 0, none⟩)] w fun e w' => ∃ q v', e = .returned (.pointer (some ⟨q, 0, none⟩)) ∧ TrH q v' S w' ∧ (∀ x, fpT q v' x → w.heap.size ≤ x) ∧ Below w.heap.size w w' := by
  have c0 := h.cell
  have HG : Hid (Good S) := h.good
  have HI : Hid _ := clone_any v S w h.row hl
  obtain ⟨ao, cap, rfl, -, -, -⟩ := h.row.slice
  clear h
  go_enter Try.func10, Try.ntmps10
  go_wp2_with (go_at_call 25; refine Calls.mono HI.out ?_; rintro e w1 ⟨v', rfl, r1, n1, b1⟩; obtain ⟨ao', cap', rfl, -, -, -⟩ := r1.slice)
  go_ret
  have hne : (Value.slice ao' S.length cap').ownBlock ≠ some w1.heap.size := fun e => by have := r1.lt e; omega
  refine ⟨w1.heap.size, .slice ao' S.length cap', rfl, ⟨blk_alloc_new _ _, own_of_block r1 fun g hg => blk_alloc_lt _ _ _ (r1.lt hg), hne, HG.out⟩, fun x hx => hx.elim (fun e => by rw [e]; exact b1.size) (n1 x), Below.then b1 (below_new _ _) b1.size⟩
end Go.Proofs.Ythfoeppcageneaa
