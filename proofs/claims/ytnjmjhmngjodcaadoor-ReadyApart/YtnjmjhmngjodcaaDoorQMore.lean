/-
  What Bits of package ready answers; Bits and Copy among things that lie apart; no condition but that the queue is small.
-/
import Derived.Test.YtnjmjhmngjodcaaDoorQQuiet
import Derived.Test.YtnjmjhmngjodcaaDoorQCopy
import Derived.Test.YtnjmjhmngjodcaaDoorWEq
namespace Go.Proofs.YtnjmjhmngjodcaaDoor
open Go.RowKit Go.Deep Go.Shelf

set_option maxHeartbeats 1000000 in
theorem bits_any (q : Nat) (F : Nat → Prop) (S : St) (w : World) (h : QuH q F S w) :
    Calls Tryd.prog 24 #[.pointer (some ⟨q, 0, none⟩)] w fun e w' => e = .returned (wdAll (occ S)) ∧ Below w.heap.size w w' := by
  obtain ⟨b, vs, h, good, hF⟩ := h
  have HT := hid (fun u (b1 : Below w.heap.size w u) => taken_any q b vs _ _ u (h.below b1))
  rw [occ_fun] at HT
  unfold wdAll at *
  clear h good hF
  generalize wd (occ S) 256 0 = x0 at *
  generalize wd (occ S) 256 1 = x1 at *
  generalize wd (occ S) 256 2 = x2 at *
  generalize wd (occ S) 256 3 = x3 at *
  go_enter Tryd.func24, Tryd.ntmps24
  go_wp2_with fail
  refine Calls.mono (HT.out _ (below_new w (objB 0 0 0 0))) ?_
  rintro e w1 ⟨rfl, b1⟩
  have hz : w1.heap[w.heap.size]? = some (objB 0 0 0 0) := (b1.block _ (by simp)).trans (blk_alloc_new w (objB 0 0 0 0))
  have bel := Below.then (below_new w (objB 0 0 0 0)) b1 (by simp)
  have HL : Hid (∀ a c d e, Below w.heap.size w (sets4 w1 w.heap.size a c d e)) := fun a c d e => (sets4_turn (fun x => x = w.heap.size) _ _ a c d e rfl).below bel (fun x hx => by rw [hx]; exact Nat.le_refl _) bel.size
  obtain ⟨e0, e1, e2, e3, g0, g1, g2, g3⟩ := objB_cells hz
  unfold sets4 at HL
  clear hz b1 bel HT
  generalize hr : w.heap.size = r at *
  go_wp2
  exact bodyPost_ret (v := .agg #[.int .u64 x0, .int .u64 x1, .int .u64 x2, .int .u64 x3]) (by simp [results, Tryd.results24, go_sem, e0, e1, e2, e3]) rfl ⟨rfl, by rw [hr]; exact HL.out _ _ _ _⟩
section
variable {w0 w : World} {r : Nat} {R : List Th} {q : Nat} {F : Nat → Prop} {S : St}
theorem bits_sep (h : Sep w0 r w (quT q F S :: R)) :
    Calls Tryd.prog 24 #[.pointer (some ⟨q, 0, none⟩)] w fun e w' => e = .returned (wdAll (occ S)) ∧ Sep w0 r w' (quT q F S :: R) := by
  refine Calls.mono (bits_any q F S w h.head) ?_
  rintro e w' ⟨rfl, b⟩
  exact ⟨rfl, h.below b⟩
theorem copy_sep (h : Sep w0 r w (quT q F S :: R)) (hl : S.length ≤ 1000) :
    Calls Tryd.prog 16 #[.pointer (some ⟨q, 0, none⟩)] w fun e w' => ∃ q2 F2, e = .returned (.pointer (some ⟨q2, 0, none⟩)) ∧ Sep w0 r w' (quT q2 F2 S :: quT q F S :: R) := by
  refine Calls.mono (copy_any q F S w h.head hl) ?_
  rintro e w' ⟨q2, F2, rfl, h1, b, n⟩
  exact ⟨q2, F2, rfl, h.new (t := quT q2 F2 S) h1 b n⟩
theorem bits_is (h : Sep w0 r w (quT q F S :: R)) {x0 x1 x2 x3 : Int} (hx : wdAll (occ S) = .agg #[.int .u64 x0, .int .u64 x1, .int .u64 x2, .int .u64 x3]) :
    Calls Tryd.prog 24 #[.pointer (some ⟨q, 0, none⟩)] w fun e w' => e = .returned (.agg #[.int .u64 x0, .int .u64 x1, .int .u64 x2, .int .u64 x3]) ∧ Sep w0 r w' (quT q F S :: R) := by
  rw [← hx]
  exact bits_sep h
theorem bits_grw {p : Grw w} (h : Sep w0 r w R) (hm : quT q F S ∈ R) {x0 x1 x2 x3 : Int} (hx : wdAll (occ S) = .agg #[.int .u64 x0, .int .u64 x1, .int .u64 x2, .int .u64 x3]) :
    Calls Tryd.prog 24 #[.pointer (some ⟨q, 0, none⟩)] p.val fun e w'' => e = .returned (.agg #[.int .u64 x0, .int .u64 x1, .int .u64 x2, .int .u64 x3]) ∧ ∃ p' : Grw w, w'' = p'.val := by
  rw [← hx]
  exact grw_of (bits_any q F S p.val ((h.grw p).each _ hm).1)
theorem Sep.bitsGrw {q : Nat} {x0 x1 x2 x3 : Int} (h : Sep w0 r w R) (hm : blk q (objB x0 x1 x2 x3) ∈ R) : (∀ p : Grw w, p.val.cell? ⟨q, 0, none⟩ = some (.int .u64 x0)) ∧ (∀ p : Grw w, p.val.cell? ⟨q, 1, none⟩ = some (.int .u64 x1)) ∧ (∀ p : Grw w, p.val.cell? ⟨q, 2, none⟩ = some (.int .u64 x2)) ∧ ∀ p : Grw w, p.val.cell? ⟨q, 3, none⟩ = some (.int .u64 x3) :=
  ⟨fun p => ((h.grw p).bitsAt hm).1, fun p => ((h.grw p).bitsAt hm).2.1, fun p => ((h.grw p).bitsAt hm).2.2.1, fun p => ((h.grw p).bitsAt hm).2.2.2⟩
end
theorem eq_same (x0 x1 x2 x3 : Int) : ∀ W, (Op.equalIn 10000 43 (.agg #[.int .u64 x0, .int .u64 x1, .int .u64 x2, .int .u64 x3]) (.agg #[.int .u64 x0, .int .u64 x1, .int .u64 x2, .int .u64 x3])).run Tryd.prog W = .ok true W := fun W => by
  have := eq_bits 9998 W x0 x1 x2 x3 x0 x1 x2 x3
  simpa using this
end Go.Proofs.YtnjmjhmngjodcaaDoor
