/-
  How a notification lies in memory: a struct of a bool, a word and a row of ints; what stays while it is turned; no condition of ours.
-/
import Derived.Test.YtbkkpfmhcfkfbaaGBase
import Derived.Test.YtbkkpfmhcfkfbaaVMath
namespace Go.Proofs.Ytbkkpfmhcfkfbaa
open Go.RowKit Go.Deep Go.Shelf

def objN (S : Ns) (v : Value) : Obj := .cells #[.bool S.b, .int .u64 S.w, v] 48 (0, 0)
structure NtH (p : Nat) (v : Value) (S : Ns) (w : World) : Prop where
  head : w.heap[p]? = some (objN S v)
  row : RowI w v S.l
  ne : v.ownBlock ≠ some p
  good : Good S
def ntT (p : Nat) (v : Value) (S : Ns) : Th where
  F := fun x => x = p ∨ v.ownBlock = some x
  H := NtH p v S
  lt := fun w h x hx => by
    rcases hx with rfl | hx
    · exact (Array.getElem?_eq_some_iff.1 h.head).1
    · exact h.row.lt hx
  keep := fun _ _ h k => ⟨(k p (.inl rfl)).trans h.head, h.row.keep fun x hx => k x (.inr hx), h.ne, h.good⟩
section
variable {w0 w w' : World} {r p : Nat} {v : Value} {S : Ns} {R : List Th}
theorem NtH.cells (h : NtH p v S w) : w.cell? ⟨p, 0, none⟩ = some (.bool S.b) ∧ w.cell? ⟨p, 1, none⟩ = some (.int .u64 S.w) ∧ w.cell? ⟨p, 2, none⟩ = some v := by
  have := h.head
  unfold objN at this
  refine ⟨?_, ?_, ?_⟩ <;> simp [World.cell?, this]
theorem NtH.frozen (h : NtH p v S w) (j : Nat) : w.frozen? ⟨p, j, none⟩ = false := by
  have := h.head
  unfold objN at this
  simp [World.frozen?, this]
theorem NtH.below (h : NtH p v S w) (k : Below w.heap.size w w') : NtH p v S w' := (ntT p v S).below h k
theorem Sep.good (h : Sep w0 r w (ntT p v S :: R)) : Good S := NtH.good h.head
theorem Sep.cellsP (h : Sep w0 r w (ntT p v S :: R)) : w.cell? ⟨p, 0, none⟩ = some (.bool S.b) ∧ w.cell? ⟨p, 1, none⟩ = some (.int .u64 S.w) ∧ w.cell? ⟨p, 2, none⟩ = some v := NtH.cells h.head
theorem Sep.frozenP (h : Sep w0 r w (ntT p v S :: R)) (j : Nat) : w.frozen? ⟨p, j, none⟩ = false := NtH.frozen h.head j
theorem Sep.sliceP (h : Sep w0 r w (ntT p v S :: R)) : ∃ ao cap, v = .slice ao S.l.length cap ∧ ∀ i, i < S.l.length → ∃ g, ao = some ⟨g, 0, none⟩ := by
  obtain ⟨ao, cap, e, _, _, hg, _⟩ := (NtH.row h.head).slice
  exact ⟨ao, cap, e, hg⟩
/-- The bool and the word are written. -/
theorem Sep.flag {T : Ns} (h : Sep w0 r w (ntT p v S :: R)) (g : Good T) (e : T.l = S.l) : Sep w0 r ((w.setCell ⟨p, 0, none⟩ (.bool T.b)).setCell ⟨p, 1, none⟩ (.int .u64 T.w)) (ntT p v T :: R) := by
  have h2 : NtH p v S w := h.head
  have hd := h2.head
  unfold objN at hd
  have st := (Turn.setCell (ntT p v S).F w ⟨p, 0, none⟩ (.bool T.b) (.inl rfl)).trans (Turn.setCell (ntT p v S).F _ ⟨p, 1, none⟩ (.int .u64 T.w) (.inl rfl)) fun x hx => .inl hx
  refine h.turn (t' := ntT p v T) ⟨?_, ?_, h2.ne, g⟩ st fun x hx => .inl hx
  · rw [setBlock (setBlock hd _) _]
    simp [objN]
  · rw [e]
    refine h2.row.keep fun x hx => ?_
    have ne : x ≠ p := fun e => h2.ne (e ▸ hx)
    rw [blk_setCell_other _ _ _ _ ne, blk_setCell_other _ _ _ _ ne]
/-- A row that grew, or was turned in its own block, is hung into the struct. -/
theorem Sep.regrow {v' : Value} {T : Ns} (h : Sep w0 r w (ntT p v S :: R)) (g5 : w.grownBy w' v.ownBlock) (row : RowI w' v' T.l) (loc : v'.ownBlock = v.ownBlock ∨ ∀ x, v'.ownBlock = some x → w.heap.size ≤ x) (g : Good T) (eb : T.b = S.b) (ew : T.w = S.w) : Sep w0 r (w'.setCell ⟨p, 2, none⟩ v') (ntT p v' T :: R) := by
  have h2 : NtH p v S w := h.head
  have own' : ∀ x, v'.ownBlock = some x → v.ownBlock = some x ∨ w.heap.size ≤ x := fun x hx => loc.elim (fun l => .inl (l ▸ hx)) fun l => .inr (l x hx)
  have hp : p < w.heap.size := (Array.getElem?_eq_some_iff.1 h2.head).1
  have ne : v'.ownBlock ≠ some p := fun e => (own' p e).elim h2.ne fun h1 => by omega
  have hd : w'.heap[p]? = some (objN S v) := (g5.block p hp fun e => h2.ne e.symm).trans h2.head
  unfold objN at hd
  refine h.turn (t' := ntT p v' T) ⟨by rw [setBlock hd v']; simp [objN, eb, ew], row.keep fun x hx => blk_setCell_other _ _ _ _ fun e => ne (by rw [hx]; exact congrArg some e), ne, g⟩ ((Turn.grown (F := (ntT p v S).F) g5 fun k hk => .inl (.inr hk)).trans (Turn.setCell (ntT p v S).F w' ⟨p, 2, none⟩ v' (.inl rfl)) fun x hx => .inl hx) fun x hx => ?_
  rcases hx with rfl | hx
  · exact .inl (.inl rfl)
  · exact (own' x hx).imp .inr id
/-- A struct is laid around a row. -/
theorem Sep.nt (h : Sep w0 r w (lstI v S.l :: R)) (g : Good S) : Sep w0 r (w.alloc (objN S v)) (ntT w.heap.size v S :: R) := by
  have h1 := h.box (objN S v)
  have row : RowI (w.alloc (objN S v)) v S.l := (h1.each (lstI v S.l) (by simp)).1
  obtain ⟨a1, a2⟩ := List.pairwise_cons.1 h1.apart
  obtain ⟨a3, a4⟩ := List.pairwise_cons.1 a2
  refine ⟨h1.low, h1.size, fun t ht => ?_, List.pairwise_cons.2 ⟨fun b hb x hx hy => ?_, a4⟩⟩
  · rcases List.mem_cons.1 ht with rfl | ht
    · refine ⟨⟨h1.head, row, fun e => a1 (lstI v S.l) (by simp) _ rfl e, g⟩, fun x hx => ?_⟩
      rcases hx with rfl | hx
      · exact h.size
      · exact (h1.each (lstI v S.l) (by simp)).2 x hx
    · exact h1.each t (by simp [ht])
  · rcases hx with rfl | hx
    · exact a1 b (by simp [hb]) _ rfl hy
    · exact a3 b hb x hx hy
end
end Go.Proofs.Ytbkkpfmhcfkfbaa
