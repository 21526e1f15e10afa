/-
  How an endpoint lies in memory: a struct that holds a row of those that wait, nine cells each; messages and meetings in blocks of their own; what stays while one of them is turned; no condition of ours.
-/
import Derived.Test.YtddeiglcbnemfaaGBase
import Derived.Test.YtddeiglcbnemfaaJMath
namespace Go.Proofs.Ytddeiglcbnemfaa
open Go.RowKit Go.Deep Go.Shelf

def cM (m : Ms) : List Value := [.int .i64 m.l, .int .u64 m.a, .int .u64 m.b, .int .u64 m.c, .int .u64 m.d, .int .u64 m.g, .bool m.q]
def encM (m : Ms) : Value := .agg #[.int .i64 m.l, .int .u64 m.a, .int .u64 m.b, .int .u64 m.c, .int .u64 m.d, .int .u64 m.g, .bool m.q]
def objM (m : Ms) : Obj := .cells #[.int .i64 m.l, .int .u64 m.a, .int .u64 m.b, .int .u64 m.c, .int .u64 m.d, .int .u64 m.g, .bool m.q] 33
def cW (x : Wt) : List Value := [.int .i64 x.n, .bool x.s, .int .i64 x.m.l, .int .u64 x.m.a, .int .u64 x.m.b, .int .u64 x.m.c, .int .u64 x.m.d, .int .u64 x.m.g, .bool x.m.q]
def encW (x : Wt) : Value := .agg #[.int .i64 x.n, .bool x.s, .int .i64 x.m.l, .int .u64 x.m.a, .int .u64 x.m.b, .int .u64 x.m.c, .int .u64 x.m.d, .int .u64 x.m.g, .bool x.m.q]
def objW (x : Wt) : Obj := .cells #[.int .i64 x.n, .bool x.s, .int .i64 x.m.l, .int .u64 x.m.a, .int .u64 x.m.b, .int .u64 x.m.c, .int .u64 x.m.d, .int .u64 x.m.g, .bool x.m.q] 53
def wt0 : Wt := ⟨0, false, ms0⟩
def cT (x : Mt) : List Value := [.bool x.i, .int .i64 x.f, .int .i64 x.t, .int .i64 x.m.l, .int .u64 x.m.a, .int .u64 x.m.b, .int .u64 x.m.c, .int .u64 x.m.d, .int .u64 x.m.g, .bool x.m.q]
def encT (x : Mt) : Value := .agg #[.bool x.i, .int .i64 x.f, .int .i64 x.t, .int .i64 x.m.l, .int .u64 x.m.a, .int .u64 x.m.b, .int .u64 x.m.c, .int .u64 x.m.d, .int .u64 x.m.g, .bool x.m.q]
def objT (x : Mt) : Obj := .cells #[.bool x.i, .int .i64 x.f, .int .i64 x.t, .int .i64 x.m.l, .int .u64 x.m.a, .int .u64 x.m.b, .int .u64 x.m.c, .int .u64 x.m.d, .int .u64 x.m.g, .bool x.m.q] 37
def elW : El Wt := ⟨53, 49, 9, 72, cW⟩
theorem infoW : (Try.prog.info? 53).map (fun i => (i.zero, i.size, i.bytes)) = some (some (.agg #[.int .i64 0, .bool false, .int .i64 0, .int .u64 0, .int .u64 0, .int .u64 0, .int .u64 0, .int .u64 0, .bool false]), 9, 72) := by kernel_rfl
theorem okW : El.Ok elW := ⟨Try.underlying49, info_of infoW rfl, by decide, by decide, fun _ => rfl, by simp [elW, cW, Value.oneCell']⟩
abbrev lstW (v : Value) (L : St) : Th := lst elW v L
abbrev RowW (w : World) (v : Value) (L : St) : Prop := Row elW w v L
/-- One that waits lies at o in block g. -/
def AtW (w : World) (g o : Nat) (x : Wt) : Prop := ∀ j c, (cW x)[j]? = some c → w.cell? ⟨g, o + j, none⟩ = some c
theorem AtW.cells {w : World} {g o : Nat} {x : Wt} (h : AtW w g o x) : w.cell? ⟨g, o, none⟩ = some (.int .i64 x.n) ∧ w.cell? ⟨g, o + 1, none⟩ = some (.bool x.s) ∧ w.cell? ⟨g, o + 2, none⟩ = some (.int .i64 x.m.l) ∧ w.cell? ⟨g, o + 3, none⟩ = some (.int .u64 x.m.a) ∧ w.cell? ⟨g, o + 4, none⟩ = some (.int .u64 x.m.b) ∧ w.cell? ⟨g, o + 5, none⟩ = some (.int .u64 x.m.c) ∧ w.cell? ⟨g, o + 6, none⟩ = some (.int .u64 x.m.d) ∧ w.cell? ⟨g, o + 7, none⟩ = some (.int .u64 x.m.g) ∧ w.cell? ⟨g, o + 8, none⟩ = some (.bool x.m.q) :=
  ⟨h 0 _ rfl, h 1 _ rfl, h 2 _ rfl, h 3 _ rfl, h 4 _ rfl, h 5 _ rfl, h 6 _ rfl, h 7 _ rfl, h 8 _ rfl⟩
theorem RowW.at {w : World} {g cap n : Nat} {S : St} (h : RowW w (.slice (some ⟨g, 0, none⟩) n cap) S) {i : Nat} {x : Wt} (hi : S[i]? = some x) : AtW w g (i * 9) x := fun _ _ hj => Row.cell okW h hi hj
theorem atW_of {w : World} {q : Nat} {x : Wt} (h : w.heap[q]? = some (objW x)) : AtW w q 0 x := fun j c hj => by
  simp only [World.cell?]
  rw [h, Nat.zero_add]
  simpa [cW, objW] using hj
def AtM (w : World) (q : Nat) (m : Ms) : Prop := ∀ j c, (cM m)[j]? = some c → w.cell? ⟨q, j, none⟩ = some c
theorem AtM.cells {w : World} {q : Nat} {m : Ms} (h : AtM w q m) : w.cell? ⟨q, 0, none⟩ = some (.int .i64 m.l) ∧ w.cell? ⟨q, 1, none⟩ = some (.int .u64 m.a) ∧ w.cell? ⟨q, 2, none⟩ = some (.int .u64 m.b) ∧ w.cell? ⟨q, 3, none⟩ = some (.int .u64 m.c) ∧ w.cell? ⟨q, 4, none⟩ = some (.int .u64 m.d) ∧ w.cell? ⟨q, 5, none⟩ = some (.int .u64 m.g) ∧ w.cell? ⟨q, 6, none⟩ = some (.bool m.q) :=
  ⟨h 0 _ rfl, h 1 _ rfl, h 2 _ rfl, h 3 _ rfl, h 4 _ rfl, h 5 _ rfl, h 6 _ rfl⟩
theorem atM_of {w : World} {q : Nat} {m : Ms} (h : w.heap[q]? = some (objM m)) : AtM w q m := fun j c hj => by
  simp only [World.cell?]
  rw [h]
  simpa [cM, objM] using hj
def AtT (w : World) (q : Nat) (x : Mt) : Prop := ∀ j c, (cT x)[j]? = some c → w.cell? ⟨q, j, none⟩ = some c
theorem AtT.cells {w : World} {q : Nat} {x : Mt} (h : AtT w q x) : w.cell? ⟨q, 0, none⟩ = some (.bool x.i) ∧ w.cell? ⟨q, 1, none⟩ = some (.int .i64 x.f) ∧ w.cell? ⟨q, 2, none⟩ = some (.int .i64 x.t) ∧ w.cell? ⟨q, 3, none⟩ = some (.int .i64 x.m.l) ∧ w.cell? ⟨q, 4, none⟩ = some (.int .u64 x.m.a) ∧ w.cell? ⟨q, 5, none⟩ = some (.int .u64 x.m.b) ∧ w.cell? ⟨q, 6, none⟩ = some (.int .u64 x.m.c) ∧ w.cell? ⟨q, 7, none⟩ = some (.int .u64 x.m.d) ∧ w.cell? ⟨q, 8, none⟩ = some (.int .u64 x.m.g) ∧ w.cell? ⟨q, 9, none⟩ = some (.bool x.m.q) :=
  ⟨h 0 _ rfl, h 1 _ rfl, h 2 _ rfl, h 3 _ rfl, h 4 _ rfl, h 5 _ rfl, h 6 _ rfl, h 7 _ rfl, h 8 _ rfl, h 9 _ rfl⟩
theorem atT_of {w : World} {q : Nat} {x : Mt} (h : w.heap[q]? = some (objT x)) : AtT w q x := fun j c hj => by
  simp only [World.cell?]
  rw [h]
  simpa [cT, objT] using hj
theorem frozenT {w : World} {q : Nat} {x : Mt} (h : w.heap[q]? = some (objT x)) (j : Nat) : w.frozen? ⟨q, j, none⟩ = false := by
  unfold objT at h
  simp [World.frozen?, h]

/-! ### An endpoint -/
structure EpH (p : Nat) (v : Value) (S : St) (w : World) : Prop where
  head : w.heap[p]? = some (.cells #[v] 51 (0, 0))
  row : RowW w v S
  ne : v.ownBlock ≠ some p
  good : Good S
def epT (p : Nat) (v : Value) (S : St) : Th where
  F := fun x => x = p ∨ v.ownBlock = some x
  H := EpH p v S
  lt := fun w h x hx => by
    rcases hx with rfl | hx
    · exact (Array.getElem?_eq_some_iff.1 h.head).1
    · exact h.row.lt hx
  keep := fun _ _ h k => ⟨(k p (.inl rfl)).trans h.head, h.row.keep fun x hx => k x (.inr hx), h.ne, h.good⟩
section
variable {w0 w w' : World} {r p : Nat} {v : Value} {S : St} {R : List Th}
theorem EpH.cell (h : EpH p v S w) : w.cell? ⟨p, 0, none⟩ = some v := by
  simp [World.cell?, h.head]
theorem EpH.frozen (h : EpH p v S w) : w.frozen? ⟨p, 0, none⟩ = false := by
  simp [World.frozen?, h.head]
theorem EpH.below (h : EpH p v S w) (k : Below w.heap.size w w') : EpH p v S w' := (epT p v S).below h k
theorem Sep.good (h : Sep w0 r w (epT p v S :: R)) : Good S := EpH.good h.head
/-- A row is hung into the struct. -/
theorem Sep.hang {v' : Value} {T : St} (h : Sep w0 r w (lstW v' T :: epT p v S :: R)) (g : Good T) : Sep w0 r (w.setCell ⟨p, 0, none⟩ v') (epT p v' T :: R) := by
  obtain ⟨a1, a2⟩ := List.pairwise_cons.1 h.apart
  obtain ⟨a3, a4⟩ := List.pairwise_cons.1 a2
  have e1 : RowW w v' T := h.head
  have e2 := h.each (epT p v S) (by simp)
  have h2 : EpH p v S w := e2.1
  have ne : v'.ownBlock ≠ some p := fun e => a1 (epT p v S) (by simp) p e (.inl rfl)
  have k : Turn (fun x => x = p) w (w.setCell ⟨p, 0, none⟩ v') := Turn.setCell _ w ⟨p, 0, none⟩ v' rfl
  refine ⟨k.below h.low (fun x hx => by rw [hx]; exact e2.2 p (.inl rfl)) h.size, Nat.le_trans h.size k.size, fun t ht => ?_, List.pairwise_cons.2 ⟨fun b hb x hx hy => ?_, a4⟩⟩
  · rcases List.mem_cons.1 ht with rfl | ht
    · refine ⟨⟨by have := setBlock (j := 0) h2.head v'; simpa using this, e1.keep fun x hx => blk_setCell_other _ _ _ _ fun e => ne (by rw [hx]; exact congrArg some e), ne, g⟩, fun x hx => ?_⟩
      rcases hx with rfl | hx
      · exact e2.2 _ (.inl rfl)
      · exact (h.each (lstW v' T) (by simp)).2 x hx
    · have h1 := h.each t (by simp [ht])
      exact ⟨t.turn h1.1 k fun x hx e => a3 t ht p (.inl rfl) (by rw [← e]; exact hx), h1.2⟩
  · rcases hx with rfl | hx
    · exact a3 b hb _ (.inl rfl) hy
    · exact a1 b (by simp [hb]) x hx hy
/-- A row that grew is hung into the struct. -/
theorem Sep.regrow {v' : Value} {T : St} (h : Sep w0 r w (epT p v S :: R)) (g5 : w.grownBy w' v.ownBlock) (row : RowW w' v' T) (loc : v'.ownBlock = v.ownBlock ∨ ∀ x, v'.ownBlock = some x → w.heap.size ≤ x) (g : Good T) : Sep w0 r (w'.setCell ⟨p, 0, none⟩ v') (epT p v' T :: R) := by
  have h2 : EpH p v S w := h.head
  have own' : ∀ x, v'.ownBlock = some x → v.ownBlock = some x ∨ w.heap.size ≤ x := fun x hx => loc.elim (fun l => .inl (l ▸ hx)) fun l => .inr (l x hx)
  have hp : p < w.heap.size := (Array.getElem?_eq_some_iff.1 h2.head).1
  have ne : v'.ownBlock ≠ some p := fun e => (own' p e).elim h2.ne fun h1 => by omega
  have hd : w'.heap[p]? = some (.cells #[v] 51 (0, 0)) := (g5.block p hp fun e => h2.ne e.symm).trans h2.head
  refine h.turn (t' := epT p v' T) ⟨by have := setBlock (j := 0) hd v'; simpa using this, row.keep fun x hx => blk_setCell_other _ _ _ _ fun e => ne (by rw [hx]; exact congrArg some e), ne, g⟩ ((Turn.grown (F := (epT p v S).F) g5 fun k hk => .inl (.inr hk)).trans (Turn.setCell (epT p v S).F w' ⟨p, 0, none⟩ v' (.inl rfl)) fun x hx => .inl hx) fun x hx => ?_
  rcases hx with rfl | hx
  · exact .inl (.inl rfl)
  · exact (own' x hx).imp .inr id
theorem Sep.cellP (h : Sep w0 r w (epT p v S :: R)) : w.cell? ⟨p, 0, none⟩ = some v := EpH.cell h.head
theorem Sep.sliceP (h : Sep w0 r w (epT p v S :: R)) : ∃ ao cap, v = .slice ao S.length cap ∧ ∀ i, i < S.length → ∃ g, ao = some ⟨g, 0, none⟩ := by
  obtain ⟨ao, cap, e, _, _, hg, _⟩ := (EpH.row h.head).slice
  exact ⟨ao, cap, e, hg⟩
end
end Go.Proofs.Ytddeiglcbnemfaa
