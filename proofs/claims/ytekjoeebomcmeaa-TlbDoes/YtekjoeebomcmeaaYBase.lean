/-
  How a TLB lies in memory: a struct of its room and a row of lines, four cells each; what stays while it is turned; no condition of ours.
-/
import Derived.Test.YtekjoeebomcmeaaGRow
import Derived.Test.YtekjoeebomcmeaaYMath
namespace Go.Proofs.Ytekjoeebomcmeaa
open Go.RowKit Go.Deep Go.Shelf

def cL (x : Lr) : List Value := [.int .i64 x.s, .int .i64 x.p, .int .i64 x.f, .int .i64 x.r]
def encL (x : Lr) : Value := .agg #[.int .i64 x.s, .int .i64 x.p, .int .i64 x.f, .int .i64 x.r]
def objL (x : Lr) : Obj := .cells #[.int .i64 x.s, .int .i64 x.p, .int .i64 x.f, .int .i64 x.r] 33
def elL : El Lr := ⟨33, 42, 4, 32, cL⟩
theorem infoL : (Try.prog.info? 33).map (fun i => (i.zero, i.size, i.bytes)) = some (some (.agg #[.int .i64 0, .int .i64 0, .int .i64 0, .int .i64 0]), 4, 32) := by kernel_rfl
theorem okL : El.Ok elL := ⟨Try.underlying42, info_of infoL rfl, by decide, by decide, fun _ => rfl, by simp [elL, cL, Value.oneCell']⟩
abbrev lstL (v : Value) (L : St) : Th := lst elL v L
abbrev RowL (w : World) (v : Value) (L : St) : Prop := Row elL w v L
/-- A line lies at o in block g. -/
def AtL (w : World) (g o : Nat) (x : Lr) : Prop := ∀ j c, (cL x)[j]? = some c → w.cell? ⟨g, o + j, none⟩ = some c
theorem AtL.cells {w : World} {g o : Nat} {x : Lr} (h : AtL w g o x) : w.cell? ⟨g, o, none⟩ = some (.int .i64 x.s) ∧ w.cell? ⟨g, o + 1, none⟩ = some (.int .i64 x.p) ∧ w.cell? ⟨g, o + 2, none⟩ = some (.int .i64 x.f) ∧ w.cell? ⟨g, o + 3, none⟩ = some (.int .i64 x.r) :=
  ⟨h 0 _ rfl, h 1 _ rfl, h 2 _ rfl, h 3 _ rfl⟩
theorem RowL.at {w : World} {g cap n : Nat} {S : St} (h : RowL w (.slice (some ⟨g, 0, none⟩) n cap) S) {i : Nat} {x : Lr} (hi : S[i]? = some x) : AtL w g (i * 4) x := fun _ _ hj => Row.cell okL h hi hj
theorem atL_of {w : World} {q : Nat} {x : Lr} (h : w.heap[q]? = some (objL x)) : AtL w q 0 x := fun j c hj => by
  simp only [World.cell?]
  rw [h, Nat.zero_add]
  simpa [cL, objL] using hj
theorem cellsL {w : World} {q : Nat} {x : Lr} (h : w.heap[q]? = some (objL x)) : w.cell? ⟨q, 0, none⟩ = some (.int .i64 x.s) ∧ w.cell? ⟨q, 1, none⟩ = some (.int .i64 x.p) ∧ w.cell? ⟨q, 2, none⟩ = some (.int .i64 x.f) ∧ w.cell? ⟨q, 3, none⟩ = some (.int .i64 x.r) := (atL_of h).cells
theorem newL (w : World) (x : Lr) : (w.alloc (objL x)).cell? ⟨w.heap.size, 0, none⟩ = some (.int .i64 x.s) ∧ (w.alloc (objL x)).cell? ⟨w.heap.size, 1, none⟩ = some (.int .i64 x.p) ∧ (w.alloc (objL x)).cell? ⟨w.heap.size, 2, none⟩ = some (.int .i64 x.f) ∧ (w.alloc (objL x)).cell? ⟨w.heap.size, 3, none⟩ = some (.int .i64 x.r) := cellsL (blk_alloc_new w (objL x))

/-! ### A TLB -/
/-- How its struct holds room and row: the program's, the document's. -/
structure Kd where
  ty : TypeId
  j : Nat
  cv : Nat → Value → Array Value
structure Kd.Ok (K : Kd) : Prop where
  set : ∀ n v v', (K.cv n v).set! K.j v' = K.cv n v'
  get : ∀ n v, (K.cv n v)[K.j]? = some v
  room : ∀ n v, (K.cv n v)[1 - K.j]? = some (.int .i64 (n : Int))
def kP : Kd := ⟨54, 1, fun n v => #[.int .i64 (n : Int), v]⟩
theorem okP : kP.Ok := ⟨fun _ _ _ => rfl, fun _ _ => rfl, fun _ _ => rfl⟩
structure TbH (K : Kd) (n : Nat) (p : Nat) (v : Value) (S : St) (w : World) : Prop where
  head : w.heap[p]? = some (.cells (K.cv n v) K.ty (0, 0))
  row : RowL w v S
  ne : v.ownBlock ≠ some p
  good : Good n S
def tbT (K : Kd) (n : Nat) (p : Nat) (v : Value) (S : St) : Th where
  F := fun x => x = p ∨ v.ownBlock = some x
  H := TbH K n p v S
  lt := fun w h x hx => by
    rcases hx with rfl | hx
    · exact (Array.getElem?_eq_some_iff.1 h.head).1
    · exact h.row.lt hx
  keep := fun _ _ h k => ⟨(k p (.inl rfl)).trans h.head, h.row.keep fun x hx => k x (.inr hx), h.ne, h.good⟩
section
variable {K : Kd} {w0 w w' : World} {r p n : Nat} {v : Value} {S : St} {R : List Th}
theorem TbH.cell (ok : K.Ok) (h : TbH K n p v S w) : w.cell? ⟨p, K.j, none⟩ = some v := by
  have := h.head
  have := ok.get n v
  simp [World.cell?, *]
theorem TbH.room (ok : K.Ok) (h : TbH K n p v S w) : w.cell? ⟨p, 1 - K.j, none⟩ = some (.int .i64 (n : Int)) := by
  have := h.head
  have := ok.room n v
  simp [World.cell?, *]
theorem TbH.frozen (h : TbH K n p v S w) (j : Nat) : w.frozen? ⟨p, j, none⟩ = false := by
  have := h.head
  simp [World.frozen?, *]
theorem TbH.below (h : TbH K n p v S w) (k : Below w.heap.size w w') : TbH K n p v S w' := (tbT K n p v S).below h k
theorem Sep.good (h : Sep w0 r w (tbT K n p v S :: R)) : Good n S := TbH.good h.head
theorem Sep.cellP (h : Sep w0 r w (tbT kP n p v S :: R)) : w.cell? ⟨p, 1, none⟩ = some v := TbH.cell okP h.head
theorem Sep.roomP (h : Sep w0 r w (tbT kP n p v S :: R)) : w.cell? ⟨p, 0, none⟩ = some (.int .i64 (n : Int)) := TbH.room okP h.head
theorem Sep.frozenP (h : Sep w0 r w (tbT K n p v S :: R)) (j : Nat) : w.frozen? ⟨p, j, none⟩ = false := TbH.frozen h.head j
theorem Sep.rowP (h : Sep w0 r w (tbT K n p v S :: R)) : RowL w v S := TbH.row h.head
theorem Sep.sliceP (h : Sep w0 r w (tbT K n p v S :: R)) : ∃ ao cap, v = .slice ao S.length cap ∧ ∀ i, i < S.length → ∃ g, ao = some ⟨g, 0, none⟩ := by
  obtain ⟨ao, cap, e, _, _, hg, _⟩ := (TbH.row h.head).slice
  exact ⟨ao, cap, e, hg⟩
/-- A row that grew, or shrank, is hung into the struct. -/
theorem Sep.regrow (ok : K.Ok) {v' : Value} {T : St} (h : Sep w0 r w (tbT K n p v S :: R)) (g5 : w.grownBy w' v.ownBlock) (row : RowL w' v' T) (loc : v'.ownBlock = v.ownBlock ∨ ∀ x, v'.ownBlock = some x → w.heap.size ≤ x) (g : Good n T) : Sep w0 r (w'.setCell ⟨p, K.j, none⟩ v') (tbT K n p v' T :: R) := by
  have h2 : TbH K n p v S w := h.head
  have own' : ∀ x, v'.ownBlock = some x → v.ownBlock = some x ∨ w.heap.size ≤ x := fun x hx => loc.elim (fun l => .inl (l ▸ hx)) fun l => .inr (l x hx)
  have hp : p < w.heap.size := (Array.getElem?_eq_some_iff.1 h2.head).1
  have ne : v'.ownBlock ≠ some p := fun e => (own' p e).elim h2.ne fun h1 => by omega
  have hd : w'.heap[p]? = some (.cells (K.cv n v) K.ty (0, 0)) := (g5.block p hp fun e => h2.ne e.symm).trans h2.head
  refine h.turn (t' := tbT K n p v' T) ⟨by have := setBlock (j := K.j) hd v'; rw [ok.set] at this; exact this, row.keep fun x hx => blk_setCell_other _ _ _ _ fun e => ne (by rw [hx]; exact congrArg some e), ne, g⟩ ((Turn.grown (F := (tbT K n p v S).F) g5 fun k hk => .inl (.inr hk)).trans (Turn.setCell (tbT K n p v S).F w' ⟨p, K.j, none⟩ v' (.inl rfl)) fun x hx => .inl hx) fun x hx => ?_
  rcases hx with rfl | hx
  · exact .inl (.inl rfl)
  · exact (own' x hx).imp .inr id
/-- A row of its own is hung into the struct. -/
theorem Sep.hang (ok : K.Ok) {v' : Value} {T : St} (h : Sep w0 r w (lstL v' T :: tbT K n p v S :: R)) (g : Good n T) : Sep w0 r (w.setCell ⟨p, K.j, none⟩ v') (tbT K n p v' T :: R) := by
  obtain ⟨a1, a2⟩ := List.pairwise_cons.1 h.apart
  obtain ⟨a3, a4⟩ := List.pairwise_cons.1 a2
  have e1 : RowL w v' T := h.head
  have e2 := h.each (tbT K n p v S) (by simp)
  have h2 : TbH K n p v S w := e2.1
  have ne : v'.ownBlock ≠ some p := fun e => a1 (tbT K n p v S) (by simp) p e (.inl rfl)
  have k : Turn (fun x => x = p) w (w.setCell ⟨p, K.j, none⟩ v') := Turn.setCell _ w ⟨p, K.j, none⟩ v' rfl
  refine ⟨k.below h.low (fun x hx => by rw [hx]; exact e2.2 p (.inl rfl)) h.size, Nat.le_trans h.size k.size, fun t ht => ?_, List.pairwise_cons.2 ⟨fun b hb x hx hy => ?_, a4⟩⟩
  · rcases List.mem_cons.1 ht with rfl | ht
    · refine ⟨⟨by have := setBlock (j := K.j) h2.head v'; rw [ok.set] at this; exact this, e1.keep fun x hx => blk_setCell_other _ _ _ _ fun e => ne (by rw [hx]; exact congrArg some e), ne, g⟩, fun x hx => ?_⟩
      rcases hx with rfl | hx
      · exact e2.2 _ (.inl rfl)
      · exact (h.each (lstL v' T) (by simp)).2 x hx
    · have h1 := h.each t (by simp [ht])
      exact ⟨t.turn h1.1 k fun x hx e => a3 t ht p (.inl rfl) (by rw [← e]; exact hx), h1.2⟩
  · rcases hx with rfl | hx
    · exact a3 b hb _ (.inl rfl) hy
    · exact a1 b (by simp [hb]) x hx hy
/-- A struct is laid around a row. -/
theorem Sep.tb (K : Kd) (h : Sep w0 r w (lstL v S :: R)) (g : Good n S) : Sep w0 r (w.alloc (.cells (K.cv n v) K.ty)) (tbT K n w.heap.size v S :: R) := by
  have h1 := h.box (.cells (K.cv n v) K.ty)
  have row : RowL (w.alloc (.cells (K.cv n v) K.ty)) v S := (h1.each (lstL v S) (by simp)).1
  obtain ⟨a1, a2⟩ := List.pairwise_cons.1 h1.apart
  obtain ⟨a3, a4⟩ := List.pairwise_cons.1 a2
  refine ⟨h1.low, h1.size, fun t ht => ?_, List.pairwise_cons.2 ⟨fun b hb x hx hy => ?_, a4⟩⟩
  · rcases List.mem_cons.1 ht with rfl | ht
    · refine ⟨⟨h1.head, row, fun e => a1 (lstL v S) (by simp) _ rfl e, g⟩, fun x hx => ?_⟩
      rcases hx with rfl | hx
      · exact h.size
      · exact (h1.each (lstL v S) (by simp)).2 x hx
    · exact h1.each t (by simp [ht])
  · rcases hx with rfl | hx
    · exact a1 b (by simp [hb]) _ rfl hy
    · exact a3 b hb x hx hy
end
end Go.Proofs.Ytekjoeebomcmeaa
