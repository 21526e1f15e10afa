/-
  How lines lie in memory: a struct of a row of lines; what stays while a line is turned; the row that make lays; no condition of ours.
-/
import Derived.Test.YtgkcbcigdjappaaGRow
import Derived.Test.YtgkcbcigdjappaaIMath
namespace Go.Proofs.Ytgkcbcigdjappaa
open Go.RowKit Go.Deep Go.Shelf

/-! ### A struct of one row -/
structure HoH {α : Type} (E : El α) (ty : TypeId) (p : Nat) (v : Value) (L : List α) (w : World) : Prop where
  head : w.heap[p]? = some (.cells #[v] ty (0, 0))
  row : Row E w v L
  ne : v.ownBlock ≠ some p
def hoT {α : Type} (E : El α) (ty : TypeId) (p : Nat) (v : Value) (L : List α) : Th where
  F := fun x => x = p ∨ v.ownBlock = some x
  H := HoH E ty p v L
  lt := fun w h x hx => by
    rcases hx with rfl | hx
    · exact (Array.getElem?_eq_some_iff.1 h.head).1
    · exact h.row.lt hx
  keep := fun _ _ h k => ⟨(k p (.inl rfl)).trans h.head, h.row.keep fun x hx => k x (.inr hx), h.ne⟩
section
variable {α : Type} {E : El α} {ty : TypeId} {w0 w w' : World} {r p : Nat} {v : Value} {L : List α} {R : List Th}
theorem HoH.cell (h : HoH E ty p v L w) : w.cell? ⟨p, 0, none⟩ = some v := by
  have := h.head
  simp [World.cell?, this]
theorem HoH.below (h : HoH E ty p v L w) (k : Below w.heap.size w w') : HoH E ty p v L w' := (hoT E ty p v L).below h k
theorem Sep.cellH (h : Sep w0 r w (hoT E ty p v L :: R)) : w.cell? ⟨p, 0, none⟩ = some v := HoH.cell h.head
theorem Sep.sliceH (h : Sep w0 r w (hoT E ty p v L :: R)) : ∃ ao cap, v = .slice ao L.length cap ∧ ∀ i, i < L.length → ∃ g, ao = some ⟨g, 0, none⟩ := by
  obtain ⟨ao, cap, e, _, _, hg, _⟩ := (HoH.row h.head).slice
  exact ⟨ao, cap, e, hg⟩
/-- A cell of an element is written. -/
theorem Sep.setH (ok : El.Ok E) {g n cap i j : Nat} {x y : α} {c : Value} (h : Sep w0 r w (hoT E ty p (.slice (some ⟨g, 0, none⟩) n cap) L :: R)) (hi : L[i]? = some x) (hj : j < E.k) (e : E.enc y = (E.enc x).set j c) :
    Sep w0 r (w.setCell ⟨g, i * E.k + j, none⟩ c) (hoT E ty p (.slice (some ⟨g, 0, none⟩) n cap) (L.set i y) :: R) := by
  have h2 : HoH E ty p (.slice (some ⟨g, 0, none⟩) n cap) L w := h.head
  have ne : p ≠ g := fun e => h2.ne (by rw [e]; rfl)
  refine h.turn (t' := hoT E ty p (.slice (some ⟨g, 0, none⟩) n cap) (L.set i y)) ⟨(blk_setCell_other _ _ _ _ ne).trans h2.head, Row.set ok h2.row hi hj e, h2.ne⟩ (Turn.setCell _ _ _ _ (.inr rfl)) fun x hx => .inl hx
theorem set_set {i : Nat} {x y : α} : (L.set i x).set i y = L.set i y := by simp
/-- A struct is laid around a row. -/
theorem Sep.ho (ty : TypeId) (h : Sep w0 r w (lst E v L :: R)) : Sep w0 r (w.alloc (.cells #[v] ty)) (hoT E ty w.heap.size v L :: R) := by
  have h1 := h.box (.cells #[v] ty)
  have row : Row E (w.alloc (.cells #[v] ty)) v L := (h1.each (lst E v L) (by simp)).1
  obtain ⟨a1, a2⟩ := List.pairwise_cons.1 h1.apart
  obtain ⟨a3, a4⟩ := List.pairwise_cons.1 a2
  refine ⟨h1.low, h1.size, fun t ht => ?_, List.pairwise_cons.2 ⟨fun b hb x hx hy => ?_, a4⟩⟩
  · rcases List.mem_cons.1 ht with rfl | ht
    · refine ⟨⟨h1.head, row, fun e => a1 (lst E v L) (by simp) _ rfl e⟩, fun x hx => ?_⟩
      rcases hx with rfl | hx
      · exact h.size
      · exact (h1.each (lst E v L) (by simp)).2 x hx
    · exact h1.each t (by simp [ht])
  · rcases hx with rfl | hx
    · exact a1 b (by simp [hb]) _ rfl hy
    · exact a3 b hb x hx hy
/-! ### What make lays -/
theorem run_make_el (ok : El.Ok E) {zs : Array Value} (hz : ∃ i, Try.prog.info? E.e = some i ∧ i.zero = some (.agg zs) ∧ i.size = E.k ∧ i.bytes = E.by') (n : Nat) (hn : n ≤ 1000) (W : World) :
    (Instr.makeSlice E.sl (.int .i64 (n : Int)) (.int .i64 (n : Int))).run Try.prog W = .ok (.slice (some ⟨W.heap.size, 0, none⟩) n n) (W.alloc (.cells (madeCells zs (n * E.k)) E.e)) := by
  obtain ⟨i, hi, h1, h2, h3⟩ := hz
  have hs := ok.small
  have hb : E.by' * n ≤ 1000 * 1000 := Nat.mul_le_mul hs hn
  have hb' : (E.by' : Int) * (n : Int) ≤ 281474976710656 := by
    have h : ((E.by' * n : Nat) : Int) ≤ 1000000 := by omega
    rw [Int.natCast_mul] at h
    omega
  have h := run_make (P := Try.prog) W E.sl E.e i _ ok.hu hi h1 .i64 .i64 (n : Int) (n : Int) (by omega) (Int.le_refl _) (by rw [h3]; exact hb') (by omega)
  rw [h2] at h
  simpa [Value.cells] using h
theorem made_flat (ok : El.Ok E) {zs : Array Value} {z : α} (hz : zs.toList = E.enc z) (n : Nat) : (madeCells zs (n * E.k)).toList = flatK E.enc (List.replicate n z) := by
  have hs : zs.size = E.k := by rw [← Array.length_toList, hz, ok.len]
  have hl : (flatK E.enc (List.replicate n z)).length = n * E.k := by rw [flatK_len ok.len, List.length_replicate]
  have hp := ok.pos
  apply List.ext_getElem?
  intro m
  by_cases hm : m < n * E.k
  · have hq : m / E.k < n := (Nat.div_lt_iff_lt_mul hp).2 hm
    have hr : m % E.k < E.k := Nat.mod_lt _ hp
    have e : m = m / E.k * E.k + m % E.k := by have := Nat.div_add_mod m E.k; rw [Nat.mul_comm] at this; omega
    have key := flatK_get ok.len (S := List.replicate n z) (i := m / E.k) (x := z) (by simp [hq]) hr
    rw [← e] at key
    rw [key, ← hz]
    have hr' : m % zs.size < zs.size := by rw [hs]; exact hr
    simp [madeCells, hm, hs, hr]
  · rw [List.getElem?_eq_none (by simpa [size_madeCells] using hm), List.getElem?_eq_none (by omega)]
theorem Sep.madeN (ok : El.Ok E) {zs : Array Value} {z : α} (hz : zs.toList = E.enc z) (h : Sep w0 r w R) (n : Nat) (hn : n ≤ 1000) : Sep w0 r (w.alloc (.cells (madeCells zs (n * E.k)) E.e)) (lst E (.slice (some ⟨w.heap.size, 0, none⟩) n n) (List.replicate n z) :: R) := by
  have := Sep.lit ok h (List.replicate n z) (by simpa using hn) _ (made_flat ok hz n)
  simpa using this
end

/-! ### The program's lines -/
def cP (x : Ln) : List Value := [.int .i64 (num x.s), .int .i64 x.a, .int .u64 x.g]
def elP : El Ln := ⟨56, 50, 3, 24, cP⟩
theorem infoP : (Try.prog.info? 56).map (fun i => (i.zero, i.size, i.bytes)) = some (some (.agg #[.int .i64 0, .int .i64 0, .int .u64 0]), 3, 24) := by kernel_rfl
theorem okP : El.Ok elP := ⟨Try.underlying50, info_of infoP rfl, by decide, by decide, fun _ => rfl, by simp [elP, cP, Value.oneCell']⟩
abbrev lnT (p : Nat) (v : Value) (S : List Ln) : Th := hoT elP 52 p v S
theorem make_P (n : Nat) (hn : n ≤ 1000) (W : World) : (Instr.makeSlice 50 (.int .i64 (n : Int)) (.int .i64 (n : Int))).run Try.prog W = .ok (.slice (some ⟨W.heap.size, 0, none⟩) n n) (W.alloc (.cells (madeCells #[.int .i64 0, .int .i64 0, .int .u64 0] (n * 3)) 56)) := by
  obtain ⟨i, hi, e⟩ := Option.map_eq_some_iff.1 infoP
  simp only [Prod.mk.injEq] at e
  exact run_make_el okP ⟨i, hi, e.1, e.2.1, e.2.2⟩ n hn W
section
variable {w0 w : World} {r p : Nat} {v : Value} {S : List Ln} {R : List Th}
theorem Sep.lineAt {g n cap k : Nat} {x : Ln} (h : Sep w0 r w (lnT p (.slice (some ⟨g, 0, none⟩) n cap) S :: R)) (hx : S[k]? = some x) :
    w.cell? ⟨g, k * 3, none⟩ = some (.int .i64 (num x.s)) ∧ w.cell? ⟨g, k * 3 + 1, none⟩ = some (.int .i64 x.a) ∧ w.cell? ⟨g, k * 3 + 2, none⟩ = some (.int .u64 x.g) :=
  have row := HoH.row h.head
  ⟨Row.cell okP row hx (j := 0) rfl, Row.cell okP row hx (j := 1) rfl, Row.cell okP row hx (j := 2) rfl⟩
theorem Sep.frozenL {g n cap : Nat} (h : Sep w0 r w (lnT p (.slice (some ⟨g, 0, none⟩) n cap) S :: R)) (j : Nat) : w.frozen? ⟨g, j, none⟩ = false := Row.frozen (HoH.row h.head) j
/-- What a line is is written. -/
theorem Sep.setIs {g n cap k : Nat} {x : Ln} (h : Sep w0 r w (lnT p (.slice (some ⟨g, 0, none⟩) n cap) S :: R)) (hx : S[k]? = some x) (s : Is) :
    Sep w0 r (w.setCell ⟨g, k * 3, none⟩ (.int .i64 (num s))) (lnT p (.slice (some ⟨g, 0, none⟩) n cap) (S.set k ⟨s, x.a, x.g⟩) :: R) :=
  h.setH okP hx (j := 0) (y := ⟨s, x.a, x.g⟩) (by decide) rfl
/-- A line is written anew. -/
theorem Sep.setLn {g n cap k : Nat} {x : Ln} (h : Sep w0 r w (lnT p (.slice (some ⟨g, 0, none⟩) n cap) S :: R)) (hx : S[k]? = some x) (y : Ln) :
    Sep w0 r (((w.setCell ⟨g, k * 3, none⟩ (.int .i64 (num y.s))).setCell ⟨g, k * 3 + 1, none⟩ (.int .i64 y.a)).setCell ⟨g, k * 3 + 2, none⟩ (.int .u64 y.g)) (lnT p (.slice (some ⟨g, 0, none⟩) n cap) (S.set k y) :: R) := by
  have hk := (List.getElem?_eq_some_iff.1 hx).1
  have h1 := h.setIs hx y.s
  have h2 := h1.setH okP (i := k) (x := ⟨y.s, x.a, x.g⟩) (j := 1) (y := ⟨y.s, y.a, x.g⟩) (c := .int .i64 y.a) (by simp [hk]) (by decide) rfl
  rw [set_set] at h2
  have h3 := h2.setH okP (i := k) (x := ⟨y.s, y.a, x.g⟩) (j := 2) (y := y) (c := .int .u64 y.g) (by simp [hk]) (by decide) rfl
  rw [set_set] at h3
  exact h3
end
end Go.Proofs.Ytgkcbcigdjappaa
