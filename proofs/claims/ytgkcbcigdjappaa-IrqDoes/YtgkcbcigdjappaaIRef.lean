/-
  How the document's own lines lie in memory: a struct of a row of records; what its New, is and Open answer, and leave; no condition.
-/
import Derived.Test.YtgkcbcigdjappaaICall
namespace Go.Proofs.Ytgkcbcigdjappaa
open Go.RowKit Go.Deep Go.Shelf

/-- A line as the document has it: is it bound, to what, is it open, was it raised meanwhile? -/
structure Rl where
  b : Bool
  a : Int
  g : Int
  o : Bool
  m : Bool
def isB (x : Ln) : Bool := match x.s with
  | none => false
  | _ => true
def rl (x : Ln) : Rl := ⟨isB x, x.a, x.g, isO x, isM x⟩
def cR (y : Rl) : List Value := [.bool y.b, .int .i64 y.a, .int .u64 y.g, .bool y.o, .bool y.m]
def elR : El Rl := ⟨58, 38, 5, 32, cR⟩
theorem infoR : (Try.prog.info? 58).map (fun i => (i.zero, i.size, i.bytes)) = some (some (.agg #[.bool false, .int .i64 0, .int .u64 0, .bool false, .bool false]), 5, 32) := by kernel_rfl
theorem okR : El.Ok elR := ⟨Try.underlying38, info_of infoR rfl, by decide, by decide, fun _ => rfl, by simp [elR, cR, Value.oneCell']⟩
abbrev rfT (p : Nat) (v : Value) (S : List Ln) : Th := hoT elR 40 p v (S.map rl)
def objX (x : Ln) : Obj := .cells #[.bool (rl x).b, .int .i64 (rl x).a, .int .u64 (rl x).g, .bool (rl x).o, .bool (rl x).m] 58
theorem make_R (n : Nat) (hn : n ≤ 1000) (W : World) : (Instr.makeSlice 38 (.int .i64 (n : Int)) (.int .i64 (n : Int))).run Try.prog W = .ok (.slice (some ⟨W.heap.size, 0, none⟩) n n) (W.alloc (.cells (madeCells #[.bool false, .int .i64 0, .int .u64 0, .bool false, .bool false] (n * 5)) 58)) := by
  obtain ⟨i, hi, e⟩ := Option.map_eq_some_iff.1 infoR
  simp only [Prod.mk.injEq] at e
  exact run_make_el okR ⟨i, hi, e.1, e.2.1, e.2.2⟩ n hn W
section
variable {w0 w : World} {r p : Nat} {v : Value} {S : List Ln} {R : List Th}
theorem Sep.sliceR (h : Sep w0 r w (rfT p v S :: R)) : ∃ ao cap, v = .slice ao S.length cap ∧ ∀ i, i < S.length → ∃ g, ao = some ⟨g, 0, none⟩ := by
  obtain ⟨ao, cap, e, hg⟩ := h.sliceH
  rw [List.length_map] at e hg
  exact ⟨ao, cap, e, hg⟩
theorem Sep.lineR {g n cap k : Nat} {x : Ln} (h : Sep w0 r w (rfT p (.slice (some ⟨g, 0, none⟩) n cap) S :: R)) (hx : S[k]? = some x) :
    w.cell? ⟨g, k * 5, none⟩ = some (.bool (rl x).b) ∧ w.cell? ⟨g, k * 5 + 1, none⟩ = some (.int .i64 (rl x).a) ∧ w.cell? ⟨g, k * 5 + 2, none⟩ = some (.int .u64 (rl x).g) ∧ w.cell? ⟨g, k * 5 + 3, none⟩ = some (.bool (rl x).o) ∧ w.cell? ⟨g, k * 5 + 4, none⟩ = some (.bool (rl x).m) :=
  have row := HoH.row h.head
  have hx' : (S.map rl)[k]? = some (rl x) := by rw [List.getElem?_map, hx]; rfl
  ⟨Row.cell okR row hx' (j := 0) rfl, Row.cell okR row hx' (j := 1) rfl, Row.cell okR row hx' (j := 2) rfl, Row.cell okR row hx' (j := 3) rfl, Row.cell okR row hx' (j := 4) rfl⟩
theorem Sep.frozenR {g n cap : Nat} (h : Sep w0 r w (rfT p (.slice (some ⟨g, 0, none⟩) n cap) S :: R)) (j : Nat) : w.frozen? ⟨g, j, none⟩ = false := Row.frozen (HoH.row h.head) j
/-- A cell of a line is written. -/
theorem Sep.setR {g n cap k j : Nat} {x y : Ln} {c : Value} (h : Sep w0 r w (rfT p (.slice (some ⟨g, 0, none⟩) n cap) S :: R)) (hx : S[k]? = some x) (hj : j < 5) (e : cR (rl y) = (cR (rl x)).set j c) :
    Sep w0 r (w.setCell ⟨g, k * 5 + j, none⟩ c) (rfT p (.slice (some ⟨g, 0, none⟩) n cap) (S.set k y) :: R) := by
  have hx' : (S.map rl)[k]? = some (rl x) := by rw [List.getElem?_map, hx]; rfl
  have := h.setH okR hx' (j := j) (y := rl y) (c := c) hj e
  rw [← List.map_set] at this
  exact this
/-- A line is written anew. -/
theorem Sep.setRl {g n cap k : Nat} {x : Ln} (h : Sep w0 r w (rfT p (.slice (some ⟨g, 0, none⟩) n cap) S :: R)) (hx : S[k]? = some x) (y : Ln) :
    Sep w0 r (((((w.setCell ⟨g, k * 5, none⟩ (.bool (rl y).b)).setCell ⟨g, k * 5 + 1, none⟩ (.int .i64 (rl y).a)).setCell ⟨g, k * 5 + 2, none⟩ (.int .u64 (rl y).g)).setCell ⟨g, k * 5 + 3, none⟩ (.bool (rl y).o)).setCell ⟨g, k * 5 + 4, none⟩ (.bool (rl y).m)) (rfT p (.slice (some ⟨g, 0, none⟩) n cap) (S.set k y) :: R) := by
  have hk := (List.getElem?_eq_some_iff.1 hx).1
  have hk' : k < (S.map rl).length := by simpa using hk
  have hx' : (S.map rl)[k]? = some (rl x) := by rw [List.getElem?_map, hx]; rfl
  generalize rl x = X at hx'
  have h1 := h.setH okR hx' (j := 0) (y := ⟨(rl y).b, X.a, X.g, X.o, X.m⟩) (c := .bool (rl y).b) (by decide) rfl
  have h2 := h1.setH okR (i := k) (x := ⟨(rl y).b, X.a, X.g, X.o, X.m⟩) (j := 1) (y := ⟨(rl y).b, (rl y).a, X.g, X.o, X.m⟩) (c := .int .i64 (rl y).a) (by simp [hk]) (by decide) rfl
  rw [set_set] at h2
  have h3 := h2.setH okR (i := k) (x := ⟨(rl y).b, (rl y).a, X.g, X.o, X.m⟩) (j := 2) (y := ⟨(rl y).b, (rl y).a, (rl y).g, X.o, X.m⟩) (c := .int .u64 (rl y).g) (by simp [hk]) (by decide) rfl
  rw [set_set] at h3
  have h4 := h3.setH okR (i := k) (x := ⟨(rl y).b, (rl y).a, (rl y).g, X.o, X.m⟩) (j := 3) (y := ⟨(rl y).b, (rl y).a, (rl y).g, (rl y).o, X.m⟩) (c := .bool (rl y).o) (by simp [hk]) (by decide) rfl
  rw [set_set] at h4
  have h5 := h4.setH okR (i := k) (x := ⟨(rl y).b, (rl y).a, (rl y).g, (rl y).o, X.m⟩) (j := 4) (y := rl y) (c := .bool (rl y).m) (by simp [hk]) (by decide) rfl
  rw [set_set, ← List.map_set] at h5
  exact h5
theorem rnew_sep (s : Sep w0 r w R) (n : Nat) (h1 : 1 ≤ n) (h64 : n ≤ 64) : Calls Try.prog 10 #[.int .i64 (n : Int)] w fun e w' => ∃ p v, e = .returned (.tuple #[ptr p, .int .i64 0]) ∧ Sep w0 r w' (rfT p v (List.replicate n ln0) :: R) := by
  have hmk := make_R n (by omega)
  have s1 := Sep.ho 40 (Sep.madeN (E := elR) okR (zs := #[.bool false, .int .i64 0, .int .u64 0, .bool false, .bool false]) (z := rl ln0) rfl s n (by omega))
  have h9 : ∀ o, (w.alloc o).heap.size = w.heap.size + 1 := fun o => by simp
  rw [h9, ← List.map_replicate] at s1
  have S1 := hid s1
  clear s s1 h9
  have hn0 : ¬ (n : Int) < 1 := by omega
  have hn1 : ¬ 64 < (n : Int) := by omega
  go_enter Try.func10, Try.ntmps10
  go_wp2
  go_ret2
  exact ⟨_, rfl, _, S1.out⟩
theorem is_none (s : Sep w0 r w (rfT p v S :: R)) {n : Int} (h : atI S n = none) : Calls Try.prog 24 #[ptr p, .int .i64 n] w fun e w' => e = .returned (.bool false) ∧ w' = w := by
  have c0 := s.cellH
  obtain ⟨ao, cap, rfl, -⟩ := s.sliceR
  have hn := atI_none h
  clear s h
  generalize S.length = m at *
  rcases hn with h | ⟨h0, h⟩
  · have h1 : ¬ 0 ≤ n := by omega
    go_enter Try.func24, Try.ntmps24
    go_wp2
    go_ret
    exact ⟨rfl, rfl⟩
  · have h1 : ¬ n < (m : Int) := by omega
    go_enter Try.func24, Try.ntmps24
    go_wp2
    go_ret
    exact ⟨rfl, rfl⟩
theorem is_some {k : Nat} {x : Ln} (s : Sep w0 r w (rfT p v S :: R)) (h : S[k]? = some x) : Calls Try.prog 24 #[ptr p, .int .i64 (k : Int)] w fun e w' => e = .returned (.bool true) ∧ w' = w := by
  have c0 := s.cellH
  obtain ⟨ao, cap, rfl, -⟩ := s.sliceR
  have hk := (List.getElem?_eq_some_iff.1 h).1
  clear s h
  generalize S.length = m at *
  have h0 : (0 : Int) ≤ (k : Int) := by omega
  have h2 : (k : Int) < (m : Int) := by omega
  go_enter Try.func24, Try.ntmps24
  go_wp2
  go_ret
  exact ⟨rfl, rfl⟩
end
end Go.Proofs.Ytgkcbcigdjappaa
