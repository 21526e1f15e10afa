/-
  How boxes lie in memory: a struct, a row of slices, and each box a row of messages of its own; what stays while one is turned; no condition of ours.
-/
import Derived.Test.YtpapjdmnhgnpfaaGRow
import Derived.Test.YtpapjdmnhgnpfaaGInts
import Derived.Test.YtpapjdmnhgnpfaaMBMath
namespace Go.Proofs.Ytpapjdmnhgnpfaa
open Go.RowKit Go.Deep Go.Shelf
/-! ### Messages -/
def cM (x : Ml) : List Value := [.int .i64 x.f, .int .i64 x.k, .int .i64 x.a]
def encM (x : Ml) : Value := .agg #[.int .i64 x.f, .int .i64 x.k, .int .i64 x.a]
def objM (x : Ml) : Obj := .cells #[.int .i64 x.f, .int .i64 x.k, .int .i64 x.a] 35
def elM : El Ml := ⟨35, 39, 3, 24, cM⟩
theorem infoM : (Try.prog.info? 35).map (fun i => (i.zero, i.size, i.bytes)) = some (some (.agg #[.int .i64 0, .int .i64 0, .int .i64 0]), 3, 24) := by kernel_rfl
theorem okM : El.Ok elM := ⟨Try.underlying39, info_of infoM rfl, by decide, by decide, fun _ => rfl, by simp [elM, cM, Value.oneCell']⟩
abbrev lstM (v : Value) (L : Bx) : Th := lst elM v L
abbrev RowM (w : World) (v : Value) (L : Bx) : Prop := Row elM w v L
def AtM (w : World) (g o : Nat) (x : Ml) : Prop := ∀ j c, (cM x)[j]? = some c → w.cell? ⟨g, o + j, none⟩ = some c
theorem AtM.cells {w : World} {g o : Nat} {x : Ml} (h : AtM w g o x) : w.cell? ⟨g, o, none⟩ = some (.int .i64 x.f) ∧ w.cell? ⟨g, o + 1, none⟩ = some (.int .i64 x.k) ∧ w.cell? ⟨g, o + 2, none⟩ = some (.int .i64 x.a) :=
  ⟨h 0 _ rfl, h 1 _ rfl, h 2 _ rfl⟩
theorem RowM.at {w : World} {g cap n : Nat} {S : Bx} (h : RowM w (.slice (some ⟨g, 0, none⟩) n cap) S) {i : Nat} {x : Ml} (hi : S[i]? = some x) : AtM w g (i * 3) x := fun _ _ hj => Row.cell okM h hi hj
theorem atM_of {w : World} {q : Nat} {x : Ml} (h : w.heap[q]? = some (objM x)) : AtM w q 0 x := fun j c hj => by
  simp only [World.cell?]
  rw [h, Nat.zero_add]
  simpa [cM, objM] using hj
theorem cellsM {w : World} {q : Nat} {x : Ml} (h : w.heap[q]? = some (objM x)) : w.cell? ⟨q, 0, none⟩ = some (.int .i64 x.f) ∧ w.cell? ⟨q, 1, none⟩ = some (.int .i64 x.k) ∧ w.cell? ⟨q, 2, none⟩ = some (.int .i64 x.a) := (atM_of h).cells
/-! ### Slices of messages, as elements -/
structure Sv where
  ao : Option Addr
  ln : Nat
  cp : Nat
abbrev vl (x : Sv) : Value := .slice x.ao x.ln x.cp
def cV (x : Sv) : List Value := [vl x]
def elV : El Sv := ⟨39, 49, 1, 24, cV⟩
theorem infoV : (Try.prog.info? 39).map (fun i => (i.zero, i.size, i.bytes)) = some (some (.slice none 0 0), 1, 24) := by kernel_rfl
theorem okV : El.Ok elV := ⟨Try.underlying49, info_of infoV rfl, by decide, by decide, fun _ => rfl, by simp [elV, cV, Value.oneCell']⟩
abbrev lstV (v : Value) (L : List Sv) : Th := lst elV v L
/-! ### Boxes -/
abbrev ovS (g n : Nat) : Value := .slice (some ⟨g, 0, none⟩) n n
abbrev objB (g n : Nat) : Obj := .cells #[ovS g n] 51 (0, 0)
def bxs (V : List Sv) (L : St) : List Th := List.zipWith (fun x b => lstM (vl x) b) V L
def bxL (n p g : Nat) (V : List Sv) (L : St) : List Th := blk p (objB g n) :: lstV (ovS g n) V :: bxs V L
abbrev Apart (a b : Th) : Prop := ∀ x, a.F x → ¬ b.F x
def bxT (n p g : Nat) (V : List Sv) (L : St) : Th where
  F := fun x => ∃ t ∈ bxL n p g V L, t.F x
  H := fun w => (∀ t ∈ bxL n p g V L, t.H w) ∧ (bxL n p g V L).Pairwise Apart ∧ V.length = n ∧ Good n L
  lt := fun w h x ⟨t, ht, hx⟩ => t.lt w (h.1 t ht) x hx
  keep := fun w w' h k => ⟨fun t ht => t.keep w w' (h.1 t ht) fun x hx => k x ⟨t, ht, hx⟩, h.2⟩
section
variable {w0 w w' : World} {r p g n : Nat} {V : List Sv} {L : St} {R : List Th}
theorem Sep.opn (h : Sep w0 r w (bxT n p g V L :: R)) : Sep w0 r w (bxL n p g V L ++ R) := by
  obtain ⟨a1, a2⟩ := List.pairwise_cons.1 h.apart
  have h1 := h.each (bxT n p g V L) (by simp)
  refine ⟨h.low, h.size, fun t ht => ?_, List.pairwise_append.2 ⟨h1.1.2.1, a2, fun a ha b hb x hx => a1 b hb x ⟨a, ha, hx⟩⟩⟩
  rcases List.mem_append.1 ht with ht | ht
  · exact ⟨h1.1.1 t ht, fun x hx => h1.2 x ⟨t, ht, hx⟩⟩
  · exact h.each t (by simp [ht])
theorem Sep.shut (h : Sep w0 r w (bxL n p g V L ++ R)) (hv : V.length = n) (hg : Good n L) : Sep w0 r w (bxT n p g V L :: R) := by
  obtain ⟨a1, a2, a3⟩ := List.pairwise_append.1 h.apart
  refine ⟨h.low, h.size, fun t ht => ?_, List.pairwise_cons.2 ⟨fun b hb x ⟨t, ht, hx⟩ => a3 t ht b hb x hx, a2⟩⟩
  rcases List.mem_cons.1 ht with rfl | ht
  · exact ⟨⟨fun t ht => (h.each t (List.mem_append_left _ ht)).1, a1, hv, hg⟩, fun x ⟨t, ht, hx⟩ => (h.each t (List.mem_append_left _ ht)).2 x hx⟩
  · exact h.each t (List.mem_append_right _ ht)
theorem Sep.goodB (h : Sep w0 r w (bxT n p g V L :: R)) : Good n L := h.head.2.2.2
theorem Sep.lenB (h : Sep w0 r w (bxT n p g V L :: R)) : V.length = n := h.head.2.2.1
theorem Sep.cellB (h : Sep w0 r w (bxT n p g V L :: R)) : w.cell? ⟨p, 0, none⟩ = some (ovS g n) := by
  have : w.heap[p]? = some (objB g n) := h.head.1 (blk p (objB g n)) (by simp [bxL])
  simp [World.cell?, this]
theorem Sep.rowB (h : Sep w0 r w (bxT n p g V L :: R)) : Row elV w (ovS g n) V := h.head.1 (lstV (ovS g n) V) (by simp [bxL])
theorem Sep.frozenB (h : Sep w0 r w (bxT n p g V L :: R)) (j : Nat) : w.frozen? ⟨g, j, none⟩ = false := Row.frozen h.rowB j
theorem bxs_at {i : Nat} {x : Sv} {b : Bx} (hx : V[i]? = some x) (hb : L[i]? = some b) : (bxs V L)[i]? = some (lstM (vl x) b) := by
  unfold bxs
  rw [List.getElem?_zipWith, hx, hb]
/-- A core's box: where its slice lies, and its row. -/
theorem Sep.boxAt (h : Sep w0 r w (bxT n p g V L :: R)) {i : Nat} (hi : i < n) : ∃ ao cap, V[i]? = some ⟨ao, (boxN L i).length, cap⟩ ∧ w.cell? ⟨g, i, none⟩ = some (.slice ao (boxN L i).length cap) ∧ RowM w (.slice ao (boxN L i).length cap) (boxN L i) := by
  have hV : i < V.length := by rw [h.lenB]; exact hi
  have hL := h.goodB.at hi
  have hx := List.getElem?_eq_getElem hV
  generalize V[i] = x at hx
  have row : RowM w (vl x) (boxN L i) := h.head.1 (lstM (vl x) (boxN L i)) (by
    have := List.mem_of_getElem? (bxs_at hx hL)
    simp [bxL, this])
  obtain ⟨ao, cap, e, _⟩ := row.slice
  obtain ⟨ao', ln, cp⟩ := x
  simp only [Value.slice.injEq] at e
  obtain ⟨rfl, rfl, rfl⟩ := e
  refine ⟨ao', cp, hx, ?_, row⟩
  have := Row.cell okV h.rowB hx (j := 0) (c := .slice ao' (boxN L i).length cp) rfl
  simpa [elV] using this
theorem bxs_perm {i : Nat} {t : Th} {Q : List Th} (h : Q[i]? = some t) : Q.Perm (t :: Q.eraseIdx i) := by
  obtain ⟨hi, e⟩ := List.getElem?_eq_some_iff.1 h
  have h1 : Q = Q.take i ++ t :: Q.drop (i + 1) := by
    rw [← e, ← List.drop_eq_getElem_cons hi, List.take_append_drop]
  rw [List.eraseIdx_eq_take_drop_succ]
  conv => lhs; rw [h1]
  exact List.perm_middle
theorem bxs_set (i : Nat) (x : Sv) (b : Bx) : ∀ (V : List Sv) (L : St), V.length = L.length → bxs (V.set i x) (L.set i b) = (bxs V L).set i (lstM (vl x) b) := by
  intro V L hl
  apply List.ext_getElem?
  intro j
  unfold bxs
  rw [List.getElem?_zipWith, List.getElem?_set, List.getElem?_set, List.getElem?_set, List.getElem?_zipWith]
  by_cases e : i = j
  · subst e
    by_cases h : i < V.length
    · have h2 : i < L.length := by omega
      simp [h, h2, Nat.lt_min]
    · have h2 : ¬ i < L.length := by omega
      simp [h, h2]
      omega
  · simp [e]
/-- A box is turned, and its slice written down. -/
theorem Sep.turnBox {i : Nat} {x x' : Sv} {b' : Bx} (h : Sep w0 r w (bxT n p g V L :: R)) (hi : i < n) (hx : V[i]? = some x) (row : RowM w' (vl x') b') (g5 : w.grownBy w' (vl x).ownBlock) (loc : (vl x').ownBlock = (vl x).ownBlock ∨ ∀ k, (vl x').ownBlock = some k → w.heap.size ≤ k) (gd : Good n (L.set i b')) :
    Sep w0 r (w'.setCell ⟨g, i, none⟩ (vl x')) (bxT n p g (V.set i x') (L.set i b') :: R) := by
  have hL := h.goodB.at hi
  have hlen : V.length = L.length := by rw [h.lenB, h.goodB.len]
  have hq := bxs_at hx hL
  have s1 := h.opn
  have P1 : (bxL n p g V L ++ R).Perm (lstM (vl x) (boxN L i) :: lstV (ovS g n) V :: blk p (objB g n) :: ((bxs V L).eraseIdx i ++ R)) := by
    have := (bxs_perm hq).append_right R
    refine (List.Perm.cons _ (List.Perm.cons _ this)).trans ?_
    refine (List.Perm.cons _ (List.Perm.swap _ _ _)).trans ?_
    refine (List.Perm.swap _ _ _).trans ?_
    exact List.Perm.cons _ (List.Perm.swap _ _ _)
  have s2 := s1.perm P1
  have s3 : Sep w0 r w' (lstM (vl x') b' :: lstV (ovS g n) V :: blk p (objB g n) :: ((bxs V L).eraseIdx i ++ R)) := s2.turn (t' := lstM (vl x') b') row (Turn.grown g5 fun k hk => .inl hk) fun k hk => loc.elim (fun l => .inl (l.symm.trans hk)) fun l => .inr (l k hk)
  have s4 := s3.swap
  have rv : Row elV w' (ovS g n) V := s4.head
  have r2 := Row.set okV rv hx (j := 0) (y := x') (c := vl x') (by decide) rfl
  have e1 : i * elV.k + 0 = i := by simp [elV]
  rw [e1] at r2
  have s5 : Sep w0 r (w'.setCell ⟨g, i, none⟩ (vl x')) (lstV (ovS g n) (V.set i x') :: lstM (vl x') b' :: blk p (objB g n) :: ((bxs V L).eraseIdx i ++ R)) := s4.turn (t' := lstV (ovS g n) (V.set i x')) r2 (Turn.setCell _ _ _ _ rfl) fun _ hk => .inl hk
  have hi2 : i < (bxs V L).length := (List.getElem?_eq_some_iff.1 hq).1
  have hq2 : (bxs (V.set i x') (L.set i b'))[i]? = some (lstM (vl x') b') := by rw [bxs_set i x' b' V L hlen, List.getElem?_set_self hi2]
  have e2 : (bxs (V.set i x') (L.set i b')).eraseIdx i = (bxs V L).eraseIdx i := by rw [bxs_set i x' b' V L hlen, List.eraseIdx_set_eq]
  have P2 : (bxL n p g (V.set i x') (L.set i b') ++ R).Perm (lstV (ovS g n) (V.set i x') :: lstM (vl x') b' :: blk p (objB g n) :: ((bxs V L).eraseIdx i ++ R)) := by
    have := (bxs_perm hq2).append_right R
    rw [e2] at this
    refine (List.Perm.cons _ (List.Perm.cons _ this)).trans ?_
    refine (List.Perm.swap _ _ _).trans ?_
    exact List.Perm.cons _ (List.Perm.swap _ _ _)
  exact (s5.perm P2.symm).shut (by rw [List.length_set]; exact h.lenB) gd
end
end Go.Proofs.Ytpapjdmnhgnpfaa
