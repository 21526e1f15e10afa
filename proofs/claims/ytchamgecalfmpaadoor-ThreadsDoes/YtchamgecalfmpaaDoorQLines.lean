/-
  How a queue lies in memory: an array of 256 lines, each a row of its own, and the map of where each number stands; what its lines' own methods answer and leave; no condition but that lines are short.
-/
import Derived.Test.YtchamgecalfmpaaDoorQRow
import Derived.Test.YtchamgecalfmpaaDoorWTop
namespace Go.Proofs.YtchamgecalfmpaaDoor
open Go.RowKit Go.Deep Go.Shelf

def updN {α : Type} (f : Nat → α) (p : Nat) (v : α) : Nat → α := fun i => if i = p then v else f i
theorem updN_at {α : Type} (f : Nat → α) (p : Nat) (v : α) : updN f p v p = v := if_pos rfl
theorem updN_ne {α : Type} (f : Nat → α) {p i : Nat} (v : α) (h : i ≠ p) : updN f p v i = f i := if_neg h
/-- The queue in block q, its map in block b: the slices vs, with the rows M; the map f. -/
structure QuP (q b : Nat) (vs : Nat → Value) (M : Nat → List Int) (f : Int → Option Int) (w : World) : Prop where
  head : ∃ C : Array Value, w.heap[q]? = some (.cells C 87 (0, 0)) ∧ C.size = 257 ∧ (∀ p, p < 256 → C[p]? = some (vs p)) ∧ C[256]? = some (.map (some b))
  rows : ∀ p, p < 256 → RowI w (vs p) (M p)
  map : MapIs w b f
  one : ∀ p p' x, p < 256 → p' < 256 → (vs p).ownBlock = some x → (vs p').ownBlock = some x → p = p'
  ne : ∀ p, p < 256 → (vs p).ownBlock ≠ some q ∧ (vs p).ownBlock ≠ some b
  qb : q ≠ b
def fpQ (q b : Nat) (vs : Nat → Value) : Nat → Prop := fun x => x = q ∨ x = b ∨ ∃ p, p < 256 ∧ (vs p).ownBlock = some x
section
variable {q b : Nat} {vs : Nat → Value} {M : Nat → List Int} {f : Int → Option Int} {w w' : World}
theorem QuP.lt (h : QuP q b vs M f w) : q < w.heap.size := by
  obtain ⟨C, hC, _⟩ := h.head
  exact (Array.getElem?_eq_some_iff.1 hC).1
theorem QuP.fp_lt (h : QuP q b vs M f w) : ∀ x, fpQ q b vs x → x < w.heap.size := by
  rintro x (rfl | rfl | ⟨p, hp, hx⟩)
  · exact h.lt
  · exact h.map.lt
  · exact (h.rows p hp).lt hx
theorem QuP.keep (h : QuP q b vs M f w) (k : ∀ x, fpQ q b vs x → w'.heap[x]? = w.heap[x]?) : QuP q b vs M f w' := by
  obtain ⟨C, hC, r⟩ := h.head
  exact ⟨⟨C, (k q (.inl rfl)).trans hC, r⟩, fun p hp => (h.rows p hp).keep fun x hx => k x (.inr (.inr ⟨p, hp, hx⟩)), h.map.of_block (k b (.inr (.inl rfl))), h.one, h.ne, h.qb⟩
theorem QuP.below (h : QuP q b vs M f w) (k : Below w.heap.size w w') : QuP q b vs M f w' := h.keep fun x hx => k.block x (h.fp_lt x hx)
theorem QuP.cell (h : QuP q b vs M f w) {p : Nat} (hp : p < 256) : w.cell? ⟨q, p, none⟩ = some (vs p) := by
  obtain ⟨C, hC, h0, h1, _⟩ := h.head
  simp [World.cell?, hC, h1 p hp]
theorem QuP.cellM (h : QuP q b vs M f w) : w.cell? ⟨q, 256, none⟩ = some (.map (some b)) := by
  obtain ⟨C, hC, h0, _, h1⟩ := h.head
  simp [World.cell?, hC, h1]
theorem QuP.frozen (h : QuP q b vs M f w) (j : Nat) : w.frozen? ⟨q, j, none⟩ = false := by
  obtain ⟨C, hC, _⟩ := h.head
  simp [World.frozen?, hC]
theorem QuP.congr {M' : Nat → List Int} {f' : Int → Option Int} (h : QuP q b vs M f w) (e : ∀ p, p < 256 → M' p = M p) (e' : ∀ n, f' n = f n) : QuP q b vs M' f' w :=
  ⟨h.head, fun p hp => by rw [e p hp]; exact h.rows p hp, h.map.congr e', h.one, h.ne, h.qb⟩
/-- What a call leaves: other slices, in blocks that were the queue's, or new. -/
def GoesP (w : World) (q b : Nat) (vs : Nat → Value) (M : Nat → List Int) (f : Int → Option Int) (w' : World) : Prop := ∃ vs', QuP q b vs' M f w' ∧ Turn (fpQ q b vs) w w' ∧ Out (fpQ q b vs) (fpQ q b vs') w
/-- A line is hung into the array. -/
theorem QuP.hang (h : QuP q b vs M f w) {w5 : World} {p : Nat} (hp : p < 256) {v' : Value} {L : List Int} (row : RowI w5 v' L) (g5 : w.grownBy w5 (vs p).ownBlock) (loc : v'.ownBlock = (vs p).ownBlock ∨ ∃ g, v'.ownBlock = some g ∧ w.heap.size ≤ g) :
    QuP q b (updN vs p v') (updN M p L) f (w5.setCell ⟨q, p, none⟩ v') ∧ Turn (fpQ q b vs) w (w5.setCell ⟨q, p, none⟩ v') ∧ Out (fpQ q b vs) (fpQ q b (updN vs p v')) w := by
  have hq := h.lt
  have hb := h.map.lt
  have own' : ∀ x, v'.ownBlock = some x → (vs p).ownBlock = some x ∨ w.heap.size ≤ x := fun x hx => by
    rcases loc with l | ⟨g, l, hg⟩
    · exact .inl (l ▸ hx)
    · rw [l] at hx
      cases hx
      exact .inr hg
  have hvq : v'.ownBlock ≠ some q := fun e => (own' q e).elim (h.ne p hp).1 fun h1 => by omega
  have hvb : v'.ownBlock ≠ some b := fun e => (own' b e).elim (h.ne p hp).2 fun h1 => by omega
  have blk : ∀ x, x < w.heap.size → some x ≠ (vs p).ownBlock → x ≠ q → (w5.setCell ⟨q, p, none⟩ v').heap[x]? = w.heap[x]? := fun x hx h1 h2 => (blk_setCell_other _ _ _ _ h2).trans (g5.block x hx h1)
  obtain ⟨C, hC, h0, h1, h2⟩ := h.head
  have hC5 : w5.heap[q]? = some (.cells C 87 (0, 0)) := (g5.block q hq fun e => (h.ne p hp).1 e.symm).trans hC
  refine ⟨⟨⟨C.set! p v', ?_, by simpa using h0, fun i hi => ?_, ?_⟩, fun i hi => ?_, h.map.of_block (blk b hb (fun e => (h.ne p hp).2 e.symm) fun e => h.qb e.symm), fun i j x hi hj hx hy => ?_, fun i hi => ?_, h.qb⟩, ?_, ?_⟩
  · simp only [World.setCell, Array.getElem?_modify, hC5, Option.map_some]
    simp
  · by_cases e : i = p
    · subst e
      rw [updN_at]
      simp [h0, show i < 257 by omega]
    · rw [updN_ne _ _ e]
      have e' : ¬ p = i := fun x => e x.symm
      simp [e', h1 i hi]
  · have e' : ¬ p = 256 := by omega
    simp [e', h2]
  · by_cases e : i = p
    · subst e
      rw [updN_at, updN_at]
      exact row.keep fun x hx => blk_setCell_other _ _ _ _ fun ex => hvq (by rw [hx]; exact congrArg some ex)
    · rw [updN_ne _ _ e, updN_ne _ _ e]
      refine (h.rows i hi).keep fun x hx => blk x ((h.rows i hi).lt hx) (fun ex => e (h.one i p x hi hp hx ex.symm)) fun ex => (h.ne i hi).1 (by rw [hx, ex])
  · by_cases e : i = p <;> by_cases e2 : j = p
    · rw [e, e2]
    · rw [e, updN_at] at hx
      rw [updN_ne _ _ e2] at hy
      rcases own' x hx with h3 | h3
      · exact absurd (h.one j p x hj hp hy h3) e2
      · have := (h.rows j hj).lt hy
        omega
    · rw [e2, updN_at] at hy
      rw [updN_ne _ _ e] at hx
      rcases own' x hy with h3 | h3
      · exact absurd (h.one i p x hi hp hx h3) e
      · have := (h.rows i hi).lt hx
        omega
    · rw [updN_ne _ _ e] at hx
      rw [updN_ne _ _ e2] at hy
      exact h.one i j x hi hj hx hy
  · by_cases e : i = p
    · rw [e, updN_at]
      exact ⟨hvq, hvb⟩
    · rw [updN_ne _ _ e]
      exact h.ne i hi
  · exact (Turn.grown (F := fpQ q b vs) g5 fun k hk => .inl (.inr (.inr ⟨p, hp, hk⟩))).trans (Turn.setCell (fpQ q b vs) w5 ⟨q, p, none⟩ v' (.inl rfl)) fun x hx => .inl hx
  · rintro x (rfl | rfl | ⟨i, hi, hx⟩)
    · exact .inl (.inl rfl)
    · exact .inl (.inr (.inl rfl))
    · by_cases e : i = p
      · rw [e, updN_at] at hx
        exact (own' x hx).imp (fun h3 => .inr (.inr ⟨p, hp, h3⟩)) id
      · rw [updN_ne _ _ e] at hx
        exact .inl (.inr (.inr ⟨i, hi, hx⟩))
/-- The map is turned. -/
theorem QuP.mapped (h : QuP q b vs M f w) {f' : Int → Option Int} (hm : MapIs w' b f') (g : w.grownBy w' (some b)) : QuP q b vs M f' w' ∧ Turn (fpQ q b vs) w w' := by
  obtain ⟨C, hC, r⟩ := h.head
  have blk : ∀ x, x < w.heap.size → x ≠ b → w'.heap[x]? = w.heap[x]? := fun x hx hne => g.block x hx fun e => hne (Option.some.inj e)
  exact ⟨⟨⟨C, (blk q h.lt h.qb).trans hC, r⟩, fun p hp => (h.rows p hp).keep fun x hx => blk x ((h.rows p hp).lt hx) fun e => (h.ne p hp).2 (by rw [hx, e]), hm, h.one, h.ne, h.qb⟩, Turn.grown g fun k hk => .inl (.inr (.inl (Option.some.inj hk).symm))⟩
end

/-! ### The lines' own methods -/
theorem numberedQ_yes (n : Int) (w : World) (h0 : 0 ≤ n) (h1 : n < 256) :
    Calls Tryd.prog 76 #[.int .i64 n] w fun e w' => e = .returned (.bool true) ∧ w' = w := by
  go_enter Tryd.func76, Tryd.ntmps76
  go_wp2
  go_ret
  exact ⟨rfl, rfl⟩
theorem numberedQ_no (n : Int) (w : World) (h : ¬ (0 ≤ n ∧ n < 256)) :
    Calls Tryd.prog 76 #[.int .i64 n] w fun e w' => e = .returned (.bool false) ∧ w' = w := by
  by_cases c : 0 ≤ n
  · have c2 : ¬ n < 256 := fun x => h ⟨c, x⟩
    have c3 : decide (n < 256) = false := by simpa using c2
    clear h
    go_enter Tryd.func76, Tryd.ntmps76
    go_wp2
    go_ret
    exact ⟨rfl, rfl⟩
  · have c3 : decide (0 ≤ n) = false := by simpa using c
    clear h
    go_enter Tryd.func76, Tryd.ntmps76
    go_wp2
    go_ret
    exact ⟨rfl, rfl⟩
theorem first_any (q b : Nat) (vs : Nat → Value) (M : Nat → List Int) (f : Int → Option Int) (p : Nat) (n : Int) (L : List Int) (w : World) (h : QuP q b vs M f w) (hp : p < 256) (hM : M p = n :: L) :
    Calls Tryd.prog 70 #[.pointer (some ⟨q, 0, none⟩), .int .i64 p] w fun e w' => e = .returned (.int .i64 n) ∧ w' = w := by
  have hc := h.cell hp
  have hr := h.rows p hp
  rw [hM] at hr
  obtain ⟨ao, cap, ev, _, _, hg, _⟩ := hr.slice
  obtain ⟨g, rfl⟩ := hg 0 (by simp)
  have hx := (ev ▸ hr : RowI w _ _).cell (i := 0) (x := n) rfl
  rw [ev] at hc
  simp only [List.length_cons] at hc
  clear h hr ev hM hg
  go_enter Tryd.func70, Tryd.ntmps70
  go_wp2
  go_ret
  exact ⟨rfl, rfl⟩
end Go.Proofs.YtchamgecalfmpaaDoor
