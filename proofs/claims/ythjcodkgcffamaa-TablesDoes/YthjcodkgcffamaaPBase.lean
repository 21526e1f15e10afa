/-
  How a space lies in memory: an array of 64 maps and one of 64 numbers; what stays while one is written; no condition of ours.
-/
import Derived.Test.YthjcodkgcffamaaPSort
namespace Go.Proofs.Ythjcodkgcffamaa
open Go.RowKit Go.Deep Go.Shelf

def updN {α : Type} (f : Nat → α) (p : Nat) (v : α) : Nat → α := fun i => if i = p then v else f i
theorem updN_at {α : Type} (f : Nat → α) (p : Nat) (v : α) : updN f p v p = v := if_pos rfl
theorem updN_ne {α : Type} (f : Nat → α) {p i : Nat} (v : α) (h : i ≠ p) : updN f p v i = f i := if_neg h
/-- The space in block p, the maps m at its places. -/
structure SpP (p : Nat) (m : Nat → Option Nat) (S : Sp) (w : World) : Prop where
  head : ∃ C : Array Value, w.heap[p]? = some (.cells C 63 (0, 0)) ∧ C.size = 128 ∧ ∀ i : Nat, i < 64 → C[i]? = some (.map (m i)) ∧ C[64 + i]? = some (.int .i64 (hasN S i))
  is : ∀ i : Nat, i < 64 → (m i).isSome = hasB S i
  maps : ∀ i : Nat, i < 64 → MapAt w (m i) (atPl S.f i)
  one : ∀ i j x, i < 64 → j < 64 → m i = some x → m j = some x → i = j
  ne : ∀ i, i < 64 → m i ≠ some p
  good : Good S
def fpS (p : Nat) (m : Nat → Option Nat) : Nat → Prop := fun x => x = p ∨ ∃ i, i < 64 ∧ m i = some x
theorem MapAt.lt {w : World} {b : Nat} {f : Int → Option Pg} (h : MapAt w (some b) f) : b < w.heap.size := by
  rcases h with ⟨e, _⟩ | ⟨b', e, h⟩
  · cases e
  · cases e
    exact h.lt
theorem MapAt.is {w : World} {b : Nat} {f : Int → Option Pg} (h : MapAt w (some b) f) : MapIs w b f := by
  rcases h with ⟨e, _⟩ | ⟨b', e, h⟩
  · cases e
  · cases e
    exact h
theorem MapAt.keep {w w' : World} {m : Option Nat} {f : Int → Option Pg} (h : MapAt w m f) (k : ∀ b, m = some b → w'.heap[b]? = w.heap[b]?) : MapAt w' m f := by
  rcases h with h | ⟨b, rfl, h⟩
  · exact .inl h
  · exact .inr ⟨b, rfl, h.of_block (k b rfl)⟩
theorem MapAt.congr {w : World} {m : Option Nat} {f g : Int → Option Pg} (h : MapAt w m f) (e : ∀ n, g n = f n) : MapAt w m g := by
  obtain rfl : g = f := funext e
  exact h
section
variable {p : Nat} {m : Nat → Option Nat} {S : Sp} {w w' : World}
theorem SpP.lt (h : SpP p m S w) : p < w.heap.size := by
  obtain ⟨C, hC, _⟩ := h.head
  exact (Array.getElem?_eq_some_iff.1 hC).1
theorem SpP.fp_lt (h : SpP p m S w) : ∀ x, fpS p m x → x < w.heap.size := by
  rintro x (rfl | ⟨i, hi, hx⟩)
  · exact h.lt
  · have := h.maps i hi
    rw [hx] at this
    exact this.lt
theorem SpP.keep (h : SpP p m S w) (k : ∀ x, fpS p m x → w'.heap[x]? = w.heap[x]?) : SpP p m S w' := by
  obtain ⟨C, hC, r⟩ := h.head
  exact ⟨⟨C, (k p (.inl rfl)).trans hC, r⟩, h.is, fun i hi => (h.maps i hi).keep fun b hb => k b (.inr ⟨i, hi, hb⟩), h.one, h.ne, h.good⟩
end
def spT (p : Nat) (m : Nat → Option Nat) (S : Sp) : Th where
  F := fpS p m
  H := SpP p m S
  lt := fun _ h => h.fp_lt
  keep := fun _ _ h k => h.keep k
section
variable {p : Nat} {m : Nat → Option Nat} {S : Sp} {w w' : World}
theorem SpP.below (h : SpP p m S w) (k : Below w.heap.size w w') : SpP p m S w' := (spT p m S).below h k
theorem SpP.cell (h : SpP p m S w) {i : Nat} (hi : i < 64) : w.cell? ⟨p, i, none⟩ = some (.map (m i)) := by
  obtain ⟨C, hC, h0, h1⟩ := h.head
  simp [World.cell?, hC, (h1 i hi).1]
theorem SpP.cellN (h : SpP p m S w) {i : Nat} (hi : i < 64) : w.cell? ⟨p, 64 + i, none⟩ = some (.int .i64 (hasN S i)) := by
  obtain ⟨C, hC, h0, h1⟩ := h.head
  simp [World.cell?, hC, (h1 i hi).2]
theorem SpP.frozen (h : SpP p m S w) (j : Nat) : w.frozen? ⟨p, j, none⟩ = false := by
  obtain ⟨C, hC, _⟩ := h.head
  simp [World.frozen?, hC]
theorem SpP.in64 (h : SpP p m S w) {i : Nat} : ∀ n q, atPl S.f i n = some q → 0 ≤ n ∧ n < 4096 := by
  intro n q hq
  unfold atPl at hq
  split at hq
  · have := h.good.f n q hq
    exact ⟨this.1, this.2.1⟩
  · cases hq
/-- A place is written: another map, another number. -/
theorem SpP.put (h : SpP p m S w) {i : Nat} (hi : i < 64) {mo : Option Nat} {T : Sp}
    (hC : ∀ C : Array Value, w.heap[p]? = some (.cells C 63 (0, 0)) → w'.heap[p]? = some (.cells ((C.set! i (.map mo)).set! (64 + i) (.int .i64 (hasN T i))) 63 (0, 0)))
    (ho : ∀ x, x < w.heap.size → x ≠ p → w'.heap[x]? = w.heap[x]?) (hn : ∀ b, mo = some b → w.heap.size ≤ b) (hm : MapAt w' mo (atPl T.f i)) (his : mo.isSome = hasB T i)
    (ht : ∀ j : Nat, j ≠ i → T.t j = S.t j) (hf : ∀ (j : Nat) n, j ≠ i → atPl T.f j n = atPl S.f j n) (g : Good T) : SpP p (updN m i mo) T w' := by
  obtain ⟨C, hC1, h0, h1⟩ := h.head
  refine ⟨⟨_, hC C hC1, by simpa using h0, fun j hj => ?_⟩, fun j hj => ?_, fun j hj => ?_, fun j k x hj hk hx hy => ?_, fun j hj hp => ?_, g⟩
  · have a1 : i < C.size := by omega
    have a2 : 64 + i < C.size := by omega
    by_cases e : j = i
    · subst e
      rw [updN_at]
      constructor
      · simp [a1]
      · simp [a2]
    · rw [updN_ne _ _ e]
      have e1 : ¬ 64 + i = j := by omega
      have e2 : ¬ i = j := fun x => e x.symm
      have e3 : ¬ i = 64 + j := by omega
      have e5 : hasN T j = hasN S j := by unfold hasN; rw [ht j e]
      constructor
      · simp [e1, e2, (h1 j hj).1]
      · simp [e3, e2, (h1 j hj).2, e5]
  · by_cases e : j = i
    · subst e
      rw [updN_at, his]
    · rw [updN_ne _ _ e, h.is j hj]
      unfold hasB
      rw [ht j e]
  · by_cases e : j = i
    · subst e
      rw [updN_at]
      exact hm
    · rw [updN_ne _ _ e]
      refine ((h.maps j hj).keep fun b hb => ho b ?_ ?_).congr fun n => hf j n e
      · have := h.maps j hj
        rw [hb] at this
        exact this.lt
      · intro e2
        exact h.ne j hj (by rw [hb, e2])
  · have old : ∀ j x, j < 64 → m j = some x → x < w.heap.size := fun j x hj hx => by
      have := h.maps j hj
      rw [hx] at this
      exact this.lt
    by_cases e : j = i
    · by_cases e2 : k = i
      · rw [e, e2]
      · rw [e, updN_at] at hx
        rw [updN_ne _ _ e2] at hy
        have := hn x hx
        have := old k x hk hy
        omega
    · rw [updN_ne _ _ e] at hx
      by_cases e2 : k = i
      · rw [e2, updN_at] at hy
        have := hn x hy
        have := old j x hj hx
        omega
      · rw [updN_ne _ _ e2] at hy
        exact h.one j k x hj hk hx hy
  · by_cases e : j = i
    · rw [e, updN_at] at hp
      have := hn p hp
      have := h.lt
      omega
    · rw [updN_ne _ _ e] at hp
      exact h.ne j hj hp
/-- The map at a place is written. -/
theorem SpP.mapped (h : SpP p m S w) {i b : Nat} (hi : i < 64) (hb : m i = some b) {f' g' : Int → Option Pg} (hm : MapIs w' b g') (g : w.grownBy w' (some b)) (hg : ∀ n, atPl f' i n = g' n) (hf : ∀ (j : Nat) n, j ≠ i → atPl f' j n = atPl S.f j n) (gd : Good ⟨S.t, f'⟩) : SpP p m ⟨S.t, f'⟩ w' ∧ Turn (fpS p m) w w' := by
  have hpb : p ≠ b := fun e => h.ne i hi (by rw [hb, e])
  obtain ⟨C, hC, h0, h1⟩ := h.head
  refine ⟨⟨⟨C, (g.block p h.lt fun e => hpb (by cases e; rfl)).trans hC, h0, h1⟩, h.is, fun j hj => ?_, h.one, h.ne, gd⟩, Turn.grown g fun k hk => .inl ?_⟩
  · by_cases e : j = i
    · subst e
      rw [hb]
      exact .inr ⟨b, rfl, hm.congr hg⟩
    · refine ((h.maps j hj).keep fun c hc => g.block c ?_ ?_).congr fun n => hf j n e
      · have := h.maps j hj
        rw [hc] at this
        exact this.lt
      · intro e2
        cases e2
        exact e (h.one j i b hj hi hc hb)
  · cases hk
    exact .inr ⟨i, hi, hb⟩
end
/-! ### Pages that are told -/
def cL (x : La) : List Value := [.int .i64 x.1, .int .i64 x.2.fr, .int .i64 x.2.rt]
def elL : El La := ⟨53, 27, 3, 24, cL⟩
theorem infoL : (Try.prog.info? 53).map (fun i => (i.zero, i.size, i.bytes)) = some (some (.agg #[.int .i64 0, .int .i64 0, .int .i64 0]), 3, 24) := by kernel_rfl
theorem okL : El.Ok elL := ⟨Try.underlying27, info_of infoL rfl, by decide, by decide, fun _ => rfl, by simp [elL, cL, Value.oneCell']⟩
abbrev lstL (v : Value) (L : List La) : Th := lst elL v L
end Go.Proofs.Ythjcodkgcffamaa
