/-
  What a core remembers, as a list of lines, and what the calls of package tlb make of it; no condition.
-/
import Derived.Test.YtekjoeebomcmeaaRows
namespace Go.Proofs.Ytekjoeebomcmeaa
/-- A line: space, page, frame, rights. -/
structure Lr where
  s : Int
  p : Int
  f : Int
  r : Int
abbrev St := List Lr
def lr0 : Lr := ⟨0, 0, 0, 0⟩
def isS (s : Int) (x : Lr) : Bool := x.s == s
def isP (p : Int) (x : Lr) : Bool := x.p == p
def isF (f : Int) (x : Lr) : Bool := x.f == f
def isK (s p : Int) (x : Lr) : Bool := isS s x && isP p x
theorem isK_iff {s p : Int} {x : Lr} : isK s p x = true ↔ x.s = s ∧ x.p = p := by simp [isK, isS, isP]
theorem isK_self (x : Lr) : isK x.s x.p x = true := isK_iff.2 ⟨rfl, rfl⟩
theorem lr_ext {x y : Lr} (h1 : x.s = y.s) (h2 : x.p = y.p) (h3 : x.f = y.f) (h4 : x.r = y.r) : x = y := by
  obtain ⟨a, b, c, d⟩ := x
  obtain ⟨a', b', c', d'⟩ := y
  simp only at h1 h2 h3 h4
  subst h1 h2 h3 h4
  rfl
/-- Those that stay, and how many go. -/
def lessS (q : Lr → Bool) (S : St) : St := S.filter fun x => !q x
def lessN (q : Lr → Bool) (S : St) : Nat := S.length - (lessS q S).length
theorem less_le (q : Lr → Bool) (S : St) : (lessS q S).length ≤ S.length := List.length_filter_le _ _
theorem less_none {q : Lr → Bool} {S : St} (h : S.any q = false) : lessS q S = S := by
  unfold lessS
  rw [List.filter_eq_self]
  intro x hx
  rw [List.any_eq_false] at h
  simpa using h x hx
theorem less_any {q : Lr → Bool} {S : St} (h : S.any q = true) : (lessS q S).length < S.length := by
  unfold lessS
  obtain ⟨x, hx, e⟩ := List.any_eq_true.1 h
  exact List.length_filter_lt_length_iff_exists.2 ⟨x, hx, by simp [e]⟩
theorem lessN_pos (q : Lr → Bool) (S : St) : decide (0 < lessN q S) = S.any q := by
  unfold lessN
  cases h : S.any q
  · rw [less_none h]
    simp
  · have := less_any h
    simp
    omega
theorem less_ext {q q' : Lr → Bool} (h : ∀ x, q x = q' x) (S : St) : lessS q S = lessS q' S := by
  unfold lessS
  congr 1
  funext x
  rw [h]
/-- Room for n; of each page of a space one at most. -/
structure Good (n : Nat) (S : St) : Prop where
  pos : 1 ≤ n
  top : n ≤ 256
  le : S.length ≤ n
  one : S.Pairwise fun a b => ¬ (a.s = b.s ∧ a.p = b.p)
theorem good_nil {n : Nat} (h1 : 1 ≤ n) (h2 : n ≤ 256) : Good n [] := ⟨h1, h2, Nat.zero_le _, List.Pairwise.nil⟩
theorem Good.few {n : Nat} {S : St} (h : Good n S) : S.length ≤ 1000 := by have := h.le; have := h.top; omega
theorem Good.less {n : Nat} {S : St} (h : Good n S) (q : Lr → Bool) : Good n (lessS q S) :=
  ⟨h.pos, h.top, Nat.le_trans (less_le q S) h.le, h.one.sublist List.filter_sublist⟩
theorem Good.tail {n : Nat} {x : Lr} {S : St} (h : Good n (x :: S)) : Good n S :=
  ⟨h.pos, h.top, by have := h.le; simp at this; omega, (List.pairwise_cons.1 h.one).2⟩
theorem less_head {n : Nat} {x : Lr} {S : St} (h : Good n (x :: S)) : lessS (isK x.s x.p) (x :: S) = S := by
  unfold lessS
  rw [List.filter_cons, isK_self]
  simp only [Bool.not_true, Bool.false_eq_true, if_false]
  rw [List.filter_eq_self]
  intro y hy
  have := (List.pairwise_cons.1 h.one).1 y hy
  cases e : isK x.s x.p y
  · rfl
  · exact absurd ⟨(isK_iff.1 e).1.symm, (isK_iff.1 e).2.symm⟩ this
/-- What is left ahead of a line that is filled in. -/
def roomS (n : Nat) (S : St) (x : Lr) : St := if S.any (isK x.s x.p) = true then lessS (isK x.s x.p) S else if n ≤ S.length then S.tail else S
def fillS (n : Nat) (S : St) (x : Lr) : St := roomS n S x ++ [x]
theorem room_len {n : Nat} {S : St} (h : Good n S) (x : Lr) : (roomS n S x).length < n := by
  have h1 := h.le
  have h2 := h.pos
  unfold roomS
  split
  · rename_i hc
    have := less_any hc
    omega
  · split
    · rw [List.length_tail]
      omega
    · omega
theorem room_sub (n : Nat) (S : St) (x : Lr) : (roomS n S x).Sublist S := by
  unfold roomS
  split
  · exact List.filter_sublist
  · split
    · exact List.tail_sublist S
    · exact List.Sublist.refl _
theorem room_none (n : Nat) (S : St) (x : Lr) : (roomS n S x).any (isK x.s x.p) = false := by
  cases hc : S.any (isK x.s x.p)
  · rw [List.any_eq_false] at hc ⊢
    exact fun y hy => hc y ((room_sub n S x).subset hy)
  · unfold roomS
    rw [if_pos hc, List.any_eq_false]
    intro y hy
    have := (List.mem_filter.1 hy).2
    simpa using this
theorem Good.fill {n : Nat} {S : St} (h : Good n S) (x : Lr) : Good n (fillS n S x) := by
  refine ⟨h.pos, h.top, ?_, ?_⟩
  · unfold fillS
    rw [List.length_append, List.length_singleton]
    exact room_len h x
  · unfold fillS
    refine List.pairwise_append.2 ⟨h.one.sublist (room_sub n S x), List.pairwise_singleton _ _, fun a ha b hb e => ?_⟩
    rw [List.mem_singleton] at hb
    subst hb
    have := room_none n S b
    rw [List.any_eq_false] at this
    exact this a ha (isK_iff.2 e)
/-! ### What Look tells -/
def lookO (S : St) (s p : Int) : Option Lr := S.find? (isK s p)
def lookF (S : St) (s p : Int) : Int := match lookO S s p with | some x => x.f | none => 0
def lookR (S : St) (s p : Int) : Int := match lookO S s p with | some x => x.r | none => 0
def lookB (S : St) (s p : Int) : Bool := S.any (isK s p)
theorem find_none {S : St} {s p : Int} (h : S.any (isK s p) = false) : lookO S s p = none := by
  unfold lookO
  rw [List.find?_eq_none]
  rw [List.any_eq_false] at h
  exact h
theorem look_none {S : St} {s p : Int} (h : S.any (isK s p) = false) : lookF S s p = 0 ∧ lookR S s p = 0 ∧ lookB S s p = false := by
  unfold lookF lookR lookB
  rw [find_none h]
  exact ⟨rfl, rfl, h⟩
theorem look_at {n : Nat} {S : St} (hG : Good n S) {x : Lr} (hx : x ∈ S) {s p : Int} (h : isK s p x = true) : lookO S s p = some x := by
  have hs : (S.find? (isK s p)).isSome = true := by
    rw [List.find?_isSome]
    exact ⟨x, hx, h⟩
  obtain ⟨y, hy⟩ := Option.isSome_iff_exists.1 hs
  have hy1 := List.mem_of_find?_eq_some hy
  have hy2 := List.find?_some hy
  unfold lookO
  rw [hy]
  congr 1
  have e1 := isK_iff.1 hy2
  have e2 := isK_iff.1 h
  obtain ⟨i, hi, ei⟩ := List.mem_iff_getElem.1 hy1
  obtain ⟨j, hj, ej⟩ := List.mem_iff_getElem.1 hx
  rcases Nat.lt_trichotomy i j with c | c | c
  · have := List.pairwise_iff_getElem.1 hG.one i j hi hj c
    rw [ei, ej] at this
    exact absurd ⟨e1.1.trans e2.1.symm, e1.2.trans e2.2.symm⟩ this
  · subst c
    rw [← ei, ← ej]
  · have := List.pairwise_iff_getElem.1 hG.one j i hj hi c
    rw [ei, ej] at this
    exact absurd ⟨e2.1.trans e1.1.symm, e2.2.trans e1.2.symm⟩ this
theorem look_first {S : St} {k : Nat} {x : Lr} {s p : Int} (hk : S[k]? = some x) (h : isK s p x = true) (ha : ∀ j y, j < k → S[j]? = some y → isK s p y = false) : lookO S s p = some x := by
  obtain ⟨hl, e⟩ := List.getElem?_eq_some_iff.1 hk
  unfold lookO
  rw [List.find?_eq_some_iff_getElem]
  exact ⟨h, k, hl, e, fun j hj => by rw [ha j S[j] hj (List.getElem?_eq_getElem (by omega))]; rfl⟩
theorem look_some {S : St} {s p : Int} {x : Lr} (h : lookO S s p = some x) : lookF S s p = x.f ∧ lookR S s p = x.r ∧ lookB S s p = true := by
  refine ⟨by unfold lookF; rw [h], by unfold lookR; rw [h], ?_⟩
  unfold lookB
  exact List.any_eq_true.2 ⟨x, List.mem_of_find?_eq_some h, List.find?_some h⟩
/-! ### The first of which it is said -/
def idx (q : Lr → Bool) (S : St) : Int := if S.findIdx q < S.length then ((S.findIdx q : Nat) : Int) else -1
theorem idx_hit {q : Lr → Bool} {S : St} {k : Nat} {x : Lr} (hk : S[k]? = some x) (h : q x = true) (ha : ∀ j y, j < k → S[j]? = some y → q y = false) : idx q S = (k : Int) := by
  obtain ⟨hl, e⟩ := List.getElem?_eq_some_iff.1 hk
  have : S.findIdx q = k := by
    rw [List.findIdx_eq hl]
    exact ⟨by rw [e]; exact h, fun j hj => ha j _ hj (List.getElem?_eq_getElem (by omega))⟩
  unfold idx
  rw [this, if_pos hl]
theorem idx_miss {q : Lr → Bool} {S : St} (ha : ∀ (j : Nat) (y : Lr), S[j]? = some y → q y = false) : idx q S = -1 := by
  unfold idx
  rw [if_neg]
  rw [List.findIdx_lt_length]
  rintro ⟨x, hx, hn⟩
  obtain ⟨j, hj, e⟩ := List.mem_iff_getElem.1 hx
  have := ha j x (by rw [List.getElem?_eq_getElem hj, e])
  rw [hn] at this
  cases this
theorem idx_ext {q q' : Lr → Bool} (h : ∀ x, q x = q' x) (S : St) : idx q S = idx q' S := by
  have : q = q' := funext h
  rw [this]
theorem idx_look (S : St) (s p : Int) : (idx (isK s p) S = -1 ∧ S.any (isK s p) = false) ∨ ∃ (k : Nat) (x : Lr), idx (isK s p) S = (k : Int) ∧ k < S.length ∧ S[k]? = some x ∧ lookO S s p = some x := by
  by_cases h : S.findIdx (isK s p) < S.length
  · right
    refine ⟨S.findIdx (isK s p), S[S.findIdx (isK s p)], by unfold idx; rw [if_pos h], h, List.getElem?_eq_getElem h, look_first (List.getElem?_eq_getElem h) (List.findIdx_getElem (w := h)) fun j y hj hy => ?_⟩
    have := List.not_of_lt_findIdx hj
    obtain ⟨hj2, e⟩ := List.getElem?_eq_some_iff.1 hy
    rw [e] at this
    simpa using this
  · left
    refine ⟨by unfold idx; rw [if_neg h], ?_⟩
    rw [List.any_eq_false]
    intro x hx hq
    exact h (List.findIdx_lt_length.2 ⟨x, hx, hq⟩)
/-- What the library's loop has made of the row behind j of L: i stay. -/
structure Kept (q : Lr → Bool) (L M : St) (i j : Nat) : Prop where
  len : M.length = L.length
  lt : i < j
  le : j ≤ L.length
  head : M.take i = lessS q (L.take j)
  rest : M.drop j = L.drop j
theorem set_take {M : St} {i : Nat} (x : Lr) (h : i < M.length) : (M.set i x).take (i + 1) = M.take i ++ [x] := by
  rw [List.set_eq_take_append_cons_drop, if_pos h, List.take_append]
  have : (M.take i).length = i := by rw [List.length_take]; omega
  rw [this, List.take_of_length_le (by omega)]
  have e : i + 1 - i = 1 := by omega
  rw [e]
  rfl
theorem set_drop {M : St} {i j : Nat} (x : Lr) (h : i < j) : (M.set i x).drop j = M.drop j := by
  rw [List.drop_set, if_pos h]
theorem Kept.first {q : Lr → Bool} {L : St} {i : Nat} {x : Lr} (hi : L[i]? = some x) (hx : q x = true) (ha : ∀ j y, j < i → L[j]? = some y → q y = false) : Kept q L L i (i + 1) := by
  have hlt := (List.getElem?_eq_some_iff.1 hi).1
  refine ⟨rfl, by omega, by omega, ?_, rfl⟩
  unfold lessS
  rw [List.take_add_one, hi, List.filter_append]
  simp [hx]
  symm
  rw [List.filter_eq_self]
  intro y hy
  obtain ⟨j, hj, e⟩ := List.mem_iff_getElem.1 hy
  rw [List.length_take] at hj
  rw [List.getElem_take] at e
  have := ha j y (by omega) (by rw [List.getElem?_eq_getElem (by omega), e])
  simp [this]
theorem Kept.at {q : Lr → Bool} {L M : St} {i j : Nat} {x : Lr} (h : Kept q L M i j) (hj : L[j]? = some x) : M[j]? = some x := by
  have e := congrArg (fun l => l[0]?) h.rest
  simp only [List.getElem?_drop, Nat.add_zero] at e
  rw [e, hj]
theorem Kept.skip {q : Lr → Bool} {L M : St} {i j : Nat} {x : Lr} (h : Kept q L M i j) (hj : L[j]? = some x) (hp : q x = true) : Kept q L M i (j + 1) := by
  have hl := (List.getElem?_eq_some_iff.1 hj).1
  refine ⟨h.len, by have := h.lt; omega, by omega, ?_, ?_⟩
  · rw [h.head]
    unfold lessS
    rw [List.take_add_one, hj, List.filter_append]
    simp [hp]
  · have := congrArg (List.drop 1) h.rest
    simpa [List.drop_drop] using this
theorem Kept.put {q : Lr → Bool} {L M : St} {i j : Nat} {x : Lr} (h : Kept q L M i j) (hj : L[j]? = some x) (hp : q x = false) : Kept q L (M.set i x) (i + 1) (j + 1) := by
  have hl := (List.getElem?_eq_some_iff.1 hj).1
  have hlt := h.lt
  have hlen := h.len
  refine ⟨by rw [List.length_set, hlen], by omega, by omega, ?_, ?_⟩
  · rw [set_take _ (by omega), h.head]
    unfold lessS
    rw [List.take_add_one, hj, List.filter_append]
    simp [hp]
  · rw [set_drop _ (by omega)]
    have := congrArg (List.drop 1) h.rest
    simpa [List.drop_drop] using this
theorem idx_cases (q : Lr → Bool) (L : St) : (idx q L = -1 ∧ lessS q L = L) ∨ ∃ i : Nat, idx q L = (i : Int) ∧ i < L.length ∧ Kept q L L i (i + 1) := by
  by_cases h : L.findIdx q < L.length
  · right
    refine ⟨L.findIdx q, by unfold idx; rw [if_pos h], h, Kept.first (List.getElem?_eq_getElem h) (List.findIdx_getElem (w := h)) fun j y hj hy => ?_⟩
    have := List.not_of_lt_findIdx hj
    obtain ⟨hj2, e⟩ := List.getElem?_eq_some_iff.1 hy
    rw [e] at this
    simpa using this
  · left
    refine ⟨by unfold idx; rw [if_neg h], less_none ?_⟩
    rw [List.any_eq_false]
    intro x hx hq
    exact h (List.findIdx_lt_length.2 ⟨x, hx, hq⟩)
end Go.Proofs.Ytekjoeebomcmeaa
