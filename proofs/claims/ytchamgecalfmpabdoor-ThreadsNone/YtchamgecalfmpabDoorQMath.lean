/-
  Plain facts on numbers that stand in lines by priorities, without the program: what is put in, taken out and turned; no condition but that each number is in one line, once.
-/
import Derived.Test.YtchamgecalfmpabDoorMany
namespace Go.Proofs.YtchamgecalfmpabDoor

def I64 (x : Int) : Prop := -9223372036854775808 ≤ x ∧ x ≤ 9223372036854775807
/-- A number, in the line of a priority. -/
structure In where
  p : Nat
  n : Int
/-- All, in the order in which they stand in their lines. -/
abbrev St := List In
structure Good (S : St) : Prop where
  fit : ∀ x ∈ S, x.p < 256 ∧ I64 x.n
  one : S.Pairwise (fun x y => x.n ≠ y.n)
def lineN (S : St) (p : Nat) : List Int := (S.filter fun x => x.p == p).map In.n
def lineI (S : St) (p : Int) : List Int := if 0 ≤ p ∧ p < 256 then lineN S p.toNat else []
def atO (S : St) (n : Int) : Option In := S.find? fun x => x.n == n
def whF (S : St) (n : Int) : Option Int := (atO S n).map fun x => (x.p : Int)
def whI (S : St) (n : Int) : Int := (whF S n).getD 0
def whB (S : St) (n : Int) : Bool := (whF S n).isSome
def putE (S : St) (p n : Int) : Int := if 0 ≤ p ∧ p < 256 then (if whB S n = true then 90 else 0) else 1
def putS (S : St) (p n : Int) : St := if putE S p n = 0 then S ++ [⟨p.toNat, n⟩] else S
def takeE (S : St) (n : Int) : Int := if whB S n = true then 0 else 91
def takeS (S : St) (n : Int) : St := S.filter fun x => x.n != n
def occ (S : St) (p : Nat) : Bool := S.any fun x => x.p == p
def topS (S : St) : Int := topTo (occ S) 256
def nextO (S : St) : Option In := S.find? fun x => (x.p : Int) == topS S
def nextN (S : St) : Int := ((nextO S).map In.n).getD 0
def nextB (S : St) : Bool := (nextO S).isSome
def turnS (S : St) : St := match nextO S with | none => S | some x => takeS S x.n ++ [x]

/-! ### Lists -/
theorem filter_erase : ∀ (L : List Int) (i : Nat) (n : Int), L.Pairwise (· ≠ ·) → L[i]? = some n → L.filter (fun x => x != n) = L.eraseIdx i
  | [], i, n, _, h => by simp at h
  | x :: L, 0, n, hp, h => by
    obtain rfl : x = n := by simpa using h
    obtain ⟨h1, h2⟩ := List.pairwise_cons.1 hp
    simp only [List.eraseIdx_cons_zero]
    rw [List.filter_cons_of_neg (by simp), List.filter_eq_self.2]
    intro a ha
    simpa using (h1 a ha).symm
  | x :: L, i + 1, n, hp, h => by
    obtain ⟨h1, h2⟩ := List.pairwise_cons.1 hp
    have h' : L[i]? = some n := by simpa using h
    have hx : x ≠ n := h1 n (List.mem_of_getElem? h')
    rw [List.filter_cons_of_pos (by simpa using hx), filter_erase L i n h2 h']
    rfl
theorem filter_none (L : List Int) (n : Int) (h : n ∉ L) : L.filter (fun x => x != n) = L := by
  rw [List.filter_eq_self.2]
  intro a ha
  have : ¬ a = n := fun e => h (e ▸ ha)
  simpa using this
theorem same_of_n {S : St} (h : S.Pairwise (fun x y => x.n ≠ y.n)) {x y : In} (hx : x ∈ S) (hy : y ∈ S) (e : x.n = y.n) : x = y := by
  induction S with
  | nil => simp at hx
  | cons a S ih =>
    obtain ⟨h1, h2⟩ := List.pairwise_cons.1 h
    rcases List.mem_cons.1 hx with hx | hx <;> rcases List.mem_cons.1 hy with hy | hy
    · rw [hx, hy]
    · rw [hx] at e
      exact absurd e (h1 y hy)
    · rw [hy] at e
      exact absurd e.symm (h1 x hx)
    · exact ih h2 hx hy

/-! ### Where a number stands -/
section
variable {S : St} {n : Int} {x : In}
theorem atO_mem (h : atO S n = some x) : x ∈ S ∧ x.n = n := by
  unfold atO at h
  exact ⟨List.mem_of_find?_eq_some h, by simpa using List.find?_some h⟩
theorem atO_none (h : atO S n = none) : ∀ x ∈ S, x.n ≠ n := by
  intro x hx e
  have := List.find?_eq_none.1 h x hx
  simp [e] at this
theorem atO_of (g : Good S) (h : x ∈ S) : atO S x.n = some x := by
  cases e : atO S x.n with
  | none => exact absurd rfl (atO_none e x h)
  | some y =>
    obtain ⟨h1, h2⟩ := atO_mem e
    rw [same_of_n g.one h1 h h2]
theorem whF_of (g : Good S) (h : x ∈ S) : whF S x.n = some (x.p : Int) := by
  unfold whF
  rw [atO_of g h]
  rfl
theorem whF_some {v : Int} (h : whF S n = some v) : ∃ x ∈ S, x.n = n ∧ v = x.p := by
  unfold whF at h
  cases e : atO S n with
  | none => rw [e] at h; cases h
  | some y =>
    rw [e] at h
    obtain ⟨h1, h2⟩ := atO_mem e
    exact ⟨y, h1, h2, by simpa using h.symm⟩
theorem whF_none (h : whF S n = none) : ∀ x ∈ S, x.n ≠ n := by
  unfold whF at h
  exact atO_none (by simpa using h)
theorem whB_some (h : whB S n = true) : ∃ x ∈ S, x.n = n := by
  unfold whB at h
  obtain ⟨v, hv⟩ := Option.isSome_iff_exists.1 h
  obtain ⟨x, h1, h2, _⟩ := whF_some hv
  exact ⟨x, h1, h2⟩
theorem whB_none (h : whB S n = false) : ∀ x ∈ S, x.n ≠ n := by
  unfold whB at h
  exact whF_none (by simpa using h)
theorem whF_no (h : ∀ x ∈ S, x.n ≠ n) : whF S n = none := by
  cases e : whF S n with
  | none => rfl
  | some v =>
    obtain ⟨x, h1, h2, _⟩ := whF_some e
    exact absurd h2 (h x h1)
theorem whB_of (g : Good S) (h : x ∈ S) : whB S x.n = true ∧ whI S x.n = x.p := by
  unfold whB whI
  rw [whF_of g h]
  exact ⟨rfl, rfl⟩
theorem wh_cases (S : St) (n : Int) : (whB S n = false ∧ whF S n = none ∧ whI S n = 0) ∨ ∃ x ∈ S, x.n = n ∧ whB S n = true ∧ whF S n = some (x.p : Int) ∧ whI S n = x.p := by
  unfold whB whI
  cases e : whF S n with
  | none => exact .inl ⟨rfl, rfl, rfl⟩
  | some v =>
    obtain ⟨x, h1, h2, rfl⟩ := whF_some e
    exact .inr ⟨x, h1, h2, rfl, rfl, rfl⟩
end
theorem whF_congr {S T : St} (gT : Good T) (h : ∀ x, x ∈ T ↔ x ∈ S) (n : Int) : whF T n = whF S n := by
  cases e : whF S n with
  | none => exact whF_no fun x hx => whF_none e x ((h x).1 hx)
  | some v =>
    obtain ⟨x, h1, rfl, rfl⟩ := whF_some e
    exact whF_of gT ((h x).2 h1)

/-! ### Good ones -/
theorem good_nil : Good [] := ⟨by simp, List.Pairwise.nil⟩
theorem good_add {S : St} {x : In} (g : Good S) (hp : x.p < 256) (hn : I64 x.n) (h : ∀ y ∈ S, y.n ≠ x.n) : Good (S ++ [x]) := by
  refine ⟨fun y hy => ?_, List.pairwise_append.2 ⟨g.one, by simp, fun a ha b hb => ?_⟩⟩
  · rcases List.mem_append.1 hy with hy | hy
    · exact g.fit y hy
    · obtain rfl : y = x := by simpa using hy
      exact ⟨hp, hn⟩
  · obtain rfl : b = x := by simpa using hb
    exact h a ha
theorem good_sub {S T : St} (g : Good S) (h : T.Sublist S) : Good T := ⟨fun y hy => g.fit y (h.subset hy), g.one.sublist h⟩
theorem good_take {S : St} (g : Good S) (n : Int) : Good (takeS S n) := good_sub g List.filter_sublist
theorem putE_cases (S : St) (p n : Int) : (putE S p n = 0 ∧ putS S p n = S ++ [⟨p.toNat, n⟩] ∧ 0 ≤ p ∧ p < 256 ∧ whB S n = false) ∨ (putE S p n = 90 ∧ putS S p n = S ∧ 0 ≤ p ∧ p < 256 ∧ whB S n = true) ∨ (putE S p n = 1 ∧ putS S p n = S ∧ ¬ (0 ≤ p ∧ p < 256)) := by
  unfold putS putE
  by_cases h : 0 ≤ p ∧ p < 256
  · cases e : whB S n
    · exact .inl (by simp [h])
    · exact .inr (.inl (by simp [h]))
  · exact .inr (.inr (by simp [h]))
theorem good_put {S : St} (g : Good S) (p n : Int) (hn : I64 n) : Good (putS S p n) := by
  rcases putE_cases S p n with ⟨_, e, h0, h1, h2⟩ | ⟨_, e, _⟩ | ⟨_, e, _⟩ <;> rw [e]
  · exact good_add g (by simp; omega) hn (whB_none h2)
  · exact g
  · exact g
theorem take_mem {S : St} {n : Int} {x : In} : x ∈ takeS S n ↔ x ∈ S ∧ x.n ≠ n := by
  unfold takeS
  simp
theorem take_none {S : St} {n : Int} (h : whB S n = false) : takeS S n = S := by
  unfold takeS
  rw [List.filter_eq_self]
  intro a ha
  simpa using whB_none h a ha
theorem take_len {S : St} {n : Int} {x : In} (h : x ∈ S) (e : x.n = n) : (takeS S n).length < S.length := by
  unfold takeS
  apply List.length_filter_lt_length_iff_exists.2
  exact ⟨x, h, by simp [e]⟩

/-! ### Lines -/
theorem line_add (S : St) (x : In) (q : Nat) : lineN (S ++ [x]) q = if q = x.p then lineN S q ++ [x.n] else lineN S q := by
  unfold lineN
  by_cases h : q = x.p
  · subst h
    simp
  · have : ¬ x.p = q := fun e => h e.symm
    simp [h, this]
theorem line_take (S : St) (n : Int) (q : Nat) : lineN (takeS S n) q = (lineN S q).filter fun y => y != n := by
  unfold lineN takeS
  rw [List.filter_filter, List.filter_map, List.filter_filter]
  congr 1
  apply List.filter_congr
  intro x _
  simp [Bool.and_comm]
theorem line_mem {S : St} {q : Nat} {n : Int} : n ∈ lineN S q ↔ ∃ x ∈ S, x.p = q ∧ x.n = n := by
  unfold lineN
  simp [List.mem_map, List.mem_filter, and_assoc]
theorem line_one {S : St} (g : Good S) (q : Nat) : (lineN S q).Pairwise (· ≠ ·) := by
  unfold lineN
  rw [List.pairwise_map]
  exact g.one.sublist List.filter_sublist
theorem line_take_other {S : St} (g : Good S) {x : In} (hx : x ∈ S) {q : Nat} (h : q ≠ x.p) : lineN (takeS S x.n) q = lineN S q := by
  rw [line_take]
  refine filter_none _ _ fun hm => ?_
  obtain ⟨y, h1, h2, h3⟩ := line_mem.1 hm
  exact h (by rw [← h2, same_of_n g.one h1 hx h3])
theorem line_take_at {S : St} (g : Good S) {x : In} {i : Nat} (h : (lineN S x.p)[i]? = some x.n) : lineN (takeS S x.n) x.p = (lineN S x.p).eraseIdx i := by
  rw [line_take]
  exact filter_erase _ _ _ (line_one g _) h
theorem line_len (S : St) (q : Nat) : (lineN S q).length ≤ S.length := by
  unfold lineN
  rw [List.length_map]
  exact List.length_filter_le _ _
theorem line_fit {S : St} (g : Good S) (q : Nat) : ∀ n ∈ lineN S q, I64 n := by
  intro n hn
  obtain ⟨y, h1, _, rfl⟩ := line_mem.1 hn
  exact (g.fit y h1).2
theorem line_out {S : St} (g : Good S) {q : Nat} (h : 256 ≤ q) : lineN S q = [] := by
  cases e : lineN S q with
  | nil => rfl
  | cons a L =>
    obtain ⟨y, h1, h2, _⟩ := line_mem.1 (show a ∈ lineN S q by rw [e]; simp)
    have := (g.fit y h1).1
    omega
theorem occ_line (S : St) (q : Nat) : occ S q = decide (0 < (lineN S q).length) := by
  unfold occ lineN
  rw [List.length_map]
  induction S with
  | nil => rfl
  | cons a S ih =>
    by_cases h : a.p = q
    · simp [h]
    · simp [h, ih]
theorem occ_iff (S : St) (q : Nat) : occ S q = true ↔ ∃ x ∈ S, x.p = q := by
  unfold occ
  simp

/-! ### The next one -/
theorem top_nil : topS [] = -1 := topTo_none _ _ fun _ _ => rfl
theorem next_cases {S : St} (g : Good S) : (S = [] ∧ topS S = -1 ∧ nextO S = none ∧ nextN S = 0 ∧ nextB S = false ∧ turnS S = S) ∨
    ∃ x L, x ∈ S ∧ topS S = (x.p : Nat) ∧ nextO S = some x ∧ nextN S = x.n ∧ nextB S = true ∧ turnS S = takeS S x.n ++ [x] ∧ lineN S x.p = x.n :: L ∧ ∀ y ∈ S, y.p ≤ x.p := by
  rcases topTo_cases (occ S) 256 with ⟨h1, h2⟩ | ⟨t, h1, h2, h3, h4⟩
  · have : S = [] := by
      cases S with
      | nil => rfl
      | cons a S =>
        have := h2 a.p (g.fit a (by simp)).1
        rw [(occ_iff _ _).2 ⟨a, by simp, rfl⟩] at this
        cases this
    subst this
    exact .inl ⟨rfl, h1, rfl, rfl, rfl, rfl⟩
  · have hle : ∀ y ∈ S, y.p ≤ t := fun y hy => by
      apply Nat.le_of_not_lt
      intro hlt
      have := h4 y.p hlt (g.fit y hy).1
      rw [(occ_iff _ _).2 ⟨y, hy, rfl⟩] at this
      cases this
    obtain ⟨z, hz, hzt⟩ := (occ_iff _ _).1 h3
    have ht : topS S = (t : Nat) := h1
    have hf : ∃ x, nextO S = some x := by
      cases e : nextO S with
      | some x => exact ⟨x, rfl⟩
      | none =>
        have := List.find?_eq_none.1 e z hz
        rw [ht, hzt] at this
        simp at this
    obtain ⟨x, hx⟩ := hf
    have hxs := List.mem_of_find?_eq_some hx
    have hxp : x.p = t := by
      have := List.find?_some hx
      rw [ht] at this
      have h9 : (x.p : Int) = (t : Int) := by simpa using this
      omega
    have hl : ∃ L, lineN S x.p = x.n :: L := by
      unfold lineN
      have e2 : nextO S = (S.filter fun y => y.p == x.p).head? := by
        unfold nextO
        rw [ht, hxp]
        rw [List.head?_filter]
        congr 1
        funext y
        rw [Bool.eq_iff_iff]
        simp
        omega
      rw [hx] at e2
      cases e3 : S.filter fun y => y.p == x.p with
      | nil => rw [e3] at e2; cases e2
      | cons a L =>
        rw [e3] at e2
        cases e2
        exact ⟨L.map In.n, by simp⟩
    obtain ⟨L, hl⟩ := hl
    refine .inr ⟨x, L, hxs, by rw [ht, hxp], hx, by simp [nextN, hx], by simp [nextB, hx], by simp [turnS, hx], hl, fun y hy => by rw [hxp]; exact hle y hy⟩
theorem good_turn {S : St} (g : Good S) : Good (turnS S) := by
  rcases next_cases g with ⟨rfl, _, _, _, _, e⟩ | ⟨x, L, hx, _, _, _, _, e, _⟩ <;> rw [e]
  · exact g
  · exact good_add (good_take g x.n) (g.fit x hx).1 (g.fit x hx).2 fun y hy => (take_mem.1 hy).2
theorem turn_mem {S : St} (g : Good S) (y : In) : y ∈ turnS S ↔ y ∈ S := by
  rcases next_cases g with ⟨rfl, _, _, _, _, e⟩ | ⟨x, L, hx, _, _, _, _, e, _⟩ <;> rw [e]
  rw [List.mem_append, take_mem, List.mem_singleton]
  constructor
  · rintro (⟨h, _⟩ | rfl)
    · exact h
    · exact hx
  · intro h
    by_cases e2 : y.n = x.n
    · exact .inr (same_of_n g.one h hx e2)
    · exact .inl ⟨h, e2⟩
theorem whF_turn {S : St} (g : Good S) (n : Int) : whF (turnS S) n = whF S n := whF_congr (good_turn g) (turn_mem g) n
theorem whF_add {S : St} {x : In} (h : ∀ y ∈ S, y.n ≠ x.n) (n : Int) : whF (S ++ [x]) n = if n = x.n then some (x.p : Int) else whF S n := by
  unfold whF atO
  rw [List.find?_append]
  by_cases e : n = x.n
  · subst e
    have : S.find? (fun y => y.n == x.n) = none := List.find?_eq_none.2 fun y hy => by simpa using h y hy
    rw [this, if_pos rfl]
    simp
  · have e2 : ¬ x.n = n := fun q => e q.symm
    rw [if_neg e]
    simp [e2]
theorem whF_take {S : St} (g : Good S) (m n : Int) : whF (takeS S m) n = if n = m then none else whF S n := by
  by_cases e : n = m
  · rw [if_pos e]
    exact whF_no fun x hx => by rw [e]; exact (take_mem.1 hx).2
  · rw [if_neg e]
    cases e2 : whF S n with
    | none => exact whF_no fun x hx => whF_none e2 x (take_mem.1 hx).1
    | some v =>
      obtain ⟨x, h1, rfl, rfl⟩ := whF_some e2
      exact whF_of (good_take g m) (take_mem.2 ⟨h1, e⟩)
theorem turn_len {S : St} (g : Good S) : (turnS S).length ≤ S.length := by
  rcases next_cases g with ⟨rfl, _, _, _, _, e⟩ | ⟨x, L, hx, _, _, _, _, e, _⟩ <;> rw [e]
  · exact Nat.le_refl _
  · have := take_len hx rfl
    rw [List.length_append, List.length_singleton]
    omega
theorem put_len (S : St) (p n : Int) : (putS S p n).length ≤ S.length + 1 := by
  rcases putE_cases S p n with ⟨_, e, _⟩ | ⟨_, e, _⟩ | ⟨_, e, _⟩ <;> rw [e] <;> simp
theorem takeS_len (S : St) (n : Int) : (takeS S n).length ≤ S.length := List.length_filter_le _ _
end Go.Proofs.YtchamgecalfmpabDoor
