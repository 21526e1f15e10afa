/-
  The document's own space: a list of tables, a list of pages, in no order; what it is to the one of functions; no condition of ours.
-/
import Derived.Test.YthjcodkgcffamaaPTab
namespace Go.Proofs.Ythjcodkgcffamaa
abbrev Ta := Int × Int
def isAt {α : Type} (i : Int) (x : Int × α) : Bool := x.1 == i
def look {α : Type} (A : List (Int × α)) (i : Int) : Option α := (A.find? (isAt i)).map (·.2)
theorem look_nil {α : Type} (i : Int) : look ([] : List (Int × α)) i = none := rfl
theorem look_mem {α : Type} {A : List (Int × α)} {i : Int} {x : α} (h : look A i = some x) : (i, x) ∈ A := by
  unfold look at h
  obtain ⟨⟨a, b⟩, h1, rfl⟩ := Option.map_eq_some_iff.1 h
  have h2 := List.find?_some h1
  have h3 := List.mem_of_find?_eq_some h1
  have : a = i := by simpa [isAt] using h2
  rw [← this]
  exact h3
theorem look_none {α : Type} {A : List (Int × α)} {i : Int} : look A i = none ↔ ∀ x ∈ A, x.1 ≠ i := by
  unfold look
  rw [Option.map_eq_none_iff, List.find?_eq_none]
  constructor
  · intro h x hx e
    exact h x hx (by simp [isAt, e])
  · intro h x hx e
    exact h x hx (by simpa [isAt] using e)
def Apart {α : Type} (A : List (Int × α)) : Prop := A.Pairwise fun x y => x.1 ≠ y.1
theorem look_of {α : Type} {A : List (Int × α)} (h : Apart A) {i : Int} {x : α} (hx : (i, x) ∈ A) : look A i = some x := by
  induction A with
  | nil => cases hx
  | cons y A ih =>
    obtain ⟨h1, h2⟩ := List.pairwise_cons.1 h
    unfold look
    rw [List.find?_cons]
    rcases List.mem_cons.1 hx with rfl | hm
    · simp [isAt]
    · have hne : y.1 ≠ i := h1 _ hm
      have e : isAt i y = false := by simpa [isAt] using hne
      rw [e]
      exact ih h2 hm
theorem look_add {α : Type} {A : List (Int × α)} {i : Int} (x : α) (h : look A i = none) (j : Int) : look (A ++ [(i, x)]) j = if j = i then some x else look A j := by
  unfold look at *
  rw [List.find?_append]
  by_cases e : j = i
  · subst e
    rw [if_pos rfl]
    have h2 : A.find? (isAt j) = none := Option.map_eq_none_iff.1 h
    rw [h2]
    simp [isAt]
  · rw [if_neg e]
    cases hf : A.find? (isAt j) with
    | some y => rfl
    | none =>
      have : (i == j) = false := by simpa using fun q => e q.symm
      simp [isAt, this]
theorem apart_add {α : Type} {A : List (Int × α)} (h : Apart A) {i : Int} (x : α) (hn : look A i = none) : Apart (A ++ [(i, x)]) := by
  refine List.pairwise_append.2 ⟨h, List.pairwise_singleton _ _, fun y hy z hz => ?_⟩
  rw [List.mem_singleton] at hz
  subst hz
  exact look_none.1 hn y hy
/-- What is left when some go, by their numbers. -/
theorem look_filter {α : Type} {A : List (Int × α)} (h : Apart A) (P : Int → Bool) (j : Int) : look (A.filter fun x => P x.1) j = if P j = true then look A j else none := by
  have ha : Apart (A.filter fun x => P x.1) := List.Pairwise.filter _ h
  by_cases hp : P j = true
  · rw [if_pos hp]
    cases e : look A j with
    | none =>
      rw [look_none] at e ⊢
      exact fun x hx => e x (List.mem_filter.1 hx).1
    | some x => exact look_of ha (List.mem_filter.2 ⟨look_mem e, hp⟩)
  · rw [if_neg hp, look_none]
    intro x hx e
    have := (List.mem_filter.1 hx).2
    rw [e] at this
    exact hp this
/-- The document's lists, and what they say. -/
structure Rl (A : List Ta) (B : List La) (S : Sp) : Prop where
  t : ∀ i, look A i = S.t i
  f : ∀ n, look B n = S.f n
  a : Apart A
  b : Apart B
theorem rl0 : Rl [] [] sp0 := ⟨fun _ => rfl, fun _ => rfl, List.Pairwise.nil, List.Pairwise.nil⟩
section
variable {A : List Ta} {B : List La} {S : Sp}
theorem Rl.any (r : Rl A B S) (g : Good S) (n : Int) : anyT S n = true ↔ ∃ x ∈ A, x.2 = n := by
  rw [anyT_true]
  constructor
  · rintro ⟨k, _, hk⟩
    rw [← r.t] at hk
    exact ⟨_, look_mem hk, rfl⟩
  · rintro ⟨⟨i, m⟩, hm, rfl⟩
    have h1 := look_of r.a hm
    rw [r.t] at h1
    have := g.t _ _ h1
    refine ⟨i.toNat, by omega, ?_⟩
    rw [show ((i.toNat : Nat) : Int) = i by omega]
    exact h1
theorem Rl.tab (r : Rl A B S) {i n : Int} (h : tabE S i n = 0) : Rl (A ++ [(i, n)]) B (tabS S i n) := by
  have h1 := (tabE_ok h).2.2.2.1
  have h2 : look A i = none := by rw [r.t]; exact h1
  have e : tabS S i n = ⟨upd S.t i (some n), S.f⟩ := by unfold tabS; rw [if_pos h]
  rw [e]
  refine ⟨fun j => ?_, r.f, apart_add r.a n h2, r.b⟩
  rw [look_add n h2, r.t]
  rfl
theorem Rl.map (r : Rl A B S) {n : Int} {p : Pg} (h : mapE S n p = 0) : Rl A (B ++ [(n, p)]) (mapS S n p) := by
  have h1 := (mapE_ok h).2.2.2.1
  have h2 : look B n = none := by rw [r.f]; exact h1
  have e : mapS S n p = ⟨S.t, upd S.f n (some p)⟩ := by unfold mapS; rw [if_pos h]
  rw [e]
  refine ⟨r.t, fun j => ?_, r.a, apart_add r.b p h2⟩
  rw [look_add p h2, r.f]
  rfl
theorem Rl.len (r : Rl A B S) (g : Good S) : (allP S.f).Perm B := by
  have n1 : (allP S.f).Nodup := (seg_rise S.f 0 4096).imp fun {x y} h e => by rw [e] at h; exact Int.lt_irrefl _ h
  have n2 : B.Nodup := r.b.imp fun {x y} h e => h (by rw [e])
  refine (List.perm_ext_iff_of_nodup n1 n2).2 fun ⟨n, p⟩ => ?_
  rw [all_mem g, ← r.f]
  exact ⟨look_mem, look_of r.b⟩
theorem apart_all (f : Int → Option Pg) : Apart (allP f) := (seg_rise f 0 4096).imp fun {x y} h e => by rw [e] at h; exact Int.lt_irrefl _ h
theorem look_all (g : Good S) (n : Int) : look (allP S.f) n = S.f n := by
  cases e : S.f n with
  | some p => exact look_of (apart_all _) ((all_mem g).2 e)
  | none =>
    rw [look_none]
    rintro ⟨k, p⟩ hx rfl
    rw [(all_mem g).1 hx] at e
    cases e
theorem Rl.drp (r : Rl A B S) (g : Good S) {i : Int} (h : drpE S i = 0) : Rl (A.filter fun x => !(x.1 == i)) ((allP S.f).filter fun x => !(x.1 / 64 == i)) (drpS S i) := by
  have e : drpS S i = ⟨upd S.t i none, outP S.f i⟩ := by unfold drpS; rw [if_pos h]
  rw [e]
  refine ⟨fun j => ?_, fun n => ?_, List.Pairwise.filter _ r.a, List.Pairwise.filter _ (apart_all S.f)⟩
  · have := look_filter r.a (fun k => !(k == i)) j
    rw [this, r.t]
    show _ = upd S.t i none j
    unfold upd
    by_cases e : j = i <;> simp [e]
  · have := look_filter (apart_all S.f) (fun k => !(k / 64 == i)) n
    rw [this, look_all g]
    show _ = outP S.f i n
    unfold outP
    by_cases e : n / 64 = i <;> simp [e]
theorem Rl.unm (r : Rl A B S) {n : Int} (h : unmE S n = 0) : Rl A (B.filter fun x => !(x.1 == n)) (unmS S n) := by
  have e : unmS S n = ⟨S.t, upd S.f n none⟩ := by unfold unmS; rw [if_pos h]
  rw [e]
  refine ⟨r.t, fun j => ?_, r.a, List.Pairwise.filter _ r.b⟩
  have := look_filter r.b (fun k => !(k == n)) j
  rw [this, r.f]
  show _ = upd S.f n none j
  unfold upd
  by_cases e : j = n <;> simp [e]
theorem set_mem {B : List La} (h : Apart B) {k : Nat} {n : Int} {p q : Pg} (hk : B[k]? = some (n, p)) (x : La) : x ∈ B.set k (n, q) ↔ (x = (n, q) ∨ (x ∈ B ∧ x.1 ≠ n)) := by
  obtain ⟨hl, e⟩ := List.getElem?_eq_some_iff.1 hk
  constructor
  · intro hx
    obtain ⟨j, hj, ex⟩ := List.getElem_of_mem hx
    rw [List.getElem_set] at ex
    split at ex
    · exact .inl ex.symm
    · rename_i hne
      have hj' : j < B.length := by simpa using hj
      refine .inr ⟨ex ▸ List.getElem_mem hj', fun e1 => ?_⟩
      rcases Nat.lt_or_gt_of_ne hne with h1 | h1
      · have := List.pairwise_iff_getElem.1 h k j hl hj' h1
        rw [e, ex] at this
        exact this e1.symm
      · have := List.pairwise_iff_getElem.1 h j k hj' hl h1
        rw [e, ex] at this
        exact this e1
  · rintro (rfl | ⟨hx, hne⟩)
    · exact List.mem_iff_getElem.2 ⟨k, by simpa using hl, by simp⟩
    · obtain ⟨j, hj, ex⟩ := List.getElem_of_mem hx
      refine List.mem_iff_getElem.2 ⟨j, by simpa using hj, ?_⟩
      rw [List.getElem_set, if_neg]
      · exact ex
      · intro e1
        subst e1
        rw [e] at ex
        exact hne (by rw [← ex])
theorem apart_set {B : List La} (h : Apart B) {k : Nat} {n : Int} {p q : Pg} (hk : B[k]? = some (n, p)) : Apart (B.set k (n, q)) := by
  obtain ⟨hl, e⟩ := List.getElem?_eq_some_iff.1 hk
  refine List.pairwise_iff_getElem.2 fun i j hi hj hij => ?_
  have hi' : i < B.length := by simpa using hi
  have hj' : j < B.length := by simpa using hj
  have key : ∀ t (ht : t < B.length), ((B.set k (n, q))[t]'(by simpa using ht)).1 = B[t].1 := fun t ht => by
    rw [List.getElem_set]
    split
    · rename_i e1
      subst e1
      rw [e]
    · rfl
  rw [key i hi', key j hj']
  exact List.pairwise_iff_getElem.1 h i j hi' hj' hij
theorem Rl.rgt (r : Rl A B S) {n t : Int} (h : rgtE S n t = 0) {k : Nat} {p : Pg} (hk : B[k]? = some (n, p)) : Rl A (B.set k (n, ⟨p.fr, t⟩)) (rgtS S n t) := by
  have hp : S.f n = some p := by rw [← r.f]; exact look_of r.b (List.mem_of_getElem? hk)
  have e : rgtS S n t = ⟨S.t, upd S.f n (some ⟨p.fr, t⟩)⟩ := by unfold rgtS; rw [if_pos h, hp]; rfl
  rw [e]
  have ap := apart_set (q := ⟨p.fr, t⟩) r.b hk
  refine ⟨r.t, fun j => ?_, r.a, ap⟩
  show _ = upd S.f n (some ⟨p.fr, t⟩) j
  unfold upd
  by_cases e1 : j = n
  · rw [if_pos e1, e1]
    exact look_of ap ((set_mem r.b hk _).2 (.inl rfl))
  · rw [if_neg e1, ← r.f]
    cases hj : look B j with
    | some x => exact look_of ap ((set_mem r.b hk _).2 (.inr ⟨look_mem hj, e1⟩))
    | none =>
      rw [look_none] at hj ⊢
      intro x hx
      rcases (set_mem r.b hk x).1 hx with rfl | ⟨h1, _⟩
      · exact fun q => e1 q.symm
      · exact hj x h1
end
/-- Which of a list is of a number. -/
theorem find_at {α : Type} {A : List (Int × α)} {i : Int} {x : α} (h : look A i = some x) : ∃ k : Nat, A[k]? = some (i, x) ∧ ∀ j : Nat, j < k → ∀ y, A[j]? = some y → y.1 ≠ i := by
  induction A with
  | nil => cases h
  | cons y A ih =>
    by_cases e : y.1 = i
    · refine ⟨0, ?_, fun j hj => absurd hj (by omega)⟩
      unfold look at h
      rw [List.find?_cons, show isAt i y = true by simpa [isAt] using e] at h
      obtain ⟨a, b⟩ := y
      simp only [Option.map_some, Option.some.injEq] at h
      simp only at e
      rw [e, h]
      rfl
    · have h2 : look A i = some x := by
        unfold look at h ⊢
        rw [List.find?_cons, show isAt i y = false by simpa [isAt] using e] at h
        exact h
      obtain ⟨k, h3, h4⟩ := ih h2
      refine ⟨k + 1, by simpa using h3, fun j hj z hz => ?_⟩
      cases j with
      | zero =>
        have : y = z := by simpa using hz
        rw [← this]
        exact e
      | succ j => exact h4 j (by omega) z (by simpa using hz)
end Go.Proofs.Ythjcodkgcffamaa
