/-
  Spaces: tables at places, pages that are mapped, as functions; what each call answers and leaves; pages in order; no condition of ours.
-/
import Derived.WalkKit
namespace Go.Proofs.Ythjcodkgcffamaa

structure Pg where
  fr : Int
  rt : Int
def pg0 : Pg := ⟨0, 0⟩
structure Sp where
  t : Int → Option Int
  f : Int → Option Pg
def sp0 : Sp := ⟨fun _ => none, fun _ => none⟩
def upd {α : Type} (g : Int → α) (i : Int) (v : α) : Int → α := fun j => if j = i then v else g j
theorem upd_same {α : Type} (g : Int → α) (i : Int) (v : α) : upd g i v i = v := by simp [upd]
theorem upd_other {α : Type} (g : Int → α) {i j : Int} (v : α) (h : j ≠ i) : upd g i v j = g j := by simp [upd, h]
structure Good (S : Sp) : Prop where
  t : ∀ i m, S.t i = some m → 0 ≤ i ∧ i < 64 ∧ 0 ≤ m
  f : ∀ n p, S.f n = some p → 0 ≤ n ∧ n < 4096 ∧ (S.t (n / 64)).isSome = true
theorem good0 : Good sp0 := ⟨fun _ _ h => (by cases h), fun _ _ h => (by cases h)⟩
theorem Good.nothing {S : Sp} (g : Good S) {n : Int} (h : S.t (n / 64) = none) : S.f n = none := by
  cases e : S.f n with
  | none => rfl
  | some p =>
    have := (g.f n p e).2.2
    rw [h] at this
    cases this
theorem Good.out {S : Sp} (g : Good S) {n : Int} (h : n < 0 ∨ 4096 ≤ n) : S.f n = none := by
  cases e : S.f n with
  | none => rfl
  | some p =>
    have := g.f n p e
    omega
theorem Good.outT {S : Sp} (g : Good S) {i : Int} (h : i < 0 ∨ 64 ≤ i) : S.t i = none := by
  cases e : S.t i with
  | none => rfl
  | some p =>
    have := g.t i p e
    omega

/-! ### What the calls answer, and leave -/
def anyT (S : Sp) (n : Int) : Bool := (List.range 64).any fun k => S.t (k : Nat) == some n
theorem anyT_true {S : Sp} {n : Int} : anyT S n = true ↔ ∃ k : Nat, k < 64 ∧ S.t k = some n := by
  unfold anyT
  rw [List.any_eq_true]
  constructor
  · rintro ⟨k, hk, h⟩
    exact ⟨k, List.mem_range.1 hk, by simpa using h⟩
  · rintro ⟨k, hk, h⟩
    exact ⟨k, List.mem_range.2 hk, by simpa using h⟩
def tabE (S : Sp) (i n : Int) : Int := if i < 0 ∨ 64 ≤ i ∨ n < 0 then 1 else if (S.t i).isSome = true ∨ anyT S n = true then 140 else 0
def tabS (S : Sp) (i n : Int) : Sp := if tabE S i n = 0 then ⟨upd S.t i (some n), S.f⟩ else S
def drpE (S : Sp) (i : Int) : Int := if i < 0 ∨ 64 ≤ i then 1 else if (S.t i).isSome = true then 0 else 141
def outP (f : Int → Option Pg) (i : Int) : Int → Option Pg := fun n => if n / 64 = i then none else f n
def drpS (S : Sp) (i : Int) : Sp := if drpE S i = 0 then ⟨upd S.t i none, outP S.f i⟩ else S
def mapE (S : Sp) (n : Int) (p : Pg) : Int := if n < 0 ∨ 4096 ≤ n ∨ p.fr < 0 ∨ p.rt < 0 ∨ 7 < p.rt then 1 else if (S.t (n / 64)).isSome = true then (if (S.f n).isSome = true then 140 else 0) else 141
def mapS (S : Sp) (n : Int) (p : Pg) : Sp := if mapE S n p = 0 then ⟨S.t, upd S.f n (some p)⟩ else S
def rgtE (S : Sp) (n r : Int) : Int := if n < 0 ∨ 4096 ≤ n ∨ r < 0 ∨ 7 < r then 1 else if (S.f n).isSome = true then 0 else 141
def rgtS (S : Sp) (n r : Int) : Sp := if rgtE S n r = 0 then ⟨S.t, upd S.f n (some ⟨((S.f n).getD pg0).fr, r⟩)⟩ else S
def unmE (S : Sp) (n : Int) : Int := if n < 0 ∨ 4096 ≤ n then 1 else if (S.f n).isSome = true then 0 else 141
def unmS (S : Sp) (n : Int) : Sp := if unmE S n = 0 then ⟨S.t, upd S.f n none⟩ else S
def wlkP (S : Sp) (n : Int) : Pg := (S.f n).getD pg0
def wlkB (S : Sp) (n : Int) : Bool := (S.f n).isSome
def hasN (S : Sp) (i : Int) : Int := (S.t i).getD 0
def hasB (S : Sp) (i : Int) : Bool := (S.t i).isSome
theorem tabE_ok {S : Sp} {i n : Int} (h : tabE S i n = 0) : 0 ≤ i ∧ i < 64 ∧ 0 ≤ n ∧ S.t i = none ∧ anyT S n = false := by
  unfold tabE at h
  split at h
  · cases h
  · split at h
    · cases h
    · rename_i h1 h2
      simp only [not_or, Bool.not_eq_true, Option.isSome_eq_false_iff, Option.isNone_iff_eq_none] at h2
      exact ⟨by omega, by omega, by omega, h2.1, h2.2⟩
theorem drpE_ok {S : Sp} {i : Int} (h : drpE S i = 0) : 0 ≤ i ∧ i < 64 ∧ ∃ m, S.t i = some m := by
  unfold drpE at h
  split at h
  · cases h
  · split at h
    · rename_i h1 h2
      exact ⟨by omega, by omega, Option.isSome_iff_exists.1 h2⟩
    · cases h
theorem mapE_ok {S : Sp} {n : Int} {p : Pg} (h : mapE S n p = 0) : 0 ≤ n ∧ n < 4096 ∧ (S.t (n / 64)).isSome = true ∧ S.f n = none ∧ 0 ≤ p.fr ∧ 0 ≤ p.rt ∧ p.rt ≤ 7 := by
  unfold mapE at h
  split at h
  · cases h
  · split at h
    · split at h
      · cases h
      · rename_i h1 h2 h3
        exact ⟨by omega, by omega, h2, by simpa using h3, by omega, by omega, by omega⟩
    · cases h
theorem rgtE_ok {S : Sp} {n r : Int} (h : rgtE S n r = 0) : 0 ≤ n ∧ n < 4096 ∧ 0 ≤ r ∧ r ≤ 7 ∧ ∃ p, S.f n = some p := by
  unfold rgtE at h
  split at h
  · cases h
  · split at h
    · rename_i h1 h2
      exact ⟨by omega, by omega, by omega, by omega, Option.isSome_iff_exists.1 h2⟩
    · cases h
theorem unmE_ok {S : Sp} {n : Int} (h : unmE S n = 0) : 0 ≤ n ∧ n < 4096 ∧ ∃ p, S.f n = some p := by
  unfold unmE at h
  split at h
  · cases h
  · split at h
    · rename_i h1 h2
      exact ⟨by omega, by omega, Option.isSome_iff_exists.1 h2⟩
    · cases h
theorem good_tab {S : Sp} (g : Good S) (i n : Int) : Good (tabS S i n) := by
  unfold tabS
  split
  · rename_i h
    obtain ⟨h0, h1, h2, h3, _⟩ := tabE_ok h
    refine ⟨fun j m hj => ?_, fun k p hk => ?_⟩
    · simp only [upd] at hj
      split at hj
      · cases hj
        omega
      · exact g.t j m hj
    · obtain ⟨a, b, c⟩ := g.f k p hk
      refine ⟨a, b, ?_⟩
      simp only [upd]
      split
      · rfl
      · exact c
  · exact g
theorem good_drp {S : Sp} (g : Good S) (i : Int) : Good (drpS S i) := by
  unfold drpS
  split
  · refine ⟨fun j m hj => ?_, fun k p hk => ?_⟩
    · simp only [upd] at hj
      split at hj
      · cases hj
      · exact g.t j m hj
    · simp only [outP] at hk
      split at hk
      · cases hk
      · rename_i h
        obtain ⟨a, b, c⟩ := g.f k p hk
        refine ⟨a, b, ?_⟩
        simp only [upd, if_neg h]
        exact c
  · exact g
theorem good_map {S : Sp} (g : Good S) (n : Int) (p : Pg) : Good (mapS S n p) := by
  unfold mapS
  split
  · rename_i h
    obtain ⟨h0, h1, h2, _⟩ := mapE_ok h
    refine ⟨g.t, fun k q hk => ?_⟩
    simp only [upd] at hk
    split at hk
    · rename_i e
      subst e
      exact ⟨h0, h1, h2⟩
    · exact g.f k q hk
  · exact g
theorem good_rgt {S : Sp} (g : Good S) (n r : Int) : Good (rgtS S n r) := by
  unfold rgtS
  split
  · rename_i h
    obtain ⟨h0, h1, _, _, p, hp⟩ := rgtE_ok h
    refine ⟨g.t, fun k q hk => ?_⟩
    simp only [upd] at hk
    split at hk
    · rename_i e
      subst e
      exact g.f _ _ hp
    · exact g.f k q hk
  · exact g
theorem good_unm {S : Sp} (g : Good S) (n : Int) : Good (unmS S n) := by
  unfold unmS
  split
  · refine ⟨g.t, fun k q hk => ?_⟩
    simp only [upd] at hk
    split at hk
    · cases hk
    · exact g.f k q hk
  · exact g

/-! ### Pages in order -/
abbrev La := Int × Pg
def atN (f : Int → Option Pg) (n : Nat) : Option La := (f (n : Int)).map fun p => ((n : Int), p)
def seg (f : Int → Option Pg) (a k : Nat) : List La := (List.range' a k).filterMap (atN f)
def allP (f : Int → Option Pg) : List La := seg f 0 4096
theorem seg_zero (f : Int → Option Pg) (a : Nat) : seg f a 0 = [] := rfl
theorem seg_add (f : Int → Option Pg) (a k m : Nat) : seg f a (k + m) = seg f a k ++ seg f (a + k) m := by
  unfold seg
  rw [← List.range'_append_1, List.filterMap_append]
theorem seg_one (f : Int → Option Pg) (a k : Nat) : seg f a (k + 1) = seg f a k ++ (atN f (a + k)).toList := by
  rw [seg_add]
  congr 1
theorem seg_mem {f : Int → Option Pg} {a k : Nat} {n : Int} {p : Pg} : (n, p) ∈ seg f a k ↔ (a : Int) ≤ n ∧ n < a + k ∧ f n = some p := by
  unfold seg atN
  rw [List.mem_filterMap]
  constructor
  · rintro ⟨m, hm, h⟩
    rw [List.mem_range'_1] at hm
    obtain ⟨q, hq, e⟩ := Option.map_eq_some_iff.1 h
    cases e
    exact ⟨by omega, by omega, hq⟩
  · rintro ⟨h0, h1, h2⟩
    have e : ((n.toNat : Nat) : Int) = n := by omega
    refine ⟨n.toNat, List.mem_range'_1.2 ⟨by omega, by omega⟩, ?_⟩
    rw [e, h2]
    rfl
theorem seg_rise (f : Int → Option Pg) (a k : Nat) : (seg f a k).Pairwise fun x y => x.1 < y.1 := by
  unfold seg
  rw [List.pairwise_filterMap]
  refine (List.pairwise_lt_range' (s := a) (n := k)).imp ?_
  intro i j hij x hx y hy
  obtain ⟨p, _, rfl⟩ := Option.map_eq_some_iff.1 hx
  obtain ⟨q, _, rfl⟩ := Option.map_eq_some_iff.1 hy
  simp only
  omega
theorem seg_len (f : Int → Option Pg) (a k : Nat) : (seg f a k).length ≤ k := by
  have := List.length_filterMap_le (atN f) (List.range' a k)
  rw [List.length_range'] at this
  exact this
theorem all_len (f : Int → Option Pg) : (allP f).length ≤ 4096 := seg_len f 0 4096
/-- Two lists that rise and hold the same are the same. -/
theorem rise_ext {L M : List La} (h1 : L.Pairwise fun x y => x.1 < y.1) (h2 : M.Pairwise fun x y => x.1 < y.1) (h : ∀ x, x ∈ L ↔ x ∈ M) : L = M := by
  have n1 : L.Nodup := h1.imp fun {x y} hxy e => by rw [e] at hxy; exact Int.lt_irrefl _ hxy
  have n2 : M.Nodup := h2.imp fun {x y} hxy e => by rw [e] at hxy; exact Int.lt_irrefl _ hxy
  refine List.Perm.eq_of_pairwise (le := fun x y => x.1 < y.1) (fun a b _ _ h1 h2 => absurd (Int.lt_trans h1 h2) (Int.lt_irrefl _)) h1 h2 ((List.perm_ext_iff_of_nodup n1 n2).2 h)
theorem seg_ext {f : Int → Option Pg} {a k : Nat} {L : List La} (h1 : L.Pairwise fun x y => x.1 < y.1) (h : ∀ n p, (n, p) ∈ L ↔ (a : Int) ≤ n ∧ n < a + k ∧ f n = some p) : L = seg f a k :=
  rise_ext h1 (seg_rise f a k) fun ⟨n, p⟩ => by rw [h, seg_mem]
theorem all_mem {S : Sp} (g : Good S) {n : Int} {p : Pg} : (n, p) ∈ allP S.f ↔ S.f n = some p := by
  unfold allP
  rw [seg_mem]
  constructor
  · exact fun h => h.2.2
  · intro h
    have := g.f n p h
    exact ⟨by omega, by omega, h⟩
theorem seg_congr {f g : Int → Option Pg} {a k : Nat} (h : ∀ n : Int, (a : Int) ≤ n → n < a + k → f n = g n) : seg f a k = seg g a k := by
  refine seg_ext (seg_rise f a k) fun n p => ?_
  rw [seg_mem]
  constructor
  · rintro ⟨h0, h1, h2⟩
    exact ⟨h0, h1, by rw [← h n h0 h1]; exact h2⟩
  · rintro ⟨h0, h1, h2⟩
    exact ⟨h0, h1, by rw [h n h0 h1]; exact h2⟩
/-- The pages of a place. -/
def atPl (f : Int → Option Pg) (i : Int) : Int → Option Pg := fun n => if n / 64 = i then f n else none
def plP (f : Int → Option Pg) (i : Nat) : List La := seg f (64 * i) 64
theorem pl_step (f : Int → Option Pg) (i : Nat) : seg f 0 (64 * (i + 1)) = seg f 0 (64 * i) ++ plP f i := by
  rw [show 64 * (i + 1) = 64 * i + 64 by omega, seg_add, Nat.zero_add]
  rfl
/-- Keys that rise, with what the place's map has there. -/
theorem laid_is {S : Sp} {i : Nat} {K : List Int} (hk : K.Pairwise (· < ·)) (hm : ∀ x, x ∈ K ↔ (atPl S.f i x).isSome = true) : K.map (fun k => (k, (atPl S.f i k).getD pg0)) = plP S.f i := by
  refine seg_ext (List.pairwise_map.2 (hk.imp fun {x y} h => h)) fun n p => ?_
  rw [List.mem_map]
  constructor
  · rintro ⟨k, hk, e⟩
    have h1 := (hm k).1 hk
    obtain ⟨rfl, rfl⟩ := Prod.mk.injEq .. ▸ e
    unfold atPl at h1 ⊢
    split at h1
    · rename_i h2
      rw [if_pos h2]
      obtain ⟨p, hp⟩ := Option.isSome_iff_exists.1 h1
      rw [hp]
      refine ⟨by omega, by omega, rfl⟩
    · cases h1
  · rintro ⟨h0, h1, h2⟩
    have h3 : n / 64 = (i : Int) := by omega
    refine ⟨n, (hm n).2 ?_, ?_⟩
    · unfold atPl
      rw [if_pos h3, h2]
      rfl
    · unfold atPl
      rw [if_pos h3, h2]
      rfl
/-- Keys, put in order. -/
theorem sorted_rise {ss ks : List Int} (hp : ss.Perm ks) (hn : ks.Nodup) : (ss.mergeSort fun x y => decide (x ≤ y)).Pairwise (· < ·) ∧ ∀ x, x ∈ ss.mergeSort (fun x y => decide (x ≤ y)) ↔ x ∈ ks := by
  have tr : ∀ a b c : Int, decide (a ≤ b) = true → decide (b ≤ c) = true → decide (a ≤ c) = true := fun a b c h1 h2 => by simp only [decide_eq_true_eq] at *; exact Int.le_trans h1 h2
  have to : ∀ a b : Int, (decide (a ≤ b) || decide (b ≤ a)) = true := fun a b => by simp only [Bool.or_eq_true, decide_eq_true_eq]; exact Int.le_total a b
  have pm : (ss.mergeSort fun x y => decide (x ≤ y)).Perm ks := (List.mergeSort_perm _ _).trans hp
  refine ⟨?_, fun x => pm.mem_iff⟩
  have h1 := List.pairwise_mergeSort (le := fun x y : Int => decide (x ≤ y)) tr to ss
  have h2 : (ss.mergeSort fun x y => decide (x ≤ y)).Nodup := pm.nodup_iff.2 hn
  refine (h1.and h2).imp fun {x y} h => ?_
  have : x ≤ y := by simpa using h.1
  have := h.2
  omega
/-- The pages of a frame. -/
def frmB (fr : Int) (x : La) : Bool := x.2.fr == fr
def frmL (f : Int → Option Pg) (fr : Int) : List Int := ((allP f).filter (frmB fr)).map (·.1)
theorem drp_rest {S : Sp} (i : Int) : allP (outP S.f i) = (allP S.f).filter fun x => !(x.1 / 64 == i) := by
  symm
  refine seg_ext ((seg_rise _ _ _).filter _) fun n p => ?_
  rw [List.mem_filter]
  unfold allP
  rw [seg_mem]
  simp only [outP, Bool.not_eq_true', beq_eq_false_iff_ne]
  constructor
  · rintro ⟨⟨h0, h1, h2⟩, h3⟩
    exact ⟨h0, h1, by rw [if_neg h3]; exact h2⟩
  · rintro ⟨h0, h1, h2⟩
    split at h2
    · cases h2
    · rename_i h3
      exact ⟨⟨h0, h1, h2⟩, h3⟩
theorem drp_own {S : Sp} (i : Nat) (hi : i < 64) : plP S.f i = (allP S.f).filter fun x => x.1 / 64 == (i : Int) := by
  symm
  refine seg_ext ((seg_rise _ _ _).filter _) fun n p => ?_
  rw [List.mem_filter]
  unfold allP
  rw [seg_mem]
  simp only [beq_iff_eq]
  constructor
  · rintro ⟨⟨h0, h1, h2⟩, h3⟩
    exact ⟨by omega, by omega, h2⟩
  · rintro ⟨h0, h1, h2⟩
    exact ⟨⟨by omega, by omega, h2⟩, by omega⟩
end Go.Proofs.Ythjcodkgcffamaa
