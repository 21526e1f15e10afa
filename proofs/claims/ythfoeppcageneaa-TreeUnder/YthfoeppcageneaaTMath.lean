/-
  The tree as a list of slots, each with a depth, without the program: what each call answers and leaves; plain facts on them; no condition of ours.
-/
import Derived.Laws.BitsAllLaws
namespace Go.Proofs.Ythfoeppcageneaa

structure Sl where
  n : Int
  i : Int
set_option linter.unusedSectionVars false
variable [DecidableEq Sl]
/-- A slot, and how deep it stands. -/
structure En where
  s : Sl
  d : Int
abbrev St := List En
def no : Sl := ⟨0, 0⟩
def atE (S : St) (i : Nat) : En := S.getD i ⟨no, 0⟩
def dep (S : St) (i : Nat) : Int := (atE S i).d
def slt (S : St) (i : Nat) : Sl := (atE S i).s
def isP (s : Sl) (e : En) : Bool := decide (e.s = s)
/-- A slot's place; how many there are, if it is not there. -/
def pl (S : St) (s : Sl) : Nat := S.findIdx (isP s)
def hasB (S : St) (s : Sl) : Bool := decide (pl S s < S.length)
def isE (d : Int) (e : En) : Bool := decide (e.d ≤ d)
/-- Behind all that are under one. -/
def endN (S : St) (i : Nat) : Nat := i + 1 + (S.drop (i + 1)).findIdx (isE (dep S i))
def underN (S : St) (i : Nat) : St := (S.drop (i + 1)).take ((S.drop (i + 1)).findIdx (isE (dep S i)))
def allS (S : St) : List Sl := S.map En.s
def underS (S : St) (s : Sl) : List Sl := if hasB S s then allS (underN S (pl S s)) else []
/-- The last one ahead of j that is d deep. -/
def lastD (S : St) (d : Int) : Nat → Option Nat
  | 0 => none
  | j + 1 => if dep S j = d then some j else lastD S d j
def parN (S : St) (i : Nat) : Option Nat := lastD S (dep S i - 1) i
def parO (S : St) (s : Sl) : Option Sl := if hasB S s then (parN S (pl S s)).map (slt S) else none
def parS (S : St) (s : Sl) : Sl := (parO S s).getD no
def parB (S : St) (s : Sl) : Bool := (parO S s).isSome
def rootE (S : St) (s : Sl) : Int := if hasB S s then 70 else 0
def rootS (S : St) (s : Sl) : St := if hasB S s then S else S ++ [⟨s, 0⟩]
def putN (S : St) (i : Nat) (e : En) : St := S.take i ++ e :: S.drop i
def addE (S : St) (p s : Sl) : Int := if hasB S p then if hasB S s then 70 else 0 else 71
def addS (S : St) (p s : Sl) : St := if hasB S p ∧ ¬ hasB S s then putN S (pl S p + 1) ⟨s, dep S (pl S p) + 1⟩ else S
def less (e : En) : En := ⟨e.s, e.d - 1⟩
def lessN (S : St) (i k : Nat) : St := S.take (i + 1) ++ ((S.drop (i + 1)).take k).map less ++ S.drop (i + 1 + k)
def takeN (S : St) (i : Nat) : St := (lessN S i (underN S i).length).eraseIdx i
def takeE (S : St) (s : Sl) : Int := if hasB S s then 0 else 71
def takeS (S : St) (s : Sl) : St := if hasB S s then takeN S (pl S s) else S
def moveE (S : St) (a b : Sl) : Int := if hasB S a then if hasB S b then 70 else 0 else 71
def moveS (S : St) (a b : Sl) : St := if hasB S a ∧ ¬ hasB S b then S.set (pl S a) ⟨b, dep S (pl S a)⟩ else S

/-! ### Places -/
theorem atE_some {S : St} {i : Nat} (h : i < S.length) : S[i]? = some (atE S i) := by
  unfold atE
  rw [List.getD_eq_getElem?_getD, List.getElem?_eq_getElem h]
  rfl
theorem atE_of {S : St} {i : Nat} {e : En} (h : S[i]? = some e) : atE S i = e := by
  unfold atE
  rw [List.getD_eq_getElem?_getD, h]
  rfl
theorem st_ext {S T : St} (hl : S.length = T.length) (h : ∀ i, i < S.length → atE S i = atE T i) : S = T := by
  apply List.ext_getElem? fun i => ?_
  by_cases hi : i < S.length
  · rw [atE_some hi, atE_some (by omega), h i hi]
  · rw [List.getElem?_eq_none (by omega), List.getElem?_eq_none (by omega)]
theorem pl_le (S : St) (s : Sl) : pl S s ≤ S.length := List.findIdx_le_length
theorem hasB_iff (S : St) (s : Sl) : hasB S s = true ↔ ∃ i, i < S.length ∧ slt S i = s := by
  unfold hasB pl
  rw [decide_eq_true_eq, List.findIdx_lt_length]
  constructor
  · rintro ⟨e, he, hp⟩
    obtain ⟨i, hi, h⟩ := List.mem_iff_getElem.1 he
    refine ⟨i, hi, ?_⟩
    have : atE S i = e := atE_of (by rw [List.getElem?_eq_getElem hi, h])
    unfold slt
    rw [this]
    simpa [isP] using hp
  · rintro ⟨i, hi, h⟩
    exact ⟨atE S i, List.mem_of_getElem? (atE_some hi), decide_eq_true h⟩
theorem mem_all (S : St) (s : Sl) : s ∈ allS S ↔ hasB S s = true := by
  rw [hasB_iff]
  unfold allS
  rw [List.mem_map]
  constructor
  · rintro ⟨e, he, rfl⟩
    obtain ⟨i, hi, h⟩ := List.mem_iff_getElem.1 he
    exact ⟨i, hi, by unfold slt; rw [atE_of (by rw [List.getElem?_eq_getElem hi, h])]⟩
  · rintro ⟨i, hi, h⟩
    exact ⟨atE S i, List.mem_of_getElem? (atE_some hi), h⟩
theorem pl_slt {S : St} {s : Sl} (h : hasB S s = true) : pl S s < S.length ∧ slt S (pl S s) = s := by
  have hl : pl S s < S.length := by simpa [hasB] using h
  refine ⟨hl, ?_⟩
  have := List.findIdx_getElem (xs := S) (p := isP s) (w := hl)
  have e : atE S (pl S s) = S[pl S s] := atE_of (List.getElem?_eq_getElem hl)
  unfold slt
  rw [e]
  exact of_decide_eq_true this
/-- A slot's place is a way to say that no one ahead is it. -/
theorem pl_of {S : St} {s : Sl} {k : Nat} (hk : k ≤ S.length) (ha : ∀ j, j < k → slt S j ≠ s) (h : k = S.length ∨ slt S k = s) : pl S s = k := by
  rcases Nat.lt_trichotomy (pl S s) k with hl | he | hg
  · have hs := pl_slt (S := S) (s := s) (by simp [hasB]; omega)
    exact absurd hs.2 (ha _ hl)
  · exact he
  · rcases h with rfl | h
    · have := pl_le S s
      omega
    · have hkl : k < S.length := by have := pl_le S s; omega
      have := List.not_of_lt_findIdx (xs := S) (p := isP s) (i := k) hg
      have e : atE S k = S[k] := atE_of (List.getElem?_eq_getElem hkl)
      unfold slt at h
      rw [e] at h
      simp [isP, h] at this

/-! ### Good trees -/
structure Good (S : St) : Prop where
  one : ∀ i j, i < S.length → j < S.length → slt S i = slt S j → i = j
  pos : ∀ i, i < S.length → 0 ≤ dep S i
  first : 0 < S.length → dep S 0 = 0
  next : ∀ i, i + 1 < S.length → dep S (i + 1) ≤ dep S i + 1
theorem Good.pl {S : St} (h : Good S) {i : Nat} (hi : i < S.length) : pl S (slt S i) = i :=
  pl_of (by omega) (fun j hj e => by have := h.one j i (by omega) hi e; omega) (.inr rfl)
theorem Good.has {S : St} (_h : Good S) {i : Nat} (hi : i < S.length) : hasB S (slt S i) = true := (hasB_iff S _).2 ⟨i, hi, rfl⟩
theorem Good.le {S : St} (h : Good S) : ∀ i, i < S.length → dep S i ≤ i
  | 0, hi => by rw [h.first hi]; exact Int.le_refl _
  | i + 1, hi => by
    have := h.le i (by omega)
    have := h.next i hi
    omega
theorem good_nil : Good [] := ⟨fun i j hi => by simp at hi, fun i hi => by simp at hi, fun hi => by simp at hi, fun i hi => by simp at hi⟩

/-! ### What is under -/
theorem endN_le {S : St} {i : Nat} (hi : i < S.length) : endN S i ≤ S.length ∧ i < endN S i := by
  unfold endN
  have : (S.drop (i + 1)).findIdx (isE (dep S i)) ≤ (S.drop (i + 1)).length := List.findIdx_le_length
  simp only [List.length_drop] at this
  omega
theorem atE_drop (S : St) (a j : Nat) : atE (S.drop a) j = atE S (a + j) := by
  unfold atE
  rw [List.getD_eq_getElem?_getD, List.getD_eq_getElem?_getD, List.getElem?_drop]
theorem endN_in {S : St} {i m : Nat} (_hi : i < S.length) (h1 : i < m) (h2 : m < endN S i) : dep S i < dep S m := by
  unfold endN at h2
  have h3 : m - (i + 1) < (S.drop (i + 1)).findIdx (isE (dep S i)) := by omega
  have := List.not_of_lt_findIdx h3
  have hl : m - (i + 1) < (S.drop (i + 1)).length := Nat.lt_of_lt_of_le h3 List.findIdx_le_length
  have e : atE (S.drop (i + 1)) (m - (i + 1)) = (S.drop (i + 1))[m - (i + 1)] := atE_of (List.getElem?_eq_getElem hl)
  rw [← e, atE_drop, show i + 1 + (m - (i + 1)) = m by omega] at this
  have h4 : ¬ (dep S m ≤ dep S i) := of_decide_eq_false this
  omega
theorem endN_at {S : St} {i : Nat} (_hi : i < S.length) (h : endN S i < S.length) : dep S (endN S i) ≤ dep S i := by
  have hl : (S.drop (i + 1)).findIdx (isE (dep S i)) < (S.drop (i + 1)).length := by
    unfold endN at h
    rw [List.length_drop]
    omega
  have := List.findIdx_getElem (xs := S.drop (i + 1)) (p := isE (dep S i)) (w := hl)
  have e : atE (S.drop (i + 1)) ((S.drop (i + 1)).findIdx (isE (dep S i))) = (S.drop (i + 1))[(S.drop (i + 1)).findIdx (isE (dep S i))] := atE_of (List.getElem?_eq_getElem hl)
  rw [← e, atE_drop] at this
  exact of_decide_eq_true this
theorem endN_of {S : St} {i k : Nat} (hi : i < S.length) (h1 : i < k) (hk : k ≤ S.length) (ha : ∀ m, i < m → m < k → dep S i < dep S m) (h : k = S.length ∨ dep S k ≤ dep S i) : endN S i = k := by
  have := endN_le hi
  rcases Nat.lt_trichotomy (endN S i) k with hl | he | hg
  · have h1 := endN_at hi (by omega)
    have h2 := ha _ this.2 hl
    omega
  · exact he
  · rcases h with rfl | h
    · omega
    · have := endN_in hi h1 hg
      omega
theorem underN_len {S : St} {i : Nat} (_hi : i < S.length) : (underN S i).length = endN S i - (i + 1) := by
  unfold underN endN
  have : (S.drop (i + 1)).findIdx (isE (dep S i)) ≤ (S.drop (i + 1)).length := List.findIdx_le_length
  rw [List.length_take]
  omega
theorem underN_eq (S : St) (i : Nat) : underN S i = (S.drop (i + 1)).take (endN S i - (i + 1)) := by
  unfold underN endN
  rw [show i + 1 + (S.drop (i + 1)).findIdx (isE (dep S i)) - (i + 1) = (S.drop (i + 1)).findIdx (isE (dep S i)) by omega]
theorem atE_take {S : St} {n j : Nat} (h : j < n) : atE (S.take n) j = atE S j := by
  unfold atE
  rw [List.getD_eq_getElem?_getD, List.getD_eq_getElem?_getD, List.getElem?_take, if_pos h]
theorem mem_under {S : St} (g : Good S) {i k : Nat} (hi : i < S.length) (hk : k < S.length) : slt S k ∈ allS (underN S i) ↔ i < k ∧ k < endN S i := by
  have he := endN_le hi
  rw [mem_all, hasB_iff, underN_len hi, underN_eq]
  constructor
  · rintro ⟨j, hj, h⟩
    unfold slt at h
    rw [atE_take hj, atE_drop] at h
    have := g.one (i + 1 + j) k (by omega) hk h
    omega
  · rintro ⟨h1, h2⟩
    refine ⟨k - (i + 1), by omega, ?_⟩
    unfold slt
    rw [atE_take (by omega), atE_drop]
    congr 2
    omega

/-! ### What a slot came of -/
theorem lastD_none {S : St} {d : Int} : ∀ {k : Nat}, lastD S d k = none ↔ ∀ m, m < k → dep S m ≠ d
  | 0 => by simp [lastD]
  | k + 1 => by
    unfold lastD
    split
    · rename_i h
      simp only [reduceCtorEq, false_iff]
      exact fun hh => hh k (by omega) h
    · rename_i h
      rw [lastD_none (k := k)]
      constructor
      · intro hh m hm
        by_cases e : m = k
        · rw [e]; exact h
        · exact hh m (by omega)
      · exact fun hh m hm => hh m (by omega)
theorem lastD_some {S : St} {d : Int} {j : Nat} : ∀ {k : Nat}, lastD S d k = some j ↔ j < k ∧ dep S j = d ∧ ∀ m, j < m → m < k → dep S m ≠ d
  | 0 => by simp [lastD]
  | k + 1 => by
    unfold lastD
    split
    · rename_i h
      constructor
      · intro e
        cases e
        exact ⟨by omega, h, fun m h1 h2 => by omega⟩
      · rintro ⟨h1, h2, h3⟩
        by_cases e : j = k
        · rw [e]
        · exact absurd h (h3 k (by omega) (by omega))
    · rename_i h
      rw [lastD_some (k := k)]
      constructor
      · rintro ⟨h1, h2, h3⟩
        refine ⟨by omega, h2, fun m h4 h5 => ?_⟩
        by_cases e : m = k
        · rw [e]; exact h
        · exact h3 m h4 (by omega)
      · rintro ⟨h1, h2, h3⟩
        have : j ≠ k := fun e => h (e ▸ h2)
        exact ⟨by omega, h2, fun m h4 h5 => h3 m h4 (by omega)⟩
/-- In a good tree the last one ahead that is less deep is one less deep. -/
theorem Good.down {S : St} (g : Good S) {d : Int} : ∀ {k : Nat}, k < S.length → d ≤ dep S k → 0 < d → ∃ j, j < k ∧ dep S j = d - 1 ∧ ∀ m, j < m → m ≤ k → d ≤ dep S m
  | 0, hk, h, hd => by
    have := g.first hk
    omega
  | k + 1, hk, h, hd => by
    have hn := g.next k hk
    by_cases e : d ≤ dep S k
    · obtain ⟨j, h1, h2, h3⟩ := g.down (k := k) (by omega) e hd
      refine ⟨j, by omega, h2, fun m h4 h5 => ?_⟩
      by_cases em : m = k + 1
      · rw [em]; exact h
      · exact h3 m h4 (by omega)
    · refine ⟨k, by omega, by omega, fun m h4 h5 => ?_⟩
      have : m = k + 1 := by omega
      rw [this]; exact h
theorem par_some {S : St} (g : Good S) {i j : Nat} (hi : i < S.length) : parN S i = some j ↔ j < i ∧ dep S j = dep S i - 1 ∧ ∀ m, j < m → m < i → dep S i ≤ dep S m := by
  unfold parN
  rw [lastD_some]
  constructor
  · rintro ⟨h1, h2, h3⟩
    refine ⟨h1, h2, fun m h4 h5 => ?_⟩
    have hp : 0 < dep S i := by have := g.pos j (by omega); omega
    obtain ⟨j', k1, k2, k3⟩ := g.down hi (Int.le_refl _) hp
    have : j' = j := by
      rcases Nat.lt_trichotomy j' j with h | h | h
      · have := k3 j h (by omega)
        omega
      · exact h
      · exact absurd k2 (h3 j' h k1)
    rw [this] at k3
    exact k3 m h4 (by omega)
  · rintro ⟨h1, h2, h3⟩
    exact ⟨h1, h2, fun m h4 h5 => by have := h3 m h4 h5; omega⟩
theorem par_none {S : St} (g : Good S) {i : Nat} (hi : i < S.length) : parN S i = none ↔ dep S i = 0 := by
  unfold parN
  rw [lastD_none]
  have hp := g.pos i hi
  constructor
  · intro h
    by_cases e : dep S i = 0
    · exact e
    · obtain ⟨j, k1, k2, _⟩ := g.down hi (Int.le_refl _) (by omega)
      exact absurd k2 (h j k1)
  · intro h m hm
    have := g.pos m (by omega)
    omega
/-- A slot is under another one just if it came of it, or of one that is. -/
theorem under_par {S : St} (g : Good S) {i k : Nat} (hi : i < S.length) (hk : k < S.length) : (i < k ∧ k < endN S i) ↔ ∃ j, parN S k = some j ∧ (j = i ∨ (i < j ∧ j < endN S i)) := by
  have he := endN_le hi
  have hp := g.pos i hi
  constructor
  · rintro ⟨h1, h2⟩
    have hd := endN_in hi h1 h2
    cases hj : parN S k with
    | none =>
      have := (par_none g hk).1 hj
      omega
    | some j =>
      refine ⟨j, rfl, ?_⟩
      obtain ⟨k1, k2, k3⟩ := (par_some g hk).1 hj
      by_cases e : j < i
      · have := k3 i e h1
        omega
      · omega
  · rintro ⟨j, hj, h⟩
    obtain ⟨k1, k2, k3⟩ := (par_some g hk).1 hj
    have key : ∀ m, i < m → m ≤ k → dep S i < dep S m := by
      intro m h1 h2
      have hji : dep S i < dep S k := by
        rcases h with rfl | ⟨h3, h4⟩
        · omega
        · have := endN_in hi h3 h4
          omega
      by_cases e : m = k
      · rw [e]; exact hji
      · rcases Nat.lt_trichotomy m j with hl | he' | hg
        · rcases h with rfl | ⟨h3, h4⟩
          · omega
          · exact endN_in hi h1 (by omega)
        · rcases h with rfl | ⟨h3, h4⟩
          · omega
          · rw [he']; exact endN_in hi h3 h4
        · have := k3 m hg (by omega)
          omega
    refine ⟨by omega, ?_⟩
    by_cases e : k < endN S i
    · exact e
    · have h1 := endN_at hi (by omega)
      have h2 := key (endN S i) he.2 (by omega)
      omega
end Go.Proofs.Ythfoeppcageneaa
