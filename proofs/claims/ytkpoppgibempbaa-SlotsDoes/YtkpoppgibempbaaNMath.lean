/-
  Nodes of slots as a list of lists of capabilities, without the program: what a slot has, what each call answers and leaves, what is held, in order; plain facts on them; no condition of ours.
-/
import Derived.Test.YtkpoppgibempbaaCMath
namespace Go.Proofs.Ytkpoppgibempbaa
set_option linter.unusedSectionVars false
variable [dCp : DecidableEq Cp] [dLim : ∀ k, Decidable (Lim k)] [dBad : ∀ k, Decidable (Bad k)] [dFit : ∀ g z, Decidable (Fit g z)] [dFine : ∀ c, Decidable (Fine c)] [dMint : ∀ c v, Decidable (MintR c v)] [dWho : ∀ x y, Decidable (Whose x y)]

structure Sl where
  n : Int
  i : Int
abbrev decSl : DecidableEq Sl := fun a b =>
  if h : a.n = b.n ∧ a.i = b.i then .isTrue (by obtain ⟨h1, h2⟩ := h; cases a; cases b; simp only at h1 h2; subst h1 h2; rfl) else .isFalse fun e => h (by rw [e]; exact ⟨rfl, rfl⟩)
variable [dSl : DecidableEq Sl]
/-- Nodes: each node's slots; one that is gone has none. -/
abbrev St := List (List Cp)
/-- What a slot has; none, if it is not there. -/
def atS (S : St) (s : Sl) : Option Cp := if 0 ≤ s.n ∧ 0 ≤ s.i then (S.getD s.n.toNat [])[s.i.toNat]? else none
/-- What a slot that is not free has. -/
def holdS (S : St) (s : Sl) : Option Cp := match atS S s with
  | some c => if c.k = 0 then none else some c
  | none => none
def setS (S : St) (s : Sl) (c : Cp) : St := S.set s.n.toNat ((S.getD s.n.toNat []).set s.i.toNat c)

/-! ### What is held, in order -/
def heldRow (n : Nat) : Nat → List Cp → List (Sl × Cp)
  | _, [] => []
  | i, c :: l => if c.k = 0 then heldRow n (i + 1) l else (⟨n, i⟩, c) :: heldRow n (i + 1) l
def heldFrom : Nat → St → List (Sl × Cp)
  | _, [] => []
  | n, l :: S => heldRow n 0 l ++ heldFrom (n + 1) S
def held (S : St) : List (Sl × Cp) := heldFrom 0 S
def ltS (a b : Sl) : Prop := a.n < b.n ∨ (a.n = b.n ∧ a.i < b.i)
abbrev decLt (a b : Sl) : Decidable (ltS a b) := by unfold ltS; exact inferInstance
variable [dLt : ∀ a b, Decidable (ltS a b)]
theorem ltS_irrefl (a : Sl) : ¬ ltS a a := by unfold ltS; omega
theorem ltS_trans {a b c : Sl} (h : ltS a b) (k : ltS b c) : ltS a c := by unfold ltS at *; omega
theorem ltS_total {a b : Sl} (h : ¬ ltS a b) (k : ¬ ltS b a) : a = b := by
  obtain ⟨n, i⟩ := a
  obtain ⟨m, j⟩ := b
  unfold ltS at *
  simp only at *
  simp only [Sl.mk.injEq]
  omega

theorem mem_row (n : Nat) (s : Sl) (c : Cp) : ∀ (l : List Cp) (i : Nat), (s, c) ∈ heldRow n i l ↔ ∃ j, l[j]? = some c ∧ c.k ≠ 0 ∧ s = ⟨n, ((i + j : Nat) : Int)⟩
  | [], i => by simp [heldRow]
  | d :: l, i => by
    have ih := mem_row n s c l (i + 1)
    unfold heldRow
    have cut : (∃ j, (d :: l)[j]? = some c ∧ c.k ≠ 0 ∧ s = ⟨n, ((i + j : Nat) : Int)⟩) ↔ (d = c ∧ c.k ≠ 0 ∧ s = ⟨n, (i : Int)⟩) ∨ ∃ j, l[j]? = some c ∧ c.k ≠ 0 ∧ s = ⟨n, ((i + 1 + j : Nat) : Int)⟩ := by
      constructor
      · rintro ⟨j, h1, h2, h3⟩
        cases j with
        | zero => exact .inl ⟨by simpa using h1, h2, by simpa using h3⟩
        | succ j => exact .inr ⟨j, by simpa using h1, h2, by rw [h3]; congr 1; omega⟩
      · rintro (⟨h1, h2, h3⟩ | ⟨j, h1, h2, h3⟩)
        · exact ⟨0, by simpa using h1, h2, by simpa using h3⟩
        · exact ⟨j + 1, by simpa using h1, h2, by rw [h3]; congr 1; omega⟩
    rw [cut, ← ih]
    split
    · rename_i h0
      constructor
      · exact .inr
      · rintro (⟨rfl, h2, _⟩ | h)
        · exact absurd h0 h2
        · exact h
    · rename_i h0
      simp only [List.mem_cons, Prod.mk.injEq]
      constructor
      · rintro (⟨h1, h2⟩ | h)
        · exact .inl ⟨h2.symm, h2 ▸ h0, h1⟩
        · exact .inr h
      · rintro (⟨h1, h2, h3⟩ | h)
        · exact .inl ⟨h3, h1.symm⟩
        · exact .inr h
theorem mem_from (s : Sl) (c : Cp) : ∀ (S : St) (n : Nat), (s, c) ∈ heldFrom n S ↔ ∃ m, (s, c) ∈ heldRow (n + m) 0 (S.getD m [])
  | [], n => by simp [heldFrom, heldRow]
  | l :: S, n => by
    have ih := mem_from s c S (n + 1)
    unfold heldFrom
    rw [List.mem_append, ih]
    constructor
    · rintro (h | ⟨m, h⟩)
      · exact ⟨0, by simpa using h⟩
      · exact ⟨m + 1, by simpa [Nat.add_assoc, Nat.add_comm 1 m] using h⟩
    · rintro ⟨m, h⟩
      cases m with
      | zero => exact .inl (by simpa using h)
      | succ m => exact .inr ⟨m, by simpa [Nat.add_assoc, Nat.add_comm 1 m] using h⟩
theorem mem_held (S : St) (s : Sl) (c : Cp) : (s, c) ∈ held S ↔ holdS S s = some c := by
  unfold held
  rw [mem_from]
  simp only [mem_row, Nat.zero_add]
  unfold holdS atS
  constructor
  · rintro ⟨m, j, h1, h2, rfl⟩
    have : (0 : Int) ≤ (m : Int) ∧ (0 : Int) ≤ (j : Int) := by omega
    simp only [this, and_self, if_true, Int.toNat_natCast, h1, h2, if_false]
  · intro h
    split at h
    · rename_i d hd
      split at hd
      · rename_i hp
        split at h
        · cases h
        · rename_i hk
          cases h
          refine ⟨s.n.toNat, s.i.toNat, hd, hk, ?_⟩
          obtain ⟨n, i⟩ := s
          simp only at *
          rw [Int.toNat_of_nonneg hp.1, Int.toNat_of_nonneg hp.2]
      · cases hd
    · cases h
theorem row_sorted (n : Nat) : ∀ (l : List Cp) (i : Nat), (heldRow n i l).Pairwise (fun p q => ltS p.1 q.1) ∧ ∀ p ∈ heldRow n i l, p.1.n = n ∧ (i : Int) ≤ p.1.i
  | [], i => by simp [heldRow]
  | d :: l, i => by
    obtain ⟨h1, h2⟩ := row_sorted n l (i + 1)
    unfold heldRow
    split
    · exact ⟨h1, fun p hp => ⟨(h2 p hp).1, by have := (h2 p hp).2; omega⟩⟩
    · refine ⟨List.pairwise_cons.2 ⟨fun q hq => ?_, h1⟩, fun p hp => ?_⟩
      · have := h2 q hq
        unfold ltS
        simp only
        omega
      · rcases List.mem_cons.1 hp with rfl | hp
        · simp
        · have := h2 p hp
          omega
theorem from_sorted : ∀ (S : St) (n : Nat), (heldFrom n S).Pairwise (fun p q => ltS p.1 q.1) ∧ ∀ p ∈ heldFrom n S, (n : Int) ≤ p.1.n
  | [], n => by simp [heldFrom]
  | l :: S, n => by
    obtain ⟨h1, h2⟩ := from_sorted S (n + 1)
    obtain ⟨h3, h4⟩ := row_sorted n l 0
    unfold heldFrom
    refine ⟨List.pairwise_append.2 ⟨h3, h1, fun p hp q hq => ?_⟩, fun p hp => ?_⟩
    · have a := (h4 p hp).1
      have b := h2 q hq
      unfold ltS
      omega
    · rcases List.mem_append.1 hp with hp | hp
      · have := (h4 p hp).1
        omega
      · have := h2 p hp
        omega
theorem held_sorted (S : St) : (held S).Pairwise (fun p q => ltS p.1 q.1) := (from_sorted S 0).1
/-- Two lists in order with the same members are one. -/
theorem sorted_eq : ∀ (A B : List (Sl × Cp)), A.Pairwise (fun p q => ltS p.1 q.1) → B.Pairwise (fun p q => ltS p.1 q.1) → (∀ p, p ∈ A ↔ p ∈ B) → A = B
  | [], [], _, _, _ => rfl
  | [], b :: B, _, _, h => by have := (h b).2 (by simp); simp at this
  | a :: A, [], _, _, h => by have := (h a).1 (by simp); simp at this
  | a :: A, b :: B, hA, hB, h => by
    obtain ⟨a1, a2⟩ := List.pairwise_cons.1 hA
    obtain ⟨b1, b2⟩ := List.pairwise_cons.1 hB
    have e : a = b := by
      rcases List.mem_cons.1 ((h a).1 (by simp)) with e | ha
      · exact e
      · rcases List.mem_cons.1 ((h b).2 (by simp)) with e | hb
        · exact e.symm
        · exact absurd (ltS_trans (b1 a ha) (a1 b hb)) (ltS_irrefl _)
    subst e
    rw [sorted_eq A B a2 b2 fun p => ?_]
    constructor
    · intro hp
      rcases List.mem_cons.1 ((h p).1 (by simp [hp])) with rfl | hp'
      · exact absurd (a1 p hp) (ltS_irrefl _)
      · exact hp'
    · intro hp
      rcases List.mem_cons.1 ((h p).2 (by simp [hp])) with rfl | hp'
      · exact absurd (b1 p hp) (ltS_irrefl _)
      · exact hp'
/-- As many as are in no greater list. -/
theorem len_le {α : Type} [DecidableEq α] : ∀ (A B : List α), A.Pairwise (· ≠ ·) → (∀ p ∈ A, p ∈ B) → A.length ≤ B.length
  | [], _, _, _ => by simp
  | a :: A, B, hA, h => by
    obtain ⟨a1, a2⟩ := List.pairwise_cons.1 hA
    have hm : a ∈ B := h a (by simp)
    have := len_le A (B.erase a) a2 fun p hp => (List.mem_erase_of_ne fun e => a1 p hp e.symm).2 (h p (by simp [hp]))
    have e := List.length_erase_of_mem hm
    have : 0 < B.length := List.length_pos_of_mem hm
    simp only [List.length_cons]
    omega

/-! ### Slots that are there -/
/-- As many slots as nodes may have; each with what may be in one. -/
structure Okay (S : St) : Prop where
  len : S.length ≤ 64
  row : ∀ l ∈ S, l = [] ∨ ∃ b : Nat, 1 ≤ b ∧ b ≤ 8 ∧ l.length = 2 ^ b
  cap : ∀ l ∈ S, ∀ c ∈ l, c.Fits ∧ (c.k = 0 → c = no)
theorem getD_set (S : St) (n m : Nat) (x : List Cp) : (S.set n x).getD m [] = if m = n ∧ n < S.length then x else S.getD m [] := by
  simp only [List.getD_eq_getElem?_getD, List.getElem?_set]
  by_cases h : n = m
  · subst h
    by_cases h2 : n < S.length
    · simp [h2]
    · simp [h2]
  · have : ¬ m = n := fun e => h e.symm
    simp [h, this]
theorem atS_mem {S : St} {s : Sl} {c : Cp} (h : atS S s = some c) : 0 ≤ s.n ∧ 0 ≤ s.i ∧ s.n.toNat < S.length ∧ S.getD s.n.toNat [] ∈ S ∧ (S.getD s.n.toNat [])[s.i.toNat]? = some c ∧ s.i.toNat < (S.getD s.n.toNat []).length := by
  unfold atS at h
  split at h
  · rename_i hp
    have hl : s.n.toNat < S.length := by
      refine Decidable.byContradiction fun hn => ?_
      have e : S.getD s.n.toNat [] = [] := by rw [List.getD_eq_getElem?_getD, List.getElem?_eq_none (by omega)]; rfl
      rw [e] at h
      simp at h
    have hm : S.getD s.n.toNat [] ∈ S := by
      rw [List.getD_eq_getElem?_getD, List.getElem?_eq_getElem hl]
      exact List.getElem_mem hl
    exact ⟨hp.1, hp.2, hl, hm, h, (List.getElem?_eq_some_iff.1 h).1⟩
  · cases h
theorem Okay.at {S : St} (h : Okay S) {s : Sl} {c : Cp} (hs : atS S s = some c) : c.Fits ∧ (c.k = 0 → c = no) := by
  obtain ⟨_, _, _, hm, hc, _⟩ := atS_mem hs
  exact h.cap _ hm _ (List.mem_of_getElem? hc)
theorem atS_set {S : St} {s : Sl} {d : Cp} (hs : atS S s = some d) (c : Cp) (t : Sl) : atS (setS S s c) t = if t = s then some c else atS S t := by
  obtain ⟨h1, h2, h3, _, _, h4⟩ := atS_mem hs
  unfold atS setS
  rw [getD_set]
  by_cases hp : 0 ≤ t.n ∧ 0 ≤ t.i
  · simp only [hp, and_self, if_true]
    by_cases hn : t.n.toNat = s.n.toNat
    · simp only [hn, h3, and_self, if_true, List.getElem?_set]
      by_cases hi : s.i.toNat = t.i.toNat
      · have e : t = s := by
          obtain ⟨a, b⟩ := t
          obtain ⟨a', b'⟩ := s
          simp only [Sl.mk.injEq] at *
          omega
        subst e
        simp only [h4, if_true]
      · have e : ¬ t = s := fun e => hi (by rw [e])
        simp only [hi, e, if_false]
    · have e : ¬ t = s := fun e => hn (by rw [e])
      simp only [hn, e, false_and, if_false]
  · have e : ¬ t = s := fun e => hp (by rw [e]; exact ⟨h1, h2⟩)
    simp only [hp, e, if_false]
theorem holdS_set {S : St} {s : Sl} {d : Cp} (hs : atS S s = some d) (c : Cp) (t : Sl) : holdS (setS S s c) t = if t = s then (if c.k = 0 then none else some c) else holdS S t := by
  unfold holdS
  rw [atS_set hs]
  by_cases e : t = s
  · simp [e]
  · simp [e]
theorem setS_len (S : St) (s : Sl) (c : Cp) : (setS S s c).length = S.length := by simp [setS]
theorem row_mem {S : St} {s : Sl} {c : Cp} {l : List Cp} (hl : l ∈ setS S s c) : l ∈ S ∨ l = (S.getD s.n.toNat []).set s.i.toNat c := by
  unfold setS at hl
  exact List.mem_or_eq_of_mem_set hl
theorem Okay.set {S : St} (h : Okay S) {s : Sl} {d : Cp} (hs : atS S s = some d) {c : Cp} (hc : c.Fits) (h0 : c.k = 0 → c = no) : Okay (setS S s c) := by
  obtain ⟨_, _, _, hm, _, _⟩ := atS_mem hs
  refine ⟨by rw [setS_len]; exact h.len, fun l hl => ?_, fun l hl x hx => ?_⟩
  · rcases row_mem hl with hl | rfl
    · exact h.row l hl
    · rcases h.row _ hm with e | ⟨b, b1, b2, e⟩
      · exact .inl (by rw [e]; rfl)
      · exact .inr ⟨b, b1, b2, by rw [List.length_set]; exact e⟩
  · rcases row_mem hl with hl | rfl
    · exact h.cap l hl x hx
    · rcases List.mem_or_eq_of_mem_set hx with hx | rfl
      · exact h.cap _ hm x hx
      · exact ⟨hc, h0⟩
theorem no_fits : no.Fits := by constructor <;> decide

/-! ### How many are held -/
def one (c : Cp) : Nat := if c.k = 0 then 0 else 1
theorem row_len (n : Nat) : ∀ (l : List Cp) (i : Nat), (heldRow n i l).length = (l.map one).sum
  | [], i => by simp [heldRow]
  | d :: l, i => by
    unfold heldRow one
    have := row_len n l (i + 1)
    unfold one at this
    split <;> simp_all <;> omega
theorem from_len : ∀ (S : St) (n : Nat), (heldFrom n S).length = (S.map fun l => (l.map one).sum).sum
  | [], n => by simp [heldFrom]
  | l :: S, n => by
    unfold heldFrom
    simp [row_len, from_len S (n + 1)]
theorem sum_set (f : List Cp → Nat) (x : List Cp) : ∀ (S : St) (n : Nat), n < S.length → ((S.set n x).map f).sum + f (S.getD n []) = (S.map f).sum + f x
  | [], n, h => by simp at h
  | l :: S, 0, _ => by simp; omega
  | l :: S, n + 1, h => by
    have := sum_set f x S n (by simpa using h)
    simp at this ⊢
    omega
theorem sum_set1 (f : Cp → Nat) (x : Cp) : ∀ (l : List Cp) (i : Nat) (d : Cp), l[i]? = some d → ((l.set i x).map f).sum + f d = (l.map f).sum + f x
  | [], i, d, h => by simp at h
  | c :: l, 0, d, h => by
    simp at h
    subst h
    simp
    omega
  | c :: l, i + 1, d, h => by
    have := sum_set1 f x l i d (by simpa using h)
    simp at this ⊢
    omega
theorem held_set {S : St} {s : Sl} {d : Cp} (hs : atS S s = some d) (c : Cp) : (held (setS S s c)).length + one d = (held S).length + one c := by
  obtain ⟨_, _, h3, _, h5, _⟩ := atS_mem hs
  unfold held setS
  rw [from_len, from_len]
  have a := sum_set (fun l => (l.map one).sum) ((S.getD s.n.toNat []).set s.i.toNat c) S s.n.toNat h3
  have b := sum_set1 one c (S.getD s.n.toNat []) s.i.toNat d h5
  omega
theorem sum_le (f : List Cp → Nat) : ∀ (S : St), (∀ l ∈ S, f l ≤ 256) → (S.map f).sum ≤ S.length * 256
  | [], _ => by simp
  | l :: S, h => by
    have := sum_le f S fun m hm => h m (by simp [hm])
    have := h l (by simp)
    simp
    omega
theorem one_le : ∀ l : List Cp, (l.map one).sum ≤ l.length
  | [] => by simp
  | c :: l => by
    have := one_le l
    have : one c ≤ 1 := by unfold one; split <;> omega
    simp
    omega
theorem row_256 {S : St} (h : Okay S) {l : List Cp} (hl : l ∈ S) : l.length ≤ 256 := by
  rcases h.row l hl with rfl | ⟨b, _, b2, e⟩
  · simp
  · rw [e]
    have : 2 ^ b ≤ 2 ^ 8 := Nat.pow_le_pow_right (by omega) b2
    omega
theorem held_le {S : St} (h : Okay S) : (held S).length ≤ 16384 := by
  unfold held
  rw [from_len]
  have := sum_le (fun l => (l.map one).sum) S fun l hl => Nat.le_trans (one_le l) (row_256 h hl)
  have := h.len
  omega

/-! ### The calls -/
def makeE (S : St) (bits : Int) : Int := if 1 ≤ bits ∧ bits ≤ 8 then if S.length < 64 then 0 else 2 else 1
def makeN (S : St) (bits : Int) : Int := if makeE S bits = 0 then S.length else 0
def makeS (S : St) (bits : Int) : St := if makeE S bits = 0 then S ++ [List.replicate (2 ^ bits.toNat) no] else S
/-- A node's slots; none, if it is not there. -/
def nodeS (S : St) (n : Int) : List Cp := if 0 ≤ n then S.getD n.toNat [] else []
def bitsL (l : List Cp) : Nat := Nat.log2 l.length
def sizeN (S : St) (n : Int) : Int := if nodeS S n = [] then 0 else bitsL (nodeS S n)
def sizeB (S : St) (n : Int) : Bool := !(nodeS S n).isEmpty
def dropE (S : St) (n : Int) : Int := if nodeS S n = [] then 50 else if ∃ c ∈ nodeS S n, c.k ≠ 0 then 51 else 0
def dropS (S : St) (n : Int) : St := if dropE S n = 0 then S.set n.toNat [] else S
def getC (S : St) (s : Sl) : Cp := (atS S s).getD no
def getE (S : St) (s : Sl) : Int := if (atS S s).isSome then 0 else 50
def putE (S : St) (s : Sl) (c : Cp) : Int := match atS S s with
  | none => 50
  | some d => if Fine c then if c.k = 0 then 1 else if d.k = 0 then 0 else 51 else 40
def putS (S : St) (s : Sl) (c : Cp) : St := if putE S s c = 0 then setS S s c else S
def takeE (S : St) (s : Sl) : Int := match atS S s with
  | none => 50
  | some d => if d.k = 0 then 52 else 0
def takeC (S : St) (s : Sl) : Cp := if takeE S s = 0 then getC S s else no
def takeS (S : St) (s : Sl) : St := if takeE S s = 0 then setS S s no else S
def moveE (S : St) (s t : Sl) : Int := match atS S s, atS S t with
  | some c, some d => if c.k = 0 then 52 else if d.k = 0 then 0 else 51
  | _, _ => 50
def moveS (S : St) (s t : Sl) : St := if moveE S s t = 0 then setS (setS S t (getC S s)) s no else S
def swapE (S : St) (s t : Sl) : Int := if (atS S s).isSome ∧ (atS S t).isSome then 0 else 50
def swapS (S : St) (s t : Sl) : St := if swapE S s t = 0 then setS (setS S s (getC S t)) t (getC S s) else S
end Go.Proofs.Ytkpoppgibempbaa
