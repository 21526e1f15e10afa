/-
  Addresses and the slots that they name, the addresses of ways through slots, nodes that are laid by two lists: without the program; no condition of ours.
-/
import Derived.Test.YtafjgoelofobmaaNMath
namespace Go.Proofs.Ytafjgoelofobmaa
set_option linter.unusedSectionVars false
variable [dCp : DecidableEq Cp] [dLim : ∀ k, Decidable (Lim k)] [dBad : ∀ k, Decidable (Bad k)] [dFit : ∀ g z, Decidable (Fit g z)] [dFine : ∀ c, Decidable (Fine c)] [dMint : ∀ c v, Decidable (MintR c v)] [dWho : ∀ x y, Decidable (Whose x y)] [dSl : DecidableEq Sl] [dLt : ∀ a b, Decidable (ltS a b)]

/-! ### What an address names -/
/-- It is to a node that is there. -/
def isN (S : St) (c : Cp) : Prop := c.k = 2 ∧ Fine c ∧ nodeS S c.o ≠ []
abbrev decIsN (S : St) (c : Cp) : Decidable (isN S c) := by
  unfold isN
  have h1 := decFine c
  exact inferInstance
variable [dIsN : ∀ S c, Decidable (isN S c)]
def bitsN (S : St) (c : Cp) : Nat := bitsL (nodeS S c.o)
def sl0 : Sl := ⟨0, 0⟩
/-- How many bits are left behind a node. -/
def restN (S : St) (c : Cp) (d : Nat) : Nat := d - c.z.toNat - bitsN S c
def slotN (S : St) (a : Nat) (c : Cp) (d : Nat) : Sl := ⟨c.o, ((fieldN a (restN S c d) (bitsN S c) : Nat) : Int)⟩
def GuardN (a : Nat) (c : Cp) (d : Nat) : Prop := c.z.toNat ≤ d ∧ ((fieldN a (d - c.z.toNat) c.z.toNat : Nat) : Int) = c.g
abbrev decGuN (a : Nat) (c : Cp) (d : Nat) : Decidable (GuardN a c d) := by unfold GuardN; exact inferInstance
variable [dGuN : ∀ a c d, Decidable (GuardN a c d)]
def nameE (S : St) (a : Nat) (c : Cp) (d : Nat) : Int := if isN S c then if GuardN a c d then if bitsN S c ≤ d - c.z.toNat then 0 else 62 else 61 else 60
def nameS (S : St) (a : Nat) (c : Cp) (d : Nat) : Sl := if nameE S a c d = 0 then slotN S a c d else sl0
def look (S : St) (a : Nat) : Nat → Cp → Nat → Sl × Int
  | 0, _, _ => (sl0, 62)
  | f + 1, c, d =>
    if nameE S a c d = 0 then
      if restN S c d = 0 then (slotN S a c d, 0)
      else if (getC S (slotN S a c d)).k = 2 then look S a f (getC S (slotN S a c d)) (restN S c d)
      else (sl0, 62)
    else (sl0, nameE S a c d)
/-- The slot that an address names, or what is wrong. -/
def slotR (S : St) (c : Cp) (a d : Int) : Sl × Int := if 1 ≤ d ∧ d ≤ 64 then look S a.toNat 65 c d.toNat else (sl0, 1)
def capR (S : St) (c : Cp) (a d : Int) : Cp × Int := if (slotR S c a d).2 = 0 then (getC S (slotR S c a d).1, getE S (slotR S c a d).1) else (no, (slotR S c a d).2)

theorem name_zero {S : St} {a : Nat} {c : Cp} {d : Nat} : nameE S a c d = 0 ↔ isN S c ∧ GuardN a c d ∧ bitsN S c ≤ d - c.z.toNat := by
  unfold nameE
  by_cases h1 : isN S c
  · by_cases h2 : GuardN a c d
    · by_cases h3 : bitsN S c ≤ d - c.z.toNat <;> simp [h1, h2, h3]
    · simp [h1, h2]
  · simp [h1]
theorem look_err {S : St} {a : Nat} : ∀ (f : Nat) (c : Cp) (d : Nat), (look S a f c d).2 ≠ 0 → (look S a f c d).1 = sl0
  | 0, _, _, _ => rfl
  | f + 1, c, d, h => by
    unfold look at h ⊢
    by_cases h1 : nameE S a c d = 0
    · rw [if_pos h1] at h ⊢
      by_cases h2 : restN S c d = 0
      · rw [if_pos h2] at h
        exact absurd rfl h
      · rw [if_neg h2] at h ⊢
        by_cases h3 : (getC S (slotN S a c d)).k = 2
        · rw [if_pos h3] at h ⊢
          exact look_err f _ _ h
        · rw [if_neg h3]
    · rw [if_neg h1]
theorem slotR_err {S : St} {c : Cp} {a d : Int} (h : (slotR S c a d).2 ≠ 0) : (slotR S c a d).1 = sl0 := by
  unfold slotR at h ⊢
  split
  · rename_i hd
    rw [if_pos hd] at h
    exact look_err _ _ _ h
  · rfl
/-- A node's row: as many slots as its bits say. -/
theorem node_row {S : St} (ok : Okay S) {n : Int} (h : nodeS S n ≠ []) : 0 ≤ n ∧ n.toNat < S.length ∧ 1 ≤ bitsL (nodeS S n) ∧ bitsL (nodeS S n) ≤ 8 ∧ (nodeS S n).length = 2 ^ bitsL (nodeS S n) ∧ nodeS S n = S.getD n.toNat [] := by
  by_cases h0 : 0 ≤ n
  · have e : nodeS S n = S.getD n.toNat [] := by unfold nodeS; rw [if_pos h0]
    have hl : n.toNat < S.length := by
      refine Decidable.byContradiction fun hn => h ?_
      rw [e, List.getD_eq_getElem?_getD, List.getElem?_eq_none (by omega)]
      rfl
    have hm : S.getD n.toNat [] ∈ S := by
      rw [List.getD_eq_getElem?_getD, List.getElem?_eq_getElem hl]
      exact List.getElem_mem hl
    rcases ok.row _ hm with e2 | ⟨b, b1, b2, e2⟩
    · exact absurd (e.trans e2) h
    · have hb : bitsL (nodeS S n) = b := by unfold bitsL; rw [e, e2, Nat.log2_two_pow]
      exact ⟨h0, hl, by omega, by omega, by rw [hb, e]; exact e2, e⟩
  · exact absurd (by unfold nodeS; rw [if_neg h0]) h
theorem at_some {S : St} (ok : Okay S) {n : Int} (h : nodeS S n ≠ []) {i : Nat} (hi : i < 2 ^ bitsL (nodeS S n)) : (atS S ⟨n, (i : Int)⟩).isSome = true := by
  obtain ⟨h0, _, _, _, hl, e⟩ := node_row ok h
  unfold atS
  have : (0 : Int) ≤ n ∧ (0 : Int) ≤ (i : Int) := ⟨h0, by omega⟩
  simp only [this, and_self, if_true, Int.toNat_natCast]
  rw [← e, List.getElem?_eq_getElem (by omega)]
  rfl
theorem name_at {S : St} (ok : Okay S) {a : Nat} {c : Cp} {d : Nat} (h : nameE S a c d = 0) : (atS S (slotN S a c d)).isSome = true :=
  at_some ok (name_zero.1 h).1.2.2 (fieldN_lt _ _ _)
theorem rest_lt {S : St} (ok : Okay S) {a : Nat} {c : Cp} {d : Nat} (h : nameE S a c d = 0) : restN S c d < d := by
  obtain ⟨h1, h2, h3⟩ := name_zero.1 h
  have := (node_row ok h1.2.2).2.2.1
  have e : 1 ≤ bitsN S c := this
  unfold restN
  have := h2.1
  omega
theorem getC_fits {S : St} (ok : Okay S) (s : Sl) : (getC S s).Fits := by
  unfold getC
  cases h : atS S s with
  | none => exact no_fits
  | some c => exact (ok.at h).1
theorem look_at {S : St} (ok : Okay S) {a : Nat} : ∀ (f : Nat) (c : Cp) (d : Nat), (look S a f c d).2 = 0 → (atS S (look S a f c d).1).isSome = true
  | 0, _, _, h => by simp [look] at h
  | f + 1, c, d, h => by
    unfold look at h ⊢
    by_cases h1 : nameE S a c d = 0
    · rw [if_pos h1] at h ⊢
      by_cases h2 : restN S c d = 0
      · rw [if_pos h2]
        exact name_at ok h1
      · rw [if_neg h2] at h ⊢
        by_cases h3 : (getC S (slotN S a c d)).k = 2
        · rw [if_pos h3] at h ⊢
          exact look_at ok f _ _ h
        · rw [if_neg h3] at h
          cases h
    · rw [if_neg h1] at h
      exact absurd h h1
theorem slotR_at {S : St} (ok : Okay S) {c : Cp} {a d : Int} (h : (slotR S c a d).2 = 0) : (atS S (slotR S c a d).1).isSome = true := by
  unfold slotR at h ⊢
  split
  · rename_i hd
    rw [if_pos hd] at h
    exact look_at ok _ _ _ h
  · rename_i hd
    rw [if_neg hd] at h
    cases h
theorem slotR_root {S : St} {c : Cp} {a d : Int} (h : (slotR S c a d).2 = 0) : isN S c ∧ GuardN a.toNat c d.toNat := by
  unfold slotR at h
  split at h
  · unfold look at h
    split at h
    · rename_i h1
      exact ⟨(name_zero.1 h1).1, (name_zero.1 h1).2.1⟩
    · rename_i h1
      exact absurd h h1
  · cases h
theorem sl_fits {S : St} {s : Sl} (h : (atS S s).isSome = true) (ok : Okay S) : 0 ≤ s.n ∧ s.n < 64 ∧ 0 ≤ s.i ∧ s.i < 256 := by
  obtain ⟨c, hc⟩ := Option.isSome_iff_exists.1 h
  obtain ⟨h1, h2, h3, h4, _, h6⟩ := atS_mem hc
  have := ok.len
  have := row_256 ok h4
  omega
theorem slotR_small {S : St} (ok : Okay S) {c : Cp} {a d : Int} : 0 ≤ (slotR S c a d).1.n ∧ (slotR S c a d).1.n < 64 ∧ 0 ≤ (slotR S c a d).1.i ∧ (slotR S c a d).1.i < 256 := by
  by_cases h : (slotR S c a d).2 = 0
  · exact sl_fits (slotR_at ok h) ok
  · rw [slotR_err h]
    decide
theorem name_small {S : St} (ok : Okay S) {a : Nat} {c : Cp} {d : Nat} : 0 ≤ (nameS S a c d).n ∧ (nameS S a c d).n < 64 ∧ 0 ≤ (nameS S a c d).i ∧ (nameS S a c d).i < 256 := by
  unfold nameS
  split
  · rename_i h
    exact sl_fits (name_at ok h) ok
  · decide

/-! ### Bits above the depth; one bit more below -/
theorem field_mod {a b D x n : Nat} (h : a % 2 ^ D = b % 2 ^ D) (hx : x + n ≤ D) : fieldN a x n = fieldN b x n := by
  apply Nat.eq_of_testBit_eq
  intro i
  rw [fieldN_bit, fieldN_bit]
  by_cases hi : i < n
  · have e := congrArg (fun v => Nat.testBit v (i + x)) h
    simp only [Nat.testBit_mod_two_pow] at e
    have : i + x < D := by omega
    simp only [this, decide_true, Bool.true_and] at e
    rw [e]
  · simp [hi]
theorem name_high {S : St} {a b D : Nat} (h : a % 2 ^ D = b % 2 ^ D) (c : Cp) (d : Nat) (hd : d ≤ D) : nameE S a c d = nameE S b c d ∧ (nameE S a c d = 0 → slotN S a c d = slotN S b c d) := by
  have hg : GuardN a c d ↔ GuardN b c d := by
    unfold GuardN
    by_cases hz : c.z.toNat ≤ d
    · rw [field_mod h (show d - c.z.toNat + c.z.toNat ≤ D by omega)]
    · simp [hz]
  have e : nameE S a c d = nameE S b c d := by
    unfold nameE
    by_cases h1 : GuardN a c d
    · simp only [h1, hg.1 h1]
    · have h2 : ¬ GuardN b c d := fun hb => h1 (hg.2 hb)
      simp only [h1, h2]
  refine ⟨e, fun h0 => ?_⟩
  obtain ⟨_, h2, h3⟩ := name_zero.1 h0
  have hx : restN S c d + bitsN S c ≤ D := by unfold restN; have := h2.1; omega
  unfold slotN
  rw [field_mod h hx]
theorem look_high {S : St} {a b D : Nat} (h : a % 2 ^ D = b % 2 ^ D) : ∀ (f : Nat) (c : Cp) (d : Nat), d ≤ D → look S a f c d = look S b f c d
  | 0, _, _, _ => rfl
  | f + 1, c, d, hd => by
    obtain ⟨e1, e2⟩ := name_high (S := S) h c d hd
    unfold look
    rw [← e1]
    by_cases h1 : nameE S a c d = 0
    · rw [if_pos h1, if_pos h1, ← e2 h1]
      by_cases h2 : restN S c d = 0
      · rw [if_pos h2, if_pos h2]
      · rw [if_neg h2, if_neg h2, look_high h f _ _ (by unfold restN; omega)]
    · rw [if_neg h1, if_neg h1]
theorem field_more {a x n : Nat} (hx : x + 1 + n ≤ 64) : fieldN (2 * a % 2 ^ 64) (x + 1) n = fieldN a x n := by
  apply Nat.eq_of_testBit_eq
  intro i
  rw [fieldN_bit, fieldN_bit]
  by_cases hi : i < n
  · rw [Nat.testBit_mod_two_pow]
    have h1 : i + (x + 1) < 64 := by omega
    have h2 : (2 * a).testBit (i + x + 1) = a.testBit (i + x) := by
      rw [Nat.testBit_succ]
      congr 1
      omega
    simp only [h1, decide_true, Bool.true_and]
    rw [show i + (x + 1) = i + x + 1 by omega, h2]
  · simp [hi]
theorem name_more {S : St} {a : Nat} {c : Cp} {d : Nat} (hd : d < 64) (h : nameE S a c d = 0) : nameE S (2 * a % 2 ^ 64) c (d + 1) = 0 ∧ restN S c (d + 1) = restN S c d + 1 ∧ slotN S (2 * a % 2 ^ 64) c (d + 1) = slotN S a c d := by
  obtain ⟨h1, h2, h3⟩ := name_zero.1 h
  have hz := h2.1
  have e1 : restN S c (d + 1) = restN S c d + 1 := by unfold restN; omega
  refine ⟨name_zero.2 ⟨h1, ⟨by omega, ?_⟩, by omega⟩, e1, ?_⟩
  · rw [show d + 1 - c.z.toNat = d - c.z.toNat + 1 by omega, field_more (by omega)]
    exact h2.2
  · unfold slotN
    rw [e1, field_more (by unfold restN; omega)]
theorem look_more {S : St} {a : Nat} : ∀ (f : Nat) (c : Cp) (d : Nat), d < 64 → (look S a f c d).2 = 0 → (getC S (look S a f c d).1).k ≠ 2 → ∀ g, f ≤ g → look S (2 * a % 2 ^ 64) g c (d + 1) = (sl0, 62)
  | 0, _, _, _, h, _, _, _ => by simp [look] at h
  | f + 1, c, d, hd, h, hk, 0, hg => by omega
  | f + 1, c, d, hd, h, hk, g + 1, hg => by
    unfold look at h hk ⊢
    by_cases h1 : nameE S a c d = 0
    · obtain ⟨e1, e2, e3⟩ := name_more hd h1
      rw [if_pos h1] at h hk
      rw [if_pos e1, if_neg (show ¬ restN S c (d + 1) = 0 by omega), e3]
      by_cases h2 : restN S c d = 0
      · rw [if_pos h2] at hk
        rw [if_neg hk]
      · rw [if_neg h2] at h hk
        by_cases h3 : (getC S (slotN S a c d)).k = 2
        · rw [if_pos h3] at h hk ⊢
          rw [e2]
          exact look_more f _ _ (by unfold restN; omega) h hk g (by omega)
        · rw [if_neg h3] at h
          cases h
    · rw [if_neg h1] at h
      exact absurd h h1

/-! ### The address of a way -/
def way (S : St) : Cp → Nat → Nat → List Int → Int × Int × Int
  | _, a, d, [] => (a, d, 0)
  | c, a, d, i :: l =>
    if isN S c then
      if (atS S ⟨c.o, i⟩).isSome = true then
        if d + c.z.toNat + bitsN S c ≤ 64 then way S (getC S ⟨c.o, i⟩) ((a * 2 ^ c.z.toNat + c.g.toNat) * 2 ^ bitsN S c + i.toNat) (d + c.z.toNat + bitsN S c) l
        else (0, 0, 62)
      else (0, 0, 50)
    else (0, 0, 60)
def wayR (S : St) (c : Cp) (l : List Int) : Int × Int × Int := if l = [] then (0, 0, 1) else way S c 0 0 l
theorem at_lt {S : St} {n i : Int} (h : (atS S ⟨n, i⟩).isSome = true) (ok : Okay S) (hn : nodeS S n ≠ []) : 0 ≤ i ∧ i.toNat < 2 ^ bitsL (nodeS S n) := by
  obtain ⟨c, hc⟩ := Option.isSome_iff_exists.1 h
  obtain ⟨h1, h2, h3, h4, _, h6⟩ := atS_mem hc
  obtain ⟨_, _, _, _, e5, e6⟩ := node_row ok hn
  refine ⟨h2, ?_⟩
  rw [← e5, e6]
  exact h6
theorem at_out {S : St} {n i : Int} (h : ¬ (atS S ⟨n, i⟩).isSome = true) (ok : Okay S) (hn : nodeS S n ≠ []) : ¬ (0 ≤ i ∧ i < ((2 ^ bitsL (nodeS S n) : Nat) : Int)) := fun ⟨h0, h1⟩ => by
  obtain ⟨j, rfl⟩ := Int.eq_ofNat_of_zero_le h0
  exact h (at_some ok hn (by omega))
theorem fine_guard {c : Cp} (h : Fine c) : 0 ≤ c.z ∧ c.z ≤ 64 ∧ c.g ≤ onesI c.z := by
  rcases h with h | ⟨_, _, _, _, _, _, h7⟩
  · subst h; decide
  · exact h7
theorem guard_lt {c : Cp} (h : Fine c) : c.g.toNat < 2 ^ c.z.toNat := by
  obtain ⟨h1, h2, h3⟩ := fine_guard h
  have e := ones_cast c.z.toNat
  rw [Int.toNat_of_nonneg h1] at e
  have := pow_pos c.z.toNat
  omega

/-! ### Nodes that are laid by two lists -/
def maskB (b : Int) : Int := 1 + bits .and .i64 b 3
def makeAll : St → List Int → St
  | S, [] => S
  | S, b :: l => makeAll (makeS S (maskB b)) l
def putAll : St → List (Sl × Cp) → St
  | S, [] => S
  | S, h :: l => putAll (putS S h.1 h.2) l
def builtS (B : List Int) (H : List (Sl × Cp)) : St := putAll (makeAll [] (B.take 6)) (H.take 40)
end Go.Proofs.Ytafjgoelofobmaa
