/-
  Capabilities as records of six numbers, without the program: which may be, what is minted, guarded, packed, read; plain facts on their bits and places; no condition but that each number fits.
-/
import Derived.Test.YtkpoppgibempbaaMath
namespace Go.Proofs.Ytkpoppgibempbaa

structure Cp where
  k : Int
  o : Int
  r : Int
  b : Int
  g : Int
  z : Int
def no : Cp := ⟨0, 0, 0, 0, 0, 0⟩
/-- Each number fits its field. -/
structure Cp.Fits (c : Cp) : Prop where
  k : -9223372036854775808 ≤ c.k ∧ c.k ≤ 9223372036854775807
  o : -9223372036854775808 ≤ c.o ∧ c.o ≤ 9223372036854775807
  r : -9223372036854775808 ≤ c.r ∧ c.r ≤ 9223372036854775807
  b : 0 ≤ c.b ∧ c.b ≤ 18446744073709551615
  g : 0 ≤ c.g ∧ c.g ≤ 18446744073709551615
  z : -9223372036854775808 ≤ c.z ∧ c.z ≤ 9223372036854775807

def Lim (k : Int) : Prop := k = 4 ∨ k = 5 ∨ k = 6
def Bad (k : Int) : Prop := k = 4 ∨ k = 5
def Fit (g z : Int) : Prop := 0 ≤ z ∧ z ≤ 64 ∧ g ≤ onesI z
/-- It may be. -/
def Fine (c : Cp) : Prop := c = no ∨ ((0 < c.k ∧ c.k < 10) ∧ (0 ≤ c.o ∧ c.o ≤ 2147483647) ∧ (0 ≤ c.r ∧ c.r ≤ 7) ∧ (c.r = 7 ∨ Lim c.k) ∧ (c.b = 0 ∨ Bad c.k) ∧ ((c.g = 0 ∧ c.z = 0) ∨ c.k = 2) ∧ Fit c.g c.z)
def MintR (c : Cp) (v : Int) : Prop := c.k = 0 ∨ (v ≠ 0 ∧ ¬ (Bad c.k ∧ c.b = 0))
def wordC (c : Cp) : Int := c.k + 16 * c.r + 128 * c.z + 65536 * c.o
def restC (c : Cp) : Int := if c.k = 2 then c.g else c.b
def readC (x y : Int) : Cp := ⟨x % 16, x / 65536 % 2147483648, x / 16 % 8, if x % 16 = 2 then 0 else y, if x % 16 = 2 then y else 0, x / 128 % 128⟩
def Whose (x y : Int) : Prop := Fine (readC x y) ∧ wordC (readC x y) = x ∧ restC (readC x y) = y
abbrev decCp : DecidableEq Cp := fun a b =>
  if h : a.k = b.k ∧ a.o = b.o ∧ a.r = b.r ∧ a.b = b.b ∧ a.g = b.g ∧ a.z = b.z then .isTrue (by obtain ⟨h1, h2, h3, h4, h5, h6⟩ := h; cases a; cases b; simp only at h1 h2 h3 h4 h5 h6; subst h1 h2 h3 h4 h5 h6; rfl) else .isFalse fun e => h (by rw [e]; exact ⟨rfl, rfl, rfl, rfl, rfl, rfl⟩)
abbrev decLim (k : Int) : Decidable (Lim k) := by unfold Lim; exact inferInstance
abbrev decBad (k : Int) : Decidable (Bad k) := by unfold Bad; exact inferInstance
abbrev decFit (g z : Int) : Decidable (Fit g z) := by unfold Fit; exact inferInstance
abbrev decFine (c : Cp) : Decidable (Fine c) := by
  unfold Fine
  have h1 := decCp c no
  have h2 := decLim c.k
  have h3 := decBad c.k
  have h4 := decFit c.g c.z
  exact inferInstance
abbrev decMint (c : Cp) (v : Int) : Decidable (MintR c v) := by
  unfold MintR
  have h3 := decBad c.k
  exact inferInstance
abbrev decWho (x y : Int) : Decidable (Whose x y) := by
  unfold Whose
  have h1 := decFine (readC x y)
  exact inferInstance
set_option linter.unusedSectionVars false
variable [dCp : DecidableEq Cp] [dLim : ∀ k, Decidable (Lim k)] [dBad : ∀ k, Decidable (Bad k)] [dFit : ∀ g z, Decidable (Fit g z)] [dFine : ∀ c, Decidable (Fine c)] [dMint : ∀ c v, Decidable (MintR c v)] [dWho : ∀ x y, Decidable (Whose x y)]
def checkE (c : Cp) : Int := if Fine c then 0 else 40
theorem Fine.of_ne {c : Cp} (h : Fine c) (hk : c.k ≠ 0) : (0 < c.k ∧ c.k < 10) ∧ (0 ≤ c.o ∧ c.o ≤ 2147483647) ∧ (0 ≤ c.r ∧ c.r ≤ 7) ∧ (c.r = 7 ∨ Lim c.k) ∧ (c.b = 0 ∨ Bad c.k) ∧ ((c.g = 0 ∧ c.z = 0) ∨ c.k = 2) ∧ Fit c.g c.z := by
  rcases h with h | h
  · subst h; exact absurd rfl hk
  · exact h
theorem Fine.of_zero {c : Cp} (h : Fine c) (hk : c.k = 0) : c = no := by
  rcases h with h | h
  · exact h
  · omega
theorem fine_no : Fine no := .inl rfl

def sameB (a b : Cp) : Bool := decide (a.k ≠ 0 ∧ a.k = b.k ∧ a.o = b.o)
def derB (p c : Cp) : Bool := sameB p c && (decide (bits .andNot .i64 c.r p.r = 0) && decide (p.b = 0 ∨ p.b = c.b))

/-- What is minted, where it may be. -/
def mintC (c : Cp) (n v : Int) : Cp := { c with r := if Lim c.k then bits .and .i64 c.r n else c.r, b := if v = 0 then c.b else v }
def mintE (c : Cp) (n v : Int) : Int := if Fine c then if 0 ≤ n ∧ n ≤ 7 then if MintR c v then 41 else 0 else 1 else 40
def mintR (c : Cp) (n v : Int) : Cp := if mintE c n v = 0 then mintC c n v else no
def guardE (c : Cp) (g z : Int) : Int := if Fine c then if c.k = 2 then if Fit g z then 0 else 1 else 41 else 40
def guardR (c : Cp) (g z : Int) : Cp := if guardE c g z = 0 then { c with g := g, z := z } else no

def packX (c : Cp) : Int := if Fine c then wordC c else 0
def packY (c : Cp) : Int := if Fine c then restC c else 0
def unpackE (x y : Int) : Int := if Whose x y then 0 else 40
def unpackR (x y : Int) : Cp := if Whose x y then readC x y else no

/-! ### Guards -/
theorem fit_bits (g z : Int) (g0 : 0 ≤ g) (g1 : g ≤ 18446744073709551615) (z0 : 0 ≤ z) (z1 : z ≤ 64) :
    bits .andNot .u64 g (onesI z) = 0 ↔ g ≤ onesI z := by
  obtain ⟨G, rfl⟩ := Int.eq_ofNat_of_zero_le g0
  obtain ⟨Z, rfl⟩ := Int.eq_ofNat_of_zero_le z0
  rw [ones_cast]
  have hp := pow_pos Z
  have hq := pow_le Z (by omega)
  rw [u64_andNot_nat _ _ (by omega) (by omega), and_not_low _ _ (by omega) (by omega)]
  have h1 : G / 2 ^ Z * 2 ^ Z = 0 ↔ G < 2 ^ Z := by
    rw [Nat.mul_eq_zero, Nat.div_eq_zero_iff]
    omega
  omega
theorem fit_zero : Fit 0 0 := by unfold Fit; decide

/-! ### Words -/
theorem nats : (0 : Int).toNat = 0 ∧ (3 : Int).toNat = 3 ∧ (4 : Int).toNat = 4 ∧ (7 : Int).toNat = 7 ∧ (16 : Int).toNat = 16 ∧ (31 : Int).toNat = 31 := ⟨rfl, rfl, rfl, rfl, rfl, rfl⟩
theorem word_steps (k r z o : Int) (k0 : 0 ≤ k ∧ k < 16) (r0 : 0 ≤ r ∧ r ≤ 7) (z0 : 0 ≤ z ∧ z < 128) (o0 : 0 ≤ o ∧ o ≤ 2147483647) :
    withI 0 0 4 k = k ∧ withI k 4 3 r = k + 16 * r ∧ withI (k + 16 * r) 7 7 z = k + 16 * r + 128 * z ∧ withI (k + 16 * r + 128 * z) 16 31 o = k + 16 * r + 128 * z + 65536 * o := by
  obtain ⟨K, rfl⟩ := Int.eq_ofNat_of_zero_le k0.1
  obtain ⟨R, rfl⟩ := Int.eq_ofNat_of_zero_le r0.1
  obtain ⟨Z, rfl⟩ := Int.eq_ofNat_of_zero_le z0.1
  obtain ⟨O, rfl⟩ := Int.eq_ofNat_of_zero_le o0.1
  have e1 : ((K : Int) + 16 * (R : Int)).toNat = K + 16 * R := by omega
  have e2 : ((K : Int) + 16 * (R : Int) + 128 * (Z : Int)).toNat = K + 16 * R + 128 * Z := by omega
  obtain ⟨n0, n3, n4, n7, n16, n31⟩ := nats
  refine ⟨?_, ?_, ?_, ?_⟩ <;> simp only [withI, withN, e1, e2, Int.toNat_natCast, n0, n3, n4, n7, n16, n31, Nat.reducePow, Nat.reduceAdd] <;> omega
theorem read_steps (x : Int) (x0 : 0 ≤ x) :
    fieldI x 0 4 = x % 16 ∧ fieldI x 16 31 = x / 65536 % 2147483648 ∧ fieldI x 4 3 = x / 16 % 8 ∧ fieldI x 7 7 = x / 128 % 128 := by
  obtain ⟨X, rfl⟩ := Int.eq_ofNat_of_zero_le x0
  obtain ⟨n0, n3, n4, n7, n16, n31⟩ := nats
  refine ⟨?_, ?_, ?_, ?_⟩ <;> simp only [fieldI, fieldN, Int.toNat_natCast, n0, n3, n4, n7, n16, n31, Nat.reducePow] <;> omega
theorem fine_word {c : Cp} (h : Fine c) : 0 ≤ c.k ∧ c.k < 16 ∧ 0 ≤ c.r ∧ c.r ≤ 7 ∧ 0 ≤ c.z ∧ c.z < 128 ∧ 0 ≤ c.o ∧ c.o ≤ 2147483647 := by
  rcases h with h | ⟨h1, h2, h3, _, _, _, h4, h5, _⟩
  · subst h; decide
  · omega
theorem rest_sum {c : Cp} (h : Fine c) : c.b + c.g = restC c := by
  unfold restC
  rcases h with h | ⟨_, _, _, _, h1, h2, _⟩
  · subst h; decide
  · unfold Bad at h1
    split <;> omega
theorem read_word {c : Cp} (h : Fine c) : readC (wordC c) (restC c) = c := by
  have hw := fine_word h
  have e1 : wordC c % 16 = c.k := by unfold wordC; omega
  have e2 : wordC c / 65536 % 2147483648 = c.o := by unfold wordC; omega
  have e3 : wordC c / 16 % 8 = c.r := by unfold wordC; omega
  have e4 : wordC c / 128 % 128 = c.z := by unfold wordC; omega
  have e5 : c.k = 2 → c.b = 0 := by
    rcases h with h | ⟨_, _, _, _, h1, h2, _⟩
    · subst h; exact fun h => rfl
    · unfold Bad at h1; omega
  have e6 : c.k ≠ 2 → c.g = 0 := by
    rcases h with h | ⟨_, _, _, _, h1, h2, _⟩
    · subst h; exact fun h => rfl
    · omega
  unfold readC restC
  rw [e1, e2, e3, e4]
  obtain ⟨k, o, r, b, g, z⟩ := c
  simp only at e5 e6 ⊢
  by_cases hk : k = 2
  · simp [hk, e5 hk]
  · simp [hk, e6 hk]
theorem whose_word {c : Cp} (h : Fine c) : Whose (wordC c) (restC c) := by
  unfold Whose
  rw [read_word h]
  exact ⟨h, rfl, rfl⟩
theorem read_fits (x y : Int) (y0 : 0 ≤ y ∧ y ≤ 18446744073709551615) : (readC x y).Fits := by
  unfold readC
  constructor <;> simp only <;> first | omega | (split <;> omega)

/-! ### Rights -/
theorem bits8 : ∀ x : Fin 8, ∀ y : Fin 8, ∀ z : Fin 8,
    (0 ≤ bits .and .i64 (x.val : Int) y.val ∧ bits .and .i64 (x.val : Int) y.val ≤ 7) ∧ bits .andNot .i64 (bits .and .i64 (x.val : Int) y.val) x.val = 0 ∧
    bits .and .i64 (bits .and .i64 (x.val : Int) y.val) z.val = bits .and .i64 (x.val : Int) (bits .and .i64 (y.val : Int) z.val) ∧
    (bits .andNot .i64 (y.val : Int) x.val = 0 → bits .andNot .i64 (x.val : Int) y.val = 0 → x = y) ∧
    (bits .andNot .i64 (y.val : Int) x.val = 0 → bits .andNot .i64 (z.val : Int) y.val = 0 → bits .andNot .i64 (z.val : Int) x.val = 0) ∧
    bits .andNot .i64 (x.val : Int) x.val = 0 := by decide +kernel
theorem to_fin (x : Int) (h : 0 ≤ x ∧ x ≤ 7) : ∃ a : Fin 8, x = (a.val : Int) := ⟨⟨x.toNat, by omega⟩, by simp; omega⟩
theorem and_le {x y : Int} (hx : 0 ≤ x ∧ x ≤ 7) (hy : 0 ≤ y ∧ y ≤ 7) : 0 ≤ bits .and .i64 x y ∧ bits .and .i64 x y ≤ 7 := by
  obtain ⟨a, rfl⟩ := to_fin x hx
  obtain ⟨b, rfl⟩ := to_fin y hy
  exact (bits8 a b 0).1
theorem and_not {x y : Int} (hx : 0 ≤ x ∧ x ≤ 7) (hy : 0 ≤ y ∧ y ≤ 7) : bits .andNot .i64 (bits .and .i64 x y) x = 0 := by
  obtain ⟨a, rfl⟩ := to_fin x hx
  obtain ⟨b, rfl⟩ := to_fin y hy
  exact (bits8 a b 0).2.1
theorem and_and {x y z : Int} (hx : 0 ≤ x ∧ x ≤ 7) (hy : 0 ≤ y ∧ y ≤ 7) (hz : 0 ≤ z ∧ z ≤ 7) : bits .and .i64 (bits .and .i64 x y) z = bits .and .i64 x (bits .and .i64 y z) := by
  obtain ⟨a, rfl⟩ := to_fin x hx
  obtain ⟨b, rfl⟩ := to_fin y hy
  obtain ⟨c, rfl⟩ := to_fin z hz
  exact (bits8 a b c).2.2.1
theorem not_not {x y : Int} (hx : 0 ≤ x ∧ x ≤ 7) (hy : 0 ≤ y ∧ y ≤ 7) (h1 : bits .andNot .i64 y x = 0) (h2 : bits .andNot .i64 x y = 0) : x = y := by
  obtain ⟨a, rfl⟩ := to_fin x hx
  obtain ⟨b, rfl⟩ := to_fin y hy
  rw [(bits8 a b 0).2.2.2.1 h1 h2]
theorem not_trans {x y z : Int} (hx : 0 ≤ x ∧ x ≤ 7) (hy : 0 ≤ y ∧ y ≤ 7) (hz : 0 ≤ z ∧ z ≤ 7) (h1 : bits .andNot .i64 y x = 0) (h2 : bits .andNot .i64 z y = 0) : bits .andNot .i64 z x = 0 := by
  obtain ⟨a, rfl⟩ := to_fin x hx
  obtain ⟨b, rfl⟩ := to_fin y hy
  obtain ⟨c, rfl⟩ := to_fin z hz
  exact (bits8 a b c).2.2.2.2.1 h1 h2
theorem not_self {x : Int} (hx : 0 ≤ x ∧ x ≤ 7) : bits .andNot .i64 x x = 0 := by
  obtain ⟨a, rfl⟩ := to_fin x hx
  exact (bits8 a 0 0).2.2.2.2.2
end Go.Proofs.Ytkpoppgibempbaa
