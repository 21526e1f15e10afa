/-
  Untyped memory and what is placed in it, as plain numbers, without the program: each fact names its conditions.
-/
import Derived.Test.YtkelblkegpmlpabDoorMore
namespace Go.Proofs.YtkelblkegpmlpabDoor

/-! ### Powers -/
def twoI (n : Int) : Int := 2 ^ n.toNat
theorem two_cast (n : Nat) : twoI (n : Int) = ((2 ^ n : Nat) : Int) := by simp [twoI]
theorem twoI_bd (n : Int) (h0 : 0 ≤ n) (h1 : n ≤ 63) : 1 ≤ twoI n ∧ twoI n ≤ 9223372036854775808 := by
  obtain ⟨m, rfl⟩ := Int.eq_ofNat_of_zero_le h0
  rw [two_cast]
  have hp := pow_pos m
  have hq : 2 ^ m ≤ 2 ^ 63 := Nat.pow_le_pow_right (by omega) (by omega)
  generalize 2 ^ m = p at *
  omega
theorem twoI_20 (n : Int) (h0 : 0 ≤ n) (h1 : n ≤ 20) : 1 ≤ twoI n ∧ twoI n ≤ 1048576 := by
  obtain ⟨m, rfl⟩ := Int.eq_ofNat_of_zero_le h0
  rw [two_cast]
  have hp := pow_pos m
  have hq : 2 ^ m ≤ 2 ^ 20 := Nat.pow_le_pow_right (by omega) (by omega)
  generalize 2 ^ m = p at *
  omega
theorem twoI_2 (n : Int) (h0 : 2 ≤ n) (h1 : n ≤ 20) : 4 ≤ twoI n := by
  obtain ⟨m, rfl⟩ := Int.eq_ofNat_of_zero_le (show 0 ≤ n by omega)
  rw [two_cast]
  have hq : 2 ^ 2 ≤ 2 ^ m := Nat.pow_le_pow_right (by omega) (by omega)
  generalize 2 ^ m = p at *
  omega
theorem twoI_wrap (n : Int) (h0 : 0 ≤ n) (h1 : n ≤ 63) : IntKind.u64.wrap (2 ^ n.toNat) = twoI n := by
  have h := twoI_bd n h0 h1
  rw [IntKind.wrap_u64]
  show twoI n % _ = _
  omega
theorem onesI_two (n : Int) : onesI n = twoI n - 1 := rfl

/-! ### The memory -/
structure Un where
  base : Int
  bits : Int
  used : Int
def Un.zero : Un := ⟨0, 0, 0⟩
structure Un.Fits (u : Un) : Prop where
  base : 0 ≤ u.base ∧ u.base ≤ 18446744073709551615
  bits : -9223372036854775808 ≤ u.bits ∧ u.bits ≤ 9223372036854775807
  used : 0 ≤ u.used ∧ u.used ≤ 18446744073709551615
theorem zero_fits : Un.zero.Fits := ⟨by decide, by decide, by decide⟩
abbrev okU (u : Un) : Prop := (0 ≤ u.bits ∧ u.bits ≤ 20) ∧ u.base % twoI u.bits = 0 ∧ u.base ≤ 1099511627776 ∧ u.used ≤ twoI u.bits
def chkE (u : Un) : Int := if okU u then 0 else 1
def szE (k b : Int) : Int := if k = 1 then (if 4 ≤ b ∧ b ≤ 20 then 0 else 1) else if k = 2 then (if 1 ≤ b ∧ b ≤ 8 then 0 else 1) else if 3 ≤ k ∧ k ≤ 8 then 0 else 80
def szN (k b : Int) : Int := if szE k b ≠ 0 then 0 else if k = 1 then b else if k = 2 then b + 2 else if k = 3 then 5 else if k = 4 ∨ k = 5 then 2 else 6
theorem szN_bd {k b : Int} (h : szE k b = 0) : 2 ≤ szN k b ∧ szN k b ≤ 20 := by
  unfold szN
  rw [if_neg (by simpa using h)]
  unfold szE at h
  repeat' split at h
  all_goals (repeat' split) <;> omega
theorem szN_no {k b : Int} (h : szE k b ≠ 0) : szN k b = 0 := by unfold szN; rw [if_pos h]
theorem szE_is (k b : Int) : szE k b = 0 ∨ szE k b = 1 ∨ szE k b = 80 := by
  unfold szE
  repeat' split
  all_goals simp
theorem szN_far (k b c : Int) (h1 : k ≠ 1) (h2 : k ≠ 2) : szE k b = szE k c ∧ szN k b = szN k c := by
  have e : szE k b = szE k c := by unfold szE; rw [if_neg h1, if_neg h2, if_neg h1, if_neg h2]
  refine ⟨e, ?_⟩
  unfold szN
  rw [e, if_neg h1, if_neg h2, if_neg h1, if_neg h2]

/-! ### What is placed -/
/-- Where the first one of size 2 to the power of s goes. -/
def firstI (u : Un) (s : Int) : Int := upI (u.base + u.used) s
theorem upI_mod (v n : Int) (v0 : 0 ≤ v) (n0 : 0 ≤ n) : upI v n % twoI n = 0 := by
  obtain ⟨V, rfl⟩ := Int.eq_ofNat_of_zero_le v0
  obtain ⟨M, rfl⟩ := Int.eq_ofNat_of_zero_le n0
  rw [two_cast]
  simp only [upI, upN, Int.toNat_natCast]
  have := Nat.mul_mod_left ((V + (2 ^ M - 1)) / 2 ^ M) (2 ^ M)
  omega
theorem upI_ge (v n : Int) (v0 : 0 ≤ v) (n0 : 0 ≤ n) : v ≤ upI v n ∧ upI v n - v < twoI n := by
  obtain ⟨V, rfl⟩ := Int.eq_ofNat_of_zero_le v0
  obtain ⟨M, rfl⟩ := Int.eq_ofNat_of_zero_le n0
  rw [two_cast]
  simp only [upI, upN, Int.toNat_natCast]
  have hp := pow_pos M
  generalize 2 ^ M = p at *
  have hdm := Nat.div_add_mod (V + (p - 1)) p
  have hml := Nat.mod_lt (V + (p - 1)) hp
  rw [Nat.mul_comm] at hdm
  generalize (V + (p - 1)) / p * p = q at *
  omega
/-- There is just one multiple so near. -/
theorem mult_one {a b p : Int} (hp : 0 < p) (ha : a % p = 0) (hb : b % p = 0) (h1 : a - b < p) (h2 : b - a < p) : a = b := by
  have h : (a - b) % p = 0 := by rw [Int.sub_emod, ha, hb]; simp
  obtain ⟨c, hc⟩ := Int.dvd_of_emod_eq_zero h
  have c1 : c < 1 := by
    apply Int.lt_of_not_ge
    intro hx
    have := Int.mul_le_mul_of_nonneg_left hx (Int.le_of_lt hp)
    omega
  have c2 : -1 < c := by
    apply Int.lt_of_not_ge
    intro hx
    have := Int.mul_le_mul_of_nonneg_left hx (Int.le_of_lt hp)
    omega
  have c0 : c = 0 := by omega
  subst c0
  omega
theorem up_is {v n x : Int} (v0 : 0 ≤ v) (n0 : 0 ≤ n) (hx : x % twoI n = 0) (h1 : v ≤ x) (h2 : x - v < twoI n) : upI v n = x := by
  obtain ⟨a, b⟩ := upI_ge v n v0 n0
  have hp : 0 < twoI n := by omega
  exact mult_one hp (upI_mod v n v0 n0) hx (by omega) (by omega)
/-- As the document rounds up. -/
theorem up_doc {v n : Int} (v0 : 0 ≤ v) (n0 : 0 ≤ n) (n1 : n ≤ 63) : upI v n = if v % twoI n = 0 then v else v - v % twoI n + twoI n := by
  have hb := twoI_bd n n0 n1
  have m0 := Int.emod_nonneg v (show twoI n ≠ 0 by omega)
  have m1 := Int.emod_lt_of_pos v (show 0 < twoI n by omega)
  split
  · exact up_is v0 n0 ‹_› (by omega) (by omega)
  · refine up_is v0 n0 ?_ (by omega) (by omega)
    rw [Int.add_emod, Int.emod_self, Int.sub_emod, Int.emod_emod]
    simp
theorem mod_add_mul {a p : Int} (h : a % p = 0) (k : Int) : (a + k * p) % p = 0 := by
  rw [Int.add_mul_emod_self_right]
  exact h
abbrev roomB (u : Un) (s n : Int) : Prop := firstI u s + n * twoI s ≤ u.base + twoI u.bits
def plE (u : Un) (k b n : Int) : Int :=
  if ¬ okU u then 1 else if szE k b ≠ 0 then szE k b else if ¬ (1 ≤ n ∧ n ≤ 64) then 1 else if roomB u (szN k b) n then 0 else 81
def runL (a s : Int) (n : Nat) : List Int := (List.range n).map fun (i : Nat) => a + (i : Int) * s
def plL (u : Un) (k b n : Int) : List Int := if plE u k b n = 0 then runL (firstI u (szN k b)) (twoI (szN k b)) n.toNat else []
def plU (u : Un) (k b n : Int) : Un := if plE u k b n = 0 then ⟨u.base, u.bits, firstI u (szN k b) + n * twoI (szN k b) - u.base⟩ else Un.zero
theorem runL_len (a s : Int) (n : Nat) : (runL a s n).length = n := by simp [runL]
theorem runL_get (a s : Int) (n i : Nat) (h : i < n) : (runL a s n).getD i 0 = a + (i : Int) * s := by simp [runL, h]
theorem runL_succ (a s : Int) (n : Nat) : runL a s (n + 1) = runL a s n ++ [a + (n : Int) * s] := by simp [runL, List.range_succ]

/-- What a place that is found says. -/
structure Found (u : Un) (k b n : Int) : Prop where
  ok : okU u
  sz : szE k b = 0
  n0 : 1 ≤ n ∧ n ≤ 64
  room : roomB u (szN k b) n
theorem found_iff (u : Un) (k b n : Int) : plE u k b n = 0 ↔ Found u k b n := by
  unfold plE
  constructor
  · intro h
    by_cases h1 : okU u
    · rw [if_neg (not_not_intro h1)] at h
      by_cases h2 : szE k b = 0
      · rw [if_neg (by simpa using h2)] at h
        by_cases h3 : 1 ≤ n ∧ n ≤ 64
        · rw [if_neg (by simpa using h3)] at h
          by_cases h4 : roomB u (szN k b) n
          · exact ⟨h1, h2, h3, h4⟩
          · rw [if_neg h4] at h
            omega
        · rw [if_pos h3] at h
          omega
      · rw [if_pos h2] at h
        exact absurd h h2
    · rw [if_pos h1] at h
      omega
  · intro h
    rw [if_neg (not_not_intro h.ok), if_neg (by simpa using h.sz), if_neg (by simpa using h.n0), if_pos h.room]
/-- The numbers of a place that is found: the first one F, the size S, the whole room P. -/
structure Nums (u : Un) (s F S P : Int) : Prop where
  bits : 0 ≤ u.bits ∧ u.bits ≤ 20
  sz : 2 ≤ s ∧ s ≤ 20
  P1 : 1 ≤ P ∧ P ≤ 1048576
  S1 : 4 ≤ S ∧ S ≤ 1048576
  base : u.base ≤ 1099511627776
  used : u.used ≤ P
  mult : u.base % P = 0
  F0 : u.base + u.used ≤ F
  F1 : F - (u.base + u.used) < S
  Fm : F % S = 0
theorem nums {u : Un} (hf : u.Fits) (h : okU u) {k b : Int} (hs : szE k b = 0) : Nums u (szN k b) (firstI u (szN k b)) (twoI (szN k b)) (twoI u.bits) := by
  obtain ⟨hb, hm, hB, hu⟩ := h
  have hz := szN_bd hs
  generalize szN k b = s at *
  have p := twoI_20 u.bits hb.1 hb.2
  have q := twoI_20 s (by omega) hz.2
  have q2 := twoI_2 s hz.1 hz.2
  have g := upI_ge (u.base + u.used) s (by have := hf.base; have := hf.used; omega) (by omega)
  have m := upI_mod (u.base + u.used) s (by have := hf.base; have := hf.used; omega) (by omega)
  exact ⟨hb, hz, p, ⟨q2, q.2⟩, hB, hu, hm, g.1, g.2, m⟩
/-- The memory is right behind what was placed. -/
theorem place_ok {u : Un} (hf : u.Fits) {k b n : Int} (h : Found u k b n) : okU (plU u k b n) ∧ (plU u k b n).Fits ∧ u.used < (plU u k b n).used := by
  have e : plU u k b n = ⟨u.base, u.bits, firstI u (szN k b) + n * twoI (szN k b) - u.base⟩ := by unfold plU; rw [if_pos ((found_iff _ _ _ _).2 h)]
  rw [e]
  have N := nums hf h.ok h.sz
  have hr := h.room
  unfold roomB at hr
  have h1 := N.F0
  have h2 := N.S1
  have hb := hf.base
  have hu := hf.used
  have hn : twoI (szN k b) ≤ n * twoI (szN k b) := by
    have := Int.mul_le_mul_of_nonneg_right h.n0.1 (show 0 ≤ twoI (szN k b) by omega)
    omega
  generalize n * twoI (szN k b) = nS at *
  have hp := N.P1
  refine ⟨⟨N.bits, N.mult, N.base, ?_⟩, ⟨hb, hf.bits, ?_⟩, ?_⟩
  · show _ - _ ≤ twoI u.bits
    omega
  · show 0 ≤ _ - _ ∧ _ - _ ≤ _
    have := N.base
    omega
  · show _ < _ - _
    omega
/-- The place behind some that were placed is the next one. -/
theorem next_first {u : Un} (hf : u.Fits) {k b i : Int} (hok : okU u) (hs : szE k b = 0) (hi : 1 ≤ i) :
    firstI ⟨u.base, u.bits, firstI u (szN k b) + i * twoI (szN k b) - u.base⟩ (szN k b) = firstI u (szN k b) + i * twoI (szN k b) := by
  have N := nums hf hok hs
  have h1 := N.F0
  have h2 := N.S1
  have hb := hf.base
  have hu := hf.used
  have hn : 0 ≤ i * twoI (szN k b) := Int.mul_nonneg (by omega) (by omega)
  show upI (u.base + (firstI u (szN k b) + i * twoI (szN k b) - u.base)) _ = _
  have e : u.base + (firstI u (szN k b) + i * twoI (szN k b) - u.base) = firstI u (szN k b) + i * twoI (szN k b) := by omega
  rw [e]
  exact up_is (by omega) (by have := N.sz; omega) (mod_add_mul N.Fm i) (by omega) (by omega)
end Go.Proofs.YtkelblkegpmlpabDoor
