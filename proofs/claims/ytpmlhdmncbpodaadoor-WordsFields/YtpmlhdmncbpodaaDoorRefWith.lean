/-
  What With and Up of the document's answer return, for every word and every place: each contract names its conditions.
-/
import Derived.Test.YtpmlhdmncbpodaaDoorRef
namespace Go.Proofs.YtpmlhdmncbpodaaDoor
open Go.RowKit

set_option maxHeartbeats 2000000 in
theorem withR_nat (V A M X : Nat) (f : Nat → Bool) (r q : Int) (w : World) (v1 : (V : Int) ≤ 18446744073709551615) (x1 : (X : Int) ≤ 18446744073709551615) (h : A + M ≤ 64)
    (hin : Hid (∀ j, A ≤ j → j < A + M → f j = X.testBit (j - A))) (hout : Hid (∀ j, j < A ∨ A + M ≤ j → f j = V.testBit j))
    (hfit : Hid ((∀ j, j < 64 → M ≤ j → X.testBit j = false) → r = (ofBits f 64 : Nat) ∧ q = 0)) (hbig : Hid (∀ j, j < 64 → M ≤ j → X.testBit j = true → r = 0 ∧ q = 2)) :
    Calls Tryd.prog 12 #[.int .u64 V, .int .i64 A, .int .i64 M, .int .u64 X] w fun e w' => e = .returned (.tuple #[.int .u64 r, .int .i64 q]) ∧ w' = w := by
  go_enter Tryd.func12, Tryd.ntmps12
  go_wp2_with (go_at_call 10; refine (fieldR_yes _ _ _ _ (by omega) (by omega) (by omega) (by omega) (by omega)).mono ?_; rintro e w' ⟨rfl, rfl⟩)
  go_loop [12, 13] (fun y i => ∃ k : Nat, k ≤ 64 ∧ i = .int .i64 k ∧ y = .int .u64 (ofBits f k : Nat) ∧ Hid (∀ j, j < k → M ≤ j → X.testBit j = false)) (fun _ i => 64 - (intOf i).toNat)
  case atStart => exact ⟨0, Nat.zero_le _, rfl, rfl, fun j hj => by omega⟩
  case round =>
    obtain ⟨k, hk, rfl, rfl, hall⟩ := hrel
    by_cases hlt : k < 64
    · have hbd := ofBits_bd f k (by omega)
      have h2 := twoI_bd (k : Int) (by omega) (by omega)
      have fin := hin.out k
      have fout := hout.out k
      have hc : (A ≤ k ∧ k < A + M) ∨ (A ≤ k ∧ A + M ≤ k) ∨ k < A := by omega
      have hd : k < M ∨ (M ≤ k ∧ X.testBit k = false) ∨ (M ≤ k ∧ X.testBit k = true) := by
        by_cases e : k < M
        · exact Or.inl e
        · cases e2 : X.testBit k
          · exact Or.inr (Or.inl ⟨by omega, rfl⟩)
          · exact Or.inr (Or.inr ⟨by omega, rfl⟩)
      rcases hd with hd | ⟨hd, hx⟩ | ⟨hd, hx⟩
      · have HN : Hid (∀ j, j < k + 1 → M ≤ j → X.testBit j = false) := fun j hj hm => by
          exact hall.out j (by omega) hm
        rcases hc with ⟨c1, c2⟩ | ⟨c1, c2⟩ | c1
        · have fe := fin c1 c2
          have et : ((k : Int) - (A : Int)).toNat = k - A := by omega
          cases hb : X.testBit (k - A)
          · have HB : Hid (ofBits f (k + 1) = ofBits f k) := ofBits_no f k (by rw [fe, hb])
            clear fe fin fout
            go_wp2_with (first | (go_at_call 27; refine (two_any _ _ (by omega) (by omega)).mono ?_; rintro e w' ⟨rfl, rfl⟩) | (go_at_call 26; refine (bitR_any _ _ _ (by omega) (by omega) (by omega) (by omega)).mono ?_; rintro e w' ⟨rfl, rfl⟩))
            go_round
            case rel => exact ⟨k + 1, by omega, by go_num, by rw [HB.out], HN⟩
            case measure => simp [intOf]; omega
          · have HB : Hid (((ofBits f (k + 1) : Nat) : Int) = (ofBits f k : Int) + twoI (k : Int)) := ofBits_yes f k (by rw [fe, hb])
            clear fe fin fout
            go_wp2_with (first | (go_at_call 27; refine (two_any _ _ (by omega) (by omega)).mono ?_; rintro e w' ⟨rfl, rfl⟩) | (go_at_call 26; refine (bitR_any _ _ _ (by omega) (by omega) (by omega) (by omega)).mono ?_; rintro e w' ⟨rfl, rfl⟩))
            go_round
            case rel => exact ⟨k + 1, by omega, by go_num, by rw [HB.out], HN⟩
            case measure => simp [intOf]; omega
        · exact absurd c2 (by omega)
        · have fe := fout (by omega)
          cases hb : V.testBit k
          · have HB : Hid (ofBits f (k + 1) = ofBits f k) := ofBits_no f k (by rw [fe, hb])
            clear fe fin fout
            go_wp2_with (first | (go_at_call 27; refine (two_any _ _ (by omega) (by omega)).mono ?_; rintro e w' ⟨rfl, rfl⟩) | (go_at_call 26; refine (bitR_any _ _ _ (by omega) (by omega) (by omega) (by omega)).mono ?_; rintro e w' ⟨rfl, rfl⟩))
            go_round
            case rel => exact ⟨k + 1, by omega, by go_num, by rw [HB.out], HN⟩
            case measure => simp [intOf]; omega
          · have HB : Hid (((ofBits f (k + 1) : Nat) : Int) = (ofBits f k : Int) + twoI (k : Int)) := ofBits_yes f k (by rw [fe, hb])
            clear fe fin fout
            go_wp2_with (first | (go_at_call 27; refine (two_any _ _ (by omega) (by omega)).mono ?_; rintro e w' ⟨rfl, rfl⟩) | (go_at_call 26; refine (bitR_any _ _ _ (by omega) (by omega) (by omega) (by omega)).mono ?_; rintro e w' ⟨rfl, rfl⟩))
            go_round
            case rel => exact ⟨k + 1, by omega, by go_num, by rw [HB.out], HN⟩
            case measure => simp [intOf]; omega
      · have HN : Hid (∀ j, j < k + 1 → M ≤ j → X.testBit j = false) := fun j hj hm => by
          by_cases e : j = k
          · rw [e]; exact hx
          · exact hall.out j (by omega) hm
        rcases hc with ⟨c1, c2⟩ | ⟨c1, c2⟩ | c1
        · have fe := fin c1 c2
          have et : ((k : Int) - (A : Int)).toNat = k - A := by omega
          cases hb : X.testBit (k - A)
          · have HB : Hid (ofBits f (k + 1) = ofBits f k) := ofBits_no f k (by rw [fe, hb])
            clear fe fin fout
            go_wp2_with (first | (go_at_call 27; refine (two_any _ _ (by omega) (by omega)).mono ?_; rintro e w' ⟨rfl, rfl⟩) | (go_at_call 26; refine (bitR_any _ _ _ (by omega) (by omega) (by omega) (by omega)).mono ?_; rintro e w' ⟨rfl, rfl⟩))
            go_round
            case rel => exact ⟨k + 1, by omega, by go_num, by rw [HB.out], HN⟩
            case measure => simp [intOf]; omega
          · have HB : Hid (((ofBits f (k + 1) : Nat) : Int) = (ofBits f k : Int) + twoI (k : Int)) := ofBits_yes f k (by rw [fe, hb])
            clear fe fin fout
            go_wp2_with (first | (go_at_call 27; refine (two_any _ _ (by omega) (by omega)).mono ?_; rintro e w' ⟨rfl, rfl⟩) | (go_at_call 26; refine (bitR_any _ _ _ (by omega) (by omega) (by omega) (by omega)).mono ?_; rintro e w' ⟨rfl, rfl⟩))
            go_round
            case rel => exact ⟨k + 1, by omega, by go_num, by rw [HB.out], HN⟩
            case measure => simp [intOf]; omega
        · have fe := fout (by omega)
          cases hb : V.testBit k
          · have HB : Hid (ofBits f (k + 1) = ofBits f k) := ofBits_no f k (by rw [fe, hb])
            clear fe fin fout
            go_wp2_with (first | (go_at_call 27; refine (two_any _ _ (by omega) (by omega)).mono ?_; rintro e w' ⟨rfl, rfl⟩) | (go_at_call 26; refine (bitR_any _ _ _ (by omega) (by omega) (by omega) (by omega)).mono ?_; rintro e w' ⟨rfl, rfl⟩))
            go_round
            case rel => exact ⟨k + 1, by omega, by go_num, by rw [HB.out], HN⟩
            case measure => simp [intOf]; omega
          · have HB : Hid (((ofBits f (k + 1) : Nat) : Int) = (ofBits f k : Int) + twoI (k : Int)) := ofBits_yes f k (by rw [fe, hb])
            clear fe fin fout
            go_wp2_with (first | (go_at_call 27; refine (two_any _ _ (by omega) (by omega)).mono ?_; rintro e w' ⟨rfl, rfl⟩) | (go_at_call 26; refine (bitR_any _ _ _ (by omega) (by omega) (by omega) (by omega)).mono ?_; rintro e w' ⟨rfl, rfl⟩))
            go_round
            case rel => exact ⟨k + 1, by omega, by go_num, by rw [HB.out], HN⟩
            case measure => simp [intOf]; omega
        · have fe := fout (by omega)
          cases hb : V.testBit k
          · have HB : Hid (ofBits f (k + 1) = ofBits f k) := ofBits_no f k (by rw [fe, hb])
            clear fe fin fout
            go_wp2_with (first | (go_at_call 27; refine (two_any _ _ (by omega) (by omega)).mono ?_; rintro e w' ⟨rfl, rfl⟩) | (go_at_call 26; refine (bitR_any _ _ _ (by omega) (by omega) (by omega) (by omega)).mono ?_; rintro e w' ⟨rfl, rfl⟩))
            go_round
            case rel => exact ⟨k + 1, by omega, by go_num, by rw [HB.out], HN⟩
            case measure => simp [intOf]; omega
          · have HB : Hid (((ofBits f (k + 1) : Nat) : Int) = (ofBits f k : Int) + twoI (k : Int)) := ofBits_yes f k (by rw [fe, hb])
            clear fe fin fout
            go_wp2_with (first | (go_at_call 27; refine (two_any _ _ (by omega) (by omega)).mono ?_; rintro e w' ⟨rfl, rfl⟩) | (go_at_call 26; refine (bitR_any _ _ _ (by omega) (by omega) (by omega) (by omega)).mono ?_; rintro e w' ⟨rfl, rfl⟩))
            go_round
            case rel => exact ⟨k + 1, by omega, by go_num, by rw [HB.out], HN⟩
            case measure => simp [intOf]; omega
      · have RQ : Hid (r = 0 ∧ q = 2) := hbig.out k hlt hd hx
        rcases hc with ⟨c1, c2⟩ | ⟨c1, c2⟩ | c1
        · have fe := fin c1 c2
          have et : ((k : Int) - (A : Int)).toNat = k - A := by omega
          cases hb : X.testBit (k - A)
          · have HB : Hid (ofBits f (k + 1) = ofBits f k) := ofBits_no f k (by rw [fe, hb])
            clear fe fin fout
            go_wp2_with (first | (go_at_call 27; refine (two_any _ _ (by omega) (by omega)).mono ?_; rintro e w' ⟨rfl, rfl⟩) | (go_at_call 26; refine (bitR_any _ _ _ (by omega) (by omega) (by omega) (by omega)).mono ?_; rintro e w' ⟨rfl, rfl⟩))
            go_ret2
            exact ⟨ret_two RQ.out.1.symm RQ.out.2.symm, rfl⟩
          · have HB : Hid (((ofBits f (k + 1) : Nat) : Int) = (ofBits f k : Int) + twoI (k : Int)) := ofBits_yes f k (by rw [fe, hb])
            clear fe fin fout
            go_wp2_with (first | (go_at_call 27; refine (two_any _ _ (by omega) (by omega)).mono ?_; rintro e w' ⟨rfl, rfl⟩) | (go_at_call 26; refine (bitR_any _ _ _ (by omega) (by omega) (by omega) (by omega)).mono ?_; rintro e w' ⟨rfl, rfl⟩))
            go_ret2
            exact ⟨ret_two RQ.out.1.symm RQ.out.2.symm, rfl⟩
        · have fe := fout (by omega)
          cases hb : V.testBit k
          · have HB : Hid (ofBits f (k + 1) = ofBits f k) := ofBits_no f k (by rw [fe, hb])
            clear fe fin fout
            go_wp2_with (first | (go_at_call 27; refine (two_any _ _ (by omega) (by omega)).mono ?_; rintro e w' ⟨rfl, rfl⟩) | (go_at_call 26; refine (bitR_any _ _ _ (by omega) (by omega) (by omega) (by omega)).mono ?_; rintro e w' ⟨rfl, rfl⟩))
            go_ret2
            exact ⟨ret_two RQ.out.1.symm RQ.out.2.symm, rfl⟩
          · have HB : Hid (((ofBits f (k + 1) : Nat) : Int) = (ofBits f k : Int) + twoI (k : Int)) := ofBits_yes f k (by rw [fe, hb])
            clear fe fin fout
            go_wp2_with (first | (go_at_call 27; refine (two_any _ _ (by omega) (by omega)).mono ?_; rintro e w' ⟨rfl, rfl⟩) | (go_at_call 26; refine (bitR_any _ _ _ (by omega) (by omega) (by omega) (by omega)).mono ?_; rintro e w' ⟨rfl, rfl⟩))
            go_ret2
            exact ⟨ret_two RQ.out.1.symm RQ.out.2.symm, rfl⟩
        · have fe := fout (by omega)
          cases hb : V.testBit k
          · have HB : Hid (ofBits f (k + 1) = ofBits f k) := ofBits_no f k (by rw [fe, hb])
            clear fe fin fout
            go_wp2_with (first | (go_at_call 27; refine (two_any _ _ (by omega) (by omega)).mono ?_; rintro e w' ⟨rfl, rfl⟩) | (go_at_call 26; refine (bitR_any _ _ _ (by omega) (by omega) (by omega) (by omega)).mono ?_; rintro e w' ⟨rfl, rfl⟩))
            go_ret2
            exact ⟨ret_two RQ.out.1.symm RQ.out.2.symm, rfl⟩
          · have HB : Hid (((ofBits f (k + 1) : Nat) : Int) = (ofBits f k : Int) + twoI (k : Int)) := ofBits_yes f k (by rw [fe, hb])
            clear fe fin fout
            go_wp2_with (first | (go_at_call 27; refine (two_any _ _ (by omega) (by omega)).mono ?_; rintro e w' ⟨rfl, rfl⟩) | (go_at_call 26; refine (bitR_any _ _ _ (by omega) (by omega) (by omega) (by omega)).mono ?_; rintro e w' ⟨rfl, rfl⟩))
            go_ret2
            exact ⟨ret_two RQ.out.1.symm RQ.out.2.symm, rfl⟩
    · go_wp2
      go_ret2
      have e : k = 64 := by omega
      subst e
      have := hfit.out hall.out
      exact ⟨ret_two this.1.symm this.2.symm, rfl⟩
theorem not_small (X M : Nat) (h : 2 ^ M ≤ X) : ∃ j, M ≤ j ∧ X.testBit j = true := by
  refine Classical.byContradiction fun hn => ?_
  have := Nat.lt_pow_two_of_testBit (n := M) X (fun i hi => by
    cases e : X.testBit i
    · rfl
    · exact absurd ⟨i, hi, e⟩ hn)
  omega
theorem withR_yes (v a n x : Int) (w : World) (v0 : 0 ≤ v) (v1 : v ≤ 18446744073709551615) (h0 : 0 ≤ a) (h1 : 0 ≤ n) (h2 : n ≤ 64 - a) (x0 : 0 ≤ x) (x1 : x ≤ onesI n) :
    Calls Tryd.prog 12 #[.int .u64 v, .int .i64 a, .int .i64 n, .int .u64 x] w fun e w' => e = .returned (.tuple #[.int .u64 (withI v a n x), .int .i64 0]) ∧ w' = w := by
  have hx := onesI_bd n h1 (by omega)
  obtain ⟨V, rfl⟩ := Int.eq_ofNat_of_zero_le v0
  obtain ⟨A, rfl⟩ := Int.eq_ofNat_of_zero_le h0
  obtain ⟨M, rfl⟩ := Int.eq_ofNat_of_zero_le h1
  obtain ⟨X, rfl⟩ := Int.eq_ofNat_of_zero_le x0
  have hX : X < 2 ^ M := by
    rw [ones_cast] at x1
    have := pow_pos M
    omega
  have e : withI (V : Int) (A : Int) (M : Int) (X : Int) = ((withN V A M X : Nat) : Int) := by simp [withI]
  rw [e, ← ofBits_with V A M X (by omega) hX (by omega)]
  refine withR_nat V A M X _ _ _ w v1 (by omega) (by omega) (fun j h1 h2 => ?_) (fun j hj => ?_) (fun _ => ⟨rfl, rfl⟩) (fun j h1 h2 h3 => ?_)
  · exact if_pos ⟨h1, h2⟩
  · exact if_neg (by omega)
  · rw [small_bit X M j hX h2] at h3
    cases h3
theorem withR_big (v a n x : Int) (w : World) (v0 : 0 ≤ v) (v1 : v ≤ 18446744073709551615) (h0 : 0 ≤ a) (h1 : 0 ≤ n) (h2 : n ≤ 64 - a) (x1 : onesI n < x) (x2 : x ≤ 18446744073709551615) :
    Calls Tryd.prog 12 #[.int .u64 v, .int .i64 a, .int .i64 n, .int .u64 x] w fun e w' => e = .returned (.tuple #[.int .u64 0, .int .i64 2]) ∧ w' = w := by
  have hx := onesI_bd n h1 (by omega)
  obtain ⟨V, rfl⟩ := Int.eq_ofNat_of_zero_le v0
  obtain ⟨A, rfl⟩ := Int.eq_ofNat_of_zero_le h0
  obtain ⟨M, rfl⟩ := Int.eq_ofNat_of_zero_le h1
  obtain ⟨X, rfl⟩ := Int.eq_ofNat_of_zero_le (show 0 ≤ x by omega)
  have hX : 2 ^ M ≤ X := by
    rw [ones_cast] at x1
    have := pow_pos M
    omega
  obtain ⟨j0, g1, g2⟩ := not_small X M hX
  have g3 : j0 < 64 := by
    apply Nat.lt_of_not_le
    intro g
    rw [testBit_big X j0 (by omega) g] at g2
    cases g2
  refine withR_nat V A M X (fun j => if A ≤ j ∧ j < A + M then X.testBit (j - A) else V.testBit j) _ _ w v1 x2 (by omega) (fun j h1 h2 => ?_) (fun j hj => ?_) (fun hall => ?_) (fun j h1 h2 h3 => ⟨rfl, rfl⟩)
  · exact if_pos ⟨h1, h2⟩
  · exact if_neg (by omega)
  · rw [hall j0 g3 g1] at g2
    cases g2
theorem withR_no (v a n x : Int) (w : World) (h : ¬ (0 ≤ a ∧ 0 ≤ n ∧ n ≤ 64 - a)) :
    Calls Tryd.prog 12 #[.int .u64 v, .int .i64 a, .int .i64 n, .int .u64 x] w fun e w' => e = .returned (.tuple #[.int .u64 0, .int .i64 1]) ∧ w' = w := by
  have H : Hid (¬ (0 ≤ a ∧ 0 ≤ n ∧ n ≤ 64 - a)) := h
  clear h
  go_enter Tryd.func12, Tryd.ntmps12
  go_wp2_with (go_at_call 10; refine (fieldR_no _ _ _ _ H.out).mono ?_; rintro e w' ⟨rfl, rfl⟩)
  go_ret2
  exact ⟨rfl, rfl⟩

/-! ### Rounding up -/
theorem upR_fit0 (v n : Int) (v0 : 0 ≤ v) (n0 : 0 ≤ n) (h : v % twoI n = 0) : upI v n = v := by
  obtain ⟨V, rfl⟩ := Int.eq_ofNat_of_zero_le v0
  obtain ⟨M, rfl⟩ := Int.eq_ofNat_of_zero_le n0
  rw [two_cast] at h
  have hm : V % 2 ^ M = 0 := by
    have : ((V % 2 ^ M : Nat) : Int) = 0 := by rw [Int.natCast_emod]; exact h
    omega
  simp only [upI, upN, Int.toNat_natCast]
  have hp := pow_pos M
  have hd := Nat.div_add_mod V (2 ^ M)
  generalize 2 ^ M = p at *
  rw [hm] at hd
  generalize V / p = k at *
  have e : (V + (p - 1)) / p = k := by
    rw [← hd, Nat.add_zero, Nat.mul_comm, Nat.add_comm, Nat.add_mul_div_right _ _ hp, Nat.div_eq_of_lt (by omega), Nat.zero_add]
  rw [e, Nat.mul_comm]
  omega
theorem upR_fit1 (v n : Int) (v0 : 0 ≤ v) (n0 : 0 ≤ n) (h : v % twoI n ≠ 0) : v - v % twoI n + twoI n = upI v n := by
  obtain ⟨V, rfl⟩ := Int.eq_ofNat_of_zero_le v0
  obtain ⟨M, rfl⟩ := Int.eq_ofNat_of_zero_le n0
  rw [two_cast] at h ⊢
  rw [← Int.natCast_emod] at h ⊢
  simp only [upI, upN, Int.toNat_natCast]
  have hp := pow_pos M
  have hd := Nat.div_add_mod V (2 ^ M)
  have hl := Nat.mod_lt V hp
  generalize 2 ^ M = p at *
  generalize V / p = k at *
  generalize V % p = m at *
  have e : (V + (p - 1)) / p = k + 1 := by
    have e2 : V + (p - 1) = (m - 1) + (k + 1) * p := by
      rw [Nat.add_mul, Nat.one_mul, Nat.mul_comm k p]
      omega
    rw [e2, Nat.add_mul_div_right _ _ hp, Nat.div_eq_of_lt (by omega), Nat.zero_add]
  rw [e, Nat.add_mul, Nat.one_mul, Nat.mul_comm k p]
  omega
theorem upR_wrap (v n : Int) (v1 : v ≤ 18446744073709551615) (n0 : 0 ≤ n) (n1 : n ≤ 63) (hv : notI (onesI n) < v) : v % twoI n ≠ 0 ∧ IntKind.u64.wrap (v - v % twoI n + twoI n) = 0 := by
  have ho := onesI_bd n n0 (by omega)
  obtain ⟨V, rfl⟩ := Int.eq_ofNat_of_zero_le (show 0 ≤ v by unfold notI at hv; omega)
  obtain ⟨M, rfl⟩ := Int.eq_ofNat_of_zero_le n0
  unfold notI at hv
  rw [ones_cast] at hv
  rw [two_cast, ← Int.natCast_emod]
  have hp := pow_pos M
  have hd := Nat.div_add_mod V (2 ^ M)
  have hl := Nat.mod_lt V hp
  have hq : 18446744073709551616 = 2 ^ (64 - M) * 2 ^ M := by rw [← Nat.pow_add, show 64 - M + M = 64 by omega]
  generalize 2 ^ (64 - M) = q at *
  generalize 2 ^ M = p at *
  generalize V / p = k at *
  generalize V % p = m at *
  have h1 : k < q := by
    apply Nat.lt_of_not_le
    intro g
    have := Nat.mul_le_mul_left p g
    rw [Nat.mul_comm p q] at this
    omega
  have h2 : q ≤ k + 1 := by
    apply Nat.le_of_not_lt
    intro g
    have := Nat.mul_le_mul_left p g
    rw [Nat.mul_comm p q] at this
    have e : p * (k + 1 + 1) = p * k + p + p := by rw [Nat.mul_add, Nat.mul_add, Nat.mul_one]
    have e' : p * (k + 1).succ = p * (k + 1 + 1) := rfl
    omega
  have h3 : q = k + 1 := by omega
  rw [h3, Nat.add_mul, Nat.one_mul, Nat.mul_comm k p] at hq
  have h4 : m ≠ 0 := by omega
  refine ⟨by omega, ?_⟩
  have e : ((V : Int) - (m : Int) + (p : Int)) = 18446744073709551616 := by omega
  rw [e, IntKind.wrap_u64]
  decide
theorem mod_bd (v n : Int) (v0 : 0 ≤ v) (n0 : 0 ≤ n) (n1 : n ≤ 63) : 0 ≤ v % twoI n ∧ v % twoI n ≤ v := by
  have hb := twoI_bd n n0 n1
  refine ⟨Int.emod_nonneg _ (by omega), ?_⟩
  obtain ⟨V, rfl⟩ := Int.eq_ofNat_of_zero_le v0
  obtain ⟨M, rfl⟩ := Int.eq_ofNat_of_zero_le n0
  rw [two_cast, ← Int.natCast_emod]
  have := Nat.mod_le V (2 ^ M)
  omega
set_option maxHeartbeats 400000 in
theorem upR_yes (v n : Int) (w : World) (v0 : 0 ≤ v) (h0 : 0 ≤ n) (h2 : n ≤ 63) (hv : v ≤ notI (onesI n)) :
    Calls Tryd.prog 17 #[.int .u64 v, .int .i64 n] w fun e w' => e = .returned (.tuple #[.int .u64 (upI v n), .int .i64 0]) ∧ w' = w := by
  have hb := twoI_bd n h0 h2
  have hm := mod_bd v n v0 h0 h2
  have hu := upI_bd v n v0 h0 h2 hv
  have hf := upI_facts v n v0 h0 h2 hv
  by_cases c : v % twoI n = 0
  · have HE : Hid (upI v n = v) := upR_fit0 v n v0 h0 c
    have t1 : (v % twoI n == 0) = true := by rw [c]; rfl
    clear c hu hf
    go_enter Tryd.func17, Tryd.ntmps17
    go_wp2_with (go_at_call 27; refine (two_any _ _ (by omega) (by omega)).mono ?_; rintro e w' ⟨rfl, rfl⟩)
    go_ret2
    exact ⟨ret_two HE.out.symm rfl, rfl⟩
  · have he := upR_fit1 v n v0 h0 c
    have HE : Hid (v - v % twoI n + twoI n = upI v n) := he
    have t1 : (v % twoI n == 0) = false := by rw [beq_eq_false_iff_ne]; exact c
    have t2 : v - v % twoI n + twoI n ≤ 18446744073709551615 := by rw [he]; exact hu.2
    have t3 : v ≤ v - v % twoI n + twoI n := by rw [he]; exact hf.2.2.1
    clear c hu hf he
    go_enter Tryd.func17, Tryd.ntmps17
    go_wp2_with (go_at_call 27; refine (two_any _ _ (by omega) (by omega)).mono ?_; rintro e w' ⟨rfl, rfl⟩)
    go_ret2
    exact ⟨ret_two HE.out rfl, rfl⟩
set_option maxHeartbeats 400000 in
theorem upR_big (v n : Int) (w : World) (v1 : v ≤ 18446744073709551615) (h0 : 0 ≤ n) (h2 : n ≤ 63) (hv : notI (onesI n) < v) :
    Calls Tryd.prog 17 #[.int .u64 v, .int .i64 n] w fun e w' => e = .returned (.tuple #[.int .u64 0, .int .i64 2]) ∧ w' = w := by
  have ho := onesI_bd n h0 (by omega)
  have v0 : 0 < v := by unfold notI at hv; omega
  have hb := twoI_bd n h0 h2
  have hm := mod_bd v n (by omega) h0 h2
  obtain ⟨c, hw⟩ := upR_wrap v n v1 h0 h2 hv
  have t1 : (v % twoI n == 0) = false := by rw [beq_eq_false_iff_ne]; exact c
  clear c hv ho
  go_enter Tryd.func17, Tryd.ntmps17
  go_wp2_with (go_at_call 27; refine (two_any _ _ (by omega) (by omega)).mono ?_; rintro e w' ⟨rfl, rfl⟩)
  go_ret2
  exact ⟨rfl, rfl⟩
theorem upR_no (v n : Int) (w : World) (h : ¬ (0 ≤ n ∧ n ≤ 63)) :
    Calls Tryd.prog 17 #[.int .u64 v, .int .i64 n] w fun e w' => e = .returned (.tuple #[.int .u64 0, .int .i64 1]) ∧ w' = w := by
  by_cases c : 0 ≤ n
  · have c2 : 63 < n := by omega
    clear h
    go_enter Tryd.func17, Tryd.ntmps17
    go_wp2
    go_ret2
    exact ⟨rfl, rfl⟩
  · clear h
    go_enter Tryd.func17, Tryd.ntmps17
    go_wp2
    go_ret2
    exact ⟨rfl, rfl⟩
end Go.Proofs.YtpmlhdmncbpodaaDoor
