/-
  What Bit, bits and node of the document's answer return: each contract names its conditions.
-/
import Derived.Test.YtafjgoelofobmaaKSlot
import Derived.Test.YtafjgoelofobmaaNRSize
namespace Go.Proofs.Ytafjgoelofobmaa
open Go.RowKit Go.Deep Go.MapKept Go.Maps
set_option linter.unusedSectionVars false
variable [dCp : DecidableEq Cp] [dLim : ∀ k, Decidable (Lim k)] [dBad : ∀ k, Decidable (Bad k)] [dFit : ∀ g z, Decidable (Fit g z)] [dFine : ∀ c, Decidable (Fine c)] [dMint : ∀ c v, Decidable (MintR c v)] [dWho : ∀ x y, Decidable (Whose x y)] [dSl : DecidableEq Sl] [dLt : ∀ a b, Decidable (ltS a b)] [dIsN : ∀ S c, Decidable (isN S c)] [dGuN : ∀ a c d, Decidable (GuardN a c d)]

theorem bit_of (v n : Int) (v0 : 0 ≤ v) (n0 : 0 ≤ n) : (v / twoI n % 2 == 1) = v.toNat.testBit n.toNat := by
  obtain ⟨V, rfl⟩ := Int.eq_ofNat_of_zero_le v0
  obtain ⟨M, rfl⟩ := Int.eq_ofNat_of_zero_le n0
  rw [two_cast, Int.toNat_natCast, Int.toNat_natCast, Nat.testBit_eq_decide_div_mod_eq]
  have e : ((V : Int) / ((2 ^ M : Nat) : Int)) % 2 = ((V / 2 ^ M % 2 : Nat) : Int) := by simp
  rw [e, Bool.eq_iff_iff]
  simp only [beq_iff_eq, decide_eq_true_eq]
  omega
theorem bitR_any (v n : Int) (w : World) (v0 : 0 ≤ v) (v1 : v ≤ 18446744073709551615) (h0 : 0 ≤ n) (h1 : n ≤ 63) :
    Calls Try.prog 40 #[.int .u64 v, .int .i64 n] w fun e w' => e = .returned (.bool (v.toNat.testBit n.toNat)) ∧ w' = w := by
  have hb := twoI_bd n h0 h1
  have hd : 0 ≤ v / twoI n := Int.ediv_nonneg v0 (by omega)
  go_enter Try.func40, Try.ntmps40
  go_wp2_with (go_at_call 39; refine (r1two_any _ _ (by omega) (by omega)).mono ?_; rintro e w' ⟨rfl, rfl⟩)
  go_ret
  exact ⟨ret_one (congrArg Value.bool (bit_of v n v0 h0)), rfl⟩
theorem field_step (a x j : Nat) : fieldN a x (j + 1) = 2 * fieldN a (x + 1) j + (if a.testBit x then 1 else 0) := by
  unfold fieldN
  have e1 : a / 2 ^ (x + 1) = a / 2 ^ x / 2 := by rw [Nat.pow_succ, Nat.div_div_eq_div_mul]
  have e2 : (2 : Nat) ^ (j + 1) = 2 * 2 ^ j := by rw [Nat.pow_succ, Nat.mul_comm]
  rw [e1, e2, Nat.mod_mul, Nat.testBit_eq_decide_div_mod_eq]
  have h2 : a / 2 ^ x % 2 < 2 := Nat.mod_lt _ (by omega)
  by_cases hb : a / 2 ^ x % 2 = 1
  · simp [hb]
    omega
  · have h0 : a / 2 ^ x % 2 = 0 := by omega
    simp [h0]
set_option maxHeartbeats 1000000 in
set_option maxRecDepth 100000 in
theorem bits_any (a d t n : Nat) (w : World) (ha : a < 18446744073709551616) (hd : d ≤ 64) (hn : t + n ≤ d) :
    Calls Try.prog 32 #[.int .u64 a, .int .i64 d, .int .i64 t, .int .i64 n] w fun e w' => e = .returned (.int .u64 ((fieldN a (d - t - n) n : Nat) : Int)) ∧ w' = w := by
  have bc := fun i W h0 h1 => bitR_any (a : Int) i W (by omega) (by omega) h0 h1
  go_enter Try.func32, Try.ntmps32
  go_wp2
  go_loop [9, 10] (fun v i => ∃ k : Nat, t ≤ k ∧ k ≤ t + n ∧ i = .int .i64 (k : Int) ∧ v = .int .u64 ((fieldN a (d - k) (k - t) : Nat) : Int)) (fun _ i => t + n - (intOf i).toNat)
  case atStart => exact ⟨t, Nat.le_refl _, by omega, rfl, by simp [fieldN, Nat.mod_one]⟩
  case round =>
    obtain ⟨k, hk0, hk, rfl, rfl⟩ := hrel
    by_cases hlt : k < t + n
    · have hs := field_step a (d - (k + 1)) (k - t)
      rw [show d - (k + 1) + 1 = d - k by omega, show k - t + 1 = k + 1 - t by omega] at hs
      have hf := fieldN_lt a (d - (k + 1)) (k + 1 - t)
      have hp := pow_le (k + 1 - t) (by omega)
      have h2 : 2 * fieldN a (d - k) (k - t) < 18446744073709551616 := by omega
      have bb := fun W => bc ((d : Int) - 1 - (k : Int)) W (by omega) (by omega)
      rw [show ((d : Int) - 1 - (k : Int)).toNat = d - (k + 1) by omega, Int.toNat_natCast] at bb
      have HS : Hid (fieldN a (d - (k + 1)) (k + 1 - t) = 2 * fieldN a (d - k) (k - t) + (if a.testBit (d - (k + 1)) then 1 else 0)) := hs
      have HJ : Hid (t ≤ k ∧ k < t + n) := ⟨hk0, hlt⟩
      have b1 : (k : Int) < (t : Int) + (n : Int) := by omega
      have b2 : (d : Int) ≤ 64 := by omega
      have b3 : (t : Int) + (n : Int) ≤ (d : Int) := by omega
      have b4 : (2 : Int) * ((fieldN a (d - k) (k - t) : Nat) : Int) ≤ 18446744073709551615 := by omega
      have b5 : Hid (fieldN a (d - (k + 1)) (k + 1 - t) < 18446744073709551616) := (by omega : fieldN a (d - (k + 1)) (k + 1 - t) < 18446744073709551616)
      clear hs hf hp h2 hlt hk hk0 bc
      generalize hT : a.testBit (d - (k + 1)) = T at *
      generalize hF : fieldN a (d - k) (k - t) = fj at *
      clear hT hF
      cases T with
      | true =>
        have b6 : (2 : Int) * ((fj : Nat) : Int) + 1 ≤ 18446744073709551615 := by have := b5.out; have := HS.out; simp at this; omega
        go_wp2_with (go_at_call 40; refine (bb _).mono ?_; rintro e w' ⟨rfl, rfl⟩)
        go_round
        case rel => exact ⟨k + 1, by have := HJ.out; omega, HJ.out.2, by go_num, by rw [HS.out]; simp⟩
        case measure => simp [intOf]; have := HJ.out; omega
      | false =>
        go_wp2_with (go_at_call 40; refine (bb _).mono ?_; rintro e w' ⟨rfl, rfl⟩)
        go_round
        case rel => exact ⟨k + 1, by have := HJ.out; omega, HJ.out.2, by go_num, by rw [HS.out]; simp⟩
        case measure => simp [intOf]; have := HJ.out; omega
    · have hjn : k = t + n := by omega
      have b1 : ¬ ((k : Int) < (t : Int) + (n : Int)) := by omega
      have HE : Hid (d - t - n = d - k ∧ n = k - t) := (by omega : d - t - n = d - k ∧ n = k - t)
      have b2 : (d : Int) ≤ 64 := by omega
      have b3 : (t : Int) + (n : Int) ≤ (d : Int) := by omega
      clear hjn hlt hk hk0 hn
      go_wp2
      go_ret
      exact ⟨by rw [HE.out.1, ← HE.out.2]; rfl, rfl⟩

/-! ### Blocks of one's own beside the document's nodes -/
section
variable {w0 W W' : World} {p : Nat} {F : Nat → Prop} {S T : St} {L L' : List (Nat × Obj)}
theorem RB.then (h : RB w0 W p F S L) (l : RLeaves W p F T W') : RB w0 W' p F T L :=
  ⟨l.1, h.turn.trans l.2 fun _ hx => .inl hx, h.lt, fun b hb => by
    obtain ⟨h1, h2⟩ := h.blk b hb
    exact ⟨(l.2.block _ (Array.getElem?_eq_some_iff.1 h1).1 fun hf => by have := h.lt _ hf; omega).trans h1, h2⟩⟩
theorem RB.fewer (h : RB w0 W p F S L) (hL : ∀ b ∈ L', b ∈ L) : RB w0 W p F S L' := { h with blk := fun b hb => h.blk b (hL b hb) }
theorem RB.cell (h : RB w0 W p F S L) (q : Nat) (hq : w0.heap.size ≤ q) (i : Nat) (v : Value) (hL : ∀ b ∈ L', b ∈ L ∧ b.1 ≠ q) : RB w0 (W.setCell ⟨q, i, none⟩ v) p F S L' := by
  have t : Turn (One q) W (W.setCell ⟨q, i, none⟩ v) := Turn.setCell _ W ⟨q, i, none⟩ v rfl
  have hn : ¬ F q := fun hf => by have := h.lt q hf; omega
  refine ⟨h.rds.turn t fun x hx e => hn (by unfold One at e; exact e ▸ hx), h.turn.trans t fun x hx => .inr (by unfold One at hx; omega), h.lt, fun b hb => ?_⟩
  obtain ⟨h1, h2⟩ := hL b hb
  obtain ⟨k1, k2⟩ := h.blk b h1
  exact ⟨(blk_setCell_other _ _ _ _ h2).trans k1, k2⟩
theorem RB.two (h : RB w0 W p F S L) (q : Nat) (hq : w0.heap.size ≤ q) (v v' : Value) : RLeaves w0 p F S ((W.setCell ⟨q, 0, none⟩ v).setCell ⟨q, 1, none⟩ v') :=
  ((h.cell q hq 0 v (L' := []) fun b hb => by cases hb).cell q hq 1 v' (L' := []) fun b hb => by cases hb).leaves
theorem RB.six (h : RB w0 W p F S L) {q : Nat} {d : Cp} (hb : (q, objC d) ∈ L) (c : Cp) (hL : ∀ b ∈ L', b = (q, objC c) ∨ (b ∈ L ∧ b.1 ≠ q)) : RB w0 (six W q c) p F S L' := by
  obtain ⟨h1, h2⟩ := h.blk _ hb
  have h2' : w0.heap.size ≤ q := h2
  have nil : ∀ b ∈ ([] : List (Nat × Obj)), b ∈ ([] : List (Nat × Obj)) ∧ b.1 ≠ q := fun b hb => by cases hb
  have k : RB w0 (Go.Proofs.Ytafjgoelofobmaa.six W q c) p F S [] := ((((((h.cell q h2' 0 _ (L' := []) fun b hb => by cases hb).cell q h2' 1 _ nil).cell q h2' 2 _ nil).cell q h2' 3 _ nil).cell q h2' 4 _ nil).cell q h2' 5 _ nil)
  refine { k with blk := fun b hb' => ?_ }
  rcases hL b hb' with rfl | ⟨hb1, hb2⟩
  · exact ⟨AtC.six (show AtC W q d from h1) c, h2⟩
  · obtain ⟨k1, k2⟩ := h.blk b hb1
    exact ⟨(six_other _ _ _ _ hb2).trans k1, k2⟩
end

/-! ### node -/
theorem node_any (p : Nat) (F : Nat → Prop) (S : St) (c : Cp) (w : World) (h : Rds w p F S) (hf : c.Fits) :
    Calls Try.prog 31 #[.pointer (some ⟨p, 0, none⟩), encC c] w fun e w' => e = .returned (.tuple #[.int .i64 (sizeC S c), .bool (decide (isN S c))]) ∧ RLeaves w p F S w' := by
  have H1 : Hid (RB w (w.alloc (objC c)) p F S [(w.heap.size, objC c)]) := (RB.start h).alloc (objC c)
  have HF : Hid c.Fits := hf
  obtain ⟨z0, z1, z2, z3, z4, z5⟩ := H1.out.atC (q := w.heap.size) (c := c) (by simp)
  clear h hf
  simp only [encC] at *
  simp only [objC] at z0 z1 z2 z3 z4 z5
  go_enter Try.func31, Try.ntmps31
  go_wp2_with fail
  refine (rsize_any p F S c.o _ H1.out.rds).mono ?_
  rintro e w2 ⟨rfl, b2⟩
  have H2 : Hid (RB w w2 p F S [(w.heap.size, objC c)]) := H1.out.then b2.leaves
  clear z0 z1 z2 z3 z4 z5 H1 b2
  obtain ⟨z0, z1, z2, z3, z4, z5⟩ := H2.out.atC (q := w.heap.size) (c := c) (by simp)
  generalize hr0 : w.heap.size = r at *
  clear hr0
  by_cases hk : c.k = 2
  · have hk' : (c.k != 2) = false := by simp [hk]
    have HK : Hid (c.k = 2) := hk
    clear hk
    go_wp2_with fail
    refine (rcheck_any c _ HF.out).mono ?_
    rintro e w3 ⟨rfl, b3⟩
    have H3 : Hid (RB w w3 p F S [(r, objC c)]) := H2.out.below b3
    clear z0 z1 z2 z3 z4 z5 H2 b3
    by_cases hF : Fine c
    · have e1 : checkE c = 0 := by simp [checkE, hF]
      rw [e1]
      by_cases hn : nodeS S c.o ≠ []
      · have hi : isN S c := ⟨HK.out, hF, hn⟩
        obtain ⟨e1, e2⟩ := sizeN_is hn
        have e3 : sizeC S c = bitsN S c := by unfold sizeC; rw [if_pos hi]
        rw [e1, e2]
        have E : Hid (sizeC S c = bitsN S c ∧ decide (isN S c) = true) := ⟨e3, by simp [hi]⟩
        clear e1 e2 e3 hn hi hF
        go_wp2
        all_goals go_ret2
        all_goals exact ⟨by rw [E.out.1, E.out.2]; rfl, H3.out.leaves⟩
      · have hi : ¬ isN S c := fun h => hn h.2.2
        obtain ⟨e1, e2⟩ := sizeN_no hn
        rw [e1, e2]
        have E : Hid (sizeC S c = 0 ∧ decide (isN S c) = false) := ⟨by unfold sizeC; rw [if_neg hi], by simp [hi]⟩
        clear e1 e2 hn hi hF
        go_wp2
        all_goals go_ret2
        all_goals exact ⟨by rw [E.out.1, E.out.2]; rfl, H3.out.leaves⟩
    · have e1 : checkE c = 40 := by simp [checkE, hF]
      rw [e1]
      have hi : ¬ isN S c := fun h => hF h.2.1
      have E : Hid (sizeC S c = 0 ∧ decide (isN S c) = false) := ⟨by unfold sizeC; rw [if_neg hi], by simp [hi]⟩
      clear e1 hF hi
      go_wp2
      all_goals go_ret2
      all_goals exact ⟨by rw [E.out.1, E.out.2]; rfl, H3.out.leaves⟩
  · have hk' : (c.k != 2) = true := by simp [hk]
    have hi : ¬ isN S c := fun h => hk h.1
    have E : Hid (sizeC S c = 0 ∧ decide (isN S c) = false) := ⟨by unfold sizeC; rw [if_neg hi], by simp [hi]⟩
    clear hi hk
    go_wp2
    all_goals go_ret2
    all_goals exact ⟨by rw [E.out.1, E.out.2]; rfl, H2.out.leaves⟩
end Go.Proofs.Ytafjgoelofobmaa
