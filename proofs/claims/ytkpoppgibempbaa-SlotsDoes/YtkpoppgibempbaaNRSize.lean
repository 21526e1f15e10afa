/-
  What Size of the document's own nodes answers; no condition of ours.
-/
import Derived.Test.YtkpoppgibempbaaNRGet
namespace Go.Proofs.Ytkpoppgibempbaa
open Go.RowKit Go.Deep Go.MapKept Go.Maps
set_option linter.unusedSectionVars false
variable [dCp : DecidableEq Cp] [dLim : ∀ k, Decidable (Lim k)] [dBad : ∀ k, Decidable (Bad k)] [dFit : ∀ g z, Decidable (Fit g z)] [dFine : ∀ c, Decidable (Fine c)] [dMint : ∀ c v, Decidable (MintR c v)] [dWho : ∀ x y, Decidable (Whose x y)] [dSl : DecidableEq Sl] [dLt : ∀ a b, Decidable (ltS a b)] [iSl : Inhabited Sl] [iCp : Inhabited Cp]

theorem rsize_out (p : Nat) (F : Nat → Prop) (S : St) (n : Int) (w : World) (h : Rds w p F S) (ho : nodeS S n = []) :
    Calls Try.prog 19 #[.pointer (some ⟨p, 0, none⟩), .int .i64 n] w fun e w' => e = .returned (.tuple #[.int .i64 0, .bool false]) ∧ w' = w := by
  obtain ⟨v, H, h⟩ := h
  obtain ⟨ao, cap, rfl, c0, -, hj⟩ := h.slice
  clear h
  by_cases h0 : n < 0
  · clear hj ho
    go_enter Try.func19, Try.ntmps19
    go_wp2
    all_goals go_ret2
    all_goals exact ⟨rfl, rfl⟩
  · obtain ⟨j, rfl⟩ := Int.eq_ofNat_of_zero_le (show 0 ≤ n by omega)
    by_cases h1 : j < S.length
    · obtain ⟨g, bo, rfl, c1, -⟩ := hj j h1
      rw [nodeS_nat] at ho
      rw [ho] at c1
      have hn' : (j : Int) < (S.length : Int) := by omega
      clear hj ho h0 h1
      generalize S.length = N at *
      simp only [List.length_nil] at c1
      go_enter Try.func19, Try.ntmps19
      go_wp2
      all_goals go_ret2
      all_goals exact ⟨rfl, rfl⟩
    · have hn' : (S.length : Int) ≤ (j : Int) := by omega
      clear hj ho h0 h1
      generalize S.length = N at *
      go_enter Try.func19, Try.ntmps19
      go_wp2
      all_goals go_ret2
      all_goals exact ⟨rfl, rfl⟩
set_option maxHeartbeats 1000000 in
set_option maxRecDepth 100000 in
theorem rsize_in (p : Nat) (F : Nat → Prop) (S : St) (j : Nat) (w : World) (h : Rds w p F S) (hj : j < S.length) (b : Nat) (b1 : 1 ≤ b) (b2 : b ≤ 8) (hb : (S.getD j []).length = 2 ^ b) :
    Calls Try.prog 19 #[.pointer (some ⟨p, 0, none⟩), .int .i64 (j : Nat)] w fun e w' => e = .returned (.tuple #[.int .i64 (b : Nat), .bool true]) ∧ RB w w' p F S [] := by
  have H1 : Hid (RB w w p F S [] ∧ j < S.length) := ⟨RB.start h, hj⟩
  have hn' : (j : Int) < (S.length : Int) := by omega
  have HB : Hid (b ≤ 8 ∧ 1 ≤ b ∧ (S.getD j []).length = 2 ^ b) := ⟨b2, b1, hb⟩
  obtain ⟨v, H, h⟩ := h
  obtain ⟨ao, cap, rfl, c0, -, hx⟩ := h.slice
  obtain ⟨g, bo, rfl, c1, -⟩ := hx j hj
  have hm : (((S.getD j []).length : Int) == 0) = false := by
    have := Nat.two_pow_pos b
    simp only [beq_eq_false_iff_ne, ne_eq]
    omega
  clear h hx hj b1 b2 hb
  generalize hN : S.length = N at *
  have HN : Hid (S.length = N) := hN
  generalize hM : (S.getD j []).length = m at *
  have HM : Hid ((S.getD j []).length = m) := hM
  clear hN hM
  go_enter Try.func19, Try.ntmps19
  go_wp2
  go_loopw [6] (fun i wr => ∃ k : Nat, 1 ≤ k ∧ k ≤ b ∧ i = .int .i64 k ∧ RB w wr p F S []) (fun i _ => 9 - (intOf i).toNat)
  case atStart => exact ⟨1, by omega, HB.out.2.1, rfl, H1.out.1⟩
  case round =>
    obtain ⟨k, hk1, hk2, rfl, hr⟩ := hrel
    have HR : Hid (RB w wr p F S []) := hr
    obtain ⟨v, H, h⟩ := hr.rds
    obtain ⟨ao, cap', rfl, d0, -, hx⟩ := h.slice
    obtain ⟨g', bo', rfl, d1, -⟩ := hx j (by rw [HN.out]; exact H1.out.2)
    rw [HN.out] at d0
    rw [HM.out] at d1
    clear h hx hr c0 c1 hm
    by_cases hk8 : k < 8
    · obtain ⟨t, HT⟩ : ∃ t : Nat, Hid (twoI (k : Int) = (t : Int) ∧ t = 2 ^ k ∧ t ≤ 128) := ⟨2 ^ k, two_cast k, rfl, show 2 ^ k ≤ 2 ^ 7 from Nat.pow_le_pow_right (by omega) (by omega)⟩
      have tc : ∀ W, Calls Try.prog 40 #[.int .i64 (k : Nat)] W fun e w' => e = .returned (.int .u64 (t : Nat)) ∧ w' = W := fun W => by
        refine (r1two_any (k : Int) W (by omega) (by omega)).mono ?_
        rintro e w' ⟨rfl, rfl⟩
        exact ⟨by rw [HT.out.1], rfl⟩
      have ht : (t : Int) ≤ 128 := by have := HT.out.2.2; omega
      have K8 : Hid (k < 8) := hk8
      have k8 : (k : Int) < 8 := by omega
      have K9 : Hid (1 ≤ k ∧ k ≤ b) := ⟨hk1, hk2⟩
      clear hk8 hk1 hk2
      have KR : Hid (∀ n, RB w (wr.drewN n) p F S []) := fun n => HR.out.drewN n
      by_cases e : k = b
      · have he : ((m : Int) == (t : Int)) = true := by
          have h1 := HT.out.2.1
          have h2 := HB.out.2.2
          rw [← e, ← h1] at h2
          simp [h2]
        have E : Hid (k = b) := e
        clear e
        go_wp2
        go_quiet ((go_at_call 40; refine Calls.quiet_of_same (tc _)))
        go_wp2
        go_ret2
        exact ⟨by rw [← E.out]; rfl, KR.out _⟩
      · have he : ((m : Int) == (t : Int)) = false := by
          have h1 := HT.out.2.1
          have h2 := HB.out.2.2
          simp only [beq_eq_false_iff_ne, ne_eq]
          intro e2
          have : (2 : Nat) ^ k = 2 ^ b := by omega
          have h3 := congrArg Nat.log2 this
          rw [Nat.log2_two_pow, Nat.log2_two_pow] at h3
          exact e h3
        have E : Hid (k ≠ b) := e
        clear e
        go_wp2
        go_quiet ((go_at_call 40; refine Calls.quiet_of_same (tc _)))
        go_wp2
        go_roundw
        case rel => exact ⟨k + 1, by omega, by have := E.out; have := K9.out; omega, by go_num, KR.out _⟩
        case measure => simp [intOf]; have := K8.out; omega
    · have hk : k = 8 := by have := HB.out.1; omega
      subst hk
      have e8 : b = 8 := by have := HB.out.1; omega
      have E : Hid (b = 8) := e8
      clear e8
      go_wp2
      go_ret2
      exact ⟨by rw [E.out]; rfl, HR.out⟩
theorem rsize_any (p : Nat) (F : Nat → Prop) (S : St) (n : Int) (w : World) (h : Rds w p F S) :
    Calls Try.prog 19 #[.pointer (some ⟨p, 0, none⟩), .int .i64 n] w fun e w' => e = .returned (.tuple #[.int .i64 (sizeN S n), .bool (sizeB S n)]) ∧ RB w w' p F S [] := by
  by_cases ho : nodeS S n = []
  · refine (rsize_out p F S n w h ho).mono ?_
    rintro e w' ⟨rfl, rfl⟩
    exact ⟨by unfold sizeN sizeB; rw [ho]; rfl, RB.start h⟩
  · have h0 : 0 ≤ n := Decidable.byContradiction fun h0 => ho (by unfold nodeS; rw [if_neg h0])
    obtain ⟨j, rfl⟩ := Int.eq_ofNat_of_zero_le h0
    have ho' := ho
    rw [nodeS_nat] at ho'
    have hj : j < S.length := Decidable.byContradiction fun hj => ho' (by rw [List.getD_eq_getElem?_getD, List.getElem?_eq_none (by omega)]; rfl)
    rcases h.ok.bits (node_mem hj) with ⟨e, _⟩ | ⟨_, b1, b2, hb⟩
    · exact absurd e ho'
    · refine (rsize_in p F S j w h hj _ b1 b2 hb).mono ?_
      rintro e w' ⟨rfl, k⟩
      refine ⟨?_, k⟩
      unfold sizeN sizeB
      rw [if_neg ho, nodeS_nat]
      cases hl : S.getD j [] with
      | nil => exact absurd hl ho'
      | cons => rfl
end Go.Proofs.Ytkpoppgibempbaa
