/-
  What formed and Check of package caps answer, for every capability; no condition but that its numbers fit.
-/
import Derived.Test.YtkpoppgibempbaaNCut
namespace Go.Proofs.Ytkpoppgibempbaa
open Go.RowKit Go.Deep
set_option linter.unusedSectionVars false
variable [dCp : DecidableEq Cp] [dLim : ∀ k, Decidable (Lim k)] [dBad : ∀ k, Decidable (Bad k)] [dFit : ∀ g z, Decidable (Fit g z)] [dFine : ∀ c, Decidable (Fine c)] [dMint : ∀ c v, Decidable (MintR c v)] [dWho : ∀ x y, Decidable (Whose x y)]
set_option maxHeartbeats 4000000 in
theorem formed_more (c : Cp) (w : World) (hf : c.Fits) (hk : ¬ c.k = 0) : Calls Try.prog 48 #[encC c] w fun e w' => e = .returned (.bool (decide (Fine c))) ∧ Below w.heap.size w w' := by
  have HF : Hid (Fine c ↔ ((((((0 < c.k ∧ c.k < 10) ∧ (0 ≤ c.o ∧ c.o ≤ 2147483647) ∧ (0 ≤ c.r ∧ c.r ≤ 7)) ∧ (c.r = 7 ∨ Lim c.k)) ∧ (c.b = 0 ∨ Bad c.k)) ∧ ((c.g = 0 ∧ c.z = 0) ∨ c.k = 2)) ∧ Fit c.g c.z)) :=
    (by
      constructor
      · intro h
        obtain ⟨h1, h2, h3, h4, h5, h6, h7⟩ := h.of_ne hk
        exact ⟨⟨⟨⟨⟨h1, h2, h3⟩, h4⟩, h5⟩, h6⟩, h7⟩
      · rintro ⟨⟨⟨⟨⟨h1, h2, h3⟩, h4⟩, h5⟩, h6⟩, h7⟩
        exact .inr ⟨h1, h2, h3, h4, h5, h6, h7⟩ : Fine c ↔ _)
  have hg := hf.g
  have a1 := AtC.new w c
  have B1 : Hid (Below w.heap.size w (w.alloc (objC c))) := below_new w (objC c)
  clear hf
  simp only [encC, objC] at *
  go_enter Try.func48, Try.ntmps48
  go_upto_region 3 with fail
  generalize w.alloc (Obj.cells #[.int .i64 c.k, .int .i64 c.o, .int .i64 c.r, .int .u64 c.b, .int .u64 c.g, .int .i64 c.z] 33) = w1 at *
  obtain ⟨c0, c1, c2, c3, c4, c5⟩ := a1.cells
  clear a1
  have HR : Hid (∃ r, r = w.heap.size) := ⟨_, rfl⟩
  generalize hr0 : w.heap.size = r at *
  clear HR
  have HR : Hid (w.heap.size = r) := hr0
  clear hr0
  obtain ⟨R1, hR1⟩ : ∃ R : Act → World → Prop, ∀ a' w', R a' w' ↔ ∃ (q : Bool), (q = true ↔ ((0 < c.k ∧ c.k < 10) ∧ (0 ≤ c.o ∧ c.o ≤ 2147483647) ∧ (0 ≤ c.r ∧ c.r ≤ 7))) ∧ w1 = w' ∧ ∃ x : Nat → Value, a' = { tmps := #[x 0, .pointer (some ⟨r, 0, none⟩), x 2, x 3, x 4, x 5, x 6, x 7, x 8, x 9, x 10, x 11, x 12, x 13, x 14, x 15, x 16, x 17, x 18, x 19, x 20, x 21, x 22, x 23, x 24, x 25, x 26, x 27, x 28, x 29, x 30, .bool q, x 32, x 33, x 34, x 35, x 36, x 37, x 38, x 39, x 40, x 41, x 42, x 43, x 44, x 45, x 46, x 47, x 48, x 49, x 50, x 51, x 52, x 53, x 54, x 55, x 56, x 57, x 58, x 59, x 60, x 61, x 62, x 63, x 64, x 65, x 66, x 67, x 68, x 69, x 70, x 71, x 72, x 73], defers := [] } := ⟨_, fun _ _ => Iff.rfl⟩
  have HR1 : Hid (∀ a' w', R1 a' w' ↔ ∃ (q : Bool), (q = true ↔ ((0 < c.k ∧ c.k < 10) ∧ (0 ≤ c.o ∧ c.o ≤ 2147483647) ∧ (0 ≤ c.r ∧ c.r ≤ 7))) ∧ w1 = w' ∧ ∃ x : Nat → Value, a' = { tmps := #[x 0, .pointer (some ⟨r, 0, none⟩), x 2, x 3, x 4, x 5, x 6, x 7, x 8, x 9, x 10, x 11, x 12, x 13, x 14, x 15, x 16, x 17, x 18, x 19, x 20, x 21, x 22, x 23, x 24, x 25, x 26, x 27, x 28, x 29, x 30, .bool q, x 32, x 33, x 34, x 35, x 36, x 37, x 38, x 39, x 40, x 41, x 42, x 43, x 44, x 45, x 46, x 47, x 48, x 49, x 50, x 51, x 52, x 53, x 54, x 55, x 56, x 57, x 58, x 59, x 60, x 61, x 62, x 63, x 64, x 65, x 66, x 67, x 68, x 69, x 70, x 71, x 72, x 73], defers := [] }) := hR1
  clear hR1
  refine wp_region_cut 23 R1 ?_ ?_
  · simp only [List.append_eq, List.cons_append, List.nil_append, List.take_succ_cons, List.take_zero]
    go_wp2_with (first | (go_at_call 53; refine (rights_any _ _).mono ?_; rintro e w' ⟨rfl, rfl⟩) | (go_at_call 54; refine (limited_any _ _).mono ?_; rintro e w' ⟨rfl, rfl⟩) | (go_at_call 55; refine (badged_any _ _).mono ?_; rintro e w' ⟨rfl, rfl⟩) | (go_at_call 56; refine (fits_any _ _ _ hg).mono ?_; rintro e w' ⟨rfl, rfl⟩))
    all_goals show R1 _ _
    all_goals refine (HR1.out _ _).2 ⟨_, ?_, rfl, met rfl⟩
    all_goals simp only [Bool.and_eq_true, decide_eq_true_eq, Bool.false_eq_true, false_iff]
    all_goals omega
  · simp only [List.append_eq, List.cons_append, List.nil_append, List.drop_succ_cons, List.drop_zero]
    intro a' w' hr
    obtain ⟨q, hq, rfl, x, rfl⟩ := (HR1.out _ _).1 hr
    clear HR1 hr
    generalize ((0 < c.k ∧ c.k < 10) ∧ (0 ≤ c.o ∧ c.o ≤ 2147483647) ∧ (0 ≤ c.r ∧ c.r ≤ 7)) = p at *
    obtain ⟨R2, hR2⟩ : ∃ R : Act → World → Prop, ∀ a' w', R a' w' ↔ ∃ (q : Bool), (q = true ↔ ((p ∧ (c.r = 7 ∨ Lim c.k)) ∧ (c.b = 0 ∨ Bad c.k))) ∧ w1 = w' ∧ ∃ x : Nat → Value, a' = { tmps := #[x 0, .pointer (some ⟨r, 0, none⟩), x 2, x 3, x 4, x 5, x 6, x 7, x 8, x 9, x 10, x 11, x 12, x 13, x 14, x 15, x 16, x 17, x 18, x 19, x 20, x 21, x 22, x 23, x 24, x 25, x 26, x 27, x 28, x 29, x 30, x 31, x 32, x 33, x 34, x 35, x 36, x 37, x 38, x 39, x 40, x 41, x 42, x 43, x 44, x 45, x 46, x 47, x 48, x 49, x 50, .bool q, x 52, x 53, x 54, x 55, x 56, x 57, x 58, x 59, x 60, x 61, x 62, x 63, x 64, x 65, x 66, x 67, x 68, x 69, x 70, x 71, x 72, x 73], defers := [] } := ⟨_, fun _ _ => Iff.rfl⟩
    have HR2 : Hid (∀ a' w', R2 a' w' ↔ ∃ (q : Bool), (q = true ↔ ((p ∧ (c.r = 7 ∨ Lim c.k)) ∧ (c.b = 0 ∨ Bad c.k))) ∧ w1 = w' ∧ ∃ x : Nat → Value, a' = { tmps := #[x 0, .pointer (some ⟨r, 0, none⟩), x 2, x 3, x 4, x 5, x 6, x 7, x 8, x 9, x 10, x 11, x 12, x 13, x 14, x 15, x 16, x 17, x 18, x 19, x 20, x 21, x 22, x 23, x 24, x 25, x 26, x 27, x 28, x 29, x 30, x 31, x 32, x 33, x 34, x 35, x 36, x 37, x 38, x 39, x 40, x 41, x 42, x 43, x 44, x 45, x 46, x 47, x 48, x 49, x 50, .bool q, x 52, x 53, x 54, x 55, x 56, x 57, x 58, x 59, x 60, x 61, x 62, x 63, x 64, x 65, x 66, x 67, x 68, x 69, x 70, x 71, x 72, x 73], defers := [] }) := hR2
    clear hR2
    refine wpList_cut 20 R2 ?_ ?_
    · simp only [List.take_succ_cons, List.take_zero]
      cases q with
      | false =>
        have hp : Hid (¬ p) := fun h => by cases hq.2 h
        clear hq
        go_wp2
        all_goals show R2 _ _
        all_goals refine (HR2.out _ _).2 ⟨_, ?_, rfl, met rfl⟩
        all_goals simp only [Bool.false_eq_true, false_iff]
        all_goals exact fun h => hp.out h.1.1
      | true =>
        have hp : Hid p := hq.1 rfl
        clear hq
        go_wp2_with (first | (go_at_call 53; refine (rights_any _ _).mono ?_; rintro e w' ⟨rfl, rfl⟩) | (go_at_call 54; refine (limited_any _ _).mono ?_; rintro e w' ⟨rfl, rfl⟩) | (go_at_call 55; refine (badged_any _ _).mono ?_; rintro e w' ⟨rfl, rfl⟩) | (go_at_call 56; refine (fits_any _ _ _ hg).mono ?_; rintro e w' ⟨rfl, rfl⟩))
        all_goals show R2 _ _
        all_goals refine (HR2.out _ _).2 ⟨_, ?_, rfl, met rfl⟩
        all_goals have hp := hp.out
        all_goals simp_all
    · clear q hq x
      simp only [List.drop_succ_cons, List.drop_zero]
      intro a' w' hr
      obtain ⟨q, hq, rfl, x, rfl⟩ := (HR2.out _ _).1 hr
      clear HR2 hr
      generalize ((p ∧ (c.r = 7 ∨ Lim c.k)) ∧ (c.b = 0 ∨ Bad c.k)) = p2 at *
      obtain ⟨R3, hR3⟩ : ∃ R : Act → World → Prop, ∀ a' w', R a' w' ↔ ∃ (q : Bool), (q = true ↔ (p2 ∧ ((c.g = 0 ∧ c.z = 0) ∨ c.k = 2))) ∧ w1 = w' ∧ ∃ x : Nat → Value, a' = { tmps := #[x 0, .pointer (some ⟨r, 0, none⟩), x 2, x 3, x 4, x 5, x 6, x 7, x 8, x 9, x 10, x 11, x 12, x 13, x 14, x 15, x 16, x 17, x 18, x 19, x 20, x 21, x 22, x 23, x 24, x 25, x 26, x 27, x 28, x 29, x 30, x 31, x 32, x 33, x 34, x 35, x 36, x 37, x 38, x 39, x 40, x 41, x 42, x 43, x 44, x 45, x 46, x 47, x 48, x 49, x 50, x 51, x 52, x 53, x 54, x 55, x 56, x 57, x 58, x 59, x 60, x 61, x 62, x 63, x 64, x 65, .bool q, x 67, x 68, x 69, x 70, x 71, x 72, x 73], defers := [] } := ⟨_, fun _ _ => Iff.rfl⟩
      have HR3 : Hid (∀ a' w', R3 a' w' ↔ ∃ (q : Bool), (q = true ↔ (p2 ∧ ((c.g = 0 ∧ c.z = 0) ∨ c.k = 2))) ∧ w1 = w' ∧ ∃ x : Nat → Value, a' = { tmps := #[x 0, .pointer (some ⟨r, 0, none⟩), x 2, x 3, x 4, x 5, x 6, x 7, x 8, x 9, x 10, x 11, x 12, x 13, x 14, x 15, x 16, x 17, x 18, x 19, x 20, x 21, x 22, x 23, x 24, x 25, x 26, x 27, x 28, x 29, x 30, x 31, x 32, x 33, x 34, x 35, x 36, x 37, x 38, x 39, x 40, x 41, x 42, x 43, x 44, x 45, x 46, x 47, x 48, x 49, x 50, x 51, x 52, x 53, x 54, x 55, x 56, x 57, x 58, x 59, x 60, x 61, x 62, x 63, x 64, x 65, .bool q, x 67, x 68, x 69, x 70, x 71, x 72, x 73], defers := [] }) := hR3
      clear hR3
      refine wpList_cut 15 R3 ?_ ?_
      · simp only [List.take_succ_cons, List.take_zero]
        cases q with
        | false =>
          have hp : Hid (¬ p2) := fun h => by cases hq.2 h
          clear hq
          go_wp2
          all_goals show R3 _ _
          all_goals refine (HR3.out _ _).2 ⟨_, ?_, rfl, met rfl⟩
          all_goals simp only [Bool.false_eq_true, false_iff]
          all_goals exact fun h => hp.out h.1
        | true =>
          have hp : Hid p2 := hq.1 rfl
          clear hq
          go_wp2_with (first | (go_at_call 53; refine (rights_any _ _).mono ?_; rintro e w' ⟨rfl, rfl⟩) | (go_at_call 54; refine (limited_any _ _).mono ?_; rintro e w' ⟨rfl, rfl⟩) | (go_at_call 55; refine (badged_any _ _).mono ?_; rintro e w' ⟨rfl, rfl⟩) | (go_at_call 56; refine (fits_any _ _ _ hg).mono ?_; rintro e w' ⟨rfl, rfl⟩))
          all_goals show R3 _ _
          all_goals refine (HR3.out _ _).2 ⟨_, ?_, rfl, met rfl⟩
          all_goals have hp := hp.out
          all_goals simp_all
      · clear q hq x
        simp only [List.drop_succ_cons, List.drop_zero]
        intro a' w' hr
        obtain ⟨q, hq, rfl, x, rfl⟩ := (HR3.out _ _).1 hr
        clear HR3 hr
        generalize (p2 ∧ ((c.g = 0 ∧ c.z = 0) ∨ c.k = 2)) = p3 at *
        cases q with
        | false =>
          have hp : Hid (¬ p3) := fun h => by cases hq.2 h
          clear hq
          go_wp2
          all_goals go_ret
          all_goals exact ⟨ret_bool (by simp only [Bool.false_eq_true, false_iff, decide_eq_true_eq]; exact fun h => hp.out (HF.out.1 h).1), by rw [HR.out]; exact B1.out⟩
        | true =>
          have hp : Hid p3 := hq.1 rfl
          clear hq
          go_wp2_with (first | (go_at_call 53; refine (rights_any _ _).mono ?_; rintro e w' ⟨rfl, rfl⟩) | (go_at_call 54; refine (limited_any _ _).mono ?_; rintro e w' ⟨rfl, rfl⟩) | (go_at_call 55; refine (badged_any _ _).mono ?_; rintro e w' ⟨rfl, rfl⟩) | (go_at_call 56; refine (fits_any _ _ _ hg).mono ?_; rintro e w' ⟨rfl, rfl⟩))
          all_goals go_ret
          all_goals exact ⟨ret_bool (by simp only [decide_eq_true_eq]; exact ⟨fun h => HF.out.2 ⟨hp.out, h⟩, fun h => (HF.out.1 h).2⟩), by rw [HR.out]; exact B1.out⟩
theorem formed_any (c : Cp) (w : World) (hf : c.Fits) : Calls Try.prog 48 #[encC c] w fun e w' => e = .returned (.bool (decide (Fine c))) ∧ Below w.heap.size w w' := by
  by_cases hk : c.k = 0
  · exact formed_zero c w hk
  · exact formed_more c w hf hk
theorem check_any (c : Cp) (w : World) (hf : c.Fits) : Calls Try.prog 31 #[encC c] w fun e w' => e = .returned (.int .i64 (checkE c)) ∧ Below w.heap.size w w' := by
  have HF : Hid c.Fits := hf
  have b1 := below_new w (objC c)
  clear hf
  simp only [encC, objC] at *
  go_enter Try.func31, Try.ntmps31
  go_wp2_with fail
  refine (formed_any c _ HF.out).mono ?_
  rintro e w' ⟨rfl, b2⟩
  have B : Hid (Below w.heap.size w w') := Below.then b1 b2 b1.size
  clear b1 b2
  by_cases h : Fine c
  · have e : decide (Fine c) = true := by simp [h]
    go_wp2
    all_goals go_ret
    all_goals exact ⟨by simp [checkE, h], B.out⟩
  · have e : decide (Fine c) = false := by simp [h]
    go_wp2
    all_goals go_ret
    all_goals exact ⟨by simp [checkE, h], B.out⟩
end Go.Proofs.Ytkpoppgibempbaa
