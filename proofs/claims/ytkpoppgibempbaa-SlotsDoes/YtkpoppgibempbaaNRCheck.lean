/-
  What Check of the document's answer answers, for every capability; no condition but that its numbers fit.
-/
import Derived.Test.YtkpoppgibempbaaNRef
namespace Go.Proofs.Ytkpoppgibempbaa
open Go.RowKit Go.Deep
set_option linter.unusedSectionVars false
variable [dCp : DecidableEq Cp] [dLim : ∀ k, Decidable (Lim k)] [dBad : ∀ k, Decidable (Bad k)] [dFit : ∀ g z, Decidable (Fit g z)] [dFine : ∀ c, Decidable (Fine c)] [dMint : ∀ c v, Decidable (MintR c v)] [dWho : ∀ x y, Decidable (Whose x y)]
theorem rcheck_none (w : World) : Calls Try.prog 49 #[encC no] w fun e w' => e = .returned (.int .i64 (checkE no)) ∧ Below w.heap.size w w' := by
  have e : checkE no = 0 := by simp [checkE, fine_no]
  rw [e]
  have HQ := fun W => eq_caps W no no
  simp only [encC, no, decide_true] at *
  go_enter Try.func49, Try.ntmps49
  go_wp2
  all_goals go_ret
  all_goals exact ⟨rfl, below_new _ _⟩
theorem rcheck_zero (c : Cp) (w : World) (hk : c.k = 0) (hn : ¬ c = no) : Calls Try.prog 49 #[encC c] w fun e w' => e = .returned (.int .i64 (checkE c)) ∧ Below w.heap.size w w' := by
  have e : checkE c = 40 := by simp [checkE]; exact fun h => hn (h.of_zero hk)
  rw [e]
  have HQ : ∀ W, (Op.equalIn 10000 33 (.agg #[.int .i64 0, .int .i64 c.o, .int .i64 c.r, .int .u64 c.b, .int .u64 c.g, .int .i64 c.z]) (.agg #[.int .i64 0, .int .i64 0, .int .i64 0, .int .u64 0, .int .u64 0, .int .i64 0])).run Try.prog W = .ok false W := fun W => by
    have := eq_caps W c no
    rw [hk] at this
    rw [show decide (c = no) = false by simp [hn]] at this
    exact this
  clear e
  simp only [encC]
  go_enter Try.func49, Try.ntmps49
  go_wp2
  all_goals go_ret
  all_goals exact ⟨rfl, below_new _ _⟩
theorem fine_parts (c : Cp) (hf : c.Fits) (hk : ¬ c.k = 0) : Fine c ↔ ((0 < c.k ∧ c.k < 10) ∧ (0 ≤ c.o ∧ c.o ≤ 2147483647) ∧ (0 ≤ c.r ∧ c.r ≤ 7)) ∧ ¬ ((¬ Lim c.k ∧ ¬ c.r = 7) ∨ (¬ Bad c.k ∧ 0 < c.b)) ∧ ¬ ((¬ c.k = 2 ∧ (0 < c.g ∨ ¬ c.z = 0)) ∨ ¬ Fit c.g c.z) := by
  have hb := hf.b
  have hg := hf.g
  constructor
  · intro h
    obtain ⟨h1, h2, h3, h4, h5, h6, h7⟩ := h.of_ne hk
    refine ⟨⟨h1, h2, h3⟩, ?_, ?_⟩
    · rintro (⟨a, b⟩ | ⟨a, b⟩)
      · exact h4.elim b a
      · rcases h5 with h5 | h5
        · omega
        · exact a h5
    · rintro (⟨a, b⟩ | a)
      · omega
      · exact a h7
  · rintro ⟨⟨h1, h2, h3⟩, h5, h7⟩
    refine .inr ⟨h1, h2, h3, ?_, ?_, ?_, ?_⟩
    · by_cases h : c.r = 7
      · exact .inl h
      · refine .inr (Decidable.byContradiction fun hl => h5 (.inl ⟨hl, h⟩))
    · by_cases h : c.b = 0
      · exact .inl h
      · refine .inr (Decidable.byContradiction fun hl => h5 (.inr ⟨hl, by omega⟩))
    · by_cases h : c.k = 2
      · exact .inr h
      · refine .inl ⟨Decidable.byContradiction fun hl => h7 (.inl ⟨h, .inl (by omega)⟩), Decidable.byContradiction fun hl => h7 (.inl ⟨h, .inr hl⟩)⟩
    · exact Decidable.byContradiction fun hl => h7 (.inr hl)
set_option maxHeartbeats 4000000 in
theorem rcheck_more (c : Cp) (w : World) (hf : c.Fits) (hk : ¬ c.k = 0) : Calls Try.prog 49 #[encC c] w fun e w' => e = .returned (.int .i64 (checkE c)) ∧ Below w.heap.size w w' := by
  have HF : Hid (Fine c ↔ ((0 < c.k ∧ c.k < 10) ∧ (0 ≤ c.o ∧ c.o ≤ 2147483647) ∧ (0 ≤ c.r ∧ c.r ≤ 7)) ∧ ¬ ((¬ Lim c.k ∧ ¬ c.r = 7) ∨ (¬ Bad c.k ∧ 0 < c.b)) ∧ ¬ ((¬ c.k = 2 ∧ (0 < c.g ∨ ¬ c.z = 0)) ∨ ¬ Fit c.g c.z)) := fine_parts c hf hk
  have hg := hf.g
  have hb := hf.b
  have a1 := AtC.new w c
  have B1 : Hid (Below w.heap.size w (w.alloc (objC c))) := below_new w (objC c)
  clear hf
  simp only [encC, objC] at *
  go_enter Try.func49, Try.ntmps49
  go_upto_region 3 with fail
  generalize w.alloc (Obj.cells #[.int .i64 c.k, .int .i64 c.o, .int .i64 c.r, .int .u64 c.b, .int .u64 c.g, .int .i64 c.z] 33) = w1 at *
  obtain ⟨c0, c1, c2, c3, c4, c5⟩ := a1.cells
  clear a1
  generalize hr0 : w.heap.size = r at *
  have HR : Hid (w.heap.size = r) := hr0
  clear hr0
  obtain ⟨R1, hR1⟩ : ∃ R : Act → World → Prop, ∀ a' w', R a' w' ↔ ∃ (q : Bool), (q = true ↔ ¬ ((0 < c.k ∧ c.k < 10) ∧ (0 ≤ c.o ∧ c.o ≤ 2147483647) ∧ (0 ≤ c.r ∧ c.r ≤ 7))) ∧ w1 = w' ∧ ∃ x : Nat → Value, a' = { tmps := #[x 0, .pointer (some ⟨r, 0, none⟩), x 2, x 3, x 4, x 5, x 6, x 7, x 8, x 9, x 10, x 11, x 12, x 13, x 14, x 15, x 16, x 17, x 18, x 19, x 20, x 21, x 22, x 23, x 24, x 25, x 26, x 27, x 28, x 29, x 30, x 31, x 32, x 33, x 34, x 35, x 36, x 37, .bool q, x 39, x 40, x 41, x 42, x 43, x 44, x 45, x 46, x 47, x 48, x 49, x 50, x 51, x 52, x 53, x 54, x 55, x 56, x 57, x 58, x 59, x 60, x 61, x 62, x 63, x 64, x 65, x 66, x 67, x 68, x 69, x 70, x 71, x 72, x 73, x 74, x 75, x 76, x 77, x 78, x 79], defers := [] } := ⟨_, fun _ _ => Iff.rfl⟩
  have HR1 : Hid (∀ a' w', R1 a' w' ↔ ∃ (q : Bool), (q = true ↔ ¬ ((0 < c.k ∧ c.k < 10) ∧ (0 ≤ c.o ∧ c.o ≤ 2147483647) ∧ (0 ≤ c.r ∧ c.r ≤ 7))) ∧ w1 = w' ∧ ∃ x : Nat → Value, a' = { tmps := #[x 0, .pointer (some ⟨r, 0, none⟩), x 2, x 3, x 4, x 5, x 6, x 7, x 8, x 9, x 10, x 11, x 12, x 13, x 14, x 15, x 16, x 17, x 18, x 19, x 20, x 21, x 22, x 23, x 24, x 25, x 26, x 27, x 28, x 29, x 30, x 31, x 32, x 33, x 34, x 35, x 36, x 37, .bool q, x 39, x 40, x 41, x 42, x 43, x 44, x 45, x 46, x 47, x 48, x 49, x 50, x 51, x 52, x 53, x 54, x 55, x 56, x 57, x 58, x 59, x 60, x 61, x 62, x 63, x 64, x 65, x 66, x 67, x 68, x 69, x 70, x 71, x 72, x 73, x 74, x 75, x 76, x 77, x 78, x 79], defers := [] }) := hR1
  clear hR1
  refine wp_region_cut 28 R1 ?_ ?_
  · simp only [List.take_succ_cons, List.take_zero]
    go_wp2
    all_goals show R1 _ _
    all_goals refine (HR1.out _ _).2 ⟨_, ?_, rfl, met rfl⟩
    all_goals simp only [Bool.or_eq_true, decide_eq_true_eq, true_iff]
    all_goals omega
  · intro a' w' hr
    obtain ⟨q, hq, rfl, x, rfl⟩ := (HR1.out _ _).1 hr
    clear HR1 hr
    simp only [List.drop_succ_cons, List.drop_zero]
    generalize ((0 < c.k ∧ c.k < 10) ∧ (0 ≤ c.o ∧ c.o ≤ 2147483647) ∧ (0 ≤ c.r ∧ c.r ≤ 7)) = p at *
    cases q with
    | true =>
      have hp : Hid (¬ p) := hq.1 rfl
      clear hq
      go_wp2
      all_goals go_ret
      all_goals exact ⟨by rw [checkE, if_neg fun h => hp.out (HF.out.1 h).1]; rfl, by rw [HR.out]; exact B1.out⟩
    | false =>
      have hp : Hid p := (Classical.byContradiction fun h => (by cases hq.2 h) : p)
      clear hq
      go_upto_region 5 with fail
      obtain ⟨R2, hR2⟩ : ∃ R : Act → World → Prop, ∀ a' w', R a' w' ↔ ∃ (q : Bool), (q = true ↔ ((¬ Lim c.k ∧ ¬ c.r = 7) ∨ (¬ Bad c.k ∧ 0 < c.b))) ∧ w1 = w' ∧ ∃ x : Nat → Value, a' = { tmps := #[x 0, .pointer (some ⟨r, 0, none⟩), x 2, x 3, x 4, x 5, x 6, x 7, x 8, x 9, x 10, x 11, x 12, x 13, x 14, x 15, x 16, x 17, x 18, x 19, x 20, x 21, x 22, x 23, x 24, x 25, x 26, x 27, x 28, x 29, x 30, x 31, x 32, x 33, x 34, x 35, x 36, x 37, x 38, x 39, x 40, x 41, x 42, x 43, x 44, x 45, x 46, x 47, x 48, x 49, x 50, x 51, x 52, x 53, x 54, x 55, x 56, x 57, .bool q, x 59, x 60, x 61, x 62, x 63, x 64, x 65, x 66, x 67, x 68, x 69, x 70, x 71, x 72, x 73, x 74, x 75, x 76, x 77, x 78, x 79], defers := [] } := ⟨_, fun _ _ => Iff.rfl⟩
      have HR2 : Hid (∀ a' w', R2 a' w' ↔ ∃ (q : Bool), (q = true ↔ ((¬ Lim c.k ∧ ¬ c.r = 7) ∨ (¬ Bad c.k ∧ 0 < c.b))) ∧ w1 = w' ∧ ∃ x : Nat → Value, a' = { tmps := #[x 0, .pointer (some ⟨r, 0, none⟩), x 2, x 3, x 4, x 5, x 6, x 7, x 8, x 9, x 10, x 11, x 12, x 13, x 14, x 15, x 16, x 17, x 18, x 19, x 20, x 21, x 22, x 23, x 24, x 25, x 26, x 27, x 28, x 29, x 30, x 31, x 32, x 33, x 34, x 35, x 36, x 37, x 38, x 39, x 40, x 41, x 42, x 43, x 44, x 45, x 46, x 47, x 48, x 49, x 50, x 51, x 52, x 53, x 54, x 55, x 56, x 57, .bool q, x 59, x 60, x 61, x 62, x 63, x 64, x 65, x 66, x 67, x 68, x 69, x 70, x 71, x 72, x 73, x 74, x 75, x 76, x 77, x 78, x 79], defers := [] }) := hR2
      clear hR2
      refine wp_region_cut 20 R2 ?_ ?_
      · simp only [List.take_succ_cons, List.take_zero]
        go_wp2_with (first | (go_at_call 57; refine (rlimited_any _ _).mono ?_; rintro e w' ⟨rfl, rfl⟩) | (go_at_call 58; refine (rbadged_any _ _).mono ?_; rintro e w' ⟨rfl, rfl⟩) | (go_at_call 59; refine (rguard_any _ _ _ hg).mono ?_; rintro e w' ⟨rfl, rfl⟩))
        all_goals show R2 _ _
        all_goals refine (HR2.out _ _).2 ⟨_, ?_, rfl, met rfl⟩
        all_goals clear hp
        all_goals simp_all
      · clear x
        intro a' w' hr
        obtain ⟨q, hq, rfl, x, rfl⟩ := (HR2.out _ _).1 hr
        clear HR2 hr
        simp only [List.drop_succ_cons, List.drop_zero]
        generalize ((¬ Lim c.k ∧ ¬ c.r = 7) ∨ (¬ Bad c.k ∧ 0 < c.b)) = p5 at *
        cases q with
        | true =>
          have hp5 : Hid p5 := hq.1 rfl
          clear hq
          go_wp2
          all_goals go_ret
          all_goals exact ⟨by rw [checkE, if_neg fun h => (HF.out.1 h).2.1 hp5.out]; rfl, by rw [HR.out]; exact B1.out⟩
        | false =>
          have hp5 : Hid (¬ p5) := fun h => by cases hq.2 h
          clear hq
          go_upto_region 7 with fail
          obtain ⟨R3, hR3⟩ : ∃ R : Act → World → Prop, ∀ a' w', R a' w' ↔ ∃ (q : Bool), (q = true ↔ ((¬ c.k = 2 ∧ (0 < c.g ∨ ¬ c.z = 0)) ∨ ¬ Fit c.g c.z)) ∧ w1 = w' ∧ ∃ x : Nat → Value, a' = { tmps := #[x 0, .pointer (some ⟨r, 0, none⟩), x 2, x 3, x 4, x 5, x 6, x 7, x 8, x 9, x 10, x 11, x 12, x 13, x 14, x 15, x 16, x 17, x 18, x 19, x 20, x 21, x 22, x 23, x 24, x 25, x 26, x 27, x 28, x 29, x 30, x 31, x 32, x 33, x 34, x 35, x 36, x 37, x 38, x 39, x 40, x 41, x 42, x 43, x 44, x 45, x 46, x 47, x 48, x 49, x 50, x 51, x 52, x 53, x 54, x 55, x 56, x 57, x 58, x 59, x 60, x 61, x 62, x 63, x 64, x 65, x 66, x 67, x 68, x 69, x 70, x 71, x 72, x 73, x 74, x 75, x 76, x 77, x 78, .bool q], defers := [] } := ⟨_, fun _ _ => Iff.rfl⟩
          have HR3 : Hid (∀ a' w', R3 a' w' ↔ ∃ (q : Bool), (q = true ↔ ((¬ c.k = 2 ∧ (0 < c.g ∨ ¬ c.z = 0)) ∨ ¬ Fit c.g c.z)) ∧ w1 = w' ∧ ∃ x : Nat → Value, a' = { tmps := #[x 0, .pointer (some ⟨r, 0, none⟩), x 2, x 3, x 4, x 5, x 6, x 7, x 8, x 9, x 10, x 11, x 12, x 13, x 14, x 15, x 16, x 17, x 18, x 19, x 20, x 21, x 22, x 23, x 24, x 25, x 26, x 27, x 28, x 29, x 30, x 31, x 32, x 33, x 34, x 35, x 36, x 37, x 38, x 39, x 40, x 41, x 42, x 43, x 44, x 45, x 46, x 47, x 48, x 49, x 50, x 51, x 52, x 53, x 54, x 55, x 56, x 57, x 58, x 59, x 60, x 61, x 62, x 63, x 64, x 65, x 66, x 67, x 68, x 69, x 70, x 71, x 72, x 73, x 74, x 75, x 76, x 77, x 78, .bool q], defers := [] }) := hR3
          clear hR3
          refine wp_region_cut 21 R3 ?_ ?_
          · simp only [List.take_succ_cons, List.take_zero]
            go_wp2_with (first | (go_at_call 57; refine (rlimited_any _ _).mono ?_; rintro e w' ⟨rfl, rfl⟩) | (go_at_call 58; refine (rbadged_any _ _).mono ?_; rintro e w' ⟨rfl, rfl⟩) | (go_at_call 59; refine (rguard_any _ _ _ hg).mono ?_; rintro e w' ⟨rfl, rfl⟩))
            all_goals show R3 _ _
            all_goals refine (HR3.out _ _).2 ⟨_, ?_, rfl, met rfl⟩
            all_goals clear hp hp5
            all_goals simp_all
          · clear x
            intro a' w' hr
            obtain ⟨q, hq, rfl, x, rfl⟩ := (HR3.out _ _).1 hr
            clear HR3 hr
            simp only [List.drop_succ_cons, List.drop_zero]
            generalize ((¬ c.k = 2 ∧ (0 < c.g ∨ ¬ c.z = 0)) ∨ ¬ Fit c.g c.z) = p7 at *
            cases q with
            | true =>
              have hp7 : Hid p7 := hq.1 rfl
              clear hq
              go_wp2
              all_goals go_ret
              all_goals exact ⟨by rw [checkE, if_neg fun h => (HF.out.1 h).2.2 hp7.out]; rfl, by rw [HR.out]; exact B1.out⟩
            | false =>
              have hp7 : Hid (¬ p7) := fun h => by cases hq.2 h
              clear hq
              go_wp2
              all_goals go_ret
              all_goals exact ⟨by rw [checkE, if_pos (HF.out.2 ⟨hp.out, hp5.out, hp7.out⟩)]; rfl, by rw [HR.out]; exact B1.out⟩
theorem rcheck_any (c : Cp) (w : World) (hf : c.Fits) : Calls Try.prog 49 #[encC c] w fun e w' => e = .returned (.int .i64 (checkE c)) ∧ Below w.heap.size w w' := by
  by_cases hk : c.k = 0
  · by_cases hn : c = no
    · subst hn; exact rcheck_none w
    · exact rcheck_zero c w hk hn
  · exact rcheck_more c w hf hk
end Go.Proofs.Ytkpoppgibempbaa
