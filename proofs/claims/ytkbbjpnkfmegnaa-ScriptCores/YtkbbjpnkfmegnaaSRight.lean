/-
  What is right, by the program and by the document's answer; one item of four bytes; no condition of ours.
-/
import Derived.Test.YtkbbjpnkfmegnaaSItem
namespace Go.Proofs.Ytkbbjpnkfmegnaa
open Go.RowKit Go.Deep
theorem below_yes (n e : Int) (w : World) (h0 : 0 ≤ n) (h1 : n < e) : Calls Try.prog 19 #[.int .i64 n, .int .i64 e] w fun x w' => x = .returned (.bool true) ∧ w' = w := by
  go_enter Try.func19, Try.ntmps19
  go_wp2
  all_goals go_ret
  all_goals exact ⟨rfl, rfl⟩
theorem below_no (n e : Int) (w : World) (h : ¬ (0 ≤ n ∧ n < e)) : Calls Try.prog 19 #[.int .i64 n, .int .i64 e] w fun x w' => x = .returned (.bool false) ∧ w' = w := by
  by_cases h0 : 0 ≤ n
  · have h1 : ¬ n < e := fun h1 => h ⟨h0, h1⟩
    clear h
    have h2 : decide (n < e) = false := by simpa using h1
    go_enter Try.func19, Try.ntmps19
    go_wp2
    all_goals go_ret
    all_goals exact ⟨by simp_all, rfl⟩
  · clear h
    have h0' : n < 0 := by omega
    go_enter Try.func19, Try.ntmps19
    go_wp2
    all_goals go_ret
    all_goals exact ⟨rfl, rfl⟩
/-- Block q is the item x. -/
def AtI (w : World) (q : Nat) (x : It) : Prop := w.heap[q]? = some (objI x)
theorem AtI.lt {w : World} {q : Nat} {x : It} (h : AtI w q x) : q < w.heap.size := (Array.getElem?_eq_some_iff.1 h).1
theorem AtI.new (w : World) (x : It) : AtI (w.alloc (objI x)) w.heap.size x := blk_alloc_new _ _
theorem AtI.below {w w' : World} {q : Nat} {x : It} (h : AtI w q x) (u : Below w.heap.size w w') : AtI w' q x := (u.block _ h.lt).trans h
theorem AtI.cells {w : World} {q : Nat} {x : It} (h : AtI w q x) : w.cell? ⟨q, 0, none⟩ = some (.int .i64 x.k) ∧ w.cell? ⟨q, 1, none⟩ = some (.int .i64 x.c) ∧ w.cell? ⟨q, 2, none⟩ = some (.int .i64 x.a) ∧ w.cell? ⟨q, 3, none⟩ = some (.int .i64 x.b) := by
  unfold AtI objI fourI at h
  refine ⟨?_, ?_, ?_, ?_⟩ <;> simp [World.cell?, h]
theorem AtI.frozen {w : World} {q : Nat} {x : It} (h : AtI w q x) (j : Nat) : w.frozen? ⟨q, j, none⟩ = false := by
  unfold AtI objI fourI at h
  simp [World.frozen?, h]
theorem right_any (x : It) (n : Int) (w : World) : Calls Try.prog 13 #[encI x, .int .i64 n] w fun e w' => e = .returned (.bool (rightB n x)) ∧ w' = w.alloc (objI x) := by
  obtain ⟨c0, c1, c2, c3⟩ := (AtI.new w x).cells
  have H : Hid (rightB n x = true ↔ (0 ≤ x.k ∧ x.k < 4) ∧ (0 ≤ x.c ∧ x.c < n ∧ x.c < 8) ∧ (0 ≤ x.a ∧ x.a < 256) ∧ 0 ≤ x.b ∧ x.b < 256) := rightB_iff n x
  obtain ⟨k, c, a, b⟩ := x
  simp only [objI, encI, fourI] at c0 c1 c2 c3 ⊢
  go_enter Try.func13, Try.ntmps13
  by_cases h1 : 0 ≤ k ∧ k < 4
  · by_cases h2 : 0 ≤ c ∧ c < n ∧ c < 8
    · by_cases h3 : 0 ≤ a ∧ a < 256
      · by_cases h4 : 0 ≤ b ∧ b < 256
        · have e1 : rightB n ⟨k, c, a, b⟩ = true := H.out.2 ⟨h1, h2, h3, h4⟩
          go_wp2_with fail
          refine (below_yes _ _ _ (by omega) (by omega)).mono ?_
          rintro e w1 ⟨rfl, rfl⟩
          go_wp2_with fail
          refine (below_yes _ _ _ (by omega) (by omega)).mono ?_
          rintro e w1 ⟨rfl, rfl⟩
          go_wp2_with fail
          refine (below_yes _ _ _ (by omega) (by omega)).mono ?_
          rintro e w1 ⟨rfl, rfl⟩
          go_wp2_with fail
          refine (below_yes _ _ _ (by omega) (by omega)).mono ?_
          rintro e w1 ⟨rfl, rfl⟩
          go_wp2
          all_goals go_ret
          all_goals exact ⟨by simp [e1] <;> omega, rfl⟩
        · have e1 : rightB n ⟨k, c, a, b⟩ = false := by rw [Bool.eq_false_iff]; intro hh; exact h4 (H.out.1 hh).2.2.2
          go_wp2_with fail
          refine (below_yes _ _ _ (by omega) (by omega)).mono ?_
          rintro e w1 ⟨rfl, rfl⟩
          go_wp2_with fail
          refine (below_yes _ _ _ (by omega) (by omega)).mono ?_
          rintro e w1 ⟨rfl, rfl⟩
          go_wp2_with fail
          refine (below_yes _ _ _ (by omega) (by omega)).mono ?_
          rintro e w1 ⟨rfl, rfl⟩
          go_wp2_with fail
          refine (below_no _ _ _ (by omega)).mono ?_
          rintro e w1 ⟨rfl, rfl⟩
          go_wp2
          all_goals go_ret
          all_goals exact ⟨by simp [e1] <;> omega, rfl⟩
      · have e1 : rightB n ⟨k, c, a, b⟩ = false := by rw [Bool.eq_false_iff]; intro hh; exact h3 (H.out.1 hh).2.2.1
        go_wp2_with fail
        refine (below_yes _ _ _ (by omega) (by omega)).mono ?_
        rintro e w1 ⟨rfl, rfl⟩
        go_wp2_with fail
        refine (below_yes _ _ _ (by omega) (by omega)).mono ?_
        rintro e w1 ⟨rfl, rfl⟩
        go_wp2_with fail
        refine (below_no _ _ _ (by omega)).mono ?_
        rintro e w1 ⟨rfl, rfl⟩
        go_wp2
        all_goals go_ret
        all_goals exact ⟨by simp [e1] <;> omega, rfl⟩
    · have e1 : rightB n ⟨k, c, a, b⟩ = false := by rw [Bool.eq_false_iff]; intro hh; exact h2 (H.out.1 hh).2.1
      go_wp2_with fail
      refine (below_yes _ _ _ (by omega) (by omega)).mono ?_
      rintro e w1 ⟨rfl, rfl⟩
      go_wp2_with fail
      refine (below_no _ _ _ (by omega)).mono ?_
      rintro e w1 ⟨rfl, rfl⟩
      go_wp2
      all_goals go_ret
      all_goals exact ⟨by simp [e1] <;> omega, rfl⟩
  · have e1 : rightB n ⟨k, c, a, b⟩ = false := by rw [Bool.eq_false_iff]; intro hh; exact h1 (H.out.1 hh).1
    go_wp2_with fail
    refine (below_no _ _ _ (by omega)).mono ?_
    rintro e w1 ⟨rfl, rfl⟩
    go_wp2
    all_goals go_ret
    all_goals exact ⟨by simp [e1] <;> omega, rfl⟩
end Go.Proofs.Ytkbbjpnkfmegnaa
