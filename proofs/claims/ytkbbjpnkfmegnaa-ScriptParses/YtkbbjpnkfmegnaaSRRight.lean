/-
  What is right, by the document's answer; no condition of ours.
-/
import Derived.Test.YtkbbjpnkfmegnaaSRight
namespace Go.Proofs.Ytkbbjpnkfmegnaa
open Go.RowKit Go.Deep
theorem rright_any (x : It) (n : Int) (w : World) : Calls Try.prog 14 #[encI x, .int .i64 n] w fun e w' => e = .returned (.bool (rightB n x)) ∧ w' = w.alloc (objI x) := by
  obtain ⟨c0, c1, c2, c3⟩ := (AtI.new w x).cells
  have H : Hid (rightB n x = true ↔ (0 ≤ x.k ∧ x.k < 4) ∧ (0 ≤ x.c ∧ x.c < n ∧ x.c < 8) ∧ (0 ≤ x.a ∧ x.a < 256) ∧ 0 ≤ x.b ∧ x.b < 256) := rightB_iff n x
  obtain ⟨k, c, a, b⟩ := x
  simp only [objI, encI, fourI] at c0 c1 c2 c3 ⊢
  go_enter Try.func14, Try.ntmps14
  go_wp2
  all_goals go_ret
  all_goals refine ⟨?_, rfl⟩
  all_goals cases hr : rightB n ⟨k, c, a, b⟩
  all_goals have hh := H.out
  all_goals simp only [hr, Bool.false_eq_true, false_iff, true_iff] at hh
  all_goals try simp
  all_goals try omega
end Go.Proofs.Ytkbbjpnkfmegnaa
