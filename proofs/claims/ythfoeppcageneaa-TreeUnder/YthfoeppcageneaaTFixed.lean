/-
  What fixed of the statements answers: yes; no condition of ours.
-/
import Derived.Test.YthfoeppcageneaaTFix0
import Derived.Deep.Cut
import Derived.Deep.CutRange
namespace Go.Proofs.Ythfoeppcageneaa
set_option linter.unusedSectionVars false
variable [DecidableEq Sl]
open Go.RowKit Go.Deep Go.Shelf

theorem four_new {w w1 : World} {r p : Nat} (h : Sep w r w1 [trT p (.slice none 0 0) []]) : Fx w r p w1.heap.size (w1.heap.size + 1) (w1.heap.size + 1 + 1) (w1.heap.size + 1 + 1 + 1) [] [] ((((w1.alloc (objS fA)).alloc (objS fB)).alloc (objS fC)).alloc (objS fD)) := by
  have h1 := h.box (objS fA)
  have h2 := h1.box (objS fB)
  have h3 := h2.box (objS fC)
  have h4 := h3.box (objS fD)
  simp only [World.size_alloc] at h2 h3 h4
  exact ⟨.slice none 0 0, h4.perm (List.reverse_perm (trT p (.slice none 0 0) [] :: [blk w1.heap.size (objS fA), blk (w1.heap.size + 1) (objS fB), blk (w1.heap.size + 1 + 1) (objS fC), blk (w1.heap.size + 1 + 1 + 1) (objS fD)]))⟩
set_option maxHeartbeats 8000000 in
set_option maxRecDepth 100000 in
theorem fixed_any (w : World) : Calls Try.prog 20 #[] w fun e w' => e = .returned (.bool true) ∧ Below w.heap.size w w' := by
  obtain ⟨r, HR⟩ : ∃ r, Hid (w.heap.size = r) := ⟨_, rfl⟩
  go_enter Try.func20, Try.ntmps20
  go_wp2_with fail
  refine (new_any w).mono ?_
  rintro e w1 ⟨rfl, hw1⟩
  have h1 : Hid (Sep w r w1 [trT w.heap.size (.slice none 0 0) []]) := by
    rw [hw1, ← HR.out]
    exact (sep_nil w).new (t := trT w.heap.size (.slice none 0 0) []) (new_tree w) (below_new _ _) fun x hx => hx.elim (fun e => by omega) fun e => by simp [Value.ownBlock] at e
  clear hw1
  generalize hp0 : w.heap.size = p at h1
  have HP0 : Hid (w.heap.size = p) := hp0
  clear hp0
  have H0 : Hid _ := four_new h1.out
  clear h1
  simp only [objS, fA, fB, fC, fD] at H0
  go_wp2
  generalize (((w1.alloc _).alloc _).alloc _).alloc _ = w2 at *
  generalize w1.heap.size + 1 + 1 + 1 = q3 at *
  generalize w1.heap.size + 1 + 1 = q2 at *
  generalize w1.heap.size + 1 = q1 at *
  generalize w1.heap.size = q at *
  have HF : Hid (Fx w r p q q1 q2 q3 [] [] w2) := H0
  clear H0
  have H0 := HF
  clear HF
  have hS := H0.out.cells
  go_region_held3 (fun W => W.cell? ⟨q, 0, none⟩ = some (.int .i64 0) ∧ W.cell? ⟨q, 1, none⟩ = some (.int .i64 1) ∧ W.cell? ⟨q1, 0, none⟩ = some (.int .i64 0) ∧ W.cell? ⟨q1, 1, none⟩ = some (.int .i64 2) ∧ W.cell? ⟨q2, 0, none⟩ = some (.int .i64 0) ∧ W.cell? ⟨q2, 1, none⟩ = some (.int .i64 3) ∧ W.cell? ⟨q3, 0, none⟩ = some (.int .i64 0) ∧ W.cell? ⟨q3, 1, none⟩ = some (.int .i64 4)) ((first | with_reducible assumption | with_reducible exact g4.cells | with_reducible exact g3.cells | with_reducible exact g2.cells | with_reducible exact g1.cells | with_reducible exact (H0.out.below ((Below.refl _ _).drew)).cells))
    (first | (go_at_call 24; with_reducible refine Calls.mono (fc4 g3) ?_; rintro e u4 ⟨rfl, g4⟩) | (go_at_call 24; with_reducible refine Calls.mono (fc3 g2) ?_; rintro e u3 ⟨rfl, g3⟩) | (go_at_call 24; with_reducible refine Calls.mono (fc2 g1) ?_; rintro e u2 ⟨rfl, g2⟩) | (go_at_call 12; with_reducible refine Calls.mono (fc1 (H0.out.below ((Below.refl _ _).drew))) ?_; rintro e u1 ⟨rfl, g1⟩))
  have K4 : Hid (Fx w r p q q1 q2 q3 [] S4 u4) := g4
  clear g1 g2 g3 g4 hS H0
  obtain ⟨a0, a1, b0, b1, c0, c1, d0, d1⟩ := K4.out.cells
  go_wp2_with fail
  refine Calls.mono (fc5 K4.out) ?_
  rintro e u5 ⟨rfl, g5⟩
  have K5 : Hid (Fx w r p q q1 q2 q3 [] S4 u5) := g5
  clear a0 a1 b0 b1 c0 c1 d0 d1
  clear g5 K4
  obtain ⟨a0, a1, b0, b1, c0, c1, d0, d1⟩ := K5.out.cells
  go_wp2_with fail
  refine Calls.mono (fc6 K5.out) ?_
  rintro e u6 ⟨rfl, g6⟩
  have K6 : Hid (Fx w r p q q1 q2 q3 [] S4 u6) := g6
  clear a0 a1 b0 b1 c0 c1 d0 d1
  clear g6 K5
  have hS : u6.cell? ⟨q, 0, none⟩ = some (.int .i64 0) ∧ u6.cell? ⟨q, 1, none⟩ = some (.int .i64 1) ∧ u6.cell? ⟨q1, 0, none⟩ = some (.int .i64 0) ∧ u6.cell? ⟨q1, 1, none⟩ = some (.int .i64 2) ∧ u6.cell? ⟨q2, 0, none⟩ = some (.int .i64 0) ∧ u6.cell? ⟨q2, 1, none⟩ = some (.int .i64 3) ∧ u6.cell? ⟨q3, 0, none⟩ = some (.int .i64 0) ∧ u6.cell? ⟨q3, 1, none⟩ = some (.int .i64 4) ∧ Fx w r p q q1 q2 q3 [] S4 u6 := nine K6.out
  go_wp2
  go_cut [64] from 17 to 64 (fun u wx => u = .bool false ∧ Fx w r p q q1 q2 q3 [] S4 wx)
  case first =>
    go_region_held3 (fun W => W.cell? ⟨q, 0, none⟩ = some (.int .i64 0) ∧ W.cell? ⟨q, 1, none⟩ = some (.int .i64 1) ∧ W.cell? ⟨q1, 0, none⟩ = some (.int .i64 0) ∧ W.cell? ⟨q1, 1, none⟩ = some (.int .i64 2) ∧ W.cell? ⟨q2, 0, none⟩ = some (.int .i64 0) ∧ W.cell? ⟨q2, 1, none⟩ = some (.int .i64 3) ∧ W.cell? ⟨q3, 0, none⟩ = some (.int .i64 0) ∧ W.cell? ⟨q3, 1, none⟩ = some (.int .i64 4) ∧ Fx w r p q q1 q2 q3 [] S4 W) ((first | with_reducible assumption | with_reducible exact nine_next (by assumption) ((Below.refl _ _).drew) | with_reducible exact nine_next (by assumption) (below_new _ _) | with_reducible exact nine_next (by assumption) m1 | with_reducible exact nine_next (by assumption) m2 | with_reducible exact nine_next (by assumption) m3 | with_reducible exact nine_next (by assumption) m4))
      (first | (go_at_call 18; (first | with_reducible refine Calls.mono (s1c m3 l3) ?_ | with_reducible refine Calls.mono (s1b m3 l3) ?_ | with_reducible refine Calls.mono (s1a l3) ?_); rintro e v4 ⟨rfl, m4⟩) | (go_at_call 15; with_reducible refine Calls.mono (fc7b (nine_fx (by assumption))) ?_; rintro e v3 ⟨ao3, cap3, rfl, l3, m3⟩) | (go_at_call 18; (first | with_reducible refine Calls.mono (s4c m1 l1) ?_ | with_reducible refine Calls.mono (s4b m1 l1) ?_ | with_reducible refine Calls.mono (s4a l1) ?_); rintro e v2 ⟨rfl, m2⟩) | (go_at_call 14; with_reducible refine Calls.mono (fc7a (nine_fx (by assumption))) ?_; rintro e v1 ⟨ao1, cap1, rfl, l1, m1⟩))
    all_goals go_wp2_with fail
    all_goals go_meet
    all_goals exact ⟨rfl, nine_fx (by assumption)⟩
  case rest =>
    obtain ⟨rfl, g7⟩ := hcut
    have K7 : Hid (Fx w r p q q1 q2 q3 [] S4 wc) := g7
    clear g7 hS K6
    obtain ⟨a0, a1, b0, b1, c0, c1, d0, d1⟩ := K7.out.cells
    go_wp2_with fail
    refine Calls.mono (fc8 K7.out) ?_
    rintro e u8 ⟨rfl, g8⟩
    have K8 : Hid (Fx w r p q q1 q2 q3 [] S5 u8) := g8
    clear a0 a1 b0 b1 c0 c1 d0 d1
    clear g8 K7
    obtain ⟨a0, a1, b0, b1, c0, c1, d0, d1⟩ := K8.out.cells
    go_wp2_with fail
    refine Calls.mono (fc9a K8.out) ?_
    rintro e u9 ⟨rfl, m9⟩
    have K9 : Hid _ := (K8.out.below m9).box (objS fA)
    clear a0 a1 b0 b1 c0 c1 d0 d1
    clear m9 K8
    have K9' : Hid (Fx w r p q q1 q2 q3 [blk u9.heap.size (objS fA)] S5 (u9.alloc (objS fA))) := K9
    clear K9
    obtain ⟨a0, a1, b0, b1, c0, c1, d0, d1⟩ := K9'.out.cells
    simp only [objS, fA] at *
    go_wp2_with fail
    refine Calls.mono (fc9b K9'.out) ?_
    rintro e u10 ⟨rfl, m10⟩
    have K10 : Hid (Fx w r p q q1 q2 q3 [blk u9.heap.size (objS fA)] S5 (u10.alloc (objS no))) := (K9'.out.below m10).below (below_new _ _)
    clear a0 a1 b0 b1 c0 c1 d0 d1
    clear m10 K9'
    have HQs : ∀ W, (Op.equalIn 10000 31 (.agg #[.int .i64 0, .int .i64 1]) (.agg #[.int .i64 0, .int .i64 1])).run Try.prog W = .ok true W := fun W => by
      have h := eq_slots W ⟨0, 1⟩ ⟨0, 1⟩
      simpa using h
    simp only [objS, no] at K10
    go_wp2
    generalize u10.alloc _ = u11 at *
    generalize u9.heap.size = qp at *
    have K11 : Hid (Fx w r p q q1 q2 q3 [blk qp (objS fA)] S5 u11) := K10
    clear K10
    have FB : Hid (∀ W, Below u11.heap.size u11 W → Fx w r p q q1 q2 q3 [blk qp (objS fA)] S5 W) := fun W b => K11.out.below b
    simp only [List.append_eq, List.cons_append, List.nil_append]
    have hS : u11.cell? ⟨q, 0, none⟩ = some (.int .i64 0) ∧ u11.cell? ⟨q, 1, none⟩ = some (.int .i64 1) ∧ u11.cell? ⟨q1, 0, none⟩ = some (.int .i64 0) ∧ u11.cell? ⟨q1, 1, none⟩ = some (.int .i64 2) ∧ u11.cell? ⟨q2, 0, none⟩ = some (.int .i64 0) ∧ u11.cell? ⟨q2, 1, none⟩ = some (.int .i64 3) ∧ u11.cell? ⟨q3, 0, none⟩ = some (.int .i64 0) ∧ u11.cell? ⟨q3, 1, none⟩ = some (.int .i64 4) ∧ u11.cell? ⟨qp, 0, none⟩ = some (.int .i64 0) ∧ u11.cell? ⟨qp, 1, none⟩ = some (.int .i64 1) := ten K11.out
    go_region_held3 (fun W => W.cell? ⟨q, 0, none⟩ = some (.int .i64 0) ∧ W.cell? ⟨q, 1, none⟩ = some (.int .i64 1) ∧ W.cell? ⟨q1, 0, none⟩ = some (.int .i64 0) ∧ W.cell? ⟨q1, 1, none⟩ = some (.int .i64 2) ∧ W.cell? ⟨q2, 0, none⟩ = some (.int .i64 0) ∧ W.cell? ⟨q2, 1, none⟩ = some (.int .i64 3) ∧ W.cell? ⟨q3, 0, none⟩ = some (.int .i64 0) ∧ W.cell? ⟨q3, 1, none⟩ = some (.int .i64 4) ∧ W.cell? ⟨qp, 0, none⟩ = some (.int .i64 0) ∧ W.cell? ⟨qp, 1, none⟩ = some (.int .i64 1)) ((first | with_reducible assumption | with_reducible exact ten g5 | with_reducible exact ten g4 | with_reducible exact ten g3 | with_reducible exact ten g2 | with_reducible exact ten (FB.out _ ((Below.refl _ _).drew)) | with_reducible exact ten (FB.out _ ((below_new _ _).drew)) | with_reducible exact ten (FB.out _ (bthen ((Below.refl _ _).drew) m1)) | with_reducible exact ten (FB.out _ (bthen (bthen ((Below.refl _ _).drew) m1) (below_new _ _))) | with_reducible exact ten (FB.out _ (bthen ((below_new _ _).drew) m1))))
      (first | (go_at_call 23; with_reducible refine Calls.mono (fc13 g4) ?_; rintro e v5 ⟨rfl, g5⟩) | (go_at_call 23; with_reducible refine Calls.mono (fc12 g3) ?_; rintro e v4 ⟨rfl, g4⟩) | (go_at_call 11; with_reducible refine Calls.mono (fc11 g2) ?_; rintro e v3 ⟨rfl, g3⟩) | (go_at_call 18; (first | with_reducible refine Calls.mono (s2c m1 l1) ?_ | with_reducible refine Calls.mono (s2b m1 l1) ?_ | with_reducible refine Calls.mono (s2a l1) ?_); rintro e v2 ⟨rfl, m2⟩; (first | with_reducible have g2 := FB.out _ (bthen (bthen (bthen ((Below.refl _ _).drew) m1) (below_new _ _)) m2) | with_reducible have g2 := FB.out _ (bthen (bthen ((below_new _ _).drew) m1) m2))) | (go_at_call 15; with_reducible refine Calls.mono (fc10 (FB.out _ (by first | with_reducible exact (Below.refl _ _).drew | with_reducible exact (below_new _ _).drew))) ?_; rintro e v1 ⟨ao1, cap1, rfl, l1, m1⟩))
    all_goals go_wp2
    all_goals go_ret
    all_goals exact ⟨rfl, by rw [HR.out]; exact g5.low⟩
end Go.Proofs.Ythfoeppcageneaa
