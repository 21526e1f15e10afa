/-
  What Send of the document's own endpoint answers, and leaves; no condition but that few wait.
-/
import Derived.Test.YtddeiglcbnemfaaJRTail
namespace Go.Proofs.Ytddeiglcbnemfaa
open Go.RowKit Go.Deep Go.Shelf
section
variable {w0 w : World} {r k : Nat} {a b : Value} {A : List Wt} {B : List Int} {R : List Th}
set_option maxHeartbeats 8000000 in
theorem rsend_sep (s : Sep w0 r w (blk k (objR a b) :: lstS a A :: lstI b B :: R)) (n : Int) (m : Ms) (z : Bool) (hA : A.length ≤ 1000) (hB : B.length ≤ 1000) :
    Calls Try.prog 6 #[ptr k, .int .i64 n, encM m, .bool z] w fun e w' => e = .returned (.tuple #[encT (rsM A B n m), .int .i64 (rE A B n)]) ∧ ∃ a' b', Sep w0 r w' (blk k (objR a' b') :: lstS a' (rsA A B n m z) :: lstI b' (rsB A B n) :: R) := by
  have HAB := hid (And.intro hA hB)
  have s1 := (((s.box (objM m)).one3).box (objT mt0)).one3
  have e9 : (w.alloc (objM m)).heap.size = w.heap.size + 1 := by simp
  rw [e9] at s1
  have S1 := hid s1
  clear s1 e9 s hA hB
  have hobM : objM m = .cells #[.int .i64 m.l, .int .u64 m.a, .int .u64 m.b, .int .u64 m.c, .int .u64 m.d, .int .u64 m.g, .bool m.q] 33 := rfl
  have hobj : objT mt0 = .cells #[.bool false, .int .i64 0, .int .i64 0, .int .i64 0, .int .u64 0, .int .u64 0, .int .u64 0, .int .u64 0, .int .u64 0, .bool false] 37 := rfl
  have HC1 := hid (rthere_sep S1.out n HAB.out.1 HAB.out.2)
  rw [hobj] at HC1
  rw [hobM] at HC1
  unfold encM
  go_enter Try.func6, Try.ntmps6
  go_wp2_with fail
  refine Calls.mono HC1.out ?_
  rintro e w1 ⟨rfl, hw1⟩
  rw [← hobj, ← hobM] at hw1
  have S2 := hid (hw1 ▸ S1.out)
  clear S1 HC1 hw1
  generalize w.heap.size = q at *
  cases ht : rthB A B n with
  | true =>
    have HR : Hid (rsM A B n m = mt0 ∧ rE A B n = 110 ∧ rsA A B n m z = A ∧ rsB A B n = B) := ⟨by simp [rsM, ht], by simp [rE, ht], by simp [rsA, ht], by simp [rsB, ht]⟩
    have Z := (S2.out.each (blk (q + 1) (objT mt0)) (by simp)).1
    obtain ⟨z0, z1, z2, z3, z4, z5, z6, z7, z8, z9⟩ := (atT_of (x := mt0) Z).cells
    have zf := frozenT (x := mt0) Z
    have S3 := hid ((S2.out.fourth.putT mt0).drop.fourth.drop)
    clear Z S2 ht
    unfold put10 at S3
    simp only [mt0, ms0] at z0 z1 z2 z3 z4 z5 z6 z7 z8 z9 S3
    go_wp2
    refine bodyPost_ret (v := .tuple #[.agg #[.bool false, .int .i64 0, .int .i64 0, .int .i64 0, .int .u64 0, .int .u64 0, .int .u64 0, .int .u64 0, .int .u64 0, .bool false], .int .i64 110]) ?_ rfl ⟨by rw [HR.out.1, HR.out.2.1]; rfl, a, b, by rw [HR.out.2.2.1, HR.out.2.2.2]; exact S3.out⟩
    simp [results, Try.f6, go_sem, z0, z1, z2, z3, z4, z5, z6, z7, z8, z9]
  | false =>
    obtain ⟨aa, ca, rfl⟩ := S2.out.listIs (E := elS) (v := a) (A := A) (by simp)
    obtain ⟨ab, cb, rfl⟩ := S2.out.listIs (E := elI) (v := b) (A := B) (by simp)
    obtain ⟨c0, c1, f0, f1⟩ := S2.out.cellR
    rcases B with _ | ⟨t, B'⟩
    · have HR : Hid (rsM A [] n m = mt0 ∧ rE A [] n = 0 ∧ rsB A [] n = []) := ⟨by simp [rsM], by simp [rE, ht], by simp [rsB]⟩
      cases z with
      | false =>
        have HZ := hid (show rsA A [] n m false = A by simp [rsA])
        have Z := (S2.out.each (blk (q + 1) (objT mt0)) (by simp)).1
        obtain ⟨z0, z1, z2, z3, z4, z5, z6, z7, z8, z9⟩ := (atT_of (x := mt0) Z).cells
        have zf := frozenT (x := mt0) Z
        have S3 := hid ((S2.out.fourth.putT mt0).drop.fourth.drop)
        clear Z S2 ht
        unfold put10 at S3
        simp only [mt0, ms0] at z0 z1 z2 z3 z4 z5 z6 z7 z8 z9 S3
        simp only [List.length_nil] at *
        go_wp2
        refine bodyPost_ret (v := .tuple #[.agg #[.bool false, .int .i64 0, .int .i64 0, .int .i64 0, .int .u64 0, .int .u64 0, .int .u64 0, .int .u64 0, .int .u64 0, .bool false], .int .i64 0]) ?_ rfl ⟨by rw [HR.out.1, HR.out.2.1]; rfl, _, _, by rw [HZ.out, HR.out.2.2]; exact S3.out⟩
        simp [results, Try.f6, go_sem, z0, z1, z2, z3, z4, z5, z6, z7, z8, z9]
      | true =>
        have HZ := hid (show rsA A [] n m true = A ++ [⟨n, true, m⟩] by simp [rsA, ht])
        have s5 := S2.out.drew
        obtain ⟨v4, w4, r4, s4⟩ := s5.swap.more okS 26 ⟨n, true, m⟩ (C := #[.int .i64 n, .int .i64 m.l, .int .u64 m.a, .int .u64 m.b, .int .u64 m.c, .int .u64 m.d, .int .u64 m.g, .bool m.q]) rfl (by have := HAB.out; omega)
        obtain ⟨a4, c4, rfl⟩ := s4.listIs (E := elS) (v := v4) (A := A ++ [⟨n, true, m⟩]) (by simp)
        simp only [elS] at r4
        have e8 : w1.drew.heap.size = w1.heap.size := rfl
        rw [e8] at r4
        have R4 := hid r4
        obtain ⟨h0, -, g0', -⟩ := s4.swap.cellR
        have c3a := cell_al c0 (.cells #[.int .i64 n, .int .i64 m.l, .int .u64 m.a, .int .u64 m.b, .int .u64 m.c, .int .u64 m.d, .int .u64 m.g, .bool m.q] 57)
        obtain ⟨g0, g1, g2, g3, g4, g5, g6⟩ := (atM_of (m := m) (S2.out.each (blk q (objM m)) (by simp)).1).cells
        have s6 := s4.swap.setA (.slice a4 (A ++ [(⟨n, true, m⟩ : Wt)]).length c4)
        have Z := (s6.each (blk (q + 1) (objT mt0)) (by simp)).1
        obtain ⟨z0, z1, z2, z3, z4, z5, z6, z7, z8, z9⟩ := (atT_of (x := mt0) Z).cells
        have zf := frozenT (x := mt0) Z
        have S5 := hid ((s6.fourth.putT mt0).drop.fourth.drop)
        generalize hnA : A.length = nA at *
        generalize hnB : (A ++ [(⟨n, true, m⟩ : Wt)]).length = nB at *
        generalize hw5 : w4.setCell ⟨k, 0, none⟩ (.slice a4 nB c4) = w5 at *
        clear Z S2 s4 s5 s6 r4 e8 ht hnA hnB
        unfold put10 at S5
        simp only [mt0, ms0] at z0 z1 z2 z3 z4 z5 z6 z7 z8 z9 S5
        simp only [List.length_nil] at *
        go_wp2_with fail
        go_region_law (refine step_append_run rfl (.tmp 46) (.tmp 50) 26 26 rfl (.slice aa nA ca) (.slice (some ⟨w1.heap.size, 0, none⟩) 1 1) _ _ (by simp [Act.eval]) (by simp [Act.eval]) R4.out ?_)
        all_goals
          (try rw [hw5])
          clear hw5
          go_wp2
          refine bodyPost_ret (v := .tuple #[.agg #[.bool false, .int .i64 0, .int .i64 0, .int .i64 0, .int .u64 0, .int .u64 0, .int .u64 0, .int .u64 0, .int .u64 0, .bool false], .int .i64 0]) ?_ rfl ⟨by rw [HR.out.1, HR.out.2.1]; rfl, _, _, by rw [HZ.out, HR.out.2.2]; exact S5.out⟩
          simp [results, Try.f6, go_sem, z0, z1, z2, z3, z4, z5, z6, z7, z8, z9]
    · have HR : Hid (rsM A (t :: B') n m = ⟨true, n, t, m⟩ ∧ rE A (t :: B') n = 0 ∧ rsA A (t :: B') n m z = A ∧ rsB A (t :: B') n = B') := ⟨by simp [rsM, ht], by simp [rE, ht], by simp [rsA, ht], by simp [rsB, ht]⟩
      have row : RowI w1 (.slice ab (t :: B').length cb) (t :: B') := (S2.out.each (lstI (.slice ab (t :: B').length cb) (t :: B')) (by simp)).1
      obtain ⟨_, _, ev, hcap, hcap2, hg, -⟩ := row.slice
      cases ev
      obtain ⟨g, rfl⟩ := hg 0 (by simp)
      have l0 := RowI.cell row (i := 0) (x := t) rfl
      have hd0 : w1.cell? ⟨g, 0, none⟩ = some (.int .i64 t) := l0
      have l0' := cell_al hd0 (.cells #[] 3)
      have l00 := hd0
      have c1' := cell_al c1 (.cells #[] 3)
      obtain ⟨ad, had, hsrc⟩ : ∃ ad : Addr, (if cb = 1 then some (⟨g, 0, none⟩ : Addr) else some ⟨g, 1, none⟩) = some ad ∧ ∀ j v, (flatK elI.enc B')[j]? = some v → (w1.alloc (.cells #[] elI.e)).cell? (ad.add j) = some v := by
        by_cases hc : cb = 1
        · refine ⟨⟨g, 0, none⟩, by simp [hc], fun j v hj => ?_⟩
          have h0 : B' = [] := List.length_eq_zero_iff.1 (by simp at hcap; omega)
          rw [h0] at hj
          simp [flatK] at hj
        · exact ⟨⟨g, 1, none⟩, by simp [hc], Row.tailAt okI (Row.below row (below_new _ _))⟩
      obtain ⟨v4, w4, r4, s4⟩ := (Sep.made (E := elI) S2.out).ontoAt okI ad (cb - 1) hsrc 27 (by have := HAB.out; simp at this ⊢; omega)
      rw [List.nil_append] at s4
      obtain ⟨a4, c4, rfl⟩ := s4.listIs (E := elI) (v := v4) (A := B') (by simp)
      simp only [elI] at r4
      have R4 := hid r4
      obtain ⟨-, h1, -, g1'⟩ := s4.swap.cellR
      obtain ⟨m0, m1, m2, m3, m4, m5, m6⟩ := (atM_of (m := m) ((s4.swap.setB (.slice a4 B'.length c4)).each (blk q (objM m)) (by simp)).1).cells
      have s6 := (s4.swap.setB (.slice a4 B'.length c4)).fourth.drop
      have Z := (s6.each (blk (q + 1) (objT mt0)) (by simp)).1
      obtain ⟨z0, z1, z2, z3, z4, z5, z6, z7, z8, z9⟩ := (atT_of (x := mt0) Z).cells
      have zf := frozenT (x := mt0) Z
      have S5 := hid ((s6.fourth.putT ⟨true, n, t, m⟩).drop.fourth.drop.in2)
      generalize hnB : B'.length = nB at *
      generalize hN1 : (t :: B').length = N1 at *
      have hN2 : N1 = nB + 1 := by rw [← hN1, ← hnB]; rfl
      have e1 : N1 - 1 = nB := by omega
      have hn0 : (0 : Int) < (N1 : Int) := by omega
      have hn00 : 0 < N1 := by omega
      have hn1 : (1 : Int) ≤ (N1 : Int) := by omega
      generalize hw5 : w4.setCell ⟨k, 1, none⟩ (.slice a4 nB c4) = w5 at *
      have HW5 := hid hw5
      clear Z S2 s4 s6 r4 ht hnB row hg hsrc l0 hw5 hN1 hN2 l0' hd0
      have hd0 := l00
      clear l00
      unfold put10 at S5
      simp only [mt0, ms0] at z0 z1 z2 z3 z4 z5 z6 z7 z8 z9
      go_wp2_with (first | (at_builtin; refine wpList_append_run rfl _ _ _ _ rfl _ _ _ _ rfl rfl R4.out ?_) | (rw [HW5.out]; clear HW5))
      refine bodyPost_ret (v := .tuple #[encT ⟨true, n, t, m⟩, .int .i64 0]) ?_ rfl ⟨by rw [HR.out.1, HR.out.2.1], _, _, by rw [HR.out.2.2.1, HR.out.2.2.2]; exact S5.out⟩
      simp [results, Try.f6, go_sem, encT, z0, z1, z2, z3, z4, z5, z6, z7, z8, z9]
end
end Go.Proofs.Ytddeiglcbnemfaa
