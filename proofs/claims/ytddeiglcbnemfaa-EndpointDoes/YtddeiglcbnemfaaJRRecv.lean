/-
  What Recv of the document's own endpoint answers, and leaves; no condition but that few wait.
-/
import Derived.Test.YtddeiglcbnemfaaJRTail
namespace Go.Proofs.Ytddeiglcbnemfaa
open Go.RowKit Go.Deep Go.Shelf
section
variable {w0 w : World} {r k : Nat} {a b : Value} {A : List Wt} {B : List Int} {R : List Th}
set_option maxHeartbeats 8000000 in
theorem rrecv_sep (s : Sep w0 r w (blk k (objR a b) :: lstS a A :: lstI b B :: R)) (n : Int) (z : Bool) (hA : A.length ≤ 1000) (hB : B.length ≤ 1000) :
    Calls Try.prog 8 #[ptr k, .int .i64 n, .bool z] w fun e w' => e = .returned (.tuple #[encT (rrM A B n), .int .i64 (rE A B n)]) ∧ ∃ a' b', Sep w0 r w' (blk k (objR a' b') :: lstS a' (rrA A B n) :: lstI b' (rrB A B n z) :: R) := by
  have HAB := hid (And.intro hA hB)
  have S1 := hid (s.box (objT mt0)).one3
  clear s hA hB
  have hobj : objT mt0 = .cells #[.bool false, .int .i64 0, .int .i64 0, .int .i64 0, .int .u64 0, .int .u64 0, .int .u64 0, .int .u64 0, .int .u64 0, .bool false] 37 := rfl
  have HC1 := hid (rthere_sep S1.out n HAB.out.1 HAB.out.2)
  rw [hobj] at HC1
  go_enter Try.func8, Try.ntmps8
  go_wp2_with fail
  refine Calls.mono HC1.out ?_
  rintro e w1 ⟨rfl, hw1⟩
  rw [← hobj] at hw1
  have S2 := hid (hw1 ▸ S1.out)
  clear S1 HC1 hw1
  generalize w.heap.size = q at *
  cases ht : rthB A B n with
  | true =>
    have HR : Hid (rrM A B n = mt0 ∧ rE A B n = 110 ∧ rrA A B n = A ∧ rrB A B n z = B) := ⟨by simp [rrM, ht], by simp [rE, ht], by simp [rrA, ht], by simp [rrB, ht]⟩
    have Z := (S2.out.each (blk (q) (objT mt0)) (by simp)).1
    obtain ⟨z0, z1, z2, z3, z4, z5, z6, z7, z8, z9⟩ := (atT_of (x := mt0) Z).cells
    have zf := frozenT (x := mt0) Z
    have S3 := hid ((S2.out.fourth.putT mt0).drop)
    clear Z S2 ht
    unfold put10 at S3
    simp only [mt0, ms0] at z0 z1 z2 z3 z4 z5 z6 z7 z8 z9 S3
    go_wp2
    refine bodyPost_ret (v := .tuple #[.agg #[.bool false, .int .i64 0, .int .i64 0, .int .i64 0, .int .u64 0, .int .u64 0, .int .u64 0, .int .u64 0, .int .u64 0, .bool false], .int .i64 110]) ?_ rfl ⟨by rw [HR.out.1, HR.out.2.1]; rfl, a, b, by rw [HR.out.2.2.1, HR.out.2.2.2]; exact S3.out⟩
    simp [results, Try.f8, go_sem, z0, z1, z2, z3, z4, z5, z6, z7, z8, z9]
  | false =>
    obtain ⟨aa, ca, rfl⟩ := S2.out.listIs (E := elS) (v := a) (A := A) (by simp)
    obtain ⟨ab, cb, rfl⟩ := S2.out.listIs (E := elI) (v := b) (A := B) (by simp)
    obtain ⟨c0, c1, f0, f1⟩ := S2.out.cellR
    rcases A with _ | ⟨x, A'⟩
    · have HR : Hid (rrM [] B n = mt0 ∧ rE [] B n = 0 ∧ rrA [] B n = []) := ⟨by simp [rrM], by simp [rE, ht], by simp [rrA]⟩
      cases z with
      | false =>
        have HZ := hid (show rrB [] B n false = B by simp [rrB])
        have Z := (S2.out.each (blk q (objT mt0)) (by simp)).1
        obtain ⟨z0, z1, z2, z3, z4, z5, z6, z7, z8, z9⟩ := (atT_of (x := mt0) Z).cells
        have zf := frozenT (x := mt0) Z
        have S3 := hid ((S2.out.fourth.putT mt0).drop)
        clear Z S2 ht
        unfold put10 at S3
        simp only [mt0, ms0] at z0 z1 z2 z3 z4 z5 z6 z7 z8 z9 S3
        simp only [List.length_nil] at *
        go_wp2
        refine bodyPost_ret (v := .tuple #[.agg #[.bool false, .int .i64 0, .int .i64 0, .int .i64 0, .int .u64 0, .int .u64 0, .int .u64 0, .int .u64 0, .int .u64 0, .bool false], .int .i64 0]) ?_ rfl ⟨by rw [HR.out.1, HR.out.2.1]; rfl, _, _, by rw [HZ.out, HR.out.2.2]; exact S3.out⟩
        simp [results, Try.f8, go_sem, z0, z1, z2, z3, z4, z5, z6, z7, z8, z9]
      | true =>
        have HZ := hid (show rrB [] B n true = B ++ [n] by simp [rrB, ht])
        obtain ⟨v4, w4, r4, s4⟩ := S2.out.third.third.more okI 27 n (C := #[.int .i64 n]) rfl (by have := HAB.out; omega)
        obtain ⟨a4, c4, rfl⟩ := s4.listIs (E := elI) (v := v4) (A := B ++ [n]) (by simp)
        simp only [elI] at r4
        have R4 := hid r4
        obtain ⟨-, h1, -, g1'⟩ := s4.third.cellR
        have s6 := s4.third.setB (.slice a4 (B ++ [n]).length c4)
        have Z := (s6.each (blk q (objT mt0)) (by simp)).1
        obtain ⟨z0, z1, z2, z3, z4, z5, z6, z7, z8, z9⟩ := (atT_of (x := mt0) Z).cells
        have zf := frozenT (x := mt0) Z
        have S5 := hid ((s6.fourth.putT mt0).drop)
        generalize hnA : B.length = nA at *
        generalize hnB : (B ++ [n]).length = nB at *
        generalize hw5 : w4.setCell ⟨k, 1, none⟩ (.slice a4 nB c4) = w5 at *
        have HW5 := hid hw5
        clear Z S2 s4 s6 r4 ht hnA hnB hw5
        unfold put10 at S5
        simp only [mt0, ms0] at z0 z1 z2 z3 z4 z5 z6 z7 z8 z9 S5
        simp only [List.length_nil] at *
        go_wp2_with (first | (at_builtin; refine wpList_append_run rfl _ _ _ _ rfl _ _ _ _ rfl rfl R4.out ?_) | (rw [HW5.out]; clear HW5))
        refine bodyPost_ret (v := .tuple #[.agg #[.bool false, .int .i64 0, .int .i64 0, .int .i64 0, .int .u64 0, .int .u64 0, .int .u64 0, .int .u64 0, .int .u64 0, .bool false], .int .i64 0]) ?_ rfl ⟨by rw [HR.out.1, HR.out.2.1]; rfl, _, _, by rw [HZ.out, HR.out.2.2]; exact S5.out⟩
        simp [results, Try.f8, go_sem, z0, z1, z2, z3, z4, z5, z6, z7, z8, z9]
    · have HR : Hid (rrM (x :: A') B n = ⟨true, x.n, n, x.m⟩ ∧ rE (x :: A') B n = 0 ∧ rrA (x :: A') B n = A' ∧ rrB (x :: A') B n z = B) := ⟨by simp [rrM, ht], by simp [rE, ht], by simp [rrA, ht], by simp [rrB, ht]⟩
      have row1 : Row elS w1 (.slice aa (x :: A').length ca) (x :: A') := (S2.out.each (lstS (.slice aa (x :: A').length ca) (x :: A')) (by simp)).1
      obtain ⟨_, _, ev, hcap, hcap2, hg, -⟩ := row1.slice
      cases ev
      obtain ⟨g, rfl⟩ := hg 0 (by simp)
      obtain ⟨x0, x1, x2, x3, x4, x5, x6, x7⟩ := AtS.cells (w := w1) (g := g) (o := 0) (x := x) (fun j c hj => by have := Row.cell okS row1 (i := 0) (x := x) rfl hj; rw [Nat.zero_mul] at this; exact this)
      have s3 := (S2.out.box (objS x)).one3
      have row : Row elS (w1.alloc (objS x)) (.slice (some ⟨g, 0, none⟩) (x :: A').length ca) (x :: A') := Row.below row1 (below_new _ _)
      obtain ⟨C0, -, -, -⟩ := s3.cellR
      have hobS : objS x = .cells #[.int .i64 x.n, .int .i64 x.m.l, .int .u64 x.m.a, .int .u64 x.m.b, .int .u64 x.m.c, .int .u64 x.m.d, .int .u64 x.m.g, .bool x.m.q] 57 := rfl
      generalize hw2 : w1.alloc (objS x) = w2 at *
      rw [hobS] at hw2
      have HW2 := hid hw2
      have c1' := cell_al C0 (.cells #[] 57)
      obtain ⟨ad, had, hsrc⟩ : ∃ ad : Addr, (if ca = 1 then some (⟨g, 0, none⟩ : Addr) else some ⟨g, 8, none⟩) = some ad ∧ ∀ j v, (flatK elS.enc A')[j]? = some v → (w2.alloc (.cells #[] elS.e)).cell? (ad.add j) = some v := by
        by_cases hc : ca = 1
        · refine ⟨⟨g, 0, none⟩, by simp [hc], fun j v hj => ?_⟩
          have h0 : A' = [] := List.length_eq_zero_iff.1 (by simp at hcap; omega)
          rw [h0] at hj
          simp [flatK] at hj
        · exact ⟨⟨g, 8, none⟩, by simp [hc], Row.tailAt okS (Row.below row (below_new _ _))⟩
      obtain ⟨v4, w4, r4, s4⟩ := (Sep.made (E := elS) s3).ontoAt okS ad (ca - 1) hsrc 26 (by have := HAB.out; simp at this ⊢; omega)
      rw [List.nil_append] at s4
      obtain ⟨a4, c4, rfl⟩ := s4.listIs (E := elS) (v := v4) (A := A') (by simp)
      simp only [elS] at r4
      have R4 := hid r4
      obtain ⟨h0, -, g0', -⟩ := s4.swap.cellR
      have s6 := (s4.swap.setA (.slice a4 A'.length c4)).in2.drop2
      obtain ⟨m0, m1, m2, m3, m4, m5, m6, m7⟩ := AtS.cells (w := w4.setCell ⟨k, 0, none⟩ (.slice a4 A'.length c4)) (g := w1.heap.size) (o := 0) (x := x) (fun j c hj => by
        have hX : (w4.setCell ⟨k, 0, none⟩ (.slice a4 A'.length c4)).heap[w1.heap.size]? = some (objS x) := (s6.each (blk w1.heap.size (objS x)) (by simp)).1
        simp only [World.cell?]
        rw [hX, Nat.zero_add]
        simpa [cS, objS] using hj)
      have Z := (s6.each (blk q (objT mt0)) (by simp)).1
      obtain ⟨z0, z1, z2, z3, z4, z5, z6, z7, z8, z9⟩ := (atT_of (x := mt0) Z).cells
      have zf := frozenT (x := mt0) Z
      have S5 := hid ((s6.fourth.drop.fourth.putT ⟨true, x.n, n, x.m⟩).drop)
      generalize hnB : A'.length = nB at *
      generalize hN1 : (x :: A').length = N1 at *
      have hN2 : N1 = nB + 1 := by rw [← hN1, ← hnB]; rfl
      have e1 : N1 - 1 = nB := by omega
      have hn0 : (0 : Int) < (N1 : Int) := by omega
      have hn00 : 0 < N1 := by omega
      have hn1 : (1 : Int) ≤ (N1 : Int) := by omega
      generalize hw5 : w4.setCell ⟨k, 0, none⟩ (.slice a4 nB c4) = w5 at *
      have HW5 := hid hw5
      clear Z S2 s3 s4 s6 r4 ht hnB row row1 hg hsrc hw5 hw2 hN1 hN2 hobS
      unfold put10 at S5
      simp only [mt0, ms0] at z0 z1 z2 z3 z4 z5 z6 z7 z8 z9
      simp only [Nat.zero_add] at x0 x1 x2 x3 x4 x5 x6 x7 m0 m1 m2 m3 m4 m5 m6 m7
      go_wp2_with (first | (at_builtin; refine wpList_append_run rfl _ _ _ _ rfl _ _ _ _ rfl rfl R4.out ?_) | (rw [HW5.out]; clear HW5) | (rw [HW2.out]; generalize w1.heap.size = q1 at *; clear HW2))
      refine bodyPost_ret (v := .tuple #[encT ⟨true, x.n, n, x.m⟩, .int .i64 0]) ?_ rfl ⟨by rw [HR.out.1, HR.out.2.1], _, _, by rw [HR.out.2.2.1, HR.out.2.2.2]; exact S5.out⟩
      simp [results, Try.f8, go_sem, encT, z0, z1, z2, z3, z4, z5, z6, z7, z8, z9]
end
end Go.Proofs.Ytddeiglcbnemfaa
