/-
  What Send of package endpoint answers, and leaves; no condition but that few wait.
-/
import Derived.Test.YtddeiglcbnemfaaJRecv
namespace Go.Proofs.Ytddeiglcbnemfaa
open Go.RowKit Go.Deep Go.Shelf
section
variable {w0 w : World} {r p : Nat} {v : Value} {S : St} {R : List Th}
set_option maxHeartbeats 8000000 in
theorem send_sep (s : Sep w0 r w (epT p v S :: R)) (n : Int) (m : Ms) (z : Bool) (hl : S.length ≤ 1000) :
    Calls Try.prog 5 #[ptr p, .int .i64 n, encM m, .bool z] w fun e w' => e = .returned (.tuple #[encT (sendM S n m), .int .i64 (sendE S n)]) ∧ ∃ v', Sep w0 r w' (epT p v' (sendS S n m z) :: R) := by
  have HL := hid hl
  have HG := hid s.good
  have s1 := ((s.box (objM m)).box (objT mt0)).third.swap
  have e9 : (w.alloc (objM m)).heap.size = w.heap.size + 1 := by simp
  rw [e9] at s1
  have S1 := hid s1
  clear s1 e9 s hl
  have hobM : objM m = .cells #[.int .i64 m.l, .int .u64 m.a, .int .u64 m.b, .int .u64 m.c, .int .u64 m.d, .int .u64 m.g, .bool m.q] 33 := rfl
  have hobj : objT mt0 = .cells #[.bool false, .int .i64 0, .int .i64 0, .int .i64 0, .int .u64 0, .int .u64 0, .int .u64 0, .int .u64 0, .int .u64 0, .bool false] 37 := rfl
  have HC1 := hid (there_sep S1.out n HL.out)
  rw [hobj] at HC1
  rw [hobM] at HC1
  unfold encM
  go_enter Try.func5, Try.ntmps5
  go_wp2_with fail
  refine Calls.mono HC1.out ?_
  rintro e w1 ⟨rfl, s1⟩
  rw [← hobj] at s1
  rw [← hobM] at s1
  have S2 := hid s1
  clear s1 S1 HC1
  generalize w.heap.size = q at *
  cases ht : thB S n with
  | true =>
    have HR : Hid (sendM S n m = mt0 ∧ sendE S n = 110 ∧ sendS S n m z = S) := ⟨by simp [sendM, ht], by simp [sendE, ht], by simp [sendS, ht]⟩
    have Z := (S2.out.each (blk (q + 1) (objT mt0)) (by simp)).1
    obtain ⟨z0, z1, z2, z3, z4, z5, z6, z7, z8, z9⟩ := (atT_of (x := mt0) Z).cells
    have zf := frozenT (x := mt0) Z
    have S3 := hid ((S2.out.third.third.putT mt0).drop.drop2)
    clear Z S2 ht
    unfold put10 at S3
    simp only [mt0, ms0] at z0 z1 z2 z3 z4 z5 z6 z7 z8 z9 S3
    go_wp2
    refine bodyPost_ret (v := .tuple #[.agg #[.bool false, .int .i64 0, .int .i64 0, .int .i64 0, .int .u64 0, .int .u64 0, .int .u64 0, .int .u64 0, .int .u64 0, .bool false], .int .i64 110]) ?_ rfl ⟨by rw [HR.out.1, HR.out.2.1]; rfl, v, by rw [HR.out.2.2]; exact S3.out⟩
    simp [results, Try.f5, go_sem, z0, z1, z2, z3, z4, z5, z6, z7, z8, z9]
  | false =>
    have HT := hid ht
    clear ht
    go_wp2_with fail
    refine Calls.mono (next_sep S2.out false HL.out) ?_
    rintro e w2 ⟨rfl, v2, s2⟩
    have S3 := hid (s2.box (objW (nextX S false))).swap
    clear s2 S2
    cases hb : hasB S false with
    | true =>
      obtain ⟨x, T, hS, hxs, hX, hT⟩ := nextX_yes hb
      have HR : Hid (sendM S n m = ⟨true, n, x.n, m⟩ ∧ sendE S n = 0 ∧ sendS S n m z = T) := by
        have ht := HT.out
        refine ⟨?_, by simp [sendE, ht], ?_⟩
        · subst hS
          simp [sendM, ht, hxs]
        · subst hS
          simp [sendS, ht, hb]
      rw [hX, hT] at S3
      rw [hX]
      clear hb hS hxs hX hT HT
      obtain ⟨d0, d1, d2, d3, d4, d5, d6, d7, d8⟩ := (atW_of (x := x) (S3.out.each (blk w2.heap.size (objW x)) (by simp)).1).cells
      obtain ⟨g0, g1, g2, g3, g4, g5, g6⟩ := (atM_of (m := m) (S3.out.each (blk q (objM m)) (by simp)).1).cells
      have Z := (S3.out.each (blk (q + 1) (objT mt0)) (by simp)).1
      obtain ⟨z0, z1, z2, z3, z4, z5, z6, z7, z8, z9⟩ := (atT_of (x := mt0) Z).cells
      have zf := frozenT (x := mt0) Z
      have S4 := hid ((S3.out.fourth.putT ⟨true, n, x.n, m⟩).drop.drop2.drop2)
      clear Z S3
      unfold put10 at S4
      simp only [mt0, ms0] at z0 z1 z2 z3 z4 z5 z6 z7 z8 z9
      simp only [Nat.zero_add] at *
      have hobW : objW x = .cells #[.int .i64 x.n, .bool x.s, .int .i64 x.m.l, .int .u64 x.m.a, .int .u64 x.m.b, .int .u64 x.m.c, .int .u64 x.m.d, .int .u64 x.m.g, .bool x.m.q] 53 := rfl
      generalize hw3 : w2.alloc (objW x) = w3 at *
      rw [hobW] at hw3
      unfold encW
      go_wp2_with (rw [hw3]; generalize w2.heap.size = q2 at *; clear hw3)
      refine bodyPost_ret (v := .tuple #[encT ⟨true, n, x.n, m⟩, .int .i64 0]) ?_ rfl ⟨by rw [HR.out.1, HR.out.2.1], v2, by rw [HR.out.2.2]; exact S4.out⟩
      simp [results, Try.f5, go_sem, encT, z0, z1, z2, z3, z4, z5, z6, z7, z8, z9]
    | false =>
      obtain ⟨-, hT⟩ := nextX_no hb
      rw [hT] at S3
      clear hT
      generalize nextX S false = x at *
      have HR : Hid (sendM S n m = mt0 ∧ sendE S n = 0) := by
        have ht := HT.out
        refine ⟨?_, by simp [sendE, ht]⟩
        rcases S with _ | ⟨x, T⟩
        · simp [sendM]
        · have hx : (x.s == false) = false := hb
          have hx' : x.s = !false := by cases h : x.s <;> rw [h] at hx <;> simp_all
          simp [sendM, hx']
      have hobW : objW x = .cells #[.int .i64 x.n, .bool x.s, .int .i64 x.m.l, .int .u64 x.m.a, .int .u64 x.m.b, .int .u64 x.m.c, .int .u64 x.m.d, .int .u64 x.m.g, .bool x.m.q] 53 := rfl
      unfold encW
      cases z with
      | true =>
        have HS := hid (show sendS S n m true = S ++ [⟨n, true, m⟩] by simp [sendS, HT.out, hb])
        have HA := hid (good_add HG.out ⟨n, true, m⟩ HT.out hb (by simp))
        clear HT hb HG
        generalize hw3 : w2.alloc (objW x) = w3 at *
        rw [hobW] at hw3
        have s5 := S3.out.drew
        obtain ⟨a, k, c, w4, r4, c4, f4, s4⟩ := s5.moreW ⟨n, true, m⟩ HA.out HL.out (C := #[.int .i64 n, .bool true, .int .i64 m.l, .int .u64 m.a, .int .u64 m.b, .int .u64 m.c, .int .u64 m.d, .int .u64 m.g, .bool m.q]) rfl
        have e8 : w3.drew.heap.size = w3.heap.size := rfl
        rw [e8] at r4
        have R4 := hid r4
        have c3 := S3.out.cellP
        have c3a := cell_al (S3.out.cellP) (.cells #[.int .i64 n, .bool true, .int .i64 m.l, .int .u64 m.a, .int .u64 m.b, .int .u64 m.c, .int .u64 m.d, .int .u64 m.g, .bool m.q] 53)
        obtain ⟨g0, g1, g2, g3, g4, g5, g6⟩ := (atM_of (m := m) (S3.out.each (blk q (objM m)) (by simp)).1).cells
        have Z := (s4.each (blk (q + 1) (objT mt0)) (by simp)).1
        obtain ⟨z0, z1, z2, z3, z4, z5, z6, z7, z8, z9⟩ := (atT_of (x := mt0) Z).cells
        have zf := frozenT (x := mt0) Z
        have S5 := hid ((s4.fourth.putT mt0).drop.drop2.drop2)
        obtain ⟨av, cv, rfl, -⟩ := S3.out.sliceP
        generalize S.length = nS at *
        generalize hw5 : w4.setCell ⟨p, 0, none⟩ (.slice a k c) = w5 at *
        clear Z S3 s4 s5 r4 e8 HA
        unfold put10 at S5
        simp only [mt0, ms0] at z0 z1 z2 z3 z4 z5 z6 z7 z8 z9 S5
        go_wp2_with (rw [hw3]; generalize w2.heap.size = q2 at *; clear hw3)
        go_region_law (refine step_append_run rfl (.tmp 32) (.tmp 36) 49 49 rfl (.slice av nS cv) (.slice (some ⟨w3.heap.size, 0, none⟩) 1 1) _ _ (by simp [Act.eval]) (by simp [Act.eval]) R4.out ?_)
        all_goals
          (try rw [hw5])
          clear hw5
          go_wp2
          refine bodyPost_ret (v := .tuple #[.agg #[.bool false, .int .i64 0, .int .i64 0, .int .i64 0, .int .u64 0, .int .u64 0, .int .u64 0, .int .u64 0, .int .u64 0, .bool false], .int .i64 0]) ?_ rfl ⟨by rw [HR.out.1, HR.out.2]; rfl, _, by rw [HS.out]; exact S5.out⟩
          simp [results, Try.f5, go_sem, z0, z1, z2, z3, z4, z5, z6, z7, z8, z9]
      | false =>
        have HS := hid (show sendS S n m false = S by simp [sendS, HT.out, hb])
        have Z := (S3.out.each (blk (q + 1) (objT mt0)) (by simp)).1
        obtain ⟨z0, z1, z2, z3, z4, z5, z6, z7, z8, z9⟩ := (atT_of (x := mt0) Z).cells
        have zf := frozenT (x := mt0) Z
        have S5 := hid ((S3.out.fourth.putT mt0).drop.drop2.drop2)
        clear Z S3 HT hb HG
        unfold put10 at S5
        generalize hw3 : w2.alloc (objW x) = w3 at *
        rw [hobW] at hw3
        simp only [mt0, ms0] at z0 z1 z2 z3 z4 z5 z6 z7 z8 z9 S5
        go_wp2_with (rw [hw3]; generalize w2.heap.size = q2 at *; clear hw3)
        refine bodyPost_ret (v := .tuple #[.agg #[.bool false, .int .i64 0, .int .i64 0, .int .i64 0, .int .u64 0, .int .u64 0, .int .u64 0, .int .u64 0, .int .u64 0, .bool false], .int .i64 0]) ?_ rfl ⟨by rw [HR.out.1, HR.out.2]; rfl, _, by rw [HS.out]; exact S5.out⟩
        simp [results, Try.f5, go_sem, z0, z1, z2, z3, z4, z5, z6, z7, z8, z9]
end
end Go.Proofs.Ytddeiglcbnemfaa
