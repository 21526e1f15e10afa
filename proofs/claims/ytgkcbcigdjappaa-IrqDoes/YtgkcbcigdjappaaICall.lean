/-
  What New, Bind, Free, Raise, Ack and Open of package irq answer, and leave; no condition.
-/
import Derived.Test.YtgkcbcigdjappaaIBase
namespace Go.Proofs.Ytgkcbcigdjappaa
open Go.RowKit Go.Deep Go.Shelf

theorem results_tmp4 {fn : Func} {t u v x : Tmp} (h : fn.results = #[.tmp t, .tmp u, .tmp v, .tmp x]) (tmps : Array Value) (P : Program) (w : World) :
    (results fn tmps).run P w = .ok (.tuple #[tmps.getD t undef, tmps.getD u undef, tmps.getD v undef, tmps.getD x undef]) w := by
  simp [results, h]
section
variable {w0 w : World} {r p : Nat} {v : Value} {S : List Ln} {R : List Th}
theorem new_no (n : Int) (hn : n < 1 ∨ 64 < n) (w : World) : Calls Try.prog 9 #[.int .i64 n] w fun e w' => e = .returned (.tuple #[.pointer none, .int .i64 1]) ∧ w' = w := by
  rcases hn with h | h
  · go_enter Try.func9, Try.ntmps9
    go_wp2
    go_ret2
    exact ⟨rfl, rfl⟩
  · have h0 : ¬ n < 1 := by omega
    go_enter Try.func9, Try.ntmps9
    go_wp2
    go_ret2
    exact ⟨rfl, rfl⟩
theorem new_sep (s : Sep w0 r w R) (n : Nat) (h1 : 1 ≤ n) (h64 : n ≤ 64) : Calls Try.prog 9 #[.int .i64 (n : Int)] w fun e w' => ∃ p v, e = .returned (.tuple #[ptr p, .int .i64 0]) ∧ Sep w0 r w' (lnT p v (List.replicate n ln0) :: R) := by
  have hmk := make_P n (by omega)
  have s1 := Sep.ho 52 (Sep.madeN (E := elP) okP (zs := #[.int .i64 0, .int .i64 0, .int .u64 0]) (z := ln0) rfl s n (by omega))
  have h9 : ∀ o, (w.alloc o).heap.size = w.heap.size + 1 := fun o => by simp
  rw [h9] at s1
  have S1 := hid s1
  clear s s1 h9
  have hn0 : ¬ (n : Int) < 1 := by omega
  have hn1 : ¬ 64 < (n : Int) := by omega
  go_enter Try.func9, Try.ntmps9
  go_wp2
  go_ret2
  exact ⟨_, rfl, _, S1.out⟩
theorem at_none (s : Sep w0 r w (lnT p v S :: R)) {n : Int} (h : atI S n = none) : Calls Try.prog 23 #[ptr p, .int .i64 n] w fun e w' => e = .returned (.pointer none) ∧ w' = w := by
  have c0 := s.cellH
  obtain ⟨ao, cap, rfl, -⟩ := s.sliceH
  have hn := atI_none h
  clear s h
  generalize S.length = m at *
  rcases hn with h | ⟨h0, h⟩
  · go_enter Try.func23, Try.ntmps23
    go_wp2
    go_ret
    exact ⟨rfl, rfl⟩
  · have h1 : ¬ n < 0 := by omega
    go_enter Try.func23, Try.ntmps23
    go_wp2
    go_ret
    exact ⟨rfl, rfl⟩
theorem at_some {g m cap k : Nat} {x : Ln} (s : Sep w0 r w (lnT p (.slice (some ⟨g, 0, none⟩) m cap) S :: R)) (h : S[k]? = some x) : Calls Try.prog 23 #[ptr p, .int .i64 (k : Int)] w fun e w' => e = .returned (.pointer (some ⟨g, k * 3, none⟩)) ∧ w' = w := by
  have c0 := s.cellH
  obtain ⟨ao, cap', e, -⟩ := s.sliceH
  have hk := (List.getElem?_eq_some_iff.1 h).1
  cases e
  clear s h
  generalize S.length = m at *
  have h0 : ¬ (k : Int) < 0 := by omega
  have h1 : ¬ (m : Int) ≤ (k : Int) := by omega
  have h2 : (k : Int) < (m : Int) := by omega
  go_enter Try.func23, Try.ntmps23
  go_wp2
  go_ret
  exact ⟨rfl, rfl⟩
theorem tell_sep {g m cap k : Nat} {x : Ln} (s : Sep w0 r w (lnT p (.slice (some ⟨g, 0, none⟩) m cap) S :: R)) (h : S[k]? = some x) : Calls Try.prog 25 #[.pointer (some ⟨g, k * 3, none⟩)] w fun e w' => e = .returned (.tuple #[.int .i64 x.a, .int .u64 x.g, .bool true, .int .i64 0]) ∧ Sep w0 r w' (lnT p (.slice (some ⟨g, 0, none⟩) m cap) (S.set k ⟨(some (some false)), x.a, x.g⟩) :: R) := by
  obtain ⟨c0, c1, c2⟩ := s.lineAt h
  have f0 := s.frozenL (k * 3)
  have s1 := s.setIs h (some (some false))
  obtain ⟨d0, d1, d2⟩ := s1.lineAt (k := k) (x := ⟨(some (some false)), x.a, x.g⟩) (by simp [(List.getElem?_eq_some_iff.1 h).1])
  have S1 := hid s1
  simp only [num] at S1 d0 d1 d2
  clear s s1 h
  generalize hq : k * 3 = q at *
  clear hq
  go_enter Try.func25, Try.ntmps25
  go_wp2_with fail
  generalize w.setCell ⟨g, q, none⟩ (.int .i64 2) = w1 at *
  go_quiet (fail)
  go_wp2
  (try simp only [Exit.inBlock, Exit.then])
  refine bodyPost_ret (results_tmp4 rfl _ _ _) rfl ?_
  exact ⟨rfl, S1.out.below (below_drewN (Below.refl _ _) _)⟩
end
end Go.Proofs.Ytgkcbcigdjappaa
