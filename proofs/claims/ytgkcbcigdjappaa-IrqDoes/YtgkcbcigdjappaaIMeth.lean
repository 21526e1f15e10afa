/-
  What Bind, Free, Raise, Ack and Open of package irq answer, and leave; no condition.
-/
import Derived.Test.YtgkcbcigdjappaaICall
namespace Go.Proofs.Ytgkcbcigdjappaa
open Go.RowKit Go.Deep Go.Shelf

theorem put_nat (S : List Ln) (k : Nat) (y : Ln) : putI S (k : Int) y = S.set k y := by simp [putI]
theorem set_same {S : List Ln} {k : Nat} {x : Ln} (h : S[k]? = some x) : S.set k x = S := by
  apply List.ext_getElem?
  intro j
  rw [List.getElem?_set]
  split
  · rename_i e
    subst e
    rw [if_pos (List.getElem?_eq_some_iff.1 h).1, h]
  · rfl
section
variable {w0 w : World} {r p : Nat} {v : Value} {S : List Ln} {R : List Th}
theorem bind_sep (s : Sep w0 r w (lnT p v S :: R)) (n a g : Int) : Calls Try.prog 11 #[ptr p, .int .i64 n, .int .i64 a, .int .u64 g] w fun e w' => e = .returned (.int .i64 (bindE S n a)) ∧ Sep w0 r w' (lnT p v (bindS S n a g) :: R) := by
  cases h : atI S n with
  | none =>
    have HC := hid (at_none s h)
    have S1 := hid s
    simp only [bindE, bindS, h]
    clear s h
    go_enter Try.func11, Try.ntmps11
    go_wp2_with (go_at_call 23; refine Calls.mono HC.out ?_; rintro e w' ⟨rfl, rfl⟩; clear HC)
    go_ret
    exact ⟨rfl, S1.out⟩
  | some x =>
    obtain ⟨h0, -, -⟩ := atI_some h
    obtain ⟨k, rfl⟩ : ∃ k : Nat, n = (k : Int) := ⟨n.toNat, by omega⟩
    have hx : S[k]? = some x := by rw [← atI_nat]; exact h
    obtain ⟨ao, cap, rfl, hg⟩ := s.sliceH
    obtain ⟨b, rfl⟩ := hg k (List.getElem?_eq_some_iff.1 hx).1
    have HC := hid (at_some s hx)
    obtain ⟨c0, c1, c2⟩ := s.lineAt hx
    have f0 := s.frozenL (k * 3)
    have f1 := s.frozenL (k * 3 + 1)
    have f2 := s.frozenL (k * 3 + 2)
    clear hg h0
    by_cases ha : a < 0
    · have S1 := hid s
      simp only [bindE, bindS, h, ha, if_true]
      clear s h hx
      generalize hq : k * 3 = q at *
      clear hq
      generalize S.length = m at *
      go_enter Try.func11, Try.ntmps11
      go_wp2_with (go_at_call 23; refine Calls.mono HC.out ?_; rintro e w' ⟨rfl, rfl⟩; clear HC)
      go_ret
      exact ⟨rfl, S1.out⟩
    · obtain ⟨t, xa, xg⟩ := x
      rcases t with _ | _ | _ | _
      · have S1 := hid (s.setLn hx ⟨(some none), a, g⟩)
        simp only [bindE, bindS, h, ha, isU, if_true, if_false, put_nat]
        simp only [num] at c0 c1 c2 S1
        clear s h hx
        generalize hq : k * 3 = q at *
        clear hq
        generalize S.length = m at *
        go_enter Try.func11, Try.ntmps11
        go_wp2_with (go_at_call 23; refine Calls.mono HC.out ?_; rintro e w' ⟨rfl, rfl⟩; clear HC)
        go_ret
        exact ⟨rfl, S1.out⟩
      · have S1 := hid s
        simp only [bindE, bindS, h, ha, isU, Bool.false_eq_true, if_false]
        simp only [num] at c0 c1 c2
        clear s h hx
        generalize hq : k * 3 = q at *
        clear hq
        generalize S.length = m at *
        go_enter Try.func11, Try.ntmps11
        go_wp2_with (go_at_call 23; refine Calls.mono HC.out ?_; rintro e w' ⟨rfl, rfl⟩; clear HC)
        go_ret
        exact ⟨rfl, S1.out⟩
      · have S1 := hid s
        simp only [bindE, bindS, h, ha, isU, Bool.false_eq_true, if_false]
        simp only [num] at c0 c1 c2
        clear s h hx
        generalize hq : k * 3 = q at *
        clear hq
        generalize S.length = m at *
        go_enter Try.func11, Try.ntmps11
        go_wp2_with (go_at_call 23; refine Calls.mono HC.out ?_; rintro e w' ⟨rfl, rfl⟩; clear HC)
        go_ret
        exact ⟨rfl, S1.out⟩
      · have S1 := hid s
        simp only [bindE, bindS, h, ha, isU, Bool.false_eq_true, if_false]
        simp only [num] at c0 c1 c2
        clear s h hx
        generalize hq : k * 3 = q at *
        clear hq
        generalize S.length = m at *
        go_enter Try.func11, Try.ntmps11
        go_wp2_with (go_at_call 23; refine Calls.mono HC.out ?_; rintro e w' ⟨rfl, rfl⟩; clear HC)
        go_ret
        exact ⟨rfl, S1.out⟩
theorem free_sep (s : Sep w0 r w (lnT p v S :: R)) (n : Int) : Calls Try.prog 13 #[ptr p, .int .i64 n] w fun e w' => e = .returned (.int .i64 (freeE S n)) ∧ Sep w0 r w' (lnT p v (freeS S n) :: R) := by
  cases h : atI S n with
  | none =>
    have HC := hid (at_none s h)
    have S1 := hid s
    simp only [freeE, freeS, h]
    clear s h
    go_enter Try.func13, Try.ntmps13
    go_wp2_with (go_at_call 23; refine Calls.mono HC.out ?_; rintro e w' ⟨rfl, rfl⟩; clear HC)
    go_ret
    exact ⟨rfl, S1.out⟩
  | some x =>
    obtain ⟨h0, -, -⟩ := atI_some h
    obtain ⟨k, rfl⟩ : ∃ k : Nat, n = (k : Int) := ⟨n.toNat, by omega⟩
    have hx : S[k]? = some x := by rw [← atI_nat]; exact h
    obtain ⟨ao, cap, rfl, hg⟩ := s.sliceH
    obtain ⟨b, rfl⟩ := hg k (List.getElem?_eq_some_iff.1 hx).1
    have HC := hid (at_some s hx)
    obtain ⟨c0, c1, c2⟩ := s.lineAt hx
    have f0 := s.frozenL (k * 3)
    have f1 := s.frozenL (k * 3 + 1)
    have f2 := s.frozenL (k * 3 + 2)
    clear hg h0
    obtain ⟨t, xa, xg⟩ := x
    rcases t with _ | _ | _ | _
    · have S1 := hid s
      simp only [freeE, freeS, h, isU, if_true]
      simp only [num] at c0 c1 c2
      clear s h hx
      generalize hq : k * 3 = q at *
      clear hq
      generalize S.length = m at *
      go_enter Try.func13, Try.ntmps13
      go_wp2_with (go_at_call 23; refine Calls.mono HC.out ?_; rintro e w' ⟨rfl, rfl⟩; clear HC)
      go_ret
      exact ⟨rfl, S1.out⟩
    · have S1 := hid (s.setLn hx ln0)
      simp only [freeE, freeS, h, isU, Bool.false_eq_true, if_false, put_nat]
      simp only [num, ln0] at c0 c1 c2 S1
      clear s h hx
      generalize hq : k * 3 = q at *
      clear hq
      generalize S.length = m at *
      go_enter Try.func13, Try.ntmps13
      go_wp2_with (go_at_call 23; refine Calls.mono HC.out ?_; rintro e w' ⟨rfl, rfl⟩; clear HC)
      go_ret
      exact ⟨rfl, S1.out⟩
    · have S1 := hid (s.setLn hx ln0)
      simp only [freeE, freeS, h, isU, Bool.false_eq_true, if_false, put_nat]
      simp only [num, ln0] at c0 c1 c2 S1
      clear s h hx
      generalize hq : k * 3 = q at *
      clear hq
      generalize S.length = m at *
      go_enter Try.func13, Try.ntmps13
      go_wp2_with (go_at_call 23; refine Calls.mono HC.out ?_; rintro e w' ⟨rfl, rfl⟩; clear HC)
      go_ret
      exact ⟨rfl, S1.out⟩
    · have S1 := hid (s.setLn hx ln0)
      simp only [freeE, freeS, h, isU, Bool.false_eq_true, if_false, put_nat]
      simp only [num, ln0] at c0 c1 c2 S1
      clear s h hx
      generalize hq : k * 3 = q at *
      clear hq
      generalize S.length = m at *
      go_enter Try.func13, Try.ntmps13
      go_wp2_with (go_at_call 23; refine Calls.mono HC.out ?_; rintro e w' ⟨rfl, rfl⟩; clear HC)
      go_ret
      exact ⟨rfl, S1.out⟩
theorem raise_sep (s : Sep w0 r w (lnT p v S :: R)) (n : Int) : Calls Try.prog 15 #[ptr p, .int .i64 n] w fun e w' => e = .returned (.tuple #[.int .i64 (telA isO S n), .int .u64 (telG isO S n), .bool (telB isO S n), .int .i64 (telE S n)]) ∧ Sep w0 r w' (lnT p v (telS raiseX S n) :: R) := by
  cases h : atI S n with
  | none =>
    have HC := hid (at_none s h)
    have S1 := hid s
    simp only [telE, telB, telA, telG, telS, h]
    clear s h
    go_enter Try.func15, Try.ntmps15
    go_wp2_with (go_at_call 23; refine Calls.mono HC.out ?_; rintro e w' ⟨rfl, rfl⟩; clear HC)
    (try simp only [Exit.inBlock, Exit.then])
    refine bodyPost_ret (results_tmp4 rfl _ _ _) rfl ?_
    exact ⟨rfl, S1.out⟩
  | some x =>
    obtain ⟨h0, -, -⟩ := atI_some h
    obtain ⟨k, rfl⟩ : ∃ k : Nat, n = (k : Int) := ⟨n.toNat, by omega⟩
    have hx : S[k]? = some x := by rw [← atI_nat]; exact h
    obtain ⟨ao, cap, rfl, hg⟩ := s.sliceH
    obtain ⟨b, rfl⟩ := hg k (List.getElem?_eq_some_iff.1 hx).1
    have HC := hid (at_some s hx)
    obtain ⟨c0, c1, c2⟩ := s.lineAt hx
    have f0 := s.frozenL (k * 3)
    have f1 := s.frozenL (k * 3 + 1)
    have f2 := s.frozenL (k * 3 + 2)
    clear hg h0
    obtain ⟨t, xa, xg⟩ := x
    rcases t with _ | _ | _ | _
    · have S1 := hid s
      simp only [telE, telB, telA, telG, telS, h, isO, raiseX, Bool.false_eq_true, if_false, put_nat, set_same hx]
      simp only [num] at c0 c1 c2
      clear s h hx
      generalize hq : k * 3 = q at *
      clear hq
      generalize S.length = m at *
      go_enter Try.func15, Try.ntmps15
      go_wp2_with (go_at_call 23; refine Calls.mono HC.out ?_; rintro e w' ⟨rfl, rfl⟩; clear HC)
      (try simp only [Exit.inBlock, Exit.then])
      refine bodyPost_ret (results_tmp4 rfl _ _ _) rfl ?_
      exact ⟨rfl, S1.out⟩
    · have HT := hid (tell_sep s hx)
      simp only [telE, telB, telA, telG, telS, h, isO, raiseX, if_true, put_nat]
      simp only [num] at c0 c1 c2
      clear s h hx
      generalize hq : k * 3 = q at *
      clear hq
      generalize S.length = m at *
      go_enter Try.func15, Try.ntmps15
      go_wp2_with (first | (go_at_call 23; refine Calls.mono HC.out ?_; rintro e w' ⟨rfl, rfl⟩; clear HC) | (go_at_call 25; refine Calls.mono HT.out ?_; rintro e w' ⟨rfl, s2⟩; have S2 := hid s2; clear s2 HT c0 c1 c2 f0 f1 f2))
      (try simp only [Exit.inBlock, Exit.then])
      refine bodyPost_ret (results_tmp4 rfl _ _ _) rfl ?_
      exact ⟨rfl, S2.out⟩
    · have S1 := hid (s.setIs hx (some (some true)))
      simp only [telE, telB, telA, telG, telS, h, isO, raiseX, Bool.false_eq_true, if_false, put_nat]
      simp only [num] at c0 c1 c2 S1
      clear s h hx
      generalize hq : k * 3 = q at *
      clear hq
      generalize S.length = m at *
      go_enter Try.func15, Try.ntmps15
      go_wp2_with (go_at_call 23; refine Calls.mono HC.out ?_; rintro e w' ⟨rfl, rfl⟩; clear HC)
      (try simp only [Exit.inBlock, Exit.then])
      refine bodyPost_ret (results_tmp4 rfl _ _ _) rfl ?_
      exact ⟨rfl, S1.out⟩
    · have S1 := hid s
      simp only [telE, telB, telA, telG, telS, h, isO, raiseX, Bool.false_eq_true, if_false, put_nat, set_same hx]
      simp only [num] at c0 c1 c2
      clear s h hx
      generalize hq : k * 3 = q at *
      clear hq
      generalize S.length = m at *
      go_enter Try.func15, Try.ntmps15
      go_wp2_with (go_at_call 23; refine Calls.mono HC.out ?_; rintro e w' ⟨rfl, rfl⟩; clear HC)
      (try simp only [Exit.inBlock, Exit.then])
      refine bodyPost_ret (results_tmp4 rfl _ _ _) rfl ?_
      exact ⟨rfl, S1.out⟩
theorem ack_sep (s : Sep w0 r w (lnT p v S :: R)) (n : Int) : Calls Try.prog 17 #[ptr p, .int .i64 n] w fun e w' => e = .returned (.tuple #[.int .i64 (telA isM S n), .int .u64 (telG isM S n), .bool (telB isM S n), .int .i64 (telE S n)]) ∧ Sep w0 r w' (lnT p v (telS ackX S n) :: R) := by
  cases h : atI S n with
  | none =>
    have HC := hid (at_none s h)
    have S1 := hid s
    simp only [telE, telB, telA, telG, telS, h]
    clear s h
    go_enter Try.func17, Try.ntmps17
    go_wp2_with (go_at_call 23; refine Calls.mono HC.out ?_; rintro e w' ⟨rfl, rfl⟩; clear HC)
    (try simp only [Exit.inBlock, Exit.then])
    refine bodyPost_ret (results_tmp4 rfl _ _ _) rfl ?_
    exact ⟨rfl, S1.out⟩
  | some x =>
    obtain ⟨h0, -, -⟩ := atI_some h
    obtain ⟨k, rfl⟩ : ∃ k : Nat, n = (k : Int) := ⟨n.toNat, by omega⟩
    have hx : S[k]? = some x := by rw [← atI_nat]; exact h
    obtain ⟨ao, cap, rfl, hg⟩ := s.sliceH
    obtain ⟨b, rfl⟩ := hg k (List.getElem?_eq_some_iff.1 hx).1
    have HC := hid (at_some s hx)
    obtain ⟨c0, c1, c2⟩ := s.lineAt hx
    have f0 := s.frozenL (k * 3)
    have f1 := s.frozenL (k * 3 + 1)
    have f2 := s.frozenL (k * 3 + 2)
    clear hg h0
    obtain ⟨t, xa, xg⟩ := x
    rcases t with _ | _ | _ | _
    · have S1 := hid s
      simp only [telE, telB, telA, telG, telS, h, isM, ackX, Bool.false_eq_true, if_false, put_nat, set_same hx]
      simp only [num] at c0 c1 c2
      clear s h hx
      generalize hq : k * 3 = q at *
      clear hq
      generalize S.length = m at *
      go_enter Try.func17, Try.ntmps17
      go_wp2_with (go_at_call 23; refine Calls.mono HC.out ?_; rintro e w' ⟨rfl, rfl⟩; clear HC)
      (try simp only [Exit.inBlock, Exit.then])
      refine bodyPost_ret (results_tmp4 rfl _ _ _) rfl ?_
      exact ⟨rfl, S1.out⟩
    · have S1 := hid s
      simp only [telE, telB, telA, telG, telS, h, isM, ackX, Bool.false_eq_true, if_false, put_nat, set_same hx]
      simp only [num] at c0 c1 c2
      clear s h hx
      generalize hq : k * 3 = q at *
      clear hq
      generalize S.length = m at *
      go_enter Try.func17, Try.ntmps17
      go_wp2_with (go_at_call 23; refine Calls.mono HC.out ?_; rintro e w' ⟨rfl, rfl⟩; clear HC)
      (try simp only [Exit.inBlock, Exit.then])
      refine bodyPost_ret (results_tmp4 rfl _ _ _) rfl ?_
      exact ⟨rfl, S1.out⟩
    · have S1 := hid (s.setIs hx (some none))
      simp only [telE, telB, telA, telG, telS, h, isM, ackX, Bool.false_eq_true, if_false, put_nat]
      simp only [num] at c0 c1 c2 S1
      clear s h hx
      generalize hq : k * 3 = q at *
      clear hq
      generalize S.length = m at *
      go_enter Try.func17, Try.ntmps17
      go_wp2_with (go_at_call 23; refine Calls.mono HC.out ?_; rintro e w' ⟨rfl, rfl⟩; clear HC)
      (try simp only [Exit.inBlock, Exit.then])
      refine bodyPost_ret (results_tmp4 rfl _ _ _) rfl ?_
      exact ⟨rfl, S1.out⟩
    · have HT := hid (tell_sep s hx)
      simp only [telE, telB, telA, telG, telS, h, isM, ackX, if_true, put_nat]
      simp only [num] at c0 c1 c2
      clear s h hx
      generalize hq : k * 3 = q at *
      clear hq
      generalize S.length = m at *
      go_enter Try.func17, Try.ntmps17
      go_wp2_with (first | (go_at_call 23; refine Calls.mono HC.out ?_; rintro e w' ⟨rfl, rfl⟩; clear HC) | (go_at_call 25; refine Calls.mono HT.out ?_; rintro e w' ⟨rfl, s2⟩; have S2 := hid s2; clear s2 HT c0 c1 c2 f0 f1 f2))
      (try simp only [Exit.inBlock, Exit.then])
      refine bodyPost_ret (results_tmp4 rfl _ _ _) rfl ?_
      exact ⟨rfl, S2.out⟩
theorem open_sep (s : Sep w0 r w (lnT p v S :: R)) (n : Int) : Calls Try.prog 20 #[ptr p, .int .i64 n] w fun e w' => e = .returned (.tuple #[.bool (telB isO S n), .bool (telB isM S n)]) ∧ Sep w0 r w' (lnT p v S :: R) := by
  cases h : atI S n with
  | none =>
    have HC := hid (at_none s h)
    have S1 := hid s
    simp only [telB, h]
    clear s h
    go_enter Try.func20, Try.ntmps20
    go_wp2_with (go_at_call 23; refine Calls.mono HC.out ?_; rintro e w' ⟨rfl, rfl⟩; clear HC)
    go_ret2
    exact ⟨rfl, S1.out⟩
  | some x =>
    obtain ⟨h0, -, -⟩ := atI_some h
    obtain ⟨k, rfl⟩ : ∃ k : Nat, n = (k : Int) := ⟨n.toNat, by omega⟩
    have hx : S[k]? = some x := by rw [← atI_nat]; exact h
    obtain ⟨ao, cap, rfl, hg⟩ := s.sliceH
    obtain ⟨b, rfl⟩ := hg k (List.getElem?_eq_some_iff.1 hx).1
    have HC := hid (at_some s hx)
    obtain ⟨c0, c1, c2⟩ := s.lineAt hx
    have f0 := s.frozenL (k * 3)
    have f1 := s.frozenL (k * 3 + 1)
    have f2 := s.frozenL (k * 3 + 2)
    clear hg h0
    obtain ⟨t, xa, xg⟩ := x
    rcases t with _ | _ | _ | _
    · have S1 := hid s
      simp only [telB, h, isO, isM]
      simp only [num] at c0 c1 c2
      clear s h hx
      generalize hq : k * 3 = q at *
      clear hq
      generalize S.length = m at *
      go_enter Try.func20, Try.ntmps20
      go_wp2_with (go_at_call 23; refine Calls.mono HC.out ?_; rintro e w' ⟨rfl, rfl⟩; clear HC)
      go_quiet (fail)
      go_wp2
      go_ret2
      exact ⟨rfl, S1.out.below (below_drewN (Below.refl _ _) _)⟩
    · have S1 := hid s
      simp only [telB, h, isO, isM]
      simp only [num] at c0 c1 c2
      clear s h hx
      generalize hq : k * 3 = q at *
      clear hq
      generalize S.length = m at *
      go_enter Try.func20, Try.ntmps20
      go_wp2_with (go_at_call 23; refine Calls.mono HC.out ?_; rintro e w' ⟨rfl, rfl⟩; clear HC)
      go_quiet (fail)
      go_wp2
      go_ret2
      exact ⟨rfl, S1.out.below (below_drewN (Below.refl _ _) _)⟩
    · have S1 := hid s
      simp only [telB, h, isO, isM]
      simp only [num] at c0 c1 c2
      clear s h hx
      generalize hq : k * 3 = q at *
      clear hq
      generalize S.length = m at *
      go_enter Try.func20, Try.ntmps20
      go_wp2_with (go_at_call 23; refine Calls.mono HC.out ?_; rintro e w' ⟨rfl, rfl⟩; clear HC)
      go_quiet (fail)
      go_wp2
      go_ret2
      exact ⟨rfl, S1.out.below (below_drewN (Below.refl _ _) _)⟩
    · have S1 := hid s
      simp only [telB, h, isO, isM]
      simp only [num] at c0 c1 c2
      clear s h hx
      generalize hq : k * 3 = q at *
      clear hq
      generalize S.length = m at *
      go_enter Try.func20, Try.ntmps20
      go_wp2_with (go_at_call 23; refine Calls.mono HC.out ?_; rintro e w' ⟨rfl, rfl⟩; clear HC)
      go_quiet (fail)
      go_wp2
      go_ret2
      exact ⟨rfl, S1.out.below (below_drewN (Below.refl _ _) _)⟩
end
end Go.Proofs.Ytgkcbcigdjappaa
