/-
  What the document's own Bind, Free, Raise, Ack and Open answer, and leave; no condition.
-/
import Derived.Test.YtgkcbcigdjappaaIRef
import Derived.Test.YtgkcbcigdjappaaIMeth
namespace Go.Proofs.Ytgkcbcigdjappaa
open Go.RowKit Go.Deep Go.Shelf
section
variable {w0 w : World} {r p : Nat} {v : Value} {S : List Ln} {R : List Th}
theorem rbind_sep (s : Sep w0 r w (rfT p v S :: R)) (n a g : Int) : Calls Try.prog 12 #[ptr p, .int .i64 n, .int .i64 a, .int .u64 g] w fun e w' => e = .returned (.int .i64 (bindE S n a)) ∧ Sep w0 r w' (rfT p v (bindS S n a g) :: R) := by
  cases h : atI S n with
  | none =>
    have HC := hid (is_none s h)
    have S1 := hid s
    simp only [bindE, bindS, h]
    clear s h
    go_enter Try.func12, Try.ntmps12
    go_wp2_with (go_at_call 24; refine Calls.mono HC.out ?_; rintro e w' ⟨rfl, hw⟩; have hw := hw.symm; subst hw; clear HC)
    go_ret
    exact ⟨rfl, S1.out⟩
  | some x =>
    obtain ⟨h0, -, -⟩ := atI_some h
    obtain ⟨k, rfl⟩ : ∃ k : Nat, n = (k : Int) := ⟨n.toNat, by omega⟩
    have hx : S[k]? = some x := by rw [← atI_nat]; exact h
    have HC := hid (is_some s hx)
    have c0 := s.cellH
    obtain ⟨ao, cap, rfl, hg⟩ := s.sliceR
    have hkl : k < S.length := (List.getElem?_eq_some_iff.1 hx).1
    have hkz : (k : Int) < (S.length : Int) := by omega
    obtain ⟨b, rfl⟩ := hg k hkl
    clear hg h0
    obtain ⟨d0, d1, d2, d3, d4⟩ := s.lineR hx
    have f0 := s.frozenR (k * 5)
    have f1 := s.frozenR (k * 5 + 1)
    have f2 := s.frozenR (k * 5 + 2)
    have f3 := s.frozenR (k * 5 + 3)
    have f4 := s.frozenR (k * 5 + 4)
    by_cases ha : a < 0
    · have S1 := hid s
      simp only [bindE, bindS, h, ha, if_true]
      clear s h hx
      generalize S.length = m at *
      go_enter Try.func12, Try.ntmps12
      go_wp2_with (go_at_call 24; refine Calls.mono HC.out ?_; rintro e w' ⟨rfl, hw⟩; have hw := hw.symm; subst hw; clear HC)
      go_ret
      exact ⟨rfl, S1.out⟩
    · obtain ⟨t, xa, xg⟩ := x
      rcases t with _ | _ | _ | _
      · have S1 := hid (s.setRl hx ⟨(some none), a, g⟩)
        simp only [bindE, bindS, h, ha, isU, if_true, if_false, put_nat]
        simp only [rl, isB, isO, isM] at d0 d1 d2 d3 d4 S1
        clear s h hx
        generalize S.length = m at *
        go_enter Try.func12, Try.ntmps12
        go_wp2_with (go_at_call 24; refine Calls.mono HC.out ?_; rintro e w' ⟨rfl, hw⟩; have hw := hw.symm; subst hw; clear HC)
        go_ret
        exact ⟨rfl, S1.out⟩
      · have S1 := hid s
        simp only [bindE, bindS, h, ha, isU, Bool.false_eq_true, if_false]
        simp only [rl, isB, isO, isM] at d0 d1 d2 d3 d4
        clear s h hx
        generalize S.length = m at *
        go_enter Try.func12, Try.ntmps12
        go_wp2_with (go_at_call 24; refine Calls.mono HC.out ?_; rintro e w' ⟨rfl, hw⟩; have hw := hw.symm; subst hw; clear HC)
        go_ret
        exact ⟨rfl, S1.out⟩
      · have S1 := hid s
        simp only [bindE, bindS, h, ha, isU, Bool.false_eq_true, if_false]
        simp only [rl, isB, isO, isM] at d0 d1 d2 d3 d4
        clear s h hx
        generalize S.length = m at *
        go_enter Try.func12, Try.ntmps12
        go_wp2_with (go_at_call 24; refine Calls.mono HC.out ?_; rintro e w' ⟨rfl, hw⟩; have hw := hw.symm; subst hw; clear HC)
        go_ret
        exact ⟨rfl, S1.out⟩
      · have S1 := hid s
        simp only [bindE, bindS, h, ha, isU, Bool.false_eq_true, if_false]
        simp only [rl, isB, isO, isM] at d0 d1 d2 d3 d4
        clear s h hx
        generalize S.length = m at *
        go_enter Try.func12, Try.ntmps12
        go_wp2_with (go_at_call 24; refine Calls.mono HC.out ?_; rintro e w' ⟨rfl, hw⟩; have hw := hw.symm; subst hw; clear HC)
        go_ret
        exact ⟨rfl, S1.out⟩
theorem rfree_sep (s : Sep w0 r w (rfT p v S :: R)) (n : Int) : Calls Try.prog 14 #[ptr p, .int .i64 n] w fun e w' => e = .returned (.int .i64 (freeE S n)) ∧ Sep w0 r w' (rfT p v (freeS S n) :: R) := by
  cases h : atI S n with
  | none =>
    have HC := hid (is_none s h)
    have S1 := hid s
    simp only [freeE, freeS, h]
    clear s h
    go_enter Try.func14, Try.ntmps14
    go_wp2_with (go_at_call 24; refine Calls.mono HC.out ?_; rintro e w' ⟨rfl, hw⟩; have hw := hw.symm; subst hw; clear HC)
    go_ret
    exact ⟨rfl, S1.out⟩
  | some x =>
    obtain ⟨h0, -, -⟩ := atI_some h
    obtain ⟨k, rfl⟩ : ∃ k : Nat, n = (k : Int) := ⟨n.toNat, by omega⟩
    have hx : S[k]? = some x := by rw [← atI_nat]; exact h
    have HC := hid (is_some s hx)
    have c0 := s.cellH
    obtain ⟨ao, cap, rfl, hg⟩ := s.sliceR
    have hkl : k < S.length := (List.getElem?_eq_some_iff.1 hx).1
    have hkz : (k : Int) < (S.length : Int) := by omega
    obtain ⟨b, rfl⟩ := hg k hkl
    clear hg h0
    obtain ⟨d0, d1, d2, d3, d4⟩ := s.lineR hx
    have f0 := s.frozenR (k * 5)
    have f1 := s.frozenR (k * 5 + 1)
    have f2 := s.frozenR (k * 5 + 2)
    have f3 := s.frozenR (k * 5 + 3)
    have f4 := s.frozenR (k * 5 + 4)
    obtain ⟨t, xa, xg⟩ := x
    rcases t with _ | _ | _ | _
    · have S1 := hid s
      simp only [freeE, freeS, h, isU, if_true]
      simp only [rl, isB, isO, isM] at d0 d1 d2 d3 d4
      clear s h hx
      generalize S.length = m at *
      go_enter Try.func14, Try.ntmps14
      go_wp2_with (go_at_call 24; refine Calls.mono HC.out ?_; rintro e w' ⟨rfl, hw⟩; have hw := hw.symm; subst hw; clear HC)
      go_ret
      exact ⟨rfl, S1.out⟩
    · have S1 := hid (s.setRl hx ln0)
      simp only [freeE, freeS, h, isU, Bool.false_eq_true, if_false, put_nat]
      simp only [rl, ln0, isB, isO, isM] at d0 d1 d2 d3 d4 S1
      clear s h hx
      generalize S.length = m at *
      go_enter Try.func14, Try.ntmps14
      go_wp2_with (go_at_call 24; refine Calls.mono HC.out ?_; rintro e w' ⟨rfl, hw⟩; have hw := hw.symm; subst hw; clear HC)
      go_ret
      exact ⟨rfl, S1.out⟩
    · have S1 := hid (s.setRl hx ln0)
      simp only [freeE, freeS, h, isU, Bool.false_eq_true, if_false, put_nat]
      simp only [rl, ln0, isB, isO, isM] at d0 d1 d2 d3 d4 S1
      clear s h hx
      generalize S.length = m at *
      go_enter Try.func14, Try.ntmps14
      go_wp2_with (go_at_call 24; refine Calls.mono HC.out ?_; rintro e w' ⟨rfl, hw⟩; have hw := hw.symm; subst hw; clear HC)
      go_ret
      exact ⟨rfl, S1.out⟩
    · have S1 := hid (s.setRl hx ln0)
      simp only [freeE, freeS, h, isU, Bool.false_eq_true, if_false, put_nat]
      simp only [rl, ln0, isB, isO, isM] at d0 d1 d2 d3 d4 S1
      clear s h hx
      generalize S.length = m at *
      go_enter Try.func14, Try.ntmps14
      go_wp2_with (go_at_call 24; refine Calls.mono HC.out ?_; rintro e w' ⟨rfl, hw⟩; have hw := hw.symm; subst hw; clear HC)
      go_ret
      exact ⟨rfl, S1.out⟩
set_option maxHeartbeats 1000000 in
theorem rraise_sep (s : Sep w0 r w (rfT p v S :: R)) (n : Int) : Calls Try.prog 16 #[ptr p, .int .i64 n] w fun e w' => e = .returned (.tuple #[.int .i64 (telA isO S n), .int .u64 (telG isO S n), .bool (telB isO S n), .int .i64 (telE S n)]) ∧ Sep w0 r w' (rfT p v (telS raiseX S n) :: R) := by
  cases h : atI S n with
  | none =>
    have HC := hid (is_none s h)
    have S1 := hid s
    simp only [telE, telB, telA, telG, telS, h]
    clear s h
    go_enter Try.func16, Try.ntmps16
    go_wp2_with (go_at_call 24; refine Calls.mono HC.out ?_; rintro e w' ⟨rfl, hw⟩; have hw := hw.symm; subst hw; clear HC)
    (try simp only [Exit.inBlock, Exit.then])
    refine bodyPost_ret (results_tmp4 rfl _ _ _) rfl ?_
    exact ⟨rfl, S1.out⟩
  | some x =>
    obtain ⟨h0, -, -⟩ := atI_some h
    obtain ⟨k, rfl⟩ : ∃ k : Nat, n = (k : Int) := ⟨n.toNat, by omega⟩
    have hx : S[k]? = some x := by rw [← atI_nat]; exact h
    have HC := hid (is_some s hx)
    have c0 := s.cellH
    obtain ⟨ao, cap, rfl, hg⟩ := s.sliceR
    have hkl : k < S.length := (List.getElem?_eq_some_iff.1 hx).1
    have hkz : (k : Int) < (S.length : Int) := by omega
    obtain ⟨b, rfl⟩ := hg k hkl
    clear hg h0
    obtain ⟨t, xa, xg⟩ := x
    rcases t with _ | _ | _ | _
    · have s1 := (s.box (objX ⟨none, xa, xg⟩)).swap
      obtain ⟨d0, d1, d2, d3, d4⟩ := s.lineR hx
      simp only [rl, isB, isO, isM] at d0 d1 d2 d3 d4
      have S1 := hid s1.swap.drop
      simp only [telE, telB, telA, telG, telS, h, isO, raiseX, Bool.false_eq_true, if_false, put_nat, set_same hx]
      simp only [objX, rl, isB, isO, isM] at S1
      clear s s1 h hx
      generalize S.length = m at *
      go_enter Try.func16, Try.ntmps16
      go_wp2_with (go_at_call 24; refine Calls.mono HC.out ?_; rintro e w' ⟨rfl, hw⟩; have hw := hw.symm; subst hw; clear HC)
      (try simp only [Exit.inBlock, Exit.then])
      refine bodyPost_ret (results_tmp4 rfl _ _ _) rfl ?_
      exact ⟨rfl, S1.out⟩
    · have s1 := (s.box (objX ⟨(some none), xa, xg⟩)).swap
      obtain ⟨d0, d1, d2, d3, d4⟩ := s.lineR hx
      simp only [rl, isB, isO, isM] at d0 d1 d2 d3 d4
      have a0 := cell_al c0 (objX ⟨(some none), xa, xg⟩)
      have a3 := cell_al d3 (objX ⟨(some none), xa, xg⟩)
      have a4 := cell_al d4 (objX ⟨(some none), xa, xg⟩)
      have f3 := s1.frozenR (k * 5 + 3)
      have f4 := s1.frozenR (k * 5 + 4)
      have s2 := (s1.setR hx (j := 3) (y := ⟨(some (some false)), xa, xg⟩) (c := .bool false) (by decide) rfl).swap
      have e2 := s2.head
      simp only [blk, objX, rl, isB, isO, isM] at e2
      have x1 : ((w.alloc (objX ⟨(some none), xa, xg⟩)).setCell ⟨b, k * 5 + 3, none⟩ (.bool false)).cell? ⟨w.heap.size, 1, none⟩ = some (.int .i64 xa) := by simp only [World.cell?, objX, rl, isB, isO, isM]; rw [e2]; rfl
      have x2 : ((w.alloc (objX ⟨(some none), xa, xg⟩)).setCell ⟨b, k * 5 + 3, none⟩ (.bool false)).cell? ⟨w.heap.size, 2, none⟩ = some (.int .u64 xg) := by simp only [World.cell?, objX, rl, isB, isO, isM]; rw [e2]; rfl
      have S1 := hid s2.drop
      simp only [telE, telB, telA, telG, telS, h, isO, raiseX, if_true, put_nat]
      simp only [objX, rl, isB, isO, isM] at S1 f3 f4 x1 x2 a0 a3 a4
      clear s s1 s2 e2 h hx
      generalize S.length = m at *
      go_enter Try.func16, Try.ntmps16
      go_wp2_with (go_at_call 24; refine Calls.mono HC.out ?_; rintro e w' ⟨rfl, hw⟩; have hw := hw.symm; subst hw; clear HC)
      generalize (w.alloc (.cells #[.bool true, .int .i64 xa, .int .u64 xg, .bool true, .bool false] 58)).setCell ⟨b, k * 5 + 3, none⟩ (.bool false) = w2 at *
      go_quiet (fail)
      go_wp2
      (try simp only [Exit.inBlock, Exit.then])
      refine bodyPost_ret (results_tmp4 rfl _ _ _) rfl ?_
      exact ⟨rfl, S1.out.below (below_drewN (Below.refl _ _) _)⟩
    · have s1 := (s.box (objX ⟨(some (some false)), xa, xg⟩)).swap
      obtain ⟨d0, d1, d2, d3, d4⟩ := s.lineR hx
      simp only [rl, isB, isO, isM] at d0 d1 d2 d3 d4
      have a0 := cell_al c0 (objX ⟨(some (some false)), xa, xg⟩)
      have a3 := cell_al d3 (objX ⟨(some (some false)), xa, xg⟩)
      have a4 := cell_al d4 (objX ⟨(some (some false)), xa, xg⟩)
      have f3 := s1.frozenR (k * 5 + 3)
      have f4 := s1.frozenR (k * 5 + 4)
      have s2 := (s1.setR hx (j := 4) (y := ⟨(some (some true)), xa, xg⟩) (c := .bool true) (by decide) rfl).swap
      have e2 := s2.head
      simp only [blk, objX, rl, isB, isO, isM] at e2
      have x1 : ((w.alloc (objX ⟨(some (some false)), xa, xg⟩)).setCell ⟨b, k * 5 + 4, none⟩ (.bool true)).cell? ⟨w.heap.size, 1, none⟩ = some (.int .i64 xa) := by simp only [World.cell?, objX, rl, isB, isO, isM]; rw [e2]; rfl
      have x2 : ((w.alloc (objX ⟨(some (some false)), xa, xg⟩)).setCell ⟨b, k * 5 + 4, none⟩ (.bool true)).cell? ⟨w.heap.size, 2, none⟩ = some (.int .u64 xg) := by simp only [World.cell?, objX, rl, isB, isO, isM]; rw [e2]; rfl
      have S1 := hid s2.drop
      simp only [telE, telB, telA, telG, telS, h, isO, raiseX, Bool.false_eq_true, if_false, put_nat]
      simp only [objX, rl, isB, isO, isM] at S1 f3 f4 x1 x2 a0 a3 a4
      clear s s1 s2 e2 h hx
      generalize S.length = m at *
      go_enter Try.func16, Try.ntmps16
      go_wp2_with (go_at_call 24; refine Calls.mono HC.out ?_; rintro e w' ⟨rfl, hw⟩; have hw := hw.symm; subst hw; clear HC)
      (try simp only [Exit.inBlock, Exit.then])
      refine bodyPost_ret (results_tmp4 rfl _ _ _) rfl ?_
      exact ⟨rfl, S1.out⟩
    · have s1 := (s.box (objX ⟨(some (some true)), xa, xg⟩)).swap
      obtain ⟨d0, d1, d2, d3, d4⟩ := s.lineR hx
      simp only [rl, isB, isO, isM] at d0 d1 d2 d3 d4
      have a0 := cell_al c0 (objX ⟨(some (some true)), xa, xg⟩)
      have a3 := cell_al d3 (objX ⟨(some (some true)), xa, xg⟩)
      have a4 := cell_al d4 (objX ⟨(some (some true)), xa, xg⟩)
      have f3 := s1.frozenR (k * 5 + 3)
      have f4 := s1.frozenR (k * 5 + 4)
      have s2 := (s1.setR hx (j := 4) (y := ⟨(some (some true)), xa, xg⟩) (c := .bool true) (by decide) rfl).swap
      have e2 := s2.head
      simp only [blk, objX, rl, isB, isO, isM] at e2
      have x1 : ((w.alloc (objX ⟨(some (some true)), xa, xg⟩)).setCell ⟨b, k * 5 + 4, none⟩ (.bool true)).cell? ⟨w.heap.size, 1, none⟩ = some (.int .i64 xa) := by simp only [World.cell?, objX, rl, isB, isO, isM]; rw [e2]; rfl
      have x2 : ((w.alloc (objX ⟨(some (some true)), xa, xg⟩)).setCell ⟨b, k * 5 + 4, none⟩ (.bool true)).cell? ⟨w.heap.size, 2, none⟩ = some (.int .u64 xg) := by simp only [World.cell?, objX, rl, isB, isO, isM]; rw [e2]; rfl
      have S1 := hid s2.drop
      simp only [telE, telB, telA, telG, telS, h, isO, raiseX, Bool.false_eq_true, if_false, put_nat]
      simp only [objX, rl, isB, isO, isM] at S1 f3 f4 x1 x2 a0 a3 a4
      clear s s1 s2 e2 h hx
      generalize S.length = m at *
      go_enter Try.func16, Try.ntmps16
      go_wp2_with (go_at_call 24; refine Calls.mono HC.out ?_; rintro e w' ⟨rfl, hw⟩; have hw := hw.symm; subst hw; clear HC)
      (try simp only [Exit.inBlock, Exit.then])
      refine bodyPost_ret (results_tmp4 rfl _ _ _) rfl ?_
      exact ⟨rfl, S1.out⟩
set_option maxHeartbeats 1000000 in
theorem rack_sep (s : Sep w0 r w (rfT p v S :: R)) (n : Int) : Calls Try.prog 18 #[ptr p, .int .i64 n] w fun e w' => e = .returned (.tuple #[.int .i64 (telA isM S n), .int .u64 (telG isM S n), .bool (telB isM S n), .int .i64 (telE S n)]) ∧ Sep w0 r w' (rfT p v (telS ackX S n) :: R) := by
  cases h : atI S n with
  | none =>
    have HC := hid (is_none s h)
    have S1 := hid s
    simp only [telE, telB, telA, telG, telS, h]
    clear s h
    go_enter Try.func18, Try.ntmps18
    go_wp2_with (go_at_call 24; refine Calls.mono HC.out ?_; rintro e w' ⟨rfl, hw⟩; have hw := hw.symm; subst hw; clear HC)
    (try simp only [Exit.inBlock, Exit.then])
    refine bodyPost_ret (results_tmp4 rfl _ _ _) rfl ?_
    exact ⟨rfl, S1.out⟩
  | some x =>
    obtain ⟨h0, -, -⟩ := atI_some h
    obtain ⟨k, rfl⟩ : ∃ k : Nat, n = (k : Int) := ⟨n.toNat, by omega⟩
    have hx : S[k]? = some x := by rw [← atI_nat]; exact h
    have HC := hid (is_some s hx)
    have c0 := s.cellH
    obtain ⟨ao, cap, rfl, hg⟩ := s.sliceR
    have hkl : k < S.length := (List.getElem?_eq_some_iff.1 hx).1
    have hkz : (k : Int) < (S.length : Int) := by omega
    obtain ⟨b, rfl⟩ := hg k hkl
    clear hg h0
    obtain ⟨t, xa, xg⟩ := x
    rcases t with _ | _ | _ | _
    · have s1 := (s.box (objX ⟨none, xa, xg⟩)).swap
      obtain ⟨d0, d1, d2, d3, d4⟩ := s.lineR hx
      simp only [rl, isB, isO, isM] at d0 d1 d2 d3 d4
      have S1 := hid s1.swap.drop
      simp only [telE, telB, telA, telG, telS, h, isM, ackX, Bool.false_eq_true, if_false, put_nat, set_same hx]
      simp only [objX, rl, isB, isO, isM] at S1
      clear s s1 h hx
      generalize S.length = m at *
      go_enter Try.func18, Try.ntmps18
      go_wp2_with (go_at_call 24; refine Calls.mono HC.out ?_; rintro e w' ⟨rfl, hw⟩; have hw := hw.symm; subst hw; clear HC)
      (try simp only [Exit.inBlock, Exit.then])
      refine bodyPost_ret (results_tmp4 rfl _ _ _) rfl ?_
      exact ⟨rfl, S1.out⟩
    · have s1 := (s.box (objX ⟨(some none), xa, xg⟩)).swap
      obtain ⟨d0, d1, d2, d3, d4⟩ := s.lineR hx
      simp only [rl, isB, isO, isM] at d0 d1 d2 d3 d4
      have S1 := hid s1.swap.drop
      simp only [telE, telB, telA, telG, telS, h, isM, ackX, Bool.false_eq_true, if_false, put_nat, set_same hx]
      simp only [objX, rl, isB, isO, isM] at S1
      clear s s1 h hx
      generalize S.length = m at *
      go_enter Try.func18, Try.ntmps18
      go_wp2_with (go_at_call 24; refine Calls.mono HC.out ?_; rintro e w' ⟨rfl, hw⟩; have hw := hw.symm; subst hw; clear HC)
      (try simp only [Exit.inBlock, Exit.then])
      refine bodyPost_ret (results_tmp4 rfl _ _ _) rfl ?_
      exact ⟨rfl, S1.out⟩
    · have s1 := (s.box (objX ⟨(some (some false)), xa, xg⟩)).swap
      obtain ⟨d0, d1, d2, d3, d4⟩ := s.lineR hx
      simp only [rl, isB, isO, isM] at d0 d1 d2 d3 d4
      have a0 := cell_al c0 (objX ⟨(some (some false)), xa, xg⟩)
      have a3 := cell_al d3 (objX ⟨(some (some false)), xa, xg⟩)
      have a4 := cell_al d4 (objX ⟨(some (some false)), xa, xg⟩)
      have f3 := s1.frozenR (k * 5 + 3)
      have f4 := s1.frozenR (k * 5 + 4)
      have s2 := (s1.setR hx (j := 3) (y := ⟨(some none), xa, xg⟩) (c := .bool true) (by decide) rfl).swap
      have e2 := s2.head
      simp only [blk, objX, rl, isB, isO, isM] at e2
      have x1 : ((w.alloc (objX ⟨(some (some false)), xa, xg⟩)).setCell ⟨b, k * 5 + 3, none⟩ (.bool true)).cell? ⟨w.heap.size, 1, none⟩ = some (.int .i64 xa) := by simp only [World.cell?, objX, rl, isB, isO, isM]; rw [e2]; rfl
      have x2 : ((w.alloc (objX ⟨(some (some false)), xa, xg⟩)).setCell ⟨b, k * 5 + 3, none⟩ (.bool true)).cell? ⟨w.heap.size, 2, none⟩ = some (.int .u64 xg) := by simp only [World.cell?, objX, rl, isB, isO, isM]; rw [e2]; rfl
      have S1 := hid s2.drop
      simp only [telE, telB, telA, telG, telS, h, isM, ackX, Bool.false_eq_true, if_false, put_nat]
      simp only [objX, rl, isB, isO, isM] at S1 f3 f4 x1 x2 a0 a3 a4
      clear s s1 s2 e2 h hx
      generalize S.length = m at *
      go_enter Try.func18, Try.ntmps18
      go_wp2_with (go_at_call 24; refine Calls.mono HC.out ?_; rintro e w' ⟨rfl, hw⟩; have hw := hw.symm; subst hw; clear HC)
      (try simp only [Exit.inBlock, Exit.then])
      refine bodyPost_ret (results_tmp4 rfl _ _ _) rfl ?_
      exact ⟨rfl, S1.out⟩
    · have s1 := (s.box (objX ⟨(some (some true)), xa, xg⟩)).swap
      obtain ⟨d0, d1, d2, d3, d4⟩ := s.lineR hx
      simp only [rl, isB, isO, isM] at d0 d1 d2 d3 d4
      have a0 := cell_al c0 (objX ⟨(some (some true)), xa, xg⟩)
      have a3 := cell_al d3 (objX ⟨(some (some true)), xa, xg⟩)
      have a4 := cell_al d4 (objX ⟨(some (some true)), xa, xg⟩)
      have f3 := s1.frozenR (k * 5 + 3)
      have f4 := s1.frozenR (k * 5 + 4)
      have s2 := (s1.setR hx (j := 4) (y := ⟨(some (some false)), xa, xg⟩) (c := .bool false) (by decide) rfl).swap
      have e2 := s2.head
      simp only [blk, objX, rl, isB, isO, isM] at e2
      have x1 : ((w.alloc (objX ⟨(some (some true)), xa, xg⟩)).setCell ⟨b, k * 5 + 4, none⟩ (.bool false)).cell? ⟨w.heap.size, 1, none⟩ = some (.int .i64 xa) := by simp only [World.cell?, objX, rl, isB, isO, isM]; rw [e2]; rfl
      have x2 : ((w.alloc (objX ⟨(some (some true)), xa, xg⟩)).setCell ⟨b, k * 5 + 4, none⟩ (.bool false)).cell? ⟨w.heap.size, 2, none⟩ = some (.int .u64 xg) := by simp only [World.cell?, objX, rl, isB, isO, isM]; rw [e2]; rfl
      have S1 := hid s2.drop
      simp only [telE, telB, telA, telG, telS, h, isM, ackX, if_true, put_nat]
      simp only [objX, rl, isB, isO, isM] at S1 f3 f4 x1 x2 a0 a3 a4
      clear s s1 s2 e2 h hx
      generalize S.length = m at *
      go_enter Try.func18, Try.ntmps18
      go_wp2_with (go_at_call 24; refine Calls.mono HC.out ?_; rintro e w' ⟨rfl, hw⟩; have hw := hw.symm; subst hw; clear HC)
      generalize (w.alloc (.cells #[.bool true, .int .i64 xa, .int .u64 xg, .bool false, .bool true] 58)).setCell ⟨b, k * 5 + 4, none⟩ (.bool false) = w2 at *
      go_quiet (fail)
      go_wp2
      (try simp only [Exit.inBlock, Exit.then])
      refine bodyPost_ret (results_tmp4 rfl _ _ _) rfl ?_
      exact ⟨rfl, S1.out.below (below_drewN (Below.refl _ _) _)⟩
theorem ropen_sep (s : Sep w0 r w (rfT p v S :: R)) (n : Int) : Calls Try.prog 21 #[ptr p, .int .i64 n] w fun e w' => e = .returned (.tuple #[.bool (telB isO S n), .bool (telB isM S n)]) ∧ Sep w0 r w' (rfT p v S :: R) := by
  cases h : atI S n with
  | none =>
    have HC := hid (is_none s h)
    have S1 := hid s
    simp only [telB, h]
    clear s h
    go_enter Try.func21, Try.ntmps21
    go_wp2_with (go_at_call 24; refine Calls.mono HC.out ?_; rintro e w' ⟨rfl, hw⟩; have hw := hw.symm; subst hw; clear HC)
    go_ret2
    exact ⟨rfl, S1.out⟩
  | some x =>
    obtain ⟨h0, -, -⟩ := atI_some h
    obtain ⟨k, rfl⟩ : ∃ k : Nat, n = (k : Int) := ⟨n.toNat, by omega⟩
    have hx : S[k]? = some x := by rw [← atI_nat]; exact h
    have HC := hid (is_some s hx)
    have c0 := s.cellH
    obtain ⟨ao, cap, rfl, hg⟩ := s.sliceR
    have hkl : k < S.length := (List.getElem?_eq_some_iff.1 hx).1
    have hkz : (k : Int) < (S.length : Int) := by omega
    obtain ⟨b, rfl⟩ := hg k hkl
    clear hg h0
    obtain ⟨d0, d1, d2, d3, d4⟩ := s.lineR hx
    have f0 := s.frozenR (k * 5)
    have f1 := s.frozenR (k * 5 + 1)
    have f2 := s.frozenR (k * 5 + 2)
    have f3 := s.frozenR (k * 5 + 3)
    have f4 := s.frozenR (k * 5 + 4)
    obtain ⟨t, xa, xg⟩ := x
    rcases t with _ | _ | _ | _
    · have S1 := hid s
      simp only [telB, h, isO, isM]
      simp only [rl, isB, isO, isM] at d0 d1 d2 d3 d4
      clear s h hx f0 f1 f2 f3 f4
      generalize S.length = m at *
      go_enter Try.func21, Try.ntmps21
      go_wp2_with (go_at_call 24; refine Calls.mono HC.out ?_; rintro e w' ⟨rfl, hw⟩; have hw := hw.symm; subst hw; clear HC)
      go_quiet (fail)
      go_wp2
      go_ret2
      exact ⟨rfl, S1.out.below (below_drewN (Below.refl _ _) _)⟩
    · have S1 := hid s
      simp only [telB, h, isO, isM]
      simp only [rl, isB, isO, isM] at d0 d1 d2 d3 d4
      clear s h hx f0 f1 f2 f3 f4
      generalize S.length = m at *
      go_enter Try.func21, Try.ntmps21
      go_wp2_with (go_at_call 24; refine Calls.mono HC.out ?_; rintro e w' ⟨rfl, hw⟩; have hw := hw.symm; subst hw; clear HC)
      go_quiet (fail)
      go_wp2
      go_ret2
      exact ⟨rfl, S1.out.below (below_drewN (Below.refl _ _) _)⟩
    · have S1 := hid s
      simp only [telB, h, isO, isM]
      simp only [rl, isB, isO, isM] at d0 d1 d2 d3 d4
      clear s h hx f0 f1 f2 f3 f4
      generalize S.length = m at *
      go_enter Try.func21, Try.ntmps21
      go_wp2_with (go_at_call 24; refine Calls.mono HC.out ?_; rintro e w' ⟨rfl, hw⟩; have hw := hw.symm; subst hw; clear HC)
      go_quiet (fail)
      go_wp2
      go_ret2
      exact ⟨rfl, S1.out.below (below_drewN (Below.refl _ _) _)⟩
    · have S1 := hid s
      simp only [telB, h, isO, isM]
      simp only [rl, isB, isO, isM] at d0 d1 d2 d3 d4
      clear s h hx f0 f1 f2 f3 f4
      generalize S.length = m at *
      go_enter Try.func21, Try.ntmps21
      go_wp2_with (go_at_call 24; refine Calls.mono HC.out ?_; rintro e w' ⟨rfl, hw⟩; have hw := hw.symm; subst hw; clear HC)
      go_quiet (fail)
      go_wp2
      go_ret2
      exact ⟨rfl, S1.out.below (below_drewN (Below.refl _ _) _)⟩
end
end Go.Proofs.Ytgkcbcigdjappaa
