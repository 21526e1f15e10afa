/-
  What Drop, Space, Frame, Lines, Copy and New of package tlb answer, and leave, among things that lie apart; no condition.
-/
import Derived.Test.YtekjoeebomcmeaaYMeth
namespace Go.Proofs.Ytekjoeebomcmeaa
open Go.RowKit Go.Deep Go.Shelf
section
variable {w0 w w' : World} {r p n : Nat} {v : Value} {S : St} {R : List Th}
theorem forget_one (s : Sep w0 r w (tbT kP n p v S :: R)) {g : FuncId} {l : Array Value} {q : Lr → Bool} (k : Clo (own v) w (.func (.func g) #[] l) q) :
    Calls Try.prog 25 #[ptr p, .slice (some ⟨w.heap.size, 0, none⟩) 1 1] (w.alloc (.cells #[.func (.func g) #[] l] 56)) fun e w' => ∃ v', e = .returned (.int .i64 ((lessN q S : Nat) : Int)) ∧ Sep w0 r w' (tbT kP n p v' (lessS q S) :: R) := by
  have hq : allB [q] = q := funext (allB_one q)
  have := forget_sep (s.below (below_new w (.cells #[.func (.func g) #[] l] 56))) (cap := 1) (arg_one k s.ownLt)
  rw [hq] at this
  exact this
theorem forget_two (s : Sep w0 r w (tbT kP n p v S :: R)) {g1 g2 : FuncId} {l1 l2 : Array Value} {a b : Int} (k1 : Clo (own v) w (.func (.func g1) #[] l1) (isS a)) (k2 : Clo (own v) w (.func (.func g2) #[] l2) (isP b)) :
    Calls Try.prog 25 #[ptr p, .slice (some ⟨w.heap.size, 0, none⟩) 2 2] (w.alloc (.cells #[.func (.func g1) #[] l1, .func (.func g2) #[] l2] 56)) fun e w' => ∃ v', e = .returned (.int .i64 ((lessN (isK a b) S : Nat) : Int)) ∧ Sep w0 r w' (tbT kP n p v' (lessS (isK a b) S) :: R) := by
  have hq : allB [isS a, isP b] = isK a b := funext (allB_two a b)
  have := forget_sep (s.below (below_new w (.cells #[.func (.func g1) #[] l1, .func (.func g2) #[] l2] 56))) (cap := 2) (arg_two k1 k2 s.ownLt)
  rw [hq] at this
  exact this
set_option maxHeartbeats 4000000 in
theorem drop_sep (s : Sep w0 r w (tbT kP n p v S :: R)) (a b : Int) :
    Calls Try.prog 13 #[ptr p, .int .i64 a, .int .i64 b] w fun e w' => ∃ v', e = .returned (.bool (S.any (isK a b))) ∧ Sep w0 r w' (tbT kP n p v' (lessS (isK a b) S) :: R) := by
  have S1 := hid s
  have hd := lessN_pos (isK a b) S
  clear s
  have hd2 : decide ((0 : Int) < ((lessN (isK a b) S : Nat) : Int)) = S.any (isK a b) := by rw [← hd]; simp
  generalize S.any (isK a b) = β at *
  go_enter Try.func13, Try.ntmps13
  go_wp2_with (first
    | (go_at_call 26; refine Calls.mono (space_any (F := own v) _ _ S1.out.ownLt) ?_; rintro e w1 ⟨c1, rfl, k1, b1⟩; obtain ⟨g1, l1, rfl⟩ := k1.form; have K1 := hid k1; have S2 := hid (S1.out.below b1); clear k1 b1)
    | (go_at_call 27; refine Calls.mono (page_any (F := own v) _ _ S2.out.ownLt) ?_; rintro e w2 ⟨c2, rfl, k2, b2⟩; obtain ⟨g2, l2, rfl⟩ := k2.form; have HF := hid (forget_two (S2.out.below b2) (K1.out.below b2) k2); clear k2 b2)
    | (go_at_call 25; refine Calls.mono HF.out ?_; rintro e w3 ⟨v3, rfl, s3⟩))
  go_ret
  exact ⟨_, rfl, s3⟩
set_option maxHeartbeats 4000000 in
theorem space_sep (s : Sep w0 r w (tbT kP n p v S :: R)) (a : Int) :
    Calls Try.prog 15 #[ptr p, .int .i64 a] w fun e w' => ∃ v', e = .returned (.int .i64 ((lessN (isS a) S : Nat) : Int)) ∧ Sep w0 r w' (tbT kP n p v' (lessS (isS a) S) :: R) := by
  have S1 := hid s
  clear s
  go_enter Try.func15, Try.ntmps15
  go_wp2_with (first
    | (go_at_call 26; refine Calls.mono (space_any (F := own v) _ _ S1.out.ownLt) ?_; rintro e w1 ⟨c1, rfl, k1, b1⟩; obtain ⟨g1, l1, rfl⟩ := k1.form; have HF := hid (forget_one (S1.out.below b1) k1); clear k1 b1)
    | (go_at_call 25; refine Calls.mono HF.out ?_; rintro e w3 ⟨v3, rfl, s3⟩))
  go_ret
  exact ⟨_, rfl, s3⟩
set_option maxHeartbeats 4000000 in
theorem frame_sep (s : Sep w0 r w (tbT kP n p v S :: R)) (a : Int) :
    Calls Try.prog 17 #[ptr p, .int .i64 a] w fun e w' => ∃ v', e = .returned (.int .i64 ((lessN (isF a) S : Nat) : Int)) ∧ Sep w0 r w' (tbT kP n p v' (lessS (isF a) S) :: R) := by
  have S1 := hid s
  clear s
  go_enter Try.func17, Try.ntmps17
  go_wp2_with (first
    | (go_at_call 28; refine Calls.mono (frame_any (F := own v) _ _ S1.out.ownLt) ?_; rintro e w1 ⟨c1, rfl, k1, b1⟩; obtain ⟨g1, l1, rfl⟩ := k1.form; have HF := hid (forget_one (S1.out.below b1) k1); clear k1 b1)
    | (go_at_call 25; refine Calls.mono HF.out ?_; rintro e w3 ⟨v3, rfl, s3⟩))
  go_ret
  exact ⟨_, rfl, s3⟩
theorem lines_sep (s : Sep w0 r w (tbT kP n p v S :: R)) :
    Calls Try.prog 22 #[ptr p] w fun e w' => ∃ a c, e = .returned (.slice a S.length c) ∧ Sep w0 r w' (tbT kP n p v S :: lstL (.slice a S.length c) S :: R) := by
  have c0 := s.cellP
  have HC := hid (clone_any v S w s.rowP s.good.few)
  obtain ⟨ao, sc, rfl, -⟩ := s.sliceP
  have S1 := hid s
  clear s
  generalize hN : S.length = N at *
  go_enter Try.func22, Try.ntmps22
  go_wp2_with (go_at_call 31; refine Calls.mono HC.out ?_; rintro e w1 ⟨v1, rfl, s1⟩; obtain ⟨a1, k1, rfl⟩ := s1.listIs (E := elL) (v := v1) (A := S) (by simp); rw [hN] at *; have S2 := hid (S1.out.join s1).swap; clear s1)
  go_ret
  exact ⟨_, _, rfl, S2.out⟩
set_option maxHeartbeats 4000000 in
theorem copy_sep (s : Sep w0 r w (tbT kP n p v S :: R)) :
    Calls Try.prog 19 #[ptr p] w fun e w' => ∃ p' v', e = .returned (ptr p') ∧ Sep w0 r w' (tbT kP n p' v' S :: tbT kP n p v S :: R) := by
  have c0 := s.roomP
  have HC := hid (lines_sep s.drew)
  have HG := hid s.good
  clear s
  generalize hN : S.length = N at *
  go_enter Try.func19, Try.ntmps19
  go_wp2_with fail
  go_region_with (go_at_call 22; refine Calls.mono HC.out ?_; rintro e w1 ⟨a1, k1, rfl, s1⟩; have d0 := s1.roomP; have S2 := hid (s1.swap.tb kP HG.out); clear s1 c0)
  all_goals
    simp only [kP] at S2
    go_wp2
    go_ret
    exact ⟨_, _, rfl, S2.out⟩
theorem new_sep (s : Sep w0 r w R) (hn1 : 1 ≤ n) (hn2 : n ≤ 256) :
    Calls Try.prog 9 #[.int .i64 (n : Int)] w fun e w' => ∃ p, e = .returned (.tuple #[ptr p, .int .i64 0]) ∧ Sep w0 r w' (tbT kP n p (.slice none 0 0) [] :: R) := by
  have S1 := hid ((s.nil (E := elL)).tb kP (good_nil hn1 hn2))
  have h1 : decide ((n : Int) < 1) = false := by simp; omega
  have h2 : decide ((256 : Int) < (n : Int)) = false := by simp; omega
  have h3 : ¬ ((n : Int) < 1) := by omega
  have h4 : ¬ ((256 : Int) < (n : Int)) := by omega
  clear s hn1 hn2
  simp only [kP] at S1
  go_enter Try.func9, Try.ntmps9
  go_wp2
  go_ret2
  exact ⟨_, rfl, S1.out⟩
theorem new_no (z : Int) (hz : z < 1 ∨ 256 < z) :
    Calls Try.prog 9 #[.int .i64 z] w fun e w' => e = .returned (.tuple #[.pointer none, .int .i64 1]) ∧ w' = w := by
  by_cases h : z < 1
  · have h1 : decide (z < 1) = true := by simpa using h
    clear hz
    go_enter Try.func9, Try.ntmps9
    go_wp2
    go_ret2
    exact ⟨rfl, rfl⟩
  · have h2 : 256 < z := by omega
    have h1 : decide (z < 1) = false := by simpa using h
    have h3 : decide (256 < z) = true := by simpa using h2
    clear hz
    go_enter Try.func9, Try.ntmps9
    go_wp2
    go_ret2
    exact ⟨rfl, rfl⟩
end
end Go.Proofs.Ytekjoeebomcmeaa
