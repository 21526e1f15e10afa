/-
  What Send, All, Box and Owed of package mailbox answer, and leave, among things that lie apart; no condition.
-/
import Derived.Test.YtpapjdmnhgnpfaaMBPost
namespace Go.Proofs.Ytpapjdmnhgnpfaa
open Go.RowKit Go.Deep Go.Shelf
section
variable {w0 w w' : World} {r p g n : Nat} {V : List Sv} {L : St} {R : List Th}
set_option maxHeartbeats 4000000 in
set_option maxRecDepth 100000 in
theorem send_sep (s : Sep w0 r w (bxT n p g V L :: R)) (f t k a : Int) :
    Calls Try.prog 11 #[ptr p, .int .i64 f, .int .i64 t, .int .i64 k, .int .i64 a] w fun e w' => e = .returned (.int .i64 (sendE n L f t)) ∧ ∃ V', Sep w0 r w' (bxT n p g V' (sendS n L f t k a) :: R) := by
  have HF := hid (has_any s f)
  have HT := hid (has_any s t)
  unfold sendE sendS
  rcases has_cases n f with h1 | ⟨i, rfl, hi, h1⟩
  · rw [h1] at HF ⊢
    simp only [Bool.false_and, Bool.false_eq_true, if_false]
    have S1 := hid s
    clear s h1 HT
    go_enter Try.func11, Try.ntmps11
    go_wp2_with (go_at_call 24; refine Calls.mono HF.out ?_; rintro e w1 ⟨rfl, hw⟩; subst hw)
    go_ret
    exact ⟨rfl, _, S1.out⟩
  · rw [h1] at HF ⊢
    rcases has_cases n t with h2 | ⟨j, rfl, hj, h2⟩
    · rw [h2] at HT ⊢
      simp only [Bool.and_false, Bool.false_eq_true, if_false]
      have S1 := hid s
      clear s h1 h2
      go_enter Try.func11, Try.ntmps11
      go_wp2_with (go_at_call 24; first | (with_reducible refine Calls.mono HF.out ?_; rintro e w1 ⟨rfl, hw⟩; subst hw) | (with_reducible refine Calls.mono HT.out ?_; rintro e w1 ⟨rfl, hw⟩; subst hw))
      go_ret
      exact ⟨rfl, _, S1.out⟩
    · rw [h2] at HT ⊢
      simp only [Bool.and_self, if_true]
      by_cases e : i = j
      · subst e
        simp only [if_true]
        have S1 := hid s
        clear s h1 h2 HT
        go_enter Try.func11, Try.ntmps11
        go_wp2_with (go_at_call 24; refine Calls.mono HF.out ?_; rintro e w1 ⟨rfl, hw⟩; subst hw)
        go_ret
        exact ⟨rfl, _, S1.out⟩
      · have e2 : ¬ ((i : Int) = (j : Int)) := by omega
        have e3 : ((i : Int) == (j : Int)) = false := beq_eq_false_iff_ne.2 e2
        rw [if_neg e2, if_neg e2, Int.toNat_natCast]
        have s1 := (s.lit okI [(j : Int)] (by simp) #[.int .i64 (j : Int)] rfl).swap
        have HP := hid (post_sep (T := [j]) (m := ⟨(i : Int), k, a⟩) s1 (by simp) (fun c hc => by
          have : c = j := by simpa using hc
          subst this
          exact ⟨hj, e2⟩) ⟨by simp only; omega, by simp only; omega⟩ (by simp))
        clear s s1 h1 h2 e
        go_enter Try.func11, Try.ntmps11
        go_wp2_with (first
          | (go_at_call 24; first | (with_reducible refine Calls.mono HF.out ?_; rintro e w1 ⟨rfl, hw⟩; subst hw) | (with_reducible refine Calls.mono HT.out ?_; rintro e w1 ⟨rfl, hw⟩; subst hw))
          | (go_at_call 25; refine Calls.mono HP.out ?_; rintro e w3 ⟨rfl, V3, s3⟩; have S3 := hid s3; clear s3))
        go_ret
        exact ⟨rfl, _, S3.out.drop2⟩
set_option maxHeartbeats 4000000 in
set_option maxRecDepth 100000 in
theorem all_sep (s : Sep w0 r w (bxT n p g V L :: R)) (f k a : Int) :
    Calls Try.prog 13 #[ptr p, .int .i64 f, .int .i64 k, .int .i64 a] w fun e w' => e = .returned (.int .i64 (allE n L f)) ∧ ∃ V', Sep w0 r w' (bxT n p g V' (allS n L f k a) :: R) := by
  have HF := hid (has_any s f)
  unfold allE allS
  rcases has_cases n f with h1 | ⟨i, rfl, hi, h1⟩
  · rw [h1] at HF ⊢
    simp only [Bool.false_eq_true, if_false]
    have S1 := hid s
    clear s h1
    go_enter Try.func13, Try.ntmps13
    go_wp2_with (go_at_call 24; refine Calls.mono HF.out ?_; rintro e w1 ⟨rfl, hw⟩; subst hw)
    go_ret
    exact ⟨rfl, _, S1.out⟩
  · rw [h1] at HF ⊢
    simp only [if_true]
    have HO := hid (others_sep s (i : Int))
    have HTop : Hid (n ≤ 8) := s.goodB.top
    have HI := hid hi
    clear s h1
    go_enter Try.func13, Try.ntmps13
    go_wp2_with (first
      | (go_at_call 24; refine Calls.mono HF.out ?_; rintro e w1 ⟨rfl, hw⟩; subst hw)
      | (go_at_call 27; refine Calls.mono HO.out ?_; rintro e w2 ⟨v, rfl, s2⟩; have HP := hid (post_sep (T := othersN n (i : Int)) (m := ⟨(i : Int), k, a⟩) s2.swap (others_nodup _ _) (fun c hc => ⟨(others_mem.1 hc).1, fun e => (others_mem.1 hc).2 e.symm⟩) ⟨by simp only; omega, by simp only; omega⟩ (Nat.le_trans (others_le _ _) HTop.out)); clear s2)
      | (go_at_call 25; refine Calls.mono HP.out ?_; rintro e w3 ⟨rfl, V3, s3⟩; have S3 := hid s3; clear s3))
    go_ret
    exact ⟨rfl, _, S3.out.drop2⟩
set_option maxHeartbeats 4000000 in
theorem box_new (s : Sep w0 r w (bxT n p g V L :: R)) (c : Int) :
    Calls Try.prog 18 #[ptr p, .int .i64 c] w fun e w' => ∃ v', e = .returned v' ∧ Sep w w.heap.size w' [lstM v' (boxL L c)] := by
  have HF := hid (has_any s c)
  have c0 := s.cellB
  rcases has_cases n c with h1 | ⟨i, rfl, hi, h1⟩
  · rw [h1] at HF
    have hb := boxL_no s.goodB.len h1
    rw [hb]
    have HK := hid ((sep_nil w).nil (E := elM))
    clear s h1 hb
    go_enter Try.func18, Try.ntmps18
    go_wp2_with (go_at_call 24; refine Calls.mono HF.out ?_; rintro e w1 ⟨rfl, hw⟩; subst hw)
    go_ret
    exact ⟨_, rfl, HK.out⟩
  · rw [h1] at HF
    rw [boxL_nat]
    obtain ⟨ao, cap, -, hcell, row⟩ := s.boxAt hi
    have HC := hid (clone_any _ _ w row (Nat.le_trans (s.goodB.few i _ (s.goodB.at hi)) (by omega)))
    clear s h1 row
    have hiz : (i : Int) < (n : Int) := by omega
    go_enter Try.func18, Try.ntmps18
    go_wp2_with (first
      | (go_at_call 24; refine Calls.mono HF.out ?_; rintro e w1 ⟨rfl, hw⟩; subst hw)
      | (go_at_call 29; refine Calls.mono HC.out ?_; rintro e w2 ⟨v2, rfl, s2⟩; have S2 := hid s2; clear s2))
    go_ret
    exact ⟨_, rfl, S2.out⟩
theorem box_sep (s : Sep w0 r w (bxT n p g V L :: R)) (c : Int) :
    Calls Try.prog 18 #[ptr p, .int .i64 c] w fun e w' => ∃ v', e = .returned v' ∧ Sep w0 r w' (bxT n p g V L :: lstM v' (boxL L c) :: R) :=
  (box_new s c).mono fun _ _ ⟨v', he, k⟩ => ⟨v', he, Sep.swap (s.join k)⟩
end
end Go.Proofs.Ytpapjdmnhgnpfaa
