/-
  What New, Enter, Probe, Leave, Holder and Copy of package lock answer, and leave, among things that lie apart; no condition.
-/
import Derived.Test.YtgokacdljnemgaaZMeth
namespace Go.Proofs.Ytgokacdljnemgaa
open Go.RowKit Go.Deep Go.Shelf
theorem first_is_in {L : St} {c : Int} (h : firstI L = c) (hc : 0 ≤ c) : ∃ T, L = c :: T := by
  cases L with
  | nil =>
    have : (-1 : Int) = c := h
    omega
  | cons x T =>
    have : x = c := h
    rw [this]
    exact ⟨T, rfl⟩
section
variable {w0 w w' : World} {r p n : Nat} {L : St} {R : List Th}
def objK0 (n : Nat) : Array Value := #[.int .i64 (n : Int), .int .i64 (-1), .int .i64 0, .int .i64 0, .int .i64 0, .int .i64 0, .int .i64 0, .int .i64 0, .int .i64 0, .int .i64 0]
theorem is_new (h1 : 1 ≤ n) (h2 : n ≤ 8) : LkIs n [] (objK0 n) (-1) (fun _ => 0) := by
  refine ⟨rfl, rfl, rfl, fun k hk => ?_, rfl, good_nil h1 h2⟩
  match k, hk with
  | 0, _ => rfl
  | 1, _ => rfl
  | 2, _ => rfl
  | 3, _ => rfl
  | 4, _ => rfl
  | 5, _ => rfl
  | 6, _ => rfl
  | 7, _ => rfl
theorem new_sep (s : Sep w0 r w R) (h1 : 1 ≤ n) (h2 : n ≤ 8) :
    Calls Try.prog 9 #[.int .i64 (n : Int)] w fun e w' => ∃ p, e = .returned (.tuple #[ptr p, .int .i64 0]) ∧ Sep w0 r w' (lkT n p [] :: R) := by
  have s1 : Sep w0 r (w.alloc (objK (objK0 n))) (lkT n w.heap.size [] :: R) := s.new (t := lkT n w.heap.size []) ⟨_, _, _, blk_alloc_new _ _, is_new h1 h2⟩ (below_new _ _) fun x hx => by rw [hx]; exact Nat.le_refl _
  unfold objK0 at s1
  have S1 := hid s1
  have h3 : decide ((n : Int) < 1) = false := by simp; omega
  have h4 : decide ((8 : Int) < (n : Int)) = false := by simp; omega
  have h5 : ¬ ((n : Int) < 1) := by omega
  have h6 : ¬ ((8 : Int) < (n : Int)) := by omega
  clear s s1 h1 h2
  go_enter Try.func9, Try.ntmps9
  go_wp2
  go_ret2
  exact ⟨_, rfl, S1.out⟩
theorem new_no (z : Int) (hz : 8 < z) :
    Calls Try.prog 9 #[.int .i64 z] w fun e w' => e = .returned (.tuple #[.pointer none, .int .i64 1]) ∧ w' = w := by
  have h1 : decide (z < 1) = false := by simp; omega
  have h3 : decide (8 < z) = true := by simpa using hz
  clear hz
  go_enter Try.func9, Try.ntmps9
  go_wp2
  go_ret2
  exact ⟨rfl, rfl⟩
set_option maxHeartbeats 4000000 in
theorem enter_sep (s : Sep w0 r w (lkT n p L :: R)) (c : Int) :
    Calls Try.prog 11 #[ptr p, .int .i64 c] w fun e w' => e = .returned (.int .i64 (enterE n L c)) ∧ Sep w0 r w' (lkT n p (enterS n L c) :: R) := by
  obtain ⟨C, t, a, hC, lk⟩ := s.lk
  have HH := hid (has_any hC lk c)
  unfold enterE enterS
  by_cases h1 : hasB n c = true
  · rw [h1] at HH
    simp only [h1, if_true]
    have hf := fun W (b : Below w.heap.size w W) => stands_any (heap_below hC b) lk c
    by_cases h2 : inB L c = true
    · have HS := hid (stands_any hC lk c)
      rw [h2] at HS
      simp only [h2, if_true]
      have S1 := hid s
      clear s hf h1 h2 hC lk
      go_enter Try.func11, Try.ntmps11
      go_wp2_with (first
        | (go_at_call 25; refine Calls.mono HH.out ?_; rintro e w1 ⟨rfl, hw⟩; subst hw)
        | (go_at_call 26; refine Calls.mono HS.out ?_; rintro e w2 ⟨rfl, b2⟩))
      go_ret
      exact ⟨rfl, S1.out.below b2⟩
    · have h3 : inB L c = false := by simpa using h2
      have HS := hid (stands_any hC lk c)
      rw [h3] at HS
      simp only [h3, if_false, Bool.false_eq_true]
      obtain ⟨hc0, hcn⟩ := has_iff.1 h1
      obtain ⟨k, rfl⟩ : ∃ k : Nat, c = (k : Int) := ⟨c.toNat, by omega⟩
      have hk8 : k < 8 := by have := lk.good.top; omega
      have hkz : (k : Int) < 8 := by omega
      have LE := hid (lk.enter (c := k) hcn fun hm => by rw [in_iff.2 hm] at h3; cases h3)
      have HC := hid hC
      have LK := hid lk
      have S1 := hid s
      clear s hf h1 h2 h3 hC lk hc0 hcn
      go_enter Try.func11, Try.ntmps11
      go_wp2_with (first
        | (go_at_call 25; refine Calls.mono HH.out ?_; rintro e w1 ⟨rfl, hw⟩; subst hw)
        | (go_at_call 26; refine Calls.mono HS.out ?_; rintro e w2 ⟨rfl, b2⟩))
      have hC2 := heap_below HC.out b2
      have s2 := S1.out.below b2
      have c1 := cellK hC2 LK.out.c1
      have ck := cellK hC2 (LK.out.ca k hk8)
      have fz := fun j => frozenK hC2 j
      have S3 := hid (s2.drew.putK2 hC2 LE.out)
      clear b2 s2 hC2 S1 HC
      go_region_law (fail)
      all_goals
        go_wp2
        go_ret
        exact ⟨rfl, S3.out⟩
  · have h3 : hasB n c = false := by simpa using h1
    rw [h3] at HH
    simp only [h3, if_false, Bool.false_eq_true]
    have S1 := hid s
    clear s h1 h3 hC lk
    go_enter Try.func11, Try.ntmps11
    go_wp2_with (go_at_call 25; refine Calls.mono HH.out ?_; rintro e w1 ⟨rfl, hw⟩; subst hw)
    go_ret
    exact ⟨rfl, S1.out⟩
theorem not_first {c : Int} (h1 : hasB n c = true) (h3 : inB L c = false) : (firstI L == c) = false := by
  cases e : (firstI L == c) with
  | false => rfl
  | true =>
    obtain ⟨T, rfl⟩ := first_is_in (by simpa using e) (has_iff.1 h1).1
    have : inB (c :: T) c = true := in_iff.2 (by simp)
    rw [this] at h3
    cases h3
set_option maxHeartbeats 4000000 in
theorem probe_sep (s : Sep w0 r w (lkT n p L :: R)) (c : Int) :
    Calls Try.prog 13 #[ptr p, .int .i64 c] w fun e w' => e = .returned (.tuple #[.bool (probeB n L c), .int .i64 (probeE n L c)]) ∧ Sep w0 r w' (lkT n p L :: R) := by
  obtain ⟨C, t, a, hC, lk⟩ := s.lk
  have HH := hid (has_any hC lk c)
  unfold probeE probeB
  by_cases h1 : hasB n c = true
  · rw [h1] at HH
    simp only [h1, if_true, Bool.true_and]
    by_cases h2 : inB L c = true
    · have HS := hid (stands_any hC lk c)
      rw [h2] at HS
      simp only [h2, if_true]
      have HF := hid fun W (b : Below w.heap.size w W) => first_any (heap_below hC b) lk
      have S1 := hid s
      clear s h1 h2 hC lk
      generalize firstI L = z at *
      go_enter Try.func13, Try.ntmps13
      go_wp2_with (first
        | (go_at_call 25; refine Calls.mono HH.out ?_; rintro e w1 ⟨rfl, hw⟩; subst hw)
        | (go_at_call 26; refine Calls.mono HS.out ?_; rintro e w2 ⟨rfl, b2⟩)
        | (go_at_call 27; refine Calls.mono (HF.out _ b2) ?_; rintro e w3 ⟨rfl, b3⟩))
      go_ret2
      exact ⟨rfl, (S1.out.below b2).below b3⟩
    · have h3 : inB L c = false := by simpa using h2
      have HS := hid (stands_any hC lk c)
      rw [h3] at HS
      rw [not_first h1 h3]
      simp only [h3, if_false, Bool.false_eq_true]
      have S1 := hid s
      clear s h1 h2 h3 hC lk
      go_enter Try.func13, Try.ntmps13
      go_wp2_with (first
        | (go_at_call 25; refine Calls.mono HH.out ?_; rintro e w1 ⟨rfl, hw⟩; subst hw)
        | (go_at_call 26; refine Calls.mono HS.out ?_; rintro e w2 ⟨rfl, b2⟩))
      go_ret2
      exact ⟨rfl, S1.out.below b2⟩
  · have h3 : hasB n c = false := by simpa using h1
    rw [h3] at HH
    simp only [h3, if_false, Bool.false_eq_true, Bool.false_and]
    have S1 := hid s
    clear s h1 h3 hC lk
    go_enter Try.func13, Try.ntmps13
    go_wp2_with (go_at_call 25; refine Calls.mono HH.out ?_; rintro e w1 ⟨rfl, hw⟩; subst hw)
    go_ret2
    exact ⟨rfl, S1.out⟩
theorem holder_sep (s : Sep w0 r w (lkT n p L :: R)) :
    Calls Try.prog 18 #[ptr p] w fun e w' => e = .returned (.tuple #[.int .i64 (holdN L), .bool (holdB L)]) ∧ Sep w0 r w' (lkT n p L :: R) := by
  obtain ⟨C, t, a, hC, lk⟩ := s.lk
  have HF := hid (first_any hC lk)
  have S1 := hid s
  rcases hL : L with _ | ⟨x, T⟩
  · rw [hL] at HF S1
    have e1 : firstI [] = -1 := rfl
    rw [e1] at HF
    clear s hC lk hL e1
    go_enter Try.func18, Try.ntmps18
    go_wp2_with (go_at_call 27; refine Calls.mono HF.out ?_; rintro e w2 ⟨rfl, b2⟩)
    go_ret2
    exact ⟨rfl, S1.out.below b2⟩
  · have hx := lk.good.all x (by rw [hL]; simp)
    have hx1 : (x == (-1 : Int)) = false := beq_eq_false_iff_ne.2 (by omega)
    rw [hL] at HF S1
    have e1 : firstI (x :: T) = x := rfl
    rw [e1] at HF
    clear s hC lk hL e1 hx
    go_enter Try.func18, Try.ntmps18
    go_wp2_with (go_at_call 27; refine Calls.mono HF.out ?_; rintro e w2 ⟨rfl, b2⟩)
    go_ret2
    exact ⟨rfl, S1.out.below b2⟩
theorem copy_sep (s : Sep w0 r w (lkT n p L :: R)) :
    Calls Try.prog 17 #[ptr p] w fun e w' => ∃ p', e = .returned (ptr p') ∧ Sep w0 r w' (lkT n p' L :: lkT n p L :: R) := by
  obtain ⟨C, t, a, hC, lk⟩ := s.lk
  have s1 : Sep w0 r (w.alloc (objK C)) (lkT n w.heap.size L :: lkT n p L :: R) := s.new (t := lkT n w.heap.size L) ⟨_, _, _, blk_alloc_new _ _, lk⟩ (below_new _ _) fun x hx => by rw [hx]; exact Nat.le_refl _
  have c0 := cellK hC lk.c0
  have c1 := cellK hC lk.c1
  have k0 := cellK hC (lk.ca 0 (by omega))
  have k1 := cellK hC (lk.ca 1 (by omega))
  have k2 := cellK hC (lk.ca 2 (by omega))
  have k3 := cellK hC (lk.ca 3 (by omega))
  have k4 := cellK hC (lk.ca 4 (by omega))
  have k5 := cellK hC (lk.ca 5 (by omega))
  have k6 := cellK hC (lk.ca 6 (by omega))
  have k7 := cellK hC (lk.ca 7 (by omega))
  have hCe : C = #[.int .i64 (n : Int), .int .i64 t, .int .i64 (a (0 : Nat)), .int .i64 (a (1 : Nat)), .int .i64 (a (2 : Nat)), .int .i64 (a (3 : Nat)), .int .i64 (a (4 : Nat)), .int .i64 (a (5 : Nat)), .int .i64 (a (6 : Nat)), .int .i64 (a (7 : Nat))] := by
    apply Array.ext_getElem?
    intro i
    match i with
    | 0 => exact lk.c0
    | 1 => exact lk.c1
    | 2 => exact lk.ca 0 (by omega)
    | 3 => exact lk.ca 1 (by omega)
    | 4 => exact lk.ca 2 (by omega)
    | 5 => exact lk.ca 3 (by omega)
    | 6 => exact lk.ca 4 (by omega)
    | 7 => exact lk.ca 5 (by omega)
    | 8 => exact lk.ca 6 (by omega)
    | 9 => exact lk.ca 7 (by omega)
    | k + 10 =>
      have := lk.size
      rw [Array.getElem?_eq_none (by omega), Array.getElem?_eq_none (by simp)]
  rw [hCe] at s1
  have S1 := hid s1
  clear s s1 hC lk hCe
  generalize a (0 : Nat) = a0 at *
  generalize a (1 : Nat) = a1 at *
  generalize a (2 : Nat) = a2 at *
  generalize a (3 : Nat) = a3 at *
  generalize a (4 : Nat) = a4 at *
  generalize a (5 : Nat) = a5 at *
  generalize a (6 : Nat) = a6 at *
  generalize a (7 : Nat) = a7 at *
  go_enter Try.func17, Try.ntmps17
  go_wp2
  go_ret
  exact ⟨_, rfl, S1.out⟩
end
end Go.Proofs.Ytgokacdljnemgaa
