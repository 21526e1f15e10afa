/-
  What the document's own calls of layer 16 answer, and leave, among things that lie apart; no condition.
-/
import Derived.Test.YtgokacdljnemgaaZTell
import Derived.Test.YtgokacdljnemgaaZPure
import Derived.Test.YtgokacdljnemgaaGOnto
namespace Go.Proofs.Ytgokacdljnemgaa
open Go.RowKit Go.Deep Go.Shelf
theorem ahead_ge (L : St) (c : Int) : decide (0 ≤ aheadI L c) = inB L c := by
  cases h : inB L c with
  | true =>
    obtain ⟨k, hk, e⟩ := List.mem_iff_getElem.1 (in_iff.1 h)
    have : L.findIdx (fun x => x == c) < L.length := List.findIdx_lt_length.2 ⟨c, in_iff.1 h, by simp⟩
    unfold aheadI
    rw [if_pos this]
    simp
  | false =>
    rw [ahead_not fun hm => by rw [in_iff.2 hm] at h; cases h]
    rfl
theorem ahead_lt (L : St) (c : Int) : decide (aheadI L c < 0) = !inB L c := by
  rw [← ahead_ge]
  by_cases h : 0 ≤ aheadI L c
  · have : ¬ aheadI L c < 0 := by omega
    simp [h, this]
  · have : aheadI L c < 0 := by omega
    simp [h, this]
theorem ahead_first {L : St} {c : Int} (hc : 0 ≤ c) : (aheadI L c == 0) = (firstI L == c) := by
  cases L with
  | nil =>
    have h1 : (firstI [] == c) = false := first_nil hc
    rw [h1, ahead_nil]
    rfl
  | cons x L =>
    have e : firstI (x :: L) = x := rfl
    rw [e]
    cases h1 : (x == c) with
    | true =>
      unfold aheadI
      rw [List.findIdx_cons, h1]
      simp
    | false =>
      unfold aheadI
      rw [List.findIdx_cons, h1]
      simp only [cond_false]
      split
      · exact beq_eq_false_iff_ne.2 (by omega)
      · rfl
abbrev objR (n : Nat) (v : Value) : Obj := .cells #[.int .i64 (n : Int), v] 42 (0, 0)
section
variable {w0 w w' : World} {r k n : Nat} {L : St} {R : List Th} {v : Value}
theorem Sep.cellsR (h : Sep w0 r w (blk k (objR n v) :: R)) : w.cell? ⟨k, 0, none⟩ = some (.int .i64 (n : Int)) ∧ w.cell? ⟨k, 1, none⟩ = some v ∧ ∀ j, w.frozen? ⟨k, j, none⟩ = false := by
  have h1 : w.heap[k]? = some (objR n v) := h.head
  exact ⟨by simp [World.cell?, h1], by simp [World.cell?, h1], fun j => by simp [World.frozen?, h1]⟩
theorem Sep.putR {v' : Value} (h : Sep w0 r w (blk k (objR n v) :: R)) : Sep w0 r (w.setCell ⟨k, 1, none⟩ v') (blk k (objR n v') :: R) := by
  have h1 : w.heap[k]? = some (objR n v) := h.head
  exact h.turn (t' := blk k (objR n v')) (setBlock (j := 1) h1 v') (Turn.setCell (blk k (objR n v)).F w ⟨k, 1, none⟩ _ rfl) fun x hx => .inl hx
theorem rnew_sep (s : Sep w0 r w R) (h1 : 1 ≤ n) (h2 : n ≤ 8) :
    Calls Try.prog 10 #[.int .i64 (n : Int)] w fun e w' => ∃ p, e = .returned (.tuple #[ptr p, .int .i64 0]) ∧ Sep w0 r w' (blk p (objR n (.slice none 0 0)) :: lstI (.slice none 0 0) [] :: R) := by
  have S1 := hid ((s.nil (E := elI)).box (objR n (.slice none 0 0)))
  have h3 : decide ((n : Int) < 1) = false := by simp; omega
  have h4 : decide ((8 : Int) < (n : Int)) = false := by simp; omega
  have h5 : ¬ ((n : Int) < 1) := by omega
  have h6 : ¬ ((8 : Int) < (n : Int)) := by omega
  clear s h1 h2
  go_enter Try.func10, Try.ntmps10
  go_wp2
  go_ret2
  exact ⟨_, rfl, S1.out⟩
set_option maxHeartbeats 2000000 in
theorem rahead_any (hk : w.cell? ⟨k, 1, none⟩ = some v) (ha : RowI w v L) (hl : L.length ≤ 1000) (c : Int) :
    Calls Try.prog 23 #[ptr k, .int .i64 c] w fun e w' => e = .returned (.int .i64 (aheadI L c)) ∧ w' = w := by
  obtain ⟨ao, cap, rfl, _, _, hg, _⟩ := Row.slice ha
  have HA := hid ha
  have HG := hid hg
  clear ha hg
  generalize hN : L.length = N at *
  have HN := hid hN
  clear hN
  go_enter Try.func23, Try.ntmps23
  go_wp2
  go_loopw [5] (fun s5 wr => ∃ kk : Nat, kk ≤ N ∧ s5 = .int .i64 kk ∧ wr = w ∧ Hid (∀ j y, j < kk → L[j]? = some y → (y == c) = false)) (fun s5 _ => N - (intOf s5).toNat)
  case atStart => exact ⟨0, Nat.zero_le _, rfl, rfl, fun j y hj => absurd hj (Nat.not_lt_zero _)⟩
  case round =>
    obtain ⟨kk, hkk, rfl, rfl, HB⟩ := hrel
    by_cases hlt : kk < N
    · have hltz : (kk : Int) < (N : Int) := by omega
      obtain ⟨b, rfl⟩ := HG.out kk hlt
      have hk1 : kk < L.length := by have := HN.out; omega
      have HX := hid (List.getElem?_eq_getElem hk1)
      have c0 := RowI.cell HA.out HX.out
      generalize L[kk] = y at *
      clear hk1
      cases hq : (y == c) with
      | true =>
        have HR : Hid (aheadI L c = (kk : Int)) := by
          obtain ⟨hl2, e⟩ := List.getElem?_eq_some_iff.1 HX.out
          have : L.findIdx (fun x => x == c) = kk := by
            rw [List.findIdx_eq hl2]
            exact ⟨by rw [e]; exact hq, fun j hj => HB.out j _ hj (List.getElem?_eq_getElem (by omega))⟩
          show aheadI L c = _
          unfold aheadI
          rw [this, if_pos hl2]
        go_wp2
        go_ret
        exact ⟨ret_int HR.out.symm, rfl⟩
      | false =>
        have HQ := hid hq
        go_wp2
        go_roundw
        case rel =>
          refine ⟨kk + 1, by omega, by go_num, trivial, fun j z hj hz => ?_⟩
          by_cases e : j = kk
          · subst e
            rw [HX.out] at hz
            cases hz
            exact HQ.out
          · exact HB.out j z (by omega) hz
        case measure => simp [intOf]; omega
    · have hltz : ¬ (kk : Int) < (N : Int) := by omega
      have HR : Hid (aheadI L c = -1) := by
        show aheadI L c = -1
        unfold aheadI
        rw [if_neg]
        rw [List.findIdx_lt_length]
        rintro ⟨x, hx, hn⟩
        obtain ⟨j, hj, e⟩ := List.mem_iff_getElem.1 hx
        have := HB.out j x (by have := HN.out; omega) (by rw [List.getElem?_eq_getElem hj, e])
        rw [hn] at this
        cases this
      clear hlt hkk HB
      go_wp2
      go_ret
      exact ⟨ret_int HR.out.symm, rfl⟩
theorem rahead_sep (s : Sep w0 r w (blk k (objR n v) :: lstI v L :: R)) (hl : L.length ≤ 8) (c : Int) :
    Calls Try.prog 23 #[ptr k, .int .i64 c] w fun e w' => e = .returned (.int .i64 (aheadI L c)) ∧ w' = w := rahead_any s.cellsR.2.1 s.drop.head (by omega) c
theorem rholder_sep (s : Sep w0 r w (blk k (objR n v) :: lstI v L :: R)) (hl : L.length ≤ 8) :
    Calls Try.prog 19 #[ptr k] w fun e w' => e = .returned (.tuple #[.int .i64 (holdN L), .bool (holdB L)]) ∧ w' = w := by
  obtain ⟨c0, c1, -⟩ := s.cellsR
  have row : RowI w v L := s.drop.head
  obtain ⟨ao, cap, rfl, _, _, hg, _⟩ := Row.slice row
  rcases L with _ | ⟨x, T⟩
  · simp only [List.length_nil] at c1
    clear s row hg
    go_enter Try.func19, Try.ntmps19
    go_wp2
    go_ret2
    exact ⟨rfl, rfl⟩
  · obtain ⟨g, rfl⟩ := hg 0 (by simp)
    have c2 := RowI.cell row (i := 0) (x := x) rfl
    have hl0 : ((((x :: T).length : Nat) : Int) == 0) = false := beq_eq_false_iff_ne.2 (by rw [List.length_cons]; omega)
    have hl1 : (0 : Int) < (((x :: T).length : Nat) : Int) := by rw [List.length_cons]; omega
    clear s row hg
    generalize (x :: T).length = m at *
    have hl2 : ¬ m = 0 := by omega
    go_enter Try.func19, Try.ntmps19
    go_wp2
    go_ret2
    exact ⟨rfl, rfl⟩
set_option maxHeartbeats 4000000 in
theorem renter_sep (s : Sep w0 r w (blk k (objR n v) :: lstI v L :: R)) (hl : L.length ≤ 8) (c : Int) :
    Calls Try.prog 12 #[ptr k, .int .i64 c] w fun e w' => e = .returned (.int .i64 (enterE n L c)) ∧ ∃ v', Sep w0 r w' (blk k (objR n v') :: lstI v' (enterS n L c) :: R) := by
  obtain ⟨c0, c1, fz⟩ := s.cellsR
  have HA := hid (rahead_sep s hl c)
  have hge := ahead_ge L c
  unfold enterE enterS
  by_cases h0 : c < 0
  · have h1 : ¬ hasB n c = true := fun h => by have := (has_iff.1 h).1; omega
    have hd : decide (c < 0) = true := by simpa using h0
    rw [if_neg h1, if_neg h1]
    have S1 := hid s
    clear s h0 h1
    go_enter Try.func12, Try.ntmps12
    go_wp2
    go_ret
    exact ⟨rfl, _, S1.out⟩
  · have hd : decide (c < 0) = false := by simpa using h0
    by_cases h2 : (n : Int) ≤ c
    · have h1 : ¬ hasB n c = true := fun h => by have := (has_iff.1 h).2; omega
      have hd2 : decide ((n : Int) ≤ c) = true := by simpa using h2
      rw [if_neg h1, if_neg h1]
      have S1 := hid s
      clear s h0 h1
      go_enter Try.func12, Try.ntmps12
      go_wp2
      go_ret
      exact ⟨rfl, _, S1.out⟩
    · have h1 : hasB n c = true := has_iff.2 ⟨by omega, by omega⟩
      have hd2 : decide ((n : Int) ≤ c) = false := by simpa using h2
      rw [if_pos h1, if_pos h1]
      obtain ⟨z, hz⟩ : ∃ z, aheadI L c = z := ⟨_, rfl⟩
      rw [hz] at HA hge
      by_cases h3 : inB L c = true
      · rw [if_pos h3, if_pos h3]
        rw [h3] at hge
        have hz0 : 0 ≤ z := by simpa using hge
        have S1 := hid s
        clear s h1 h3 hz
        go_enter Try.func12, Try.ntmps12
        go_wp2_with (go_at_call 23; refine Calls.mono HA.out ?_; rintro e w1 ⟨rfl, hw⟩; subst hw)
        go_ret
        exact ⟨rfl, _, S1.out⟩
      · rw [if_neg h3, if_neg h3]
        have h4 : inB L c = false := by simpa using h3
        rw [h4] at hge
        have hz0 : ¬ 0 ≤ z := by simpa using hge
        obtain ⟨a0, k0, rfl⟩ := s.listIs (E := elI) (v := v) (A := L) (by simp)
        obtain ⟨v4, w4, r4, s4⟩ := s.swap.more okI 38 c (C := #[.int .i64 c]) rfl (by omega)
        obtain ⟨L2, hL2⟩ : ∃ L2, L ++ [c] = L2 := ⟨_, rfl⟩
        rw [hL2] at s4 ⊢
        obtain ⟨a4, k4, rfl⟩ := s4.listIs (E := elI) (v := v4) (A := L2) (by simp)
        obtain ⟨-, c4, f4⟩ := s4.swap.cellsR
        have S5 := hid (s4.swap.putR (v' := .slice a4 L2.length k4))
        simp only [elI] at r4
        have R4 := hid r4
        have c5 := cell_al c1 (.cells #[.int .i64 c] 3)
        clear s s4 r4 h1 h3 h4 hz hL2
        generalize L2.length = m2 at *
        generalize L.length = m at *
        go_enter Try.func12, Try.ntmps12
        go_wp2_with (first
          | (go_at_call 23; refine Calls.mono HA.out ?_; rintro e w1 ⟨rfl, hw⟩; subst hw)
          | (at_builtin; refine wpList_append_run rfl _ _ _ _ rfl _ _ _ _ rfl rfl R4.out ?_; clear R4))
        go_ret
        exact ⟨rfl, _, S5.out⟩
set_option maxHeartbeats 4000000 in
theorem rprobe_sep (s : Sep w0 r w (blk k (objR n v) :: lstI v L :: R)) (hl : L.length ≤ 8) (c : Int) :
    Calls Try.prog 14 #[ptr k, .int .i64 c] w fun e w' => e = .returned (.tuple #[.bool (probeB n L c), .int .i64 (probeE n L c)]) ∧ w' = w := by
  obtain ⟨c0, c1, fz⟩ := s.cellsR
  have HA := hid (rahead_sep s hl c)
  have hlt := ahead_lt L c
  unfold probeE probeB
  by_cases h0 : c < 0
  · have h1 : hasB n c = false := by
      cases h : hasB n c
      · rfl
      · have := (has_iff.1 h).1; omega
    have hd : decide (c < 0) = true := by simpa using h0
    simp only [h1, Bool.false_and, Bool.false_eq_true, if_false]
    clear s h0 h1
    go_enter Try.func14, Try.ntmps14
    go_wp2
    go_ret2
    exact ⟨rfl, rfl⟩
  · have hd : decide (c < 0) = false := by simpa using h0
    by_cases h2 : (n : Int) ≤ c
    · have h1 : hasB n c = false := by
        cases h : hasB n c
        · rfl
        · have := (has_iff.1 h).2; omega
      have hd2 : decide ((n : Int) ≤ c) = true := by simpa using h2
      simp only [h1, Bool.false_and, Bool.false_eq_true, if_false]
      clear s h0 h1
      go_enter Try.func14, Try.ntmps14
      go_wp2
      go_ret2
      exact ⟨rfl, rfl⟩
    · have h1 : hasB n c = true := has_iff.2 ⟨by omega, by omega⟩
      have hd2 : decide ((n : Int) ≤ c) = false := by simpa using h2
      have haf := ahead_first (L := L) (c := c) (by omega)
      simp only [h1, Bool.true_and, if_true]
      rw [← haf]
      obtain ⟨z, hz⟩ : ∃ z, aheadI L c = z := ⟨_, rfl⟩
      rw [hz] at HA hlt ⊢
      by_cases h3 : inB L c = true
      · rw [if_pos h3]
        rw [h3] at hlt
        have hz0 : ¬ z < 0 := by simpa using hlt
        clear s h1 h3 hz haf
        go_enter Try.func14, Try.ntmps14
        go_wp2_with (go_at_call 23; refine Calls.mono HA.out ?_; rintro e w1 ⟨rfl, hw⟩; subst hw)
        go_ret2
        exact ⟨rfl, rfl⟩
      · rw [if_neg h3]
        have h4 : inB L c = false := by simpa using h3
        rw [h4] at hlt
        have hz0 : z < 0 := by simpa using hlt
        have hz1 : (z == 0) = false := beq_eq_false_iff_ne.2 (by omega)
        rw [hz1]
        clear s h1 h3 h4 hz haf
        go_enter Try.func14, Try.ntmps14
        go_wp2_with (go_at_call 23; refine Calls.mono HA.out ?_; rintro e w1 ⟨rfl, hw⟩; subst hw)
        go_ret2
        exact ⟨rfl, rfl⟩
set_option maxHeartbeats 4000000 in
theorem rleave_sep (s : Sep w0 r w (blk k (objR n v) :: lstI v L :: R)) (hl : L.length ≤ 8) (c : Int) :
    Calls Try.prog 16 #[ptr k, .int .i64 c] w fun e w' => e = .returned (.int .i64 (leaveE n L c)) ∧ ∃ v', Sep w0 r w' (blk k (objR n v') :: lstI v' (leaveS n L c) :: R) := by
  obtain ⟨c0, c1, fz⟩ := s.cellsR
  have HA := hid (rahead_sep s hl c)
  unfold leaveE leaveS
  by_cases h0 : c < 0
  · have h1 : ¬ hasB n c = true := fun h => by have := (has_iff.1 h).1; omega
    have hd : decide (c < 0) = true := by simpa using h0
    rw [if_neg h1, if_neg h1]
    have S1 := hid s
    clear s h0 h1
    go_enter Try.func16, Try.ntmps16
    go_wp2
    go_ret
    exact ⟨rfl, _, S1.out⟩
  · have hd : decide (c < 0) = false := by simpa using h0
    by_cases h2 : (n : Int) ≤ c
    · have h1 : ¬ hasB n c = true := fun h => by have := (has_iff.1 h).2; omega
      have hd2 : decide ((n : Int) ≤ c) = true := by simpa using h2
      rw [if_neg h1, if_neg h1]
      have S1 := hid s
      clear s h0 h1
      go_enter Try.func16, Try.ntmps16
      go_wp2
      go_ret
      exact ⟨rfl, _, S1.out⟩
    · have h1 : hasB n c = true := has_iff.2 ⟨by omega, by omega⟩
      have hd2 : decide ((n : Int) ≤ c) = false := by simpa using h2
      have haf := ahead_first (L := L) (c := c) (by omega)
      rw [if_pos h1, if_pos h1]
      by_cases h3 : (firstI L == c) = true
      · rw [if_pos h3, if_pos h3]
        rw [h3] at haf
        have hz : aheadI L c = 0 := by simpa using haf
        rw [hz] at HA
        obtain ⟨T, rfl⟩ := first_is_in (by simpa using h3) (has_iff.1 h1).1
        rw [List.tail_cons]
        obtain ⟨a0, k0, rfl⟩ := s.listIs (E := elI) (v := v) (A := c :: T) (by simp)
        have s1 := Sep.made (E := elI) s
        have row : RowI (w.alloc (.cells #[] elI.e)) (.slice a0 (c :: T).length k0) (c :: T) := s1.drop.drop.head
        obtain ⟨g, ea, hkn⟩ : ∃ g, a0 = some (⟨g, 0, none⟩ : Addr) ∧ (c :: T).length ≤ k0 := by
          rcases row.2 with ⟨e, _⟩ | ⟨g, cap', cur, e, _, _, h1, _⟩
          · cases e
          · cases e
            exact ⟨g, rfl, h1⟩
        subst ea
        obtain ⟨ad, had, hsee⟩ : ∃ ad : Addr, (if k0 = 1 then some (⟨g, 0, none⟩ : Addr) else some ⟨g, 1, none⟩) = some ad ∧ ∀ j u, (flatK elI.enc T)[j]? = some u → (w.alloc (.cells #[] elI.e)).cell? (ad.add j) = some u := by
          by_cases hc : k0 = 1
          · refine ⟨⟨g, 0, none⟩, by simp [hc], fun j u hj => ?_⟩
            have : T = [] := List.length_eq_zero_iff.1 (by rw [List.length_cons] at hkn; omega)
            rw [this] at hj
            simp [flatK] at hj
          · refine ⟨⟨g, 1, none⟩, by simp [hc], fun j u hj => ?_⟩
            exact Row.tailAt okI row 1 j u (by rw [List.drop_one, List.tail_cons]; exact hj)
        obtain ⟨m, hm⟩ : ∃ m, (c :: T).length = m := ⟨_, rfl⟩
        have hTm : T.length = m - 1 := by rw [← hm]; simp
        have hm1 : 1 ≤ m := by rw [← hm]; simp
        rw [hm] at hkn c1
        obtain ⟨v5, w5, r5, s5⟩ := s1.ontoAt okI ad (k0 - 1) (m - 1) hTm hsee 38 (by simp; simp at hl; omega)
        rw [List.nil_append] at s5
        obtain ⟨a5, k5, rfl⟩ := s5.listIs (E := elI) (v := v5) (A := T) (by simp)
        obtain ⟨-, c5, f5⟩ := s5.swap.cellsR
        rw [hm] at c5
        have S7 := hid ((s5.swap.putR (v' := .slice a5 T.length k5)).third.drop2.swap)
        simp only [elI] at r5
        have R5 := hid r5
        have hkz : (1 : Int) ≤ (m : Int) := by omega
        have hkz2 : (1 : Int) ≤ (k0 : Int) := by omega
        have hk1 : 1 ≤ k0 := by omega
        have c2a := cell_al c1 (.cells #[] 3)
        clear s s1 s5 r5 row hsee h1 h3 hz haf hTm hm hl
        generalize T.length = tn at *
        go_enter Try.func16, Try.ntmps16
        go_wp2_with (first
          | (go_at_call 23; refine Calls.mono HA.out ?_; rintro e w1 ⟨rfl, hw⟩; subst hw)
          | (at_builtin; refine wpList_append_run rfl _ _ _ _ rfl _ _ _ _ rfl rfl R5.out ?_; clear R5))
        go_ret
        exact ⟨rfl, _, S7.out⟩
      · rw [if_neg h3, if_neg h3]
        have h4 : (firstI L == c) = false := by simpa using h3
        rw [h4] at haf
        obtain ⟨z, hz⟩ : ∃ z, aheadI L c = z := ⟨_, rfl⟩
        rw [hz] at HA haf
        have hz0 : ¬ z = 0 := by simpa using haf
        have S1 := hid s
        clear s h1 h3 h4 hz
        go_enter Try.func16, Try.ntmps16
        go_wp2_with (go_at_call 23; refine Calls.mono HA.out ?_; rintro e w1 ⟨rfl, hw⟩; subst hw)
        go_ret
        exact ⟨rfl, _, S1.out⟩
end
end Go.Proofs.Ytgokacdljnemgaa
