/-
  LockOne: at most one core's probe says that it holds the lock: who does; it is held in the order in which cores entered; no condition.
-/
import Derived.Test.YtgokacdljnemgaaZFixed
import Derived.Test.YtgokacdljnemgaaZSay
import Derived.Test.YtgokacdljnemgaaZPure
import Derived.Deep.Cut
import Derived.Deep.CutRange
namespace Go.Proofs.Ytgokacdljnemgaa.lockOne
open Go.RowKit Go.Deep Go.Shelf
def cntI (M : St) (c : Nat) : Int := match M with | [] => 0 | x :: _ => if x < (c : Int) then 1 else 0
theorem cnt_zero {n : Nat} {M : St} (h : Good n M) : cntI M 0 = 0 := by
  cases M with
  | nil => rfl
  | cons x M =>
    have := h.all x (by simp)
    exact if_neg (by omega)
theorem cnt_yes {M : St} {c : Nat} (h : (firstI M == (c : Int)) = true) : cntI M c = 0 ∧ cntI M (c + 1) = 1 := by
  cases M with
  | nil =>
    have : (-1 : Int) = (c : Int) := eq_of_beq h
    omega
  | cons x M =>
    have : x = (c : Int) := by simpa [firstI] using h
    exact ⟨if_neg (by omega), if_pos (by omega)⟩
theorem cnt_no {M : St} {c : Nat} (h : (firstI M == (c : Int)) = false) : cntI M (c + 1) = cntI M c := by
  cases M with
  | nil => rfl
  | cons x M =>
    have : ¬ x = (c : Int) := by simpa [firstI] using h
    show (if x < ((c + 1 : Nat) : Int) then (1 : Int) else 0) = if x < (c : Int) then 1 else 0
    by_cases h1 : x < (c : Int)
    · rw [if_pos h1, if_pos (by omega)]
    · rw [if_neg h1, if_neg (by omega)]
theorem ahead_yes {M : St} {c : Int} (h : (firstI M == c) = true) (hc : 0 ≤ c) : aheadI M c = 0 := by
  cases M with
  | nil =>
    have : (-1 : Int) = c := eq_of_beq h
    omega
  | cons x M =>
    have : x = c := by simpa [firstI] using h
    subst this
    unfold aheadI
    rw [List.findIdx_cons]
    simp
theorem ahead_no {M : St} {c : Int} (h : (firstI M == c) = false) : (aheadI M c == 0) = false := by
  cases M with
  | nil => rfl
  | cons x M =>
    have : ¬ x = c := by simpa [firstI] using h
    have h1 : (x == c) = false := by simpa using this
    unfold aheadI
    rw [List.findIdx_cons, h1]
    simp only [cond_false]
    split
    · exact beq_eq_false_iff_ne.2 (by omega)
    · rfl
theorem leave_zero {n : Nat} {L : St} {c : Int} (h : leaveE n L c = 0) : ∃ T, L = c :: T ∧ leaveS n L c = T ∧ leaveE n (c :: T) c = 0 := by
  unfold leaveE at h
  by_cases h1 : hasB n c = true
  · rw [if_pos h1] at h
    by_cases h2 : (firstI L == c) = true
    · obtain ⟨T, rfl⟩ := first_is_in (by simpa using h2) (has_iff.1 h1).1
      exact ⟨T, rfl, (leave_head h1).2, (leave_head h1).1⟩
    · rw [if_neg h2] at h
      cases h
  · rw [if_neg h1] at h
    cases h
theorem leave_non {n : Nat} {L : St} {c : Int} (h : ¬ leaveE n L c = 0) : leaveS n L c = L := by
  unfold leaveE at h
  unfold leaveS
  by_cases h1 : hasB n c = true
  · rw [if_pos h1] at h ⊢
    by_cases h2 : (firstI L == c) = true
    · rw [if_pos h2] at h
      exact absurd rfl h
    · rw [if_neg h2]
  · rw [if_neg h1]
theorem enter_zero {n : Nat} {L : St} {c : Int} (h : enterE n L c = 0) : enterS n L c = L ++ [c] := by
  unfold enterE at h
  unfold enterS
  by_cases h1 : hasB n c = true
  · rw [if_pos h1] at h ⊢
    by_cases h2 : inB L c = true
    · rw [if_pos h2] at h
      cases h
    · rw [if_neg h2]
  · rw [if_neg h1] at h
    cases h
theorem enter_non {n : Nat} {L : St} {c : Int} (h : ¬ enterE n L c = 0) : enterS n L c = L := by
  unfold enterE at h
  unfold enterS
  by_cases h1 : hasB n c = true
  · rw [if_pos h1] at h ⊢
    by_cases h2 : inB L c = true
    · rw [if_pos h2]
    · rw [if_neg h2] at h
      exact absurd rfl h
  · rw [if_neg h1]
theorem probe_b {n : Nat} {M : St} {c : Int} (h : hasB n c = true) : probeB n M c = (firstI M == c) := by
  unfold probeB
  rw [h, Bool.true_and]
theorem probe_e {n : Nat} {M : St} {c : Int} (h : hasB n c = true) (h2 : (firstI M == c) = true) : probeE n M c = 0 := by
  obtain ⟨T, rfl⟩ := first_is_in (by simpa using h2) (has_iff.1 h).1
  exact (probe_in h (in_iff.2 (by simp))).2
set_option maxHeartbeats 16000000 in
set_option maxRecDepth 100000 in
theorem walk (cores : Int) (ao : Option Addr) (X : List Oc) (cap : Nat) (w : World) (_h1 : I64 cores) (hX : Ops w ao X) (_hxl : X.length ≤ 9223372036854775807) :
    Calls Try.prog 4 #[.int .i64 cores, .slice ao X.length cap] w fun e w' => e = .returned (.bool true) ∧ Below w.heap.size w w' := by
  have HX := hid hX
  clear hX
  obtain ⟨m, hm, hmask⟩ := mask7 cores
  obtain ⟨N, hN⟩ : ∃ N : Nat, N = 1 + m := ⟨_, rfl⟩
  have hN1 : 1 ≤ N := by omega
  have hN8 : N ≤ 8 := by omega
  have hw : IntKind.i64.wrap (1 + (m : Int)) = (N : Int) := by
    unfold IntKind.wrap
    simp [IntKind.bits, IntKind.signed]
    omega
  have hw2 : 1 + (m : Int) = (N : Int) := by omega
  clear hN hm
  go_enter Try.func4, Try.ntmps4
  go_wp2_with fail
  refine Calls.mono (new_sep (sep_nil w) hN1 hN8) ?_
  rintro e w1 ⟨p, rfl, s1⟩
  have s2 := Sep.made (E := elI) (Sep.made (E := elI) s1)
  have e9 : (w1.alloc (.cells #[] elI.e)).heap.size = w1.heap.size + 1 := by simp
  rw [e9] at s2
  simp only [elI] at s2
  have S2 := hid (s2.third.third.perm (.cons _ (.swap _ _ _)))
  clear s1 s2 e9
  generalize hr : w.heap.size = r at *
  have HR := hid hr
  clear hr
  go_wp2_with fail
  generalize hz1 : w1.heap.size = z1 at *
  clear hz1
  go_loopw [8, 9, 10] (fun s8 s9 s10 wr => ∃ (i : Nat) (L E G : St), i ≤ 100 ∧ s10 = .int .i64 i ∧ E = G ++ L ∧ E.length ≤ i ∧ Sep w r wr [lkT N p L, lstI s8 E, lstI s9 G]) (fun _ _ s10 _ => 100 - (intOf s10).toNat)
  case atStart => exact ⟨0, [], [], [], by omega, rfl, rfl, by simp, S2.out⟩
  case round =>
    clear S2
    obtain ⟨i, L, E, G, hi, rfl, hEG, hEl, s1⟩ := hrel
    obtain ⟨a8, k8, e8⟩ := s1.listIs (E := elI) (v := u8) (A := E) (by simp)
    obtain ⟨a9, k9, e9⟩ := s1.listIs (E := elI) (v := u9) (A := G) (by simp)
    subst e8 e9
    by_cases hgo : i < X.length ∧ i < 100
    · obtain ⟨hlt, h100⟩ := hgo
      obtain ⟨-, b, o, rfl, d0, d1⟩ := Ops.at (SeeK.below HX.out s1.low (by rw [HR.out]; exact Nat.le_refl _)) (List.getElem?_eq_getElem hlt)
      generalize X[i] = x at *
      obtain ⟨xk, c⟩ := x
      simp only at d0 d1
      generalize hn : X.length = n at *
      have hltz : (i : Int) < (n : Int) := by omega
      have h100z : (i : Int) < 100 := by omega
      have s5 := (s1.box (objO ⟨xk, c⟩)).swap
      obtain ⟨o0, o1⟩ := s5.opAt (q := wr.heap.size) (x := ⟨xk, c⟩) (by simp)
      simp only [objO] at o0 o1
      have H5 : Hid (Sep w r (wr.alloc (.cells #[.int .i64 xk, .int .i64 c] 31)) [lkT N p L, blk wr.heap.size (objO ⟨xk, c⟩), lstI (.slice a8 E.length k8) E, lstI (.slice a9 G.length k9) G]) := s5
      have HE0 := hid (And.intro hEG hEl)
      clear s1 s5 hEG hEl
      by_cases hk2 : xk = 2
      · have hq2 : (xk == 2) = true := by simpa using hk2
        clear hk2
        by_cases hz : leaveE N L c = 0
        · obtain ⟨T, rfl, hz2, hz3⟩ := leave_zero hz
          have HL := hid (And.intro hz3 hz2)
          clear hz hz2 hz3
          go_wp2_with fail
          refine Calls.mono (holder_is (x := c) (q := true) H5.out rfl rfl) ?_
          rintro e w6 ⟨rfl, s6⟩
          generalize hz0 : wr.heap.size = q at *
          clear hz0 d0 d1
          clear o0 o1
          obtain ⟨o0, o1⟩ := s6.opAt (q := q) (x := ⟨xk, c⟩) (by simp)
          simp only at o0 o1
          have S6 := hid s6
          clear s6 H5
          go_wp2_with fail
          refine Calls.mono (leave_is S6.out c HL.out.1 HL.out.2) ?_
          rintro e w7 ⟨rfl, s7⟩
          clear o0 o1
          obtain ⟨o0, o1⟩ := s7.opAt (q := q) (x := ⟨xk, c⟩) (by simp)
          simp only at o0 o1
          have hl9 : G.length ≤ 100 ∧ E.length ≤ 100 := by
            have h1 := HE0.out
            have h2 := congrArg List.length h1.1
            rw [List.length_append] at h2
            omega
          obtain ⟨v8, w8, r8, s8⟩ := s7.fourth.more okI 38 c (C := #[.int .i64 c]) rfl (by omega)
          obtain ⟨an, kn, ev⟩ := s8.listIs (E := elI) (v := v8) (A := G ++ [c]) (by simp)
          subst ev
          simp only [elI] at r8
          have s5 := s8.third.drop2.perm (.cons _ (.swap _ _ _))
          clear s7 s8 S6 hl9
          obtain ⟨M, hM⟩ : ∃ M, T = M := ⟨_, rfl⟩
          obtain ⟨E2, hE2⟩ : ∃ E2, E = E2 := ⟨_, rfl⟩
          obtain ⟨G2, hG2⟩ : ∃ G2, G ++ [c] = G2 := ⟨_, rfl⟩
          have hq1 : E2 = G2 ++ M ∧ E2.length ≤ i + 1 := by
            rw [← hE2, ← hG2, ← hM]
            obtain ⟨h1, h2⟩ := HE0.out
            exact ⟨by rw [h1]; simp, by omega⟩
          rw [hM, hE2, hG2] at s5
          rw [hG2] at r8
          rw [hE2]
          have S5 := hid s5
          have HQ := hid hq1
          clear s5 hq1 hM hE2 hG2
          have R8 := hid r8
          clear r8
          go_wp2_with (at_builtin; refine wpList_append_run rfl _ _ _ _ rfl _ _ _ _ rfl rfl R8.out ?_; clear R8 o0 o1)
          have hGM := S5.out.goodK
          have HGM := hid hGM
          have H0 := hid (cnt_zero hGM)
          clear hGM
          go_wp2_with fail
          go_loopw [14, 15] (fun s14 s15 wx => ∃ c : Nat, c ≤ N ∧ s15 = .int .i64 c ∧ s14 = .int .i64 (cntI M c) ∧ Sep w r wx [lkT N p M, lstI (.slice a8 E2.length k8) E2, lstI (.slice an G2.length kn) G2]) (fun _ s15 _ => N - (intOf s15).toNat)
          case atStart => exact ⟨0, Nat.zero_le _, rfl, by rw [H0.out], S5.out⟩
          case round =>
            clear S5 H0
            obtain ⟨c, hcN, rfl, rfl, s6⟩ := hrel
            have S6 := hid s6
            clear s6
            by_cases hlt : c < N
            · have hltz : (c : Int) < (N : Int) := by omega
              have HH := hid (has_nat hlt)
              cases hβ : (firstI M == (c : Int)) with
              | true =>
                have HP : Hid (probeB N M (c : Int) = true ∧ probeE N M (c : Int) = 0) := ⟨(probe_b HH.out).trans hβ, probe_e HH.out hβ⟩
                have HA := hid (ahead_yes hβ (by omega))
                have HC := hid (cnt_yes hβ)
                clear hβ
                rw [HC.out.1]
                go_wp2_with fail
                refine Calls.mono (probe_is S6.out (c : Int) HP.out.1 HP.out.2) ?_
                rintro e w7 ⟨rfl, s7⟩
                have S7 := hid s7
                clear s7 S6
                go_wp2_with fail
                refine Calls.mono (ahead_is S7.out (c : Int) HA.out) ?_
                rintro e w8 ⟨rfl, s8⟩
                have S8 := hid s8
                clear s8 S7
                go_wp2
                go_round
                case rel => exact ⟨c + 1, by omega, by go_num, by rw [HC.out.2], S8.out⟩
                case measure => simp [intOf]; omega
              | false =>
                have HB := hid ((probe_b (M := M) HH.out).trans hβ)
                have hA := ahead_no hβ
                have HC := hid (cnt_no hβ)
                clear hβ
                obtain ⟨E0, hE0⟩ : ∃ E0, probeE N M (c : Int) = E0 := ⟨_, rfl⟩
                have HE0 := hid hE0
                obtain ⟨z, hz⟩ : ∃ z, aheadI M (c : Int) = z := ⟨_, rfl⟩
                rw [hz] at hA
                have HZ := hid hz
                have hz2 : ¬ z = 0 := by simpa using hA
                clear hz hE0
                go_wp2_with fail
                refine Calls.mono (probe_is S6.out (c : Int) HB.out HE0.out) ?_
                rintro e w7 ⟨rfl, s7⟩
                have S7 := hid s7
                clear s7 S6
                go_wp2_with fail
                refine Calls.mono (ahead_is S7.out (c : Int) HZ.out) ?_
                rintro e w8 ⟨rfl, s8⟩
                have S8 := hid s8
                clear s8 S7
                go_wp2
                go_round
                case rel => exact ⟨c + 1, by omega, by go_num, by rw [HC.out], S8.out⟩
                case measure => simp [intOf]; omega
            · obtain rfl : c = N := by omega
              clear hlt hcN
              have hltz : ¬ ((c : Int) < (c : Int)) := by omega
              obtain ⟨m, hm⟩ : ∃ m, M.length = m := ⟨_, rfl⟩
              have HM := hid hm
              rcases hM : M with _ | ⟨x, T⟩
              · have hc0 : cntI M c = 0 := by rw [hM]; rfl
                have hm0 : m = 0 := by rw [← hm, hM]; rfl
                rw [← hM] at *
                subst hm0
                rw [hc0]
                clear hc0 hm hM
                go_wp2_with fail
                refine Calls.mono (line_is S6.out HM.out) ?_
                rintro e w7 ⟨a7, k7, rfl, s7⟩
                have S7 := hid s7.drop2
                clear s7 S6
                go_wp2
                go_roundw
                case rel => exact ⟨i + 1, M, E2, G2, by omega, by go_num, HQ.out.1, by have := HQ.out; omega, S7.out⟩
                case measure => simp [intOf]; omega
              · have hc1 : cntI M c = 1 := by
                  have := HGM.out.all x (by rw [hM]; simp)
                  rw [hM]
                  exact if_pos (by omega)
                have hm1 : 0 < m := by rw [← hm, hM]; simp
                have hmz : (0 : Int) < (m : Int) := by omega
                have hmd : decide ((0 : Int) < (m : Int)) = true := by simpa using hmz
                rw [← hM] at *
                rw [hc1]
                clear hc1 hm hM
                go_wp2_with fail
                refine Calls.mono (line_is S6.out HM.out) ?_
                rintro e w7 ⟨a7, k7, rfl, s7⟩
                have S7 := hid s7.drop2
                clear s7 S6
                go_wp2
                go_roundw
                case rel => exact ⟨i + 1, M, E2, G2, by omega, by go_num, HQ.out.1, by have := HQ.out; omega, S7.out⟩
                case measure => simp [intOf]; omega
        · have HL := hid (leave_non hz)
          obtain ⟨e0, he0⟩ : ∃ e0, leaveE N L c = e0 := ⟨_, rfl⟩
          rw [he0] at hz
          have hez : (e0 == 0) = false := by simpa using hz
          have HE1 := hid he0
          clear hz he0
          go_wp2_with fail
          refine Calls.mono (holder_sep H5.out) ?_
          rintro e w6 ⟨rfl, s6⟩
          generalize hz0 : wr.heap.size = q at *
          clear hz0 d0 d1
          clear o0 o1
          obtain ⟨o0, o1⟩ := s6.opAt (q := q) (x := ⟨xk, c⟩) (by simp)
          simp only at o0 o1
          have S6 := hid s6
          clear s6 H5
          generalize holdN L = hN at *
          generalize holdB L = hB at *
          go_wp2_with fail
          refine Calls.mono (leave_is S6.out c HE1.out HL.out) ?_
          rintro e w7 ⟨rfl, s7⟩
          have s5 := s7.drop2
          clear s7 S6 o0 o1
          obtain ⟨M, hM⟩ : ∃ M, L = M := ⟨_, rfl⟩
          obtain ⟨E2, hE2⟩ : ∃ E2, E = E2 := ⟨_, rfl⟩
          obtain ⟨G2, hG2⟩ : ∃ G2, G = G2 := ⟨_, rfl⟩
          have hq1 : E2 = G2 ++ M ∧ E2.length ≤ i + 1 := by
            rw [← hE2, ← hG2, ← hM]
            obtain ⟨h1, h2⟩ := HE0.out
            exact ⟨h1, by omega⟩
          rw [hM, hE2, hG2] at s5
          rw [hE2]
          rw [hG2]
          have S5 := hid s5
          have HQ := hid hq1
          clear s5 hq1 hM hE2 hG2
          have hGM := S5.out.goodK
          have HGM := hid hGM
          have H0 := hid (cnt_zero hGM)
          clear hGM
          go_wp2_with fail
          go_loopw [14, 15] (fun s14 s15 wx => ∃ c : Nat, c ≤ N ∧ s15 = .int .i64 c ∧ s14 = .int .i64 (cntI M c) ∧ Sep w r wx [lkT N p M, lstI (.slice a8 E2.length k8) E2, lstI (.slice a9 G2.length k9) G2]) (fun _ s15 _ => N - (intOf s15).toNat)
          case atStart => exact ⟨0, Nat.zero_le _, rfl, by rw [H0.out], S5.out⟩
          case round =>
            clear S5 H0
            obtain ⟨c, hcN, rfl, rfl, s6⟩ := hrel
            have S6 := hid s6
            clear s6
            by_cases hlt : c < N
            · have hltz : (c : Int) < (N : Int) := by omega
              have HH := hid (has_nat hlt)
              cases hβ : (firstI M == (c : Int)) with
              | true =>
                have HP : Hid (probeB N M (c : Int) = true ∧ probeE N M (c : Int) = 0) := ⟨(probe_b HH.out).trans hβ, probe_e HH.out hβ⟩
                have HA := hid (ahead_yes hβ (by omega))
                have HC := hid (cnt_yes hβ)
                clear hβ
                rw [HC.out.1]
                go_wp2_with fail
                refine Calls.mono (probe_is S6.out (c : Int) HP.out.1 HP.out.2) ?_
                rintro e w7 ⟨rfl, s7⟩
                have S7 := hid s7
                clear s7 S6
                go_wp2_with fail
                refine Calls.mono (ahead_is S7.out (c : Int) HA.out) ?_
                rintro e w8 ⟨rfl, s8⟩
                have S8 := hid s8
                clear s8 S7
                go_wp2
                go_round
                case rel => exact ⟨c + 1, by omega, by go_num, by rw [HC.out.2], S8.out⟩
                case measure => simp [intOf]; omega
              | false =>
                have HB := hid ((probe_b (M := M) HH.out).trans hβ)
                have hA := ahead_no hβ
                have HC := hid (cnt_no hβ)
                clear hβ
                obtain ⟨E0, hE0⟩ : ∃ E0, probeE N M (c : Int) = E0 := ⟨_, rfl⟩
                have HE0 := hid hE0
                obtain ⟨z, hz⟩ : ∃ z, aheadI M (c : Int) = z := ⟨_, rfl⟩
                rw [hz] at hA
                have HZ := hid hz
                have hz2 : ¬ z = 0 := by simpa using hA
                clear hz hE0
                go_wp2_with fail
                refine Calls.mono (probe_is S6.out (c : Int) HB.out HE0.out) ?_
                rintro e w7 ⟨rfl, s7⟩
                have S7 := hid s7
                clear s7 S6
                go_wp2_with fail
                refine Calls.mono (ahead_is S7.out (c : Int) HZ.out) ?_
                rintro e w8 ⟨rfl, s8⟩
                have S8 := hid s8
                clear s8 S7
                go_wp2
                go_round
                case rel => exact ⟨c + 1, by omega, by go_num, by rw [HC.out], S8.out⟩
                case measure => simp [intOf]; omega
            · obtain rfl : c = N := by omega
              clear hlt hcN
              have hltz : ¬ ((c : Int) < (c : Int)) := by omega
              obtain ⟨m, hm⟩ : ∃ m, M.length = m := ⟨_, rfl⟩
              have HM := hid hm
              rcases hM : M with _ | ⟨x, T⟩
              · have hc0 : cntI M c = 0 := by rw [hM]; rfl
                have hm0 : m = 0 := by rw [← hm, hM]; rfl
                rw [← hM] at *
                subst hm0
                rw [hc0]
                clear hc0 hm hM
                go_wp2_with fail
                refine Calls.mono (line_is S6.out HM.out) ?_
                rintro e w7 ⟨a7, k7, rfl, s7⟩
                have S7 := hid s7.drop2
                clear s7 S6
                go_wp2
                go_roundw
                case rel => exact ⟨i + 1, M, E2, G2, by omega, by go_num, HQ.out.1, by have := HQ.out; omega, S7.out⟩
                case measure => simp [intOf]; omega
              · have hc1 : cntI M c = 1 := by
                  have := HGM.out.all x (by rw [hM]; simp)
                  rw [hM]
                  exact if_pos (by omega)
                have hm1 : 0 < m := by rw [← hm, hM]; simp
                have hmz : (0 : Int) < (m : Int) := by omega
                have hmd : decide ((0 : Int) < (m : Int)) = true := by simpa using hmz
                rw [← hM] at *
                rw [hc1]
                clear hc1 hm hM
                go_wp2_with fail
                refine Calls.mono (line_is S6.out HM.out) ?_
                rintro e w7 ⟨a7, k7, rfl, s7⟩
                have S7 := hid s7.drop2
                clear s7 S6
                go_wp2
                go_roundw
                case rel => exact ⟨i + 1, M, E2, G2, by omega, by go_num, HQ.out.1, by have := HQ.out; omega, S7.out⟩
                case measure => simp [intOf]; omega
      · have hq2 : (xk == 2) = false := by simpa using hk2
        clear hk2
        by_cases hz : enterE N L c = 0
        · have HL := hid (And.intro hz (enter_zero hz))
          clear hz
          go_wp2_with fail
          refine Calls.mono (enter_is H5.out c HL.out.1 HL.out.2) ?_
          rintro e w7 ⟨rfl, s7⟩
          generalize hz0 : wr.heap.size = q at *
          clear hz0 d0 d1
          clear o0 o1
          obtain ⟨o0, o1⟩ := s7.opAt (q := q) (x := ⟨xk, c⟩) (by simp)
          simp only at o0 o1
          have hl9 : G.length ≤ 100 ∧ E.length ≤ 100 := by
            have h1 := HE0.out
            have h2 := congrArg List.length h1.1
            rw [List.length_append] at h2
            omega
          obtain ⟨v8, w8, r8, s8⟩ := s7.third.swap.more okI 38 c (C := #[.int .i64 c]) rfl (by omega)
          obtain ⟨an, kn, ev⟩ := s8.listIs (E := elI) (v := v8) (A := E ++ [c]) (by simp)
          subst ev
          simp only [elI] at r8
          have s5 := s8.drop2.swap
          clear s7 s8 H5 hl9
          obtain ⟨M, hM⟩ : ∃ M, L ++ [c] = M := ⟨_, rfl⟩
          obtain ⟨E2, hE2⟩ : ∃ E2, E ++ [c] = E2 := ⟨_, rfl⟩
          obtain ⟨G2, hG2⟩ : ∃ G2, G = G2 := ⟨_, rfl⟩
          have hq1 : E2 = G2 ++ M ∧ E2.length ≤ i + 1 := by
            rw [← hE2, ← hG2, ← hM]
            obtain ⟨h1, h2⟩ := HE0.out
            exact ⟨by rw [h1]; simp, by simp; omega⟩
          rw [hM, hE2, hG2] at s5
          rw [hE2] at r8
          rw [hG2]
          have S5 := hid s5
          have HQ := hid hq1
          clear s5 hq1 hM hE2 hG2
          have R8 := hid r8
          clear r8
          go_wp2_with (at_builtin; refine wpList_append_run rfl _ _ _ _ rfl _ _ _ _ rfl rfl R8.out ?_; clear R8 o0 o1)
          have hGM := S5.out.goodK
          have HGM := hid hGM
          have H0 := hid (cnt_zero hGM)
          clear hGM
          go_wp2_with fail
          go_loopw [14, 15] (fun s14 s15 wx => ∃ c : Nat, c ≤ N ∧ s15 = .int .i64 c ∧ s14 = .int .i64 (cntI M c) ∧ Sep w r wx [lkT N p M, lstI (.slice an E2.length kn) E2, lstI (.slice a9 G2.length k9) G2]) (fun _ s15 _ => N - (intOf s15).toNat)
          case atStart => exact ⟨0, Nat.zero_le _, rfl, by rw [H0.out], S5.out⟩
          case round =>
            clear S5 H0
            obtain ⟨c, hcN, rfl, rfl, s6⟩ := hrel
            have S6 := hid s6
            clear s6
            by_cases hlt : c < N
            · have hltz : (c : Int) < (N : Int) := by omega
              have HH := hid (has_nat hlt)
              cases hβ : (firstI M == (c : Int)) with
              | true =>
                have HP : Hid (probeB N M (c : Int) = true ∧ probeE N M (c : Int) = 0) := ⟨(probe_b HH.out).trans hβ, probe_e HH.out hβ⟩
                have HA := hid (ahead_yes hβ (by omega))
                have HC := hid (cnt_yes hβ)
                clear hβ
                rw [HC.out.1]
                go_wp2_with fail
                refine Calls.mono (probe_is S6.out (c : Int) HP.out.1 HP.out.2) ?_
                rintro e w7 ⟨rfl, s7⟩
                have S7 := hid s7
                clear s7 S6
                go_wp2_with fail
                refine Calls.mono (ahead_is S7.out (c : Int) HA.out) ?_
                rintro e w8 ⟨rfl, s8⟩
                have S8 := hid s8
                clear s8 S7
                go_wp2
                go_round
                case rel => exact ⟨c + 1, by omega, by go_num, by rw [HC.out.2], S8.out⟩
                case measure => simp [intOf]; omega
              | false =>
                have HB := hid ((probe_b (M := M) HH.out).trans hβ)
                have hA := ahead_no hβ
                have HC := hid (cnt_no hβ)
                clear hβ
                obtain ⟨E0, hE0⟩ : ∃ E0, probeE N M (c : Int) = E0 := ⟨_, rfl⟩
                have HE0 := hid hE0
                obtain ⟨z, hz⟩ : ∃ z, aheadI M (c : Int) = z := ⟨_, rfl⟩
                rw [hz] at hA
                have HZ := hid hz
                have hz2 : ¬ z = 0 := by simpa using hA
                clear hz hE0
                go_wp2_with fail
                refine Calls.mono (probe_is S6.out (c : Int) HB.out HE0.out) ?_
                rintro e w7 ⟨rfl, s7⟩
                have S7 := hid s7
                clear s7 S6
                go_wp2_with fail
                refine Calls.mono (ahead_is S7.out (c : Int) HZ.out) ?_
                rintro e w8 ⟨rfl, s8⟩
                have S8 := hid s8
                clear s8 S7
                go_wp2
                go_round
                case rel => exact ⟨c + 1, by omega, by go_num, by rw [HC.out], S8.out⟩
                case measure => simp [intOf]; omega
            · obtain rfl : c = N := by omega
              clear hlt hcN
              have hltz : ¬ ((c : Int) < (c : Int)) := by omega
              obtain ⟨m, hm⟩ : ∃ m, M.length = m := ⟨_, rfl⟩
              have HM := hid hm
              rcases hM : M with _ | ⟨x, T⟩
              · have hc0 : cntI M c = 0 := by rw [hM]; rfl
                have hm0 : m = 0 := by rw [← hm, hM]; rfl
                rw [← hM] at *
                subst hm0
                rw [hc0]
                clear hc0 hm hM
                go_wp2_with fail
                refine Calls.mono (line_is S6.out HM.out) ?_
                rintro e w7 ⟨a7, k7, rfl, s7⟩
                have S7 := hid s7.drop2
                clear s7 S6
                go_wp2
                go_roundw
                case rel => exact ⟨i + 1, M, E2, G2, by omega, by go_num, HQ.out.1, by have := HQ.out; omega, S7.out⟩
                case measure => simp [intOf]; omega
              · have hc1 : cntI M c = 1 := by
                  have := HGM.out.all x (by rw [hM]; simp)
                  rw [hM]
                  exact if_pos (by omega)
                have hm1 : 0 < m := by rw [← hm, hM]; simp
                have hmz : (0 : Int) < (m : Int) := by omega
                have hmd : decide ((0 : Int) < (m : Int)) = true := by simpa using hmz
                rw [← hM] at *
                rw [hc1]
                clear hc1 hm hM
                go_wp2_with fail
                refine Calls.mono (line_is S6.out HM.out) ?_
                rintro e w7 ⟨a7, k7, rfl, s7⟩
                have S7 := hid s7.drop2
                clear s7 S6
                go_wp2
                go_roundw
                case rel => exact ⟨i + 1, M, E2, G2, by omega, by go_num, HQ.out.1, by have := HQ.out; omega, S7.out⟩
                case measure => simp [intOf]; omega
        · have HL := hid (enter_non hz)
          obtain ⟨e0, he0⟩ : ∃ e0, enterE N L c = e0 := ⟨_, rfl⟩
          rw [he0] at hz
          have hez : (e0 == 0) = false := by simpa using hz
          have HE1 := hid he0
          clear hz he0
          go_wp2_with fail
          refine Calls.mono (enter_is H5.out c HE1.out HL.out) ?_
          rintro e w6 ⟨rfl, s6⟩
          generalize hz0 : wr.heap.size = q at *
          clear hz0 d0 d1
          have s5 := s6.drop2
          clear s6 H5 o0 o1
          obtain ⟨M, hM⟩ : ∃ M, L = M := ⟨_, rfl⟩
          obtain ⟨E2, hE2⟩ : ∃ E2, E = E2 := ⟨_, rfl⟩
          obtain ⟨G2, hG2⟩ : ∃ G2, G = G2 := ⟨_, rfl⟩
          have hq1 : E2 = G2 ++ M ∧ E2.length ≤ i + 1 := by
            rw [← hE2, ← hG2, ← hM]
            obtain ⟨h1, h2⟩ := HE0.out
            exact ⟨h1, by omega⟩
          rw [hM, hE2, hG2] at s5
          rw [hE2]
          rw [hG2]
          have S5 := hid s5
          have HQ := hid hq1
          clear s5 hq1 hM hE2 hG2
          have hGM := S5.out.goodK
          have HGM := hid hGM
          have H0 := hid (cnt_zero hGM)
          clear hGM
          go_wp2_with fail
          go_loopw [14, 15] (fun s14 s15 wx => ∃ c : Nat, c ≤ N ∧ s15 = .int .i64 c ∧ s14 = .int .i64 (cntI M c) ∧ Sep w r wx [lkT N p M, lstI (.slice a8 E2.length k8) E2, lstI (.slice a9 G2.length k9) G2]) (fun _ s15 _ => N - (intOf s15).toNat)
          case atStart => exact ⟨0, Nat.zero_le _, rfl, by rw [H0.out], S5.out⟩
          case round =>
            clear S5 H0
            obtain ⟨c, hcN, rfl, rfl, s6⟩ := hrel
            have S6 := hid s6
            clear s6
            by_cases hlt : c < N
            · have hltz : (c : Int) < (N : Int) := by omega
              have HH := hid (has_nat hlt)
              cases hβ : (firstI M == (c : Int)) with
              | true =>
                have HP : Hid (probeB N M (c : Int) = true ∧ probeE N M (c : Int) = 0) := ⟨(probe_b HH.out).trans hβ, probe_e HH.out hβ⟩
                have HA := hid (ahead_yes hβ (by omega))
                have HC := hid (cnt_yes hβ)
                clear hβ
                rw [HC.out.1]
                go_wp2_with fail
                refine Calls.mono (probe_is S6.out (c : Int) HP.out.1 HP.out.2) ?_
                rintro e w7 ⟨rfl, s7⟩
                have S7 := hid s7
                clear s7 S6
                go_wp2_with fail
                refine Calls.mono (ahead_is S7.out (c : Int) HA.out) ?_
                rintro e w8 ⟨rfl, s8⟩
                have S8 := hid s8
                clear s8 S7
                go_wp2
                go_round
                case rel => exact ⟨c + 1, by omega, by go_num, by rw [HC.out.2], S8.out⟩
                case measure => simp [intOf]; omega
              | false =>
                have HB := hid ((probe_b (M := M) HH.out).trans hβ)
                have hA := ahead_no hβ
                have HC := hid (cnt_no hβ)
                clear hβ
                obtain ⟨E0, hE0⟩ : ∃ E0, probeE N M (c : Int) = E0 := ⟨_, rfl⟩
                have HE0 := hid hE0
                obtain ⟨z, hz⟩ : ∃ z, aheadI M (c : Int) = z := ⟨_, rfl⟩
                rw [hz] at hA
                have HZ := hid hz
                have hz2 : ¬ z = 0 := by simpa using hA
                clear hz hE0
                go_wp2_with fail
                refine Calls.mono (probe_is S6.out (c : Int) HB.out HE0.out) ?_
                rintro e w7 ⟨rfl, s7⟩
                have S7 := hid s7
                clear s7 S6
                go_wp2_with fail
                refine Calls.mono (ahead_is S7.out (c : Int) HZ.out) ?_
                rintro e w8 ⟨rfl, s8⟩
                have S8 := hid s8
                clear s8 S7
                go_wp2
                go_round
                case rel => exact ⟨c + 1, by omega, by go_num, by rw [HC.out], S8.out⟩
                case measure => simp [intOf]; omega
            · obtain rfl : c = N := by omega
              clear hlt hcN
              have hltz : ¬ ((c : Int) < (c : Int)) := by omega
              obtain ⟨m, hm⟩ : ∃ m, M.length = m := ⟨_, rfl⟩
              have HM := hid hm
              rcases hM : M with _ | ⟨x, T⟩
              · have hc0 : cntI M c = 0 := by rw [hM]; rfl
                have hm0 : m = 0 := by rw [← hm, hM]; rfl
                rw [← hM] at *
                subst hm0
                rw [hc0]
                clear hc0 hm hM
                go_wp2_with fail
                refine Calls.mono (line_is S6.out HM.out) ?_
                rintro e w7 ⟨a7, k7, rfl, s7⟩
                have S7 := hid s7.drop2
                clear s7 S6
                go_wp2
                go_roundw
                case rel => exact ⟨i + 1, M, E2, G2, by omega, by go_num, HQ.out.1, by have := HQ.out; omega, S7.out⟩
                case measure => simp [intOf]; omega
              · have hc1 : cntI M c = 1 := by
                  have := HGM.out.all x (by rw [hM]; simp)
                  rw [hM]
                  exact if_pos (by omega)
                have hm1 : 0 < m := by rw [← hm, hM]; simp
                have hmz : (0 : Int) < (m : Int) := by omega
                have hmd : decide ((0 : Int) < (m : Int)) = true := by simpa using hmz
                rw [← hM] at *
                rw [hc1]
                clear hc1 hm hM
                go_wp2_with fail
                refine Calls.mono (line_is S6.out HM.out) ?_
                rintro e w7 ⟨a7, k7, rfl, s7⟩
                have S7 := hid s7.drop2
                clear s7 S6
                go_wp2
                go_roundw
                case rel => exact ⟨i + 1, M, E2, G2, by omega, by go_num, HQ.out.1, by have := HQ.out; omega, S7.out⟩
                case measure => simp [intOf]; omega
    · have hex : (¬ ((i : Int) < (X.length : Int))) ∨ ((i : Int) < (X.length : Int) ∧ ¬ ((i : Int) < 100)) := by omega
      have HE0 := hid (And.intro hEG hEl)
      have S1 := hid s1
      clear hgo s1 hEG hEl
      generalize hn : X.length = nX at *
      rcases hex with h | ⟨h, h2⟩
      all_goals
        have hl9 : G.length ≤ 100 ∧ E.length ≤ 100 := by
          have h1 := HE0.out
          have h2 := congrArg List.length h1.1
          rw [List.length_append] at h2
          omega
        have s2 := Sep.made (E := elI) S1.out
        obtain ⟨v3, w3, r3, s3⟩ := s2.onto okI (B := G) (v := .slice a9 G.length k9) (s2.each (lstI (.slice a9 G.length k9) G) (by simp)).1 38 (by simp; omega)
        rw [List.nil_append] at s3
        obtain ⟨a3, k3, ev⟩ := s3.listIs (E := elI) (v := v3) (A := G) (by simp)
        subst ev
        simp only [elI] at r3
        have R3 := hid r3
        have S3 := hid s3.swap
        clear r3 s2 s3 S1
        go_wp2_with (at_builtin; refine wpList_append_run rfl _ _ _ _ rfl _ _ _ _ rfl rfl R3.out ?_; clear R3)
        refine Calls.mono (line_sep S3.out) ?_
        rintro e w4 ⟨a4, k4, rfl, s4⟩
        have hl4 := s4.goodK.few
        obtain ⟨v5, w5, r5, s5⟩ := s4.third.swap.onto okI (B := L) (v := .slice a4 L.length k4) (s4.each (lstI (.slice a4 L.length k4) L) (by simp)).1 38 (by omega)
        obtain ⟨Z, hZ⟩ : ∃ Z, G ++ L = Z := ⟨_, rfl⟩
        rw [hZ] at s5
        have HZ : Hid (Z = E ∧ Z.length ≤ 1000) := ⟨hZ.symm.trans HE0.out.1.symm, by rw [← hZ, List.length_append]; omega⟩
        obtain ⟨a5, k5, ev⟩ := s5.listIs (E := elI) (v := v5) (A := Z) (by simp)
        subst ev
        simp only [elI] at r5
        have R5 := hid r5
        have S5 := hid s5
        clear r5 s4 s5 S3 hZ hl4 hl9
        go_wp2_with (at_builtin; refine wpList_append_run rfl _ _ _ _ rfl _ _ _ _ rfl rfl R5.out ?_; clear R5)
        refine Calls.mono (nums_is S5.out (u := .slice a5 Z.length k5) (v := .slice a8 E.length k8) (A := Z) (B := E) (by simp) (by simp) (by have := HZ.out.2; omega) HZ.out.1) ?_
        rintro e w6 ⟨rfl, s6⟩
        have S6 := hid s6
        clear s6 S5
        go_wp2_with (go_at_call 24; refine Calls.mono (fixed_sep S6.out) ?_; rintro e wf ⟨rfl, sf⟩; have SF := hid sf; clear sf S6)
        go_ret
        exact ⟨rfl, by rw [HR.out]; exact SF.out.low⟩
open Go.ChangeShapes Go.WideShapes Go.ChangeAt Go.RowKit Go.Joins

/-! ### From the walk to the statement -/
set_option maxRecDepth 100000 in
theorem lifted (os : Os) (started : os.Started) (H : Type) (enc : TypeId × Value → H) :
    ReturnsInHanded {} Try.checked os 4 .any (Rows.lockOneSpec.pre6 enc Try.prog Try.f4 Rows.lockOneRow.domain false) (Rows.lockOneSpec.post enc Try.prog Try.f4 false true false false) := by
  refine returnsInHanded_of_change (C := Try.checked) ownK started (by kernel_rfl) Try.func4
    (ChangeSpec.witness6 (enc := enc) (C := Try.checked) false ⟨#[], #[.int .i64 0, .slice none 0 0], []⟩ 8 (by kernel_rfl) (by kernel_rfl) (by kernel_rfl) (by kernel_rfl)) ?_
  intro W base args ds gs before hval0 hW hcnd _
  have hval : ∀ (j : Nat) t v, Try.f4.params[j]? = some t → args[j]? = some v → Value.okWide Try.prog W .any base t v := hval0
  have hW' := hW
  obtain ⟨p, q, hA0, hV, rfl, hfz, hnd⟩ := hW
  have hA : DataW.TrodAll enc Try.prog W 0 (fun _ => true) true Try.f4.params.toList args.toList ds p := hA0
  rw [Try.params4] at hA hval
  obtain ⟨v0, vs0, d0, ds0, p0, q0, hargs, rfl, rfl, h0, r0⟩ := trodAll_cons hA
  obtain ⟨v1, vs1, d1, ds1, p1, q1, rfl, rfl, rfl, h1, r1⟩ := trodAll_cons r0
  obtain ⟨rfl, rfl, rfl⟩ := trodAll_nil r1
  obtain rfl : args = #[v0, v1] := by cases args; simp_all
  obtain ⟨rfl, rfl⟩ := trodVars_none hV
  have k0 := h0
  have lt0 : ∀ x ∈ p0, x.block < W.heap.size := by obtain ⟨m, hm⟩ := k0; exact DataW.trod_lt m _ _ _ hm
  obtain ⟨a0, rfl, _, _, w0⟩ := open_int Try.underlying3 (hval 0 3 v0 rfl rfl) h0
  have k1 := h1
  have lt1 : ∀ x ∈ p1, x.block < W.heap.size := by obtain ⟨m, hm⟩ := k1; exact DataW.trod_lt m _ _ _ hm
  obtain ⟨a1, l1, c1, rfl, t1, s1⟩ := open_ops (hval 1 22 v1 rfl rfl) h1
  clear hA0 hval0
  refine (walk a0 a1 l1 c1 W (bounds_i64 w0) t1 s1).mono fun e W' ⟨he, bel⟩ => ?_
  subst he
  exact ⟨_, rfl, _, _, _, [], _, [], hW', trodAll_mk1 (shut_bool Try.underlying4 _), (trodAll_cons_mk (Below.trod laidOut (by kernel_rfl) (of_decide_eq_true (by kernel_rfl)) k0 bel lt0) (trodAll_cons_mk (Below.trod laidOut (by kernel_rfl) (of_decide_eq_true (by kernel_rfl)) k1 bel lt1) trodAll_mk0)), rfl, bel.frame _, fun h => by cases h⟩
theorem over : Rows.lockOneRow.holds Try.pinned (OpenSpec.ofChange Rows.lockOneSpec) :=
  OpenClaim.holds_of_wide 4 Try.f4 rfl rfl rfl rfl rfl rfl rfl ⟨rfl, rfl, rfl, rfl, rfl⟩ rfl rfl rfl rfl rfl (by kernel_rfl) Try.func4 (by kernel_rfl)
    (of_decide_eq_true (by kernel_rfl)) (by unfold Func.isWrapper; first | (rw [if_pos (by decide +kernel)]; kernel_rfl) | (rw [if_neg (by decide +kernel)]; exact ⟨rfl, rfl⟩))
    (fun os started H enc _ => lifted os started H enc)
end Go.Proofs.Ytgokacdljnemgaa.lockOne
namespace Go.Proofs.Ytgokacdljnemgaa
/-- THE STATEMENT. -/
theorem lockOne_said : Rows.LockOneSaid := lockOne.over
#print axioms lockOne_said
end Go.Proofs.Ytgokacdljnemgaa
