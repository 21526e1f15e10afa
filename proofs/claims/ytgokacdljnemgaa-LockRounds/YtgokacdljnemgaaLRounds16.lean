/-
  LockRounds: cores that enter again as soon as they leave hold the lock in turns; no condition.
-/
import Derived.Test.YtgokacdljnemgaaZFixed
import Derived.Test.YtgokacdljnemgaaZSay
import Derived.Test.YtgokacdljnemgaaZRing
import Derived.Deep.Cut
import Derived.Deep.CutRange
namespace Go.Proofs.Ytgokacdljnemgaa.lockRounds
open Go.RowKit Go.Deep Go.Shelf
set_option maxHeartbeats 8000000 in
set_option maxRecDepth 100000 in
theorem walk (cores core : Int) (w : World) (_h1 : I64 cores) (_h2 : I64 core) :
    Calls Try.prog 7 #[.int .i64 cores, .int .i64 core] w fun e w' => e = .returned (.bool true) ∧ Below w.heap.size w w' := by
  obtain ⟨m, hm, hmask⟩ := mask7 cores
  obtain ⟨N, hN⟩ : ∃ N : Nat, N = 1 + m := ⟨_, rfl⟩
  have hN1 : 1 ≤ N := by omega
  have hN8 : N ≤ 8 := by omega
  have hw : IntKind.i64.wrap (1 + (m : Int)) = (N : Int) := by
    unfold IntKind.wrap
    simp [IntKind.bits, IntKind.signed]
    omega
  have hw2 : 1 + (m : Int) = (N : Int) := by omega
  clear hN hm
  obtain ⟨k, hk, hmk⟩ := mask64k core
  obtain ⟨s, hsN, hsk⟩ := rem_nat k (N : Int) (by omega)
  have hsN2 : s < N := by omega
  have hN0 : ¬ ((N : Int) = 0) := by omega
  go_enter Try.func7, Try.ntmps7
  go_wp2_with fail
  refine Calls.mono (new_sep (sep_nil w) hN1 hN8) ?_
  rintro e w1 ⟨p, rfl, s1⟩
  have S1 : Hid (Sep w w.heap.size w1 [lkT N p (seg N s 0 0)]) := s1
  clear s1
  generalize hr : w.heap.size = r at *
  have HR := hid hr
  clear hr
  go_wp2_with fail
  simp only [hsk]
  clear hsk
  go_loopw [9] (fun s9 wr => ∃ i : Nat, i ≤ N ∧ s9 = .int .i64 i ∧ Sep w r wr [lkT N p (seg N s 0 i)]) (fun s9 _ => N - (intOf s9).toNat)
  case atStart => exact ⟨0, Nat.zero_le _, rfl, S1.out⟩
  case round =>
    clear S1
    obtain ⟨i, hi, rfl, s1⟩ := hrel
    have S1 := hid s1
    clear s1
    by_cases hlt : i < N
    · have hltz : (i : Int) < (N : Int) := by omega
      obtain ⟨b, hb⟩ : ∃ b, s + i = b := ⟨_, rfl⟩
      have hwi : IntKind.i64.wrap ((s : Int) + (i : Int)) = (b : Int) := by
        unfold IntKind.wrap
        simp [IntKind.bits, IntKind.signed]
        omega
      obtain ⟨c, hc⟩ : ∃ c, (s + i) % N = c := ⟨_, rfl⟩
      have hcN : c < N := by rw [← hc]; exact Nat.mod_lt _ (by omega)
      have hrm : (b : Int) % (N : Int) = (c : Int) := by rw [← hb, ← hc]; exact (Int.natCast_emod _ _).symm
      have HH := hid (has_nat hcN)
      have HE : Hid (enterE N (seg N s 0 i) (c : Int) = 0 ∧ enterS N (seg N s 0 i) (c : Int) = seg N s 0 (i + 1)) := by
        have h1 := seg_not (s := s) (a := 0) hlt
        have h2 := seg_more N s 0 i
        have h0 : s + 0 = s := rfl
        rw [h0, hc] at h1 h2
        rw [h2]
        exact enter_new HH.out h1
      clear hb hc
      go_wp2_with fail
      refine Calls.mono (enter_is S1.out (c : Int) HE.out.1 HE.out.2) ?_
      rintro e w2 ⟨rfl, s2⟩
      have S2 := hid s2
      clear s2 S1
      go_wp2
      go_round
      case rel => exact ⟨i + 1, by omega, by go_num, S2.out⟩
      case measure => simp [intOf]; omega
    · obtain rfl : i = N := by omega
      have hltz : ¬ ((i : Int) < (i : Int)) := by omega
      clear hlt hi
      go_wp2_with fail
      go_loopw [10] (fun s10 wr => ∃ j : Nat, j ≤ 60 ∧ s10 = .int .i64 j ∧ Sep w r wr [lkT i p (seg i s j i)]) (fun s10 _ => 60 - (intOf s10).toNat)
      case atStart => exact ⟨0, Nat.zero_le _, rfl, S1.out⟩
      case round =>
        clear S1
        obtain ⟨j, hj, rfl, s1⟩ := hrel
        have S1 := hid s1
        clear s1
        by_cases hlt : j < 60
        · have hjz : (j : Int) < 60 := by omega
          obtain ⟨b, hb⟩ : ∃ b, s + j = b := ⟨_, rfl⟩
          have hwi : IntKind.i64.wrap ((s : Int) + (j : Int)) = (b : Int) := by
            unfold IntKind.wrap
            simp [IntKind.bits, IntKind.signed]
            omega
          obtain ⟨c, hc⟩ : ∃ c, (s + j) % i = c := ⟨_, rfl⟩
          have hci : c < i := by rw [← hc]; exact Nat.mod_lt _ (by omega)
          have hrm : (b : Int) % (i : Int) = (c : Int) := by rw [← hb, ← hc]; exact (Int.natCast_emod _ _).symm
          have HH := hid (has_nat hci)
          obtain ⟨T, hT1, hT2, hT3⟩ := seg_turn (s := s) (i := j) hN1
          rw [hc] at hT1 hT2 hT3
          rw [hT1] at S1
          have HT := hid hT3
          have HL := hid (leave_head (T := T) HH.out)
          have HE := hid (enter_new HH.out hT2)
          have HLn : Hid ((T ++ [(c : Int)]).length = i) := by show _ = _; rw [hT3, seg_len]
          clear hb hc hT1 hT2 hT3
          go_wp2_with fail
          refine Calls.mono (holder_is (x := (c : Int)) (q := true) S1.out rfl rfl) ?_
          rintro e w2 ⟨rfl, s2⟩
          have S2 := hid s2
          clear s2 S1
          go_wp2_with fail
          refine Calls.mono (leave_is S2.out (c : Int) HL.out.1 HL.out.2) ?_
          rintro e w3 ⟨rfl, s3⟩
          have S3 := hid s3
          clear s3 S2
          go_wp2_with fail
          refine Calls.mono (enter_is S3.out (c : Int) HE.out.1 HE.out.2) ?_
          rintro e w4 ⟨rfl, s4⟩
          have S4 := hid s4
          clear s4 S3
          go_wp2_with fail
          refine Calls.mono (line_is S4.out HLn.out) ?_
          rintro e w5 ⟨a5, k5, rfl, s5⟩
          rw [HT.out] at s5
          have S5 := hid s5.drop2
          clear s5 S4
          go_wp2
          go_round
          case rel => exact ⟨j + 1, by omega, by go_num, S5.out⟩
          case measure => simp [intOf]; omega
        · have hjz : ¬ ((j : Int) < 60) := by omega
          go_wp2_with (go_at_call 24; refine Calls.mono (fixed_sep S1.out) ?_; rintro e wf ⟨rfl, sf⟩; have SF := hid sf; clear sf S1)
          go_ret
          exact ⟨rfl, by rw [HR.out]; exact SF.out.low⟩
open Go.ChangeShapes Go.WideShapes Go.ChangeAt Go.RowKit Go.Joins

/-! ### From the walk to the statement -/
set_option maxRecDepth 100000 in
theorem lifted (os : Os) (started : os.Started) (H : Type) (enc : TypeId × Value → H) :
    ReturnsInHanded {} Try.checked os 7 .any (Rows.lockRoundsSpec.pre6 enc Try.prog Try.f7 Rows.lockRoundsRow.domain false) (Rows.lockRoundsSpec.post enc Try.prog Try.f7 false true false false) := by
  refine returnsInHanded_of_change (C := Try.checked) ownK started (by kernel_rfl) Try.func7
    (ChangeSpec.witness6 (enc := enc) (C := Try.checked) false ⟨#[], #[.int .i64 0, .int .i64 0], []⟩ 8 (by kernel_rfl) (by kernel_rfl) (by kernel_rfl) (by kernel_rfl)) ?_
  intro W base args ds gs before hval0 hW hcnd _
  have hval : ∀ (j : Nat) t v, Try.f7.params[j]? = some t → args[j]? = some v → Value.okWide Try.prog W .any base t v := hval0
  have hW' := hW
  obtain ⟨p, q, hA0, hV, rfl, hfz, hnd⟩ := hW
  have hA : DataW.TrodAll enc Try.prog W 0 (fun _ => true) true Try.f7.params.toList args.toList ds p := hA0
  rw [Try.params7] at hA hval
  obtain ⟨v0, vs0, d0, ds0, p0, q0, hargs, rfl, rfl, h0, r0⟩ := trodAll_cons hA
  obtain ⟨v1, vs1, d1, ds1, p1, q1, rfl, rfl, rfl, h1, r1⟩ := trodAll_cons r0
  obtain ⟨rfl, rfl, rfl⟩ := trodAll_nil r1
  obtain rfl : args = #[v0, v1] := by cases args; simp_all
  obtain ⟨rfl, rfl⟩ := trodVars_none hV
  have k0 := h0
  have lt0 : ∀ x ∈ p0, x.block < W.heap.size := by obtain ⟨m, hm⟩ := k0; exact DataW.trod_lt m _ _ _ hm
  obtain ⟨a0, rfl, _, _, w0⟩ := open_int Try.underlying3 (hval 0 3 v0 rfl rfl) h0
  have k1 := h1
  have lt1 : ∀ x ∈ p1, x.block < W.heap.size := by obtain ⟨m, hm⟩ := k1; exact DataW.trod_lt m _ _ _ hm
  obtain ⟨a1, rfl, _, _, w1⟩ := open_int Try.underlying3 (hval 1 3 v1 rfl rfl) h1
  clear hA0 hval0
  refine (walk a0 a1 W (bounds_i64 w0) (bounds_i64 w1)).mono fun e W' ⟨he, bel⟩ => ?_
  subst he
  exact ⟨_, rfl, _, _, _, [], _, [], hW', trodAll_mk1 (shut_bool Try.underlying4 _), (trodAll_cons_mk (Below.trod laidOut (by kernel_rfl) (of_decide_eq_true (by kernel_rfl)) k0 bel lt0) (trodAll_cons_mk (Below.trod laidOut (by kernel_rfl) (of_decide_eq_true (by kernel_rfl)) k1 bel lt1) trodAll_mk0)), rfl, bel.frame _, fun h => by cases h⟩
theorem over : Rows.lockRoundsRow.holds Try.pinned (OpenSpec.ofChange Rows.lockRoundsSpec) :=
  OpenClaim.holds_of_wide 7 Try.f7 rfl rfl rfl rfl rfl rfl rfl ⟨rfl, rfl, rfl, rfl, rfl⟩ rfl rfl rfl rfl rfl (by kernel_rfl) Try.func7 (by kernel_rfl)
    (of_decide_eq_true (by kernel_rfl)) (by unfold Func.isWrapper; first | (rw [if_pos (by decide +kernel)]; kernel_rfl) | (rw [if_neg (by decide +kernel)]; exact ⟨rfl, rfl⟩))
    (fun os started H enc _ => lifted os started H enc)
end Go.Proofs.Ytgokacdljnemgaa.lockRounds
namespace Go.Proofs.Ytgokacdljnemgaa
/-- THE STATEMENT. -/
theorem lockRounds_said : Rows.LockRoundsSaid := lockRounds.over
#print axioms lockRounds_said
end Go.Proofs.Ytgokacdljnemgaa
