/-
  LockCopies: a copy and its original go their own ways; the copy's line is the same; no condition.
-/
import Derived.Test.YtgokacdljnemgaaZFixed
import Derived.Test.YtgokacdljnemgaaZSay
import Derived.Test.YtgokacdljnemgaaZPure
import Derived.Deep.Cut
import Derived.Deep.CutRange
namespace Go.Proofs.Ytgokacdljnemgaa.lockCopies
open Go.RowKit Go.Deep Go.Shelf
set_option maxHeartbeats 8000000 in
set_option maxRecDepth 100000 in
theorem walk (ao : Option Addr) (X : List Int) (cap : Nat) (core : Int) (w : World) (hX : SeeI w ao X) (_hxl : X.length ≤ 9223372036854775807) (_hc : I64 core) :
    Calls Try.prog 8 #[.slice ao X.length cap, .int .i64 core] w fun e w' => e = .returned (.bool true) ∧ Below w.heap.size w w' := by
  have HX := hid hX
  clear hX
  obtain ⟨c2, hc28, hmc⟩ := mask7 core
  go_enter Try.func8, Try.ntmps8
  go_wp2_with fail
  refine Calls.mono (new_sep (n := 8) (sep_nil w) (by omega) (by omega)) ?_
  rintro e w1 ⟨p, rfl, s1⟩
  have S1 := hid s1
  clear s1
  generalize hr : w.heap.size = r at *
  have HR := hid hr
  clear hr
  go_wp2_with fail
  go_loopw [7] (fun s7 wr => ∃ (i : Nat) (L : St), i ≤ 40 ∧ s7 = .int .i64 i ∧ Sep w r wr [lkT 8 p L]) (fun s7 _ => 40 - (intOf s7).toNat)
  case atStart => exact ⟨0, [], by omega, rfl, S1.out⟩
  case round =>
    clear S1
    obtain ⟨i, L, hi, rfl, s1⟩ := hrel
    have S1 := hid s1
    by_cases hgo : i < X.length ∧ i < 40
    · obtain ⟨hlt, h40⟩ := hgo
      obtain ⟨b, o, rfl, -, c0⟩ := (HX.out.from HR.out s1.low) i _ (List.getElem?_eq_getElem hlt)
      generalize X[i] = y at *
      obtain ⟨c, hc8, hmy⟩ := mask7 y
      have HH := hid (has_nat (n := 8) hc8)
      clear s1
      generalize hn : X.length = n at *
      have hltz : (i : Int) < (n : Int) := by omega
      have h40z : (i : Int) < 40 := by omega
      by_cases hin : inB L (c : Int) = true
      · have HE := hid (enter_old HH.out hin)
        clear hin
        go_wp2_with fail
        refine Calls.mono (enter_is S1.out (c : Int) HE.out.1 HE.out.2) ?_
        rintro e w2 ⟨rfl, s2⟩
        have S2 := hid s2
        clear s2 S1
        go_wp2_with fail
        refine Calls.mono (holder_sep S2.out) ?_
        rintro e w3 ⟨rfl, s3⟩
        have S3 := hid s3
        clear s3 S2
        generalize holdN L = hN at *
        generalize holdB L = hB at *
        go_wp2_with fail
        refine Calls.mono (leave_sep S3.out hN) ?_
        rintro e w4 ⟨rfl, s4⟩
        have S4 := hid s4
        clear s4 S3
        generalize leaveE 8 L hN = hE at *
        go_wp2
        go_round
        case rel => exact ⟨i + 1, _, by omega, by go_num, S4.out⟩
        case measure => simp [intOf]; omega
      · have hin2 : inB L (c : Int) = false := by simpa using hin
        have HE := hid (enter_new HH.out hin2)
        clear hin hin2
        go_wp2_with fail
        refine Calls.mono (enter_is S1.out (c : Int) HE.out.1 HE.out.2) ?_
        rintro e w2 ⟨rfl, s2⟩
        have S2 := hid s2
        clear s2 S1
        go_wp2
        go_round
        case rel => exact ⟨i + 1, _, by omega, by go_num, S2.out⟩
        case measure => simp [intOf]; omega
    · have hex : (¬ ((i : Int) < (X.length : Int))) ∨ ((i : Int) < (X.length : Int) ∧ ¬ ((i : Int) < 40)) := by omega
      have hG := s1.goodK
      clear hgo s1
      generalize hn : X.length = nX at *
      rcases hex with h | ⟨h, h2⟩
      all_goals
        rcases L with _ | ⟨x, T⟩
        · have HA : Hid (leaveE 8 [] 0 = 161 ∧ leaveS 8 [] 0 = []) := ⟨by decide, by decide⟩
          obtain ⟨m, hm⟩ : ∃ m, (([] : St)).length = m := ⟨_, rfl⟩
          have HM := hid hm
          clear hm
          go_wp2_with fail
          refine Calls.mono (line_is S1.out HM.out) ?_
          rintro e w2 ⟨a2, k2, rfl, s2⟩
          have S2 := hid s2
          clear s2 S1
          go_wp2_with fail
          refine Calls.mono (copy_sep S2.out) ?_
          rintro e w3 ⟨p3, rfl, s3⟩
          have S3 := hid s3
          clear s3 S2
          go_wp2_with fail
          refine Calls.mono (line_is S3.out HM.out) ?_
          rintro e w4 ⟨a4, k4, rfl, s4⟩
          have S4 := hid s4
          clear s4 S3
          go_wp2_with fail
          refine Calls.mono (nums_is S4.out (u := .slice a4 m k4) (v := .slice a2 m k2) (A := ([] : St)) (B := ([] : St)) (by simp) (by simp) (by have := S4.out.goodK.few; omega) rfl) ?_
          rintro e w5 ⟨rfl, s5⟩
          have S5 := hid s5.third.swap
          clear s5 S4
          go_wp2_with fail
          refine Calls.mono (holder_is (x := 0) (q := false) S5.out rfl rfl) ?_
          rintro e w6 ⟨rfl, s6⟩
          have S6 := hid s6
          clear s6 S5
          go_wp2_with fail
          refine Calls.mono (leave_is (e0 := 161) (T := ([] : St)) S6.out _ HA.out.1 HA.out.2) ?_
          rintro e w7 ⟨rfl, s7⟩
          have S7 := hid s7
          clear s7 S6
          go_wp2_with fail
          refine Calls.mono (enter_sep S7.out (c2 : Int)) ?_
          rintro e w8 ⟨rfl, s8⟩
          have S8 := hid s8.third.swap
          clear s8 S7
          generalize enterE 8 (([] : St)) (c2 : Int) = E8 at *
          go_wp2_with fail
          refine Calls.mono (holder_is (x := 0) (q := false) S8.out rfl rfl) ?_
          rintro e w9 ⟨rfl, s9⟩
          have S9 := hid s9
          clear s9 S8
          go_wp2_with fail
          refine Calls.mono (line_is S9.out HM.out) ?_
          rintro e w10 ⟨a10, k10, rfl, s10⟩
          have S10 := hid s10
          clear s10 S9
          go_wp2_with fail
          refine Calls.mono (nums_is S10.out (u := .slice a10 m k10) (v := .slice a2 m k2) (A := ([] : St)) (B := ([] : St)) (by simp) (by simp) (by have := S10.out.goodK.few; omega) rfl) ?_
          rintro e w11 ⟨rfl, s11⟩
          have S11 := hid s11
          clear s11 S10
          go_wp2_with (go_at_call 24; refine Calls.mono (fixed_sep S11.out) ?_; rintro e wf ⟨rfl, sf⟩; have SF := hid sf; clear sf S11)
          go_ret
          exact ⟨rfl, by rw [HR.out]; exact SF.out.low⟩
        · have HA := hid (leave_head (T := T) (hG.has (x := x) (by simp)))
          obtain ⟨m, hm⟩ : ∃ m, (x :: T).length = m := ⟨_, rfl⟩
          have HM := hid hm
          clear hm
          go_wp2_with fail
          refine Calls.mono (line_is S1.out HM.out) ?_
          rintro e w2 ⟨a2, k2, rfl, s2⟩
          have S2 := hid s2
          clear s2 S1
          go_wp2_with fail
          refine Calls.mono (copy_sep S2.out) ?_
          rintro e w3 ⟨p3, rfl, s3⟩
          have S3 := hid s3
          clear s3 S2
          go_wp2_with fail
          refine Calls.mono (line_is S3.out HM.out) ?_
          rintro e w4 ⟨a4, k4, rfl, s4⟩
          have S4 := hid s4
          clear s4 S3
          go_wp2_with fail
          refine Calls.mono (nums_is S4.out (u := .slice a4 m k4) (v := .slice a2 m k2) (A := x :: T) (B := x :: T) (by simp) (by simp) (by have := S4.out.goodK.few; omega) rfl) ?_
          rintro e w5 ⟨rfl, s5⟩
          have S5 := hid s5.third.swap
          clear s5 S4
          go_wp2_with fail
          refine Calls.mono (holder_is (x := x) (q := true) S5.out rfl rfl) ?_
          rintro e w6 ⟨rfl, s6⟩
          have S6 := hid s6
          clear s6 S5
          go_wp2_with fail
          refine Calls.mono (leave_is (e0 := 0) (T := T) S6.out _ HA.out.1 HA.out.2) ?_
          rintro e w7 ⟨rfl, s7⟩
          have S7 := hid s7
          clear s7 S6
          go_wp2_with fail
          refine Calls.mono (enter_sep S7.out (c2 : Int)) ?_
          rintro e w8 ⟨rfl, s8⟩
          have S8 := hid s8.third.swap
          clear s8 S7
          generalize enterE 8 (T) (c2 : Int) = E8 at *
          go_wp2_with fail
          refine Calls.mono (holder_is (x := x) (q := true) S8.out rfl rfl) ?_
          rintro e w9 ⟨rfl, s9⟩
          have S9 := hid s9
          clear s9 S8
          go_wp2_with fail
          refine Calls.mono (line_is S9.out HM.out) ?_
          rintro e w10 ⟨a10, k10, rfl, s10⟩
          have S10 := hid s10
          clear s10 S9
          go_wp2_with fail
          refine Calls.mono (nums_is S10.out (u := .slice a10 m k10) (v := .slice a2 m k2) (A := x :: T) (B := x :: T) (by simp) (by simp) (by have := S10.out.goodK.few; omega) rfl) ?_
          rintro e w11 ⟨rfl, s11⟩
          have S11 := hid s11
          clear s11 S10
          go_wp2_with (go_at_call 24; refine Calls.mono (fixed_sep S11.out) ?_; rintro e wf ⟨rfl, sf⟩; have SF := hid sf; clear sf S11)
          go_ret
          exact ⟨rfl, by rw [HR.out]; exact SF.out.low⟩
open Go.ChangeShapes Go.WideShapes Go.ChangeAt Go.RowKit Go.Joins

/-! ### From the walk to the statement -/
set_option maxRecDepth 100000 in
theorem lifted (os : Os) (started : os.Started) (H : Type) (enc : TypeId × Value → H) :
    ReturnsInHanded {} Try.checked os 8 .any (Rows.lockCopiesSpec.pre6 enc Try.prog Try.f8 Rows.lockCopiesRow.domain false) (Rows.lockCopiesSpec.post enc Try.prog Try.f8 false true false false) := by
  refine returnsInHanded_of_change (C := Try.checked) ownK started (by kernel_rfl) Try.func8
    (ChangeSpec.witness6 (enc := enc) (C := Try.checked) false ⟨#[], #[.slice none 0 0, .int .i64 0], []⟩ 8 (by kernel_rfl) (by kernel_rfl) (by kernel_rfl) (by kernel_rfl)) ?_
  intro W base args ds gs before hval0 hW hcnd _
  have hval : ∀ (j : Nat) t v, Try.f8.params[j]? = some t → args[j]? = some v → Value.okWide Try.prog W .any base t v := hval0
  have hW' := hW
  obtain ⟨p, q, hA0, hV, rfl, hfz, hnd⟩ := hW
  have hA : DataW.TrodAll enc Try.prog W 0 (fun _ => true) true Try.f8.params.toList args.toList ds p := hA0
  rw [Try.params8] at hA hval
  obtain ⟨v0, vs0, d0, ds0, p0, q0, hargs, rfl, rfl, h0, r0⟩ := trodAll_cons hA
  obtain ⟨v1, vs1, d1, ds1, p1, q1, rfl, rfl, rfl, h1, r1⟩ := trodAll_cons r0
  obtain ⟨rfl, rfl, rfl⟩ := trodAll_nil r1
  obtain rfl : args = #[v0, v1] := by cases args; simp_all
  obtain ⟨rfl, rfl⟩ := trodVars_none hV
  have k0 := h0
  have lt0 : ∀ x ∈ p0, x.block < W.heap.size := by obtain ⟨m, hm⟩ := k0; exact DataW.trod_lt m _ _ _ hm
  obtain ⟨a0, l0, c0, rfl, t0, s0⟩ := open_ints (hval 0 38 v0 rfl rfl) h0
  have k1 := h1
  have lt1 : ∀ x ∈ p1, x.block < W.heap.size := by obtain ⟨m, hm⟩ := k1; exact DataW.trod_lt m _ _ _ hm
  obtain ⟨a1, rfl, _, _, w1⟩ := open_int Try.underlying3 (hval 1 3 v1 rfl rfl) h1
  clear hA0 hval0
  refine (walk a0 l0 c0 a1 W t0 s0 (bounds_i64 w1)).mono fun e W' ⟨he, bel⟩ => ?_
  subst he
  exact ⟨_, rfl, _, _, _, [], _, [], hW', trodAll_mk1 (shut_bool Try.underlying4 _), (trodAll_cons_mk (Below.trod laidOut (by kernel_rfl) (of_decide_eq_true (by kernel_rfl)) k0 bel lt0) (trodAll_cons_mk (Below.trod laidOut (by kernel_rfl) (of_decide_eq_true (by kernel_rfl)) k1 bel lt1) trodAll_mk0)), rfl, bel.frame _, fun h => by cases h⟩
theorem over : Rows.lockCopiesRow.holds Try.pinned (OpenSpec.ofChange Rows.lockCopiesSpec) :=
  OpenClaim.holds_of_wide 8 Try.f8 rfl rfl rfl rfl rfl rfl rfl ⟨rfl, rfl, rfl, rfl, rfl⟩ rfl rfl rfl rfl rfl (by kernel_rfl) Try.func8 (by kernel_rfl)
    (of_decide_eq_true (by kernel_rfl)) (by unfold Func.isWrapper; first | (rw [if_pos (by decide +kernel)]; kernel_rfl) | (rw [if_neg (by decide +kernel)]; exact ⟨rfl, rfl⟩))
    (fun os started H enc _ => lifted os started H enc)
end Go.Proofs.Ytgokacdljnemgaa.lockCopies
namespace Go.Proofs.Ytgokacdljnemgaa
/-- THE STATEMENT. -/
theorem lockCopies_said : Rows.LockCopiesSaid := lockCopies.over
#print axioms lockCopies_said
end Go.Proofs.Ytgokacdljnemgaa
