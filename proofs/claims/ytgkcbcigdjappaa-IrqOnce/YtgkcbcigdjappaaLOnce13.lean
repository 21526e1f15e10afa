/-
  IrqOnce: between two that are told there is an Ack; however often a line is raised meanwhile, it is told once for it; what is raised is told, then or behind the Ack; no condition.
-/
import Derived.Test.YtgkcbcigdjappaaILaw
import Derived.Deep.Cut
import Derived.Deep.CutRange
namespace Go.Proofs.Ytgkcbcigdjappaa.irqOnce
open Go.RowKit Go.Deep Go.Shelf
def shut : Is → Bool
  | some (some false) => true
  | some (some true) => true
  | _ => false
def again : Is → Bool
  | some (some true) => true
  | _ => false
set_option maxHeartbeats 8000000 in
set_option maxRecDepth 100000 in
theorem walk (ao : Option Addr) (X : List Oc) (cap : Nat) (w : World) (hX : Ops w ao X) (_hxl : X.length ≤ 9223372036854775807) :
    Calls Try.prog 5 #[.slice ao X.length cap] w fun e w' => e = .returned (.bool true) ∧ Below w.heap.size w w' := by
  have HX := hid hX
  clear hX
  go_enter Try.func5, Try.ntmps5
  go_wp2_with fail
  refine Calls.mono (new_sep (sep_nil w) 1 (by omega) (by omega)) ?_
  rintro e w1 ⟨p, v, rfl, s1⟩
  have S1 : Hid (Sep w w.heap.size w1 [lnT p v [ln0]]) := s1
  clear s1
  generalize hr : w.heap.size = r at *
  have HR := hid hr
  clear hr
  go_wp2_with ((go_at_call 11; refine Calls.mono (bind_is (E := 0) (T := [⟨(some none), 5, 9⟩]) S1.out 0 5 9 rfl rfl) ?_; rintro e w2 ⟨rfl, sw2⟩; have S2 := hid sw2; clear sw2 S1))
  go_loopw [5, 6, 7] (fun s5 s6 s7 wr => ∃ (i : Nat) (s : Is), i ≤ 80 ∧ s7 = .int .i64 i ∧ s5 = .bool (shut s) ∧ s6 = .bool (again s) ∧ s ≠ none ∧ Sep w r wr [lnT p v [⟨s, 5, 9⟩]]) (fun _ _ s7 _ => 80 - (intOf s7).toNat)
  case atStart => exact ⟨0, (some none), by omega, rfl, rfl, rfl, by decide, S2.out⟩
  case round =>
    clear S2
    obtain ⟨i, s, hk, rfl, rfl, rfl, hs, s1⟩ := hrel
    have S1 := hid s1
    clear s1
    by_cases hgo : i < X.length ∧ i < 80
    · obtain ⟨hlt, h40⟩ := hgo
      obtain ⟨hf, b0, a0, rfl, d0, d1, d2, d3⟩ := Ops.at (SeeK.below HX.out S1.out.low (by rw [HR.out]; exact Nat.le_refl _)) (List.getElem?_eq_getElem hlt)
      generalize hx : X[i] = x at *
      clear hx
      generalize hn : X.length = n at *
      have hltz : (i : Int) < (n : Int) := by omega
      have h40z : (i : Int) < 80 := by omega
      by_cases hk3 : x.k = 3
      · have hq3 : (x.k == 3) = true := by simpa using hk3
        clear hk3
        rcases s with _ | _ | _ | _
        · exact absurd rfl hs
        · simp only [shut, again]
          clear hs
          go_wp2_with fail
          refine Calls.mono (ack_is (a := 0) (g := 0) (q := false) (E := 0) (T := [⟨(some none), 5, 9⟩]) S1.out 0 rfl rfl rfl rfl rfl) ?_
          rintro e w2 ⟨rfl, sw2⟩
          have S2 := hid sw2
          clear sw2 S1
          go_wp2
          go_round
          case rel => exact ⟨i + 1, (some none), by omega, by go_num, rfl, rfl, by decide, S2.out⟩
          case measure => simp [intOf]; omega
        · simp only [shut, again]
          clear hs
          go_wp2_with fail
          refine Calls.mono (ack_is (a := 0) (g := 0) (q := false) (E := 0) (T := [⟨(some none), 5, 9⟩]) S1.out 0 rfl rfl rfl rfl rfl) ?_
          rintro e w2 ⟨rfl, sw2⟩
          have S2 := hid sw2
          clear sw2 S1
          go_wp2
          go_round
          case rel => exact ⟨i + 1, (some none), by omega, by go_num, rfl, rfl, by decide, S2.out⟩
          case measure => simp [intOf]; omega
        · simp only [shut, again]
          clear hs
          go_wp2_with fail
          refine Calls.mono (ack_is (a := 5) (g := 9) (q := true) (E := 0) (T := [⟨(some (some false)), 5, 9⟩]) S1.out 0 rfl rfl rfl rfl rfl) ?_
          rintro e w2 ⟨rfl, sw2⟩
          have S2 := hid sw2
          clear sw2 S1
          go_wp2
          go_round
          case rel => exact ⟨i + 1, (some (some false)), by omega, by go_num, rfl, rfl, by decide, S2.out⟩
          case measure => simp [intOf]; omega
      · have hq3 : (x.k == 3) = false := by simpa using hk3
        clear hk3
        rcases s with _ | _ | _ | _
        · exact absurd rfl hs
        · simp only [shut, again]
          clear hs
          go_wp2_with fail
          refine Calls.mono (raise_is (a := 5) (g := 9) (q := true) (E := 0) (T := [⟨(some (some false)), 5, 9⟩]) S1.out 0 rfl rfl rfl rfl rfl) ?_
          rintro e w2 ⟨rfl, sw2⟩
          have S2 := hid sw2
          clear sw2 S1
          go_wp2
          go_round
          case rel => exact ⟨i + 1, (some (some false)), by omega, by go_num, rfl, rfl, by decide, S2.out⟩
          case measure => simp [intOf]; omega
        · simp only [shut, again]
          clear hs
          go_wp2_with fail
          refine Calls.mono (raise_is (a := 0) (g := 0) (q := false) (E := 0) (T := [⟨(some (some true)), 5, 9⟩]) S1.out 0 rfl rfl rfl rfl rfl) ?_
          rintro e w2 ⟨rfl, sw2⟩
          have S2 := hid sw2
          clear sw2 S1
          go_wp2
          go_round
          case rel => exact ⟨i + 1, (some (some true)), by omega, by go_num, rfl, rfl, by decide, S2.out⟩
          case measure => simp [intOf]; omega
        · simp only [shut, again]
          clear hs
          go_wp2_with fail
          refine Calls.mono (raise_is (a := 0) (g := 0) (q := false) (E := 0) (T := [⟨(some (some true)), 5, 9⟩]) S1.out 0 rfl rfl rfl rfl rfl) ?_
          rintro e w2 ⟨rfl, sw2⟩
          have S2 := hid sw2
          clear sw2 S1
          go_wp2
          go_round
          case rel => exact ⟨i + 1, (some (some true)), by omega, by go_num, rfl, rfl, by decide, S2.out⟩
          case measure => simp [intOf]; omega
    · have hex : (¬ ((i : Int) < (X.length : Int))) ∨ ((i : Int) < (X.length : Int) ∧ ¬ ((i : Int) < 80)) := by omega
      clear hgo
      generalize hn : X.length = nX at *
      rcases hex with h | ⟨h, h2⟩
      all_goals
        go_wp2_with fail
        refine Calls.mono (fixed_sep S1.out) ?_
        rintro e w2 ⟨rfl, s2⟩
        have S2 := hid s2
        clear s2
        go_wp2
        go_ret
        exact ⟨rfl, by rw [HR.out]; exact S2.out.low⟩
open Go.ChangeShapes Go.WideShapes Go.ChangeAt Go.RowKit Go.Joins

/-! ### From the walk to the statement -/
set_option maxRecDepth 100000 in
theorem lifted (os : Os) (started : os.Started) (H : Type) (enc : TypeId × Value → H) :
    ReturnsInHanded {} Try.checked os 5 .any (Rows.irqOnceSpec.pre6 enc Try.prog Try.f5 Rows.irqOnceRow.domain false) (Rows.irqOnceSpec.post enc Try.prog Try.f5 false true false false) := by
  refine returnsInHanded_of_change (C := Try.checked) own started (by kernel_rfl) Try.func5
    (ChangeSpec.witness6 (enc := enc) (C := Try.checked) false ⟨#[], #[.slice none 0 0], []⟩ 8 (by kernel_rfl) (by kernel_rfl) (by kernel_rfl) (by kernel_rfl)) ?_
  intro W base args ds gs before hval0 hW hcnd _
  have hval : ∀ (j : Nat) t v, Try.f5.params[j]? = some t → args[j]? = some v → Value.okWide Try.prog W .any base t v := hval0
  have hW' := hW
  obtain ⟨p, q, hA0, hV, rfl, hfz, hnd⟩ := hW
  have hA : DataW.TrodAll enc Try.prog W 0 (fun _ => true) true Try.f5.params.toList args.toList ds p := hA0
  rw [Try.params5] at hA hval
  obtain ⟨v0, vs0, d0, ds0, p0, q0, hargs, rfl, rfl, h0, r0⟩ := trodAll_cons hA
  obtain ⟨rfl, rfl, rfl⟩ := trodAll_nil r0
  obtain rfl : args = #[v0] := by cases args; simp_all
  obtain ⟨rfl, rfl⟩ := trodVars_none hV
  have k0 := h0
  have lt0 : ∀ x ∈ p0, x.block < W.heap.size := by obtain ⟨m, hm⟩ := k0; exact DataW.trod_lt m _ _ _ hm
  obtain ⟨a0, l0, c0, rfl, t0, s0⟩ := open_ops (hval 0 22 v0 rfl rfl) h0
  clear hA0 hval0
  refine (walk a0 l0 c0 W t0 s0).mono fun e W' ⟨he, bel⟩ => ?_
  subst he
  exact ⟨_, rfl, _, _, _, [], _, [], hW', trodAll_mk1 (shut_bool Try.underlying4 _), (trodAll_cons_mk (Below.trod laidOut (by kernel_rfl) (of_decide_eq_true (by kernel_rfl)) k0 bel lt0) trodAll_mk0), rfl, bel.frame _, fun h => by cases h⟩
theorem over : Rows.irqOnceRow.holds Try.pinned (OpenSpec.ofChange Rows.irqOnceSpec) :=
  OpenClaim.holds_of_wide 5 Try.f5 rfl rfl rfl rfl rfl rfl rfl ⟨rfl, rfl, rfl, rfl, rfl⟩ rfl rfl rfl rfl rfl (by kernel_rfl) Try.func5 (by kernel_rfl)
    (of_decide_eq_true (by kernel_rfl)) (by unfold Func.isWrapper; first | (rw [if_pos (by decide +kernel)]; kernel_rfl) | (rw [if_neg (by decide +kernel)]; exact ⟨rfl, rfl⟩))
    (fun os started H enc _ => lifted os started H enc)
end Go.Proofs.Ytgkcbcigdjappaa.irqOnce
namespace Go.Proofs.Ytgkcbcigdjappaa
/-- THE STATEMENT. -/
theorem irqOnce_said : Rows.IrqOnceSaid := irqOnce.over
#print axioms irqOnce_said
end Go.Proofs.Ytgkcbcigdjappaa
