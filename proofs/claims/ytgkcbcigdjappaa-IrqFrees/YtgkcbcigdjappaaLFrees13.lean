/-
  IrqFrees: a line that is freed tells nothing any more; bound anew it is open, and what was raised meanwhile is forgotten; no condition.
-/
import Derived.Test.YtgkcbcigdjappaaILaw
import Derived.Deep.Cut
import Derived.Deep.CutRange
namespace Go.Proofs.Ytgkcbcigdjappaa.irqFrees
open Go.RowKit Go.Deep Go.Shelf
set_option maxHeartbeats 8000000 in
set_option maxRecDepth 100000 in
theorem walk (a b g : Int) (w : World) (_ha : -9223372036854775808 ≤ a ∧ a ≤ 9223372036854775807) (_hb : -9223372036854775808 ≤ b ∧ b ≤ 9223372036854775807) (_hg : 0 ≤ g ∧ g ≤ 18446744073709551615) :
    Calls Try.prog 7 #[.int .i64 a, .int .i64 b, .int .u64 g] w fun e w' => e = .returned (.bool true) ∧ Below w.heap.size w w' := by
  obtain ⟨t, ht1, ht⟩ := mask7 a
  obtain ⟨k, hk1, hk⟩ := mask64k b
  obtain ⟨g1, hg1⟩ : ∃ g1, IntKind.u64.wrap (g + 1) = g1 := ⟨_, rfl⟩
  have HB : Hid (bindE [ln0] 0 (k : Int) = 0 ∧ bindS [ln0] 0 (k : Int) g = [⟨(some none), (k : Int), g⟩] ∧ bindE [ln0] 0 ((k : Int) + 1) = 0 ∧ bindS [ln0] 0 ((k : Int) + 1) g1 = [⟨(some none), (k : Int) + 1, g1⟩]) := by
    have h1 : ¬ (k : Int) < 0 := by omega
    have h2 : ¬ (k : Int) + 1 < 0 := by omega
    have e : atI [ln0] 0 = some ln0 := rfl
    refine ⟨?_, ?_, ?_, ?_⟩
    · unfold bindE; rw [e]; simp only [h1, if_false]; rfl
    · unfold bindS; rw [e]; simp only [h1, if_false]; rfl
    · unfold bindE; rw [e]; simp only [h2, if_false]; rfl
    · unfold bindS; rw [e]; simp only [h2, if_false]; rfl
  clear _ha _hb _hg
  go_enter Try.func7, Try.ntmps7
  go_wp2_with fail
  refine Calls.mono (new_sep (sep_nil w) 1 (by omega) (by omega)) ?_
  rintro e w1 ⟨p, v, rfl, s1⟩
  have S1 : Hid (Sep w w.heap.size w1 [lnT p v [ln0]]) := s1
  clear s1
  generalize hr : w.heap.size = r at *
  have HR := hid hr
  clear hr
  go_wp2_with fail
  refine Calls.mono (bind_is S1.out 0 (k : Int) g HB.out.1 HB.out.2.1) ?_
  rintro e w2 ⟨rfl, sw2⟩
  have S2 := hid sw2
  clear sw2 S1
  go_wp2_with fail
  go_loopw [11] (fun s11 wr => ∃ (i : Nat) (s : Is), i ≤ t ∧ s11 = .int .i64 i ∧ s ≠ none ∧ Sep w r wr [lnT p v [⟨s, (k : Int), g⟩]]) (fun s11 _ => t - (intOf s11).toNat)
  case atStart => exact ⟨0, (some none), by omega, rfl, by decide, S2.out⟩
  case round =>
    clear S2
    obtain ⟨i, s, hi, rfl, hs, s1⟩ := hrel
    have S1 := hid s1
    clear s1
    by_cases hlt : i < t
    · have hltz : (i : Int) < (t : Int) := by omega
      rcases s with _ | _ | _ | _
      · exact absurd rfl hs
      · clear hs
        go_wp2_with fail
        refine Calls.mono (raise_is (a := (k : Int)) (g := g) (q := true) (E := 0) (T := [⟨(some (some false)), (k : Int), g⟩]) S1.out 0 rfl rfl rfl rfl rfl) ?_
        rintro e w3 ⟨rfl, sw3⟩
        have S3 := hid sw3
        clear sw3 S1
        go_wp2
        go_round
        case rel => exact ⟨i + 1, (some (some false)), by omega, by go_num, by decide, S3.out⟩
        case measure => simp [intOf]; omega
      · clear hs
        go_wp2_with fail
        refine Calls.mono (raise_is (a := 0) (g := 0) (q := false) (E := 0) (T := [⟨(some (some true)), (k : Int), g⟩]) S1.out 0 rfl rfl rfl rfl rfl) ?_
        rintro e w3 ⟨rfl, sw3⟩
        have S3 := hid sw3
        clear sw3 S1
        go_wp2
        go_round
        case rel => exact ⟨i + 1, (some (some true)), by omega, by go_num, by decide, S3.out⟩
        case measure => simp [intOf]; omega
      · clear hs
        go_wp2_with fail
        refine Calls.mono (raise_is (a := 0) (g := 0) (q := false) (E := 0) (T := [⟨(some (some true)), (k : Int), g⟩]) S1.out 0 rfl rfl rfl rfl rfl) ?_
        rintro e w3 ⟨rfl, sw3⟩
        have S3 := hid sw3
        clear sw3 S1
        go_wp2
        go_round
        case rel => exact ⟨i + 1, (some (some true)), by omega, by go_num, by decide, S3.out⟩
        case measure => simp [intOf]; omega
    · have hltz : ¬ (i : Int) < (t : Int) := by omega
      have HF : Hid (freeE [⟨s, (k : Int), g⟩] 0 = 0 ∧ freeS [⟨s, (k : Int), g⟩] 0 = [ln0]) := by
        rcases s with _ | _ | _ | _
        · exact absurd rfl hs
        all_goals exact ⟨rfl, rfl⟩
      clear hs hlt
      go_wp2_with fail
      refine Calls.mono (free_is S1.out 0 HF.out.1 HF.out.2) ?_
      rintro e w3 ⟨rfl, sw3⟩
      have S3 := hid sw3
      clear sw3 S1
      go_wp2_with fail
      refine Calls.mono (raise_is (a := 0) (g := 0) (q := false) (E := 0) (T := [ln0]) S3.out 0 rfl rfl rfl rfl rfl) ?_
      rintro e w4 ⟨rfl, sw4⟩
      have S4 := hid sw4
      clear sw4 S3
      go_wp2_with fail
      refine Calls.mono (ack_is (a := 0) (g := 0) (q := false) (E := 0) (T := [ln0]) S4.out 0 rfl rfl rfl rfl rfl) ?_
      rintro e w5 ⟨rfl, sw5⟩
      have S5 := hid sw5
      clear sw5 S4
      go_wp2_with fail
      refine Calls.mono (bind_is S5.out 0 ((k : Int) + 1) g1 HB.out.2.2.1 HB.out.2.2.2) ?_
      rintro e w6 ⟨rfl, sw6⟩
      have S6 := hid sw6
      clear sw6 S5
      go_wp2_with fail
      refine Calls.mono (open_is (o := true) (m := false) S6.out 0 rfl rfl) ?_
      rintro e w7 ⟨rfl, sw7⟩
      have S7 := hid sw7
      clear sw7 S6
      go_wp2_with fail
      refine Calls.mono (raise_is (a := (k : Int) + 1) (g := g1) (q := true) (E := 0) (T := [⟨(some (some false)), (k : Int) + 1, g1⟩]) S7.out 0 rfl rfl rfl rfl rfl) ?_
      rintro e w8 ⟨rfl, sw8⟩
      have S8 := hid sw8
      clear sw8 S7
      go_wp2_with (go_at_call 22; refine Calls.mono (fixed_sep S8.out) ?_; rintro e wf ⟨rfl, sf⟩; have SF := hid sf; clear sf S8)
      go_ret
      exact ⟨rfl, by rw [HR.out]; exact SF.out.low⟩
open Go.ChangeShapes Go.WideShapes Go.ChangeAt Go.RowKit Go.Joins

/-! ### From the walk to the statement -/
set_option maxRecDepth 100000 in
theorem lifted (os : Os) (started : os.Started) (H : Type) (enc : TypeId × Value → H) :
    ReturnsInHanded {} Try.checked os 7 .any (Rows.irqFreesSpec.pre6 enc Try.prog Try.f7 Rows.irqFreesRow.domain false) (Rows.irqFreesSpec.post enc Try.prog Try.f7 false true false false) := by
  refine returnsInHanded_of_change (C := Try.checked) own started (by kernel_rfl) Try.func7
    (ChangeSpec.witness6 (enc := enc) (C := Try.checked) false ⟨#[], #[.int .i64 0, .int .i64 0, .int .u64 0], []⟩ 8 (by kernel_rfl) (by kernel_rfl) (by kernel_rfl) (by kernel_rfl)) ?_
  intro W base args ds gs before hval0 hW hcnd _
  have hval : ∀ (j : Nat) t v, Try.f7.params[j]? = some t → args[j]? = some v → Value.okWide Try.prog W .any base t v := hval0
  have hW' := hW
  obtain ⟨p, q, hA0, hV, rfl, hfz, hnd⟩ := hW
  have hA : DataW.TrodAll enc Try.prog W 0 (fun _ => true) true Try.f7.params.toList args.toList ds p := hA0
  rw [Try.params7] at hA hval
  obtain ⟨v0, vs0, d0, ds0, p0, q0, hargs, rfl, rfl, h0, r0⟩ := trodAll_cons hA
  obtain ⟨v1, vs1, d1, ds1, p1, q1, rfl, rfl, rfl, h1, r1⟩ := trodAll_cons r0
  obtain ⟨v2, vs2, d2, ds2, p2, q2, rfl, rfl, rfl, h2, r2⟩ := trodAll_cons r1
  obtain ⟨rfl, rfl, rfl⟩ := trodAll_nil r2
  obtain rfl : args = #[v0, v1, v2] := by cases args; simp_all
  obtain ⟨rfl, rfl⟩ := trodVars_none hV
  have k0 := h0
  have lt0 : ∀ x ∈ p0, x.block < W.heap.size := by obtain ⟨m, hm⟩ := k0; exact DataW.trod_lt m _ _ _ hm
  obtain ⟨a0, rfl, _, _, w0⟩ := open_int Try.underlying3 (hval 0 3 v0 rfl rfl) h0
  have k1 := h1
  have lt1 : ∀ x ∈ p1, x.block < W.heap.size := by obtain ⟨m, hm⟩ := k1; exact DataW.trod_lt m _ _ _ hm
  obtain ⟨a1, rfl, _, _, w1⟩ := open_int Try.underlying3 (hval 1 3 v1 rfl rfl) h1
  have k2 := h2
  have lt2 : ∀ x ∈ p2, x.block < W.heap.size := by obtain ⟨m, hm⟩ := k2; exact DataW.trod_lt m _ _ _ hm
  obtain ⟨a2, rfl, _, _, w2⟩ := open_int Try.underlying30 (hval 2 30 v2 rfl rfl) h2
  clear hA0 hval0
  refine (walk a0 a1 a2 W (bounds_i64 w0) (bounds_i64 w1) (bounds_u64 w2)).mono fun e W' ⟨he, bel⟩ => ?_
  subst he
  exact ⟨_, rfl, _, _, _, [], _, [], hW', trodAll_mk1 (shut_bool Try.underlying4 _), (trodAll_cons_mk (Below.trod laidOut (by kernel_rfl) (of_decide_eq_true (by kernel_rfl)) k0 bel lt0) (trodAll_cons_mk (Below.trod laidOut (by kernel_rfl) (of_decide_eq_true (by kernel_rfl)) k1 bel lt1) (trodAll_cons_mk (Below.trod laidOut (by kernel_rfl) (of_decide_eq_true (by kernel_rfl)) k2 bel lt2) trodAll_mk0))), rfl, bel.frame _, fun h => by cases h⟩
theorem over : Rows.irqFreesRow.holds Try.pinned (OpenSpec.ofChange Rows.irqFreesSpec) :=
  OpenClaim.holds_of_wide 7 Try.f7 rfl rfl rfl rfl rfl rfl rfl ⟨rfl, rfl, rfl, rfl, rfl⟩ rfl rfl rfl rfl rfl (by kernel_rfl) Try.func7 (by kernel_rfl)
    (of_decide_eq_true (by kernel_rfl)) (by unfold Func.isWrapper; first | (rw [if_pos (by decide +kernel)]; kernel_rfl) | (rw [if_neg (by decide +kernel)]; exact ⟨rfl, rfl⟩))
    (fun os started H enc _ => lifted os started H enc)
end Go.Proofs.Ytgkcbcigdjappaa.irqFrees
namespace Go.Proofs.Ytgkcbcigdjappaa
/-- THE STATEMENT. -/
theorem irqFrees_said : Rows.IrqFreesSaid := irqFrees.over
#print axioms irqFrees_said
end Go.Proofs.Ytgkcbcigdjappaa
