/-
  IrqNone: a line that is not bound is neither open nor raised meanwhile; raised or heard it tells nothing; no condition.
-/
import Derived.Test.YtgkcbcigdjappaaILaw
import Derived.Deep.Cut
import Derived.Deep.CutRange
namespace Go.Proofs.Ytgkcbcigdjappaa.irqNone
open Go.RowKit Go.Deep Go.Shelf
/-- Of lines that are all unbound, a call at one that is there. -/
theorem quiet_at (f : Ln → Bool) (h : Ln → Ln) (n k : Nat) (hk : k < n) (hf : f ln0 = false) (hh : h ln0 = ln0) : telA f (List.replicate n ln0) (k : Int) = 0 ∧ telG f (List.replicate n ln0) (k : Int) = 0 ∧ telB f (List.replicate n ln0) (k : Int) = false ∧ telE (List.replicate n ln0) (k : Int) = 0 ∧ telS h (List.replicate n ln0) (k : Int) = List.replicate n ln0 := by
  have e := all_at n (k : Int) (by omega) (by omega)
  have e2 : (List.replicate n ln0)[k]? = some ln0 := by rw [← atI_nat]; exact e
  refine ⟨?_, ?_, ?_, ?_, ?_⟩
  · simp [telA, e, hf]
  · simp [telG, e, hf]
  · simp [telB, e, hf]
  · simp [telE, e]
  · unfold telS
    rw [e]
    simp only [hh]
    rw [put_nat, set_same e2]
theorem out_at (f : Ln → Bool) (h : Ln → Ln) (n : Nat) (k : Int) (hk : (n : Int) ≤ k) : telA f (List.replicate n ln0) k = 0 ∧ telG f (List.replicate n ln0) k = 0 ∧ telB f (List.replicate n ln0) k = false ∧ telE (List.replicate n ln0) k = 130 ∧ telS h (List.replicate n ln0) k = List.replicate n ln0 := by
  have e : atI (List.replicate n ln0) k = none := atI_out (.inr (by rw [List.length_replicate]; exact hk))
  refine ⟨?_, ?_, ?_, ?_, ?_⟩
  · simp [telA, e]
  · simp [telG, e]
  · simp [telB, e]
  · simp [telE, e]
  · simp [telS, e]
set_option maxHeartbeats 8000000 in
set_option maxRecDepth 100000 in
theorem walk (a b : Int) (z : Bool) (w : World) (_ha : -9223372036854775808 ≤ a ∧ a ≤ 9223372036854775807) (_hb : -9223372036854775808 ≤ b ∧ b ≤ 9223372036854775807) :
    Calls Try.prog 8 #[.int .i64 a, .int .i64 b, .bool z] w fun e w' => e = .returned (.bool true) ∧ Below w.heap.size w w' := by
  obtain ⟨j, hj1, hj⟩ := mask63 a
  obtain ⟨n, hn⟩ : ∃ n : Nat, n = j + 1 := ⟨_, rfl⟩
  have hjn : 1 + (j : Int) = (n : Int) := by omega
  obtain ⟨m, hm1, hm⟩ := mask64k b
  obtain ⟨k, hk1, hk⟩ := rem_nat m (n : Int) (by omega)
  have hn1 : 1 ≤ n := by omega
  have hn64 : n ≤ 64 := by omega
  have HRa := hid (quiet_at isO raiseX n k (by omega) rfl rfl)
  have HA := hid (quiet_at isM ackX n k (by omega) rfl rfl)
  have HO := hid (out_at isO raiseX n ((n : Int) + (m : Int)) (by omega))
  have HF : Hid (freeE (List.replicate n ln0) (k : Int) = 131 ∧ freeS (List.replicate n ln0) (k : Int) = List.replicate n ln0) := by
    have e := all_at n (k : Int) (by omega) (by omega)
    exact ⟨by unfold freeE; rw [e]; rfl, by unfold freeS; rw [e]; rfl⟩
  have hn0 : ¬ (n : Int) = 0 := by omega
  clear _ha _hb hn
  go_enter Try.func8, Try.ntmps8
  go_wp2_with fail
  refine Calls.mono (new_sep (sep_nil w) n hn1 hn64) ?_
  rintro e w1 ⟨p, v, rfl, s1⟩
  have S1 : Hid (Sep w w.heap.size w1 [lnT p v (List.replicate n ln0)]) := s1
  clear s1
  generalize hr : w.heap.size = r at *
  have HR := hid hr
  clear hr
  go_wp2_with fail
  refine Calls.mono (raise_is (T := (List.replicate n ln0)) S1.out (k : Int) HRa.out.1 HRa.out.2.1 HRa.out.2.2.1 HRa.out.2.2.2.1 HRa.out.2.2.2.2) ?_
  rintro e w2 ⟨rfl, sw2⟩
  have S2 := hid sw2
  clear sw2 S1
  cases z with
  | true =>
    go_wp2_with fail
    refine Calls.mono (ack_is (T := (List.replicate n ln0)) S2.out (k : Int) HA.out.1 HA.out.2.1 HA.out.2.2.1 HA.out.2.2.2.1 HA.out.2.2.2.2) ?_
    rintro e wA ⟨rfl, swA⟩
    have SA := hid swA
    clear swA S2
    go_wp2_with fail
    refine Calls.mono (open_is (o := false) (m := false) SA.out (k : Int) HRa.out.2.2.1 HA.out.2.2.1) ?_
    rintro e w3 ⟨rfl, sw3⟩
    have S3 := hid sw3
    clear sw3 SA
    go_wp2_with fail
    refine Calls.mono (raise_is (T := (List.replicate n ln0)) S3.out ((n : Int) + (m : Int)) HO.out.1 HO.out.2.1 HO.out.2.2.1 HO.out.2.2.2.1 HO.out.2.2.2.2) ?_
    rintro e w4 ⟨rfl, sw4⟩
    have S4 := hid sw4
    clear sw4 S3
    go_wp2_with (first
      | (go_at_call 13; refine Calls.mono (free_is (T := (List.replicate n ln0)) S4.out (k : Int) HF.out.1 HF.out.2) ?_; rintro e w5 ⟨rfl, sw5⟩; have S5 := hid sw5; clear sw5 S4)
      | (go_at_call 22; refine Calls.mono (fixed_sep S5.out) ?_; rintro e wf ⟨rfl, sf⟩; have SF := hid sf; clear sf S5))
    go_ret
    exact ⟨rfl, by rw [HR.out]; exact SF.out.low⟩
  | false =>
    go_wp2_with fail
    refine Calls.mono (open_is (o := false) (m := false) S2.out (k : Int) HRa.out.2.2.1 HA.out.2.2.1) ?_
    rintro e w3 ⟨rfl, sw3⟩
    have S3 := hid sw3
    clear sw3 S2
    go_wp2_with fail
    refine Calls.mono (raise_is (T := (List.replicate n ln0)) S3.out ((n : Int) + (m : Int)) HO.out.1 HO.out.2.1 HO.out.2.2.1 HO.out.2.2.2.1 HO.out.2.2.2.2) ?_
    rintro e w4 ⟨rfl, sw4⟩
    have S4 := hid sw4
    clear sw4 S3
    go_wp2_with (first
      | (go_at_call 13; refine Calls.mono (free_is (T := (List.replicate n ln0)) S4.out (k : Int) HF.out.1 HF.out.2) ?_; rintro e w5 ⟨rfl, sw5⟩; have S5 := hid sw5; clear sw5 S4)
      | (go_at_call 22; refine Calls.mono (fixed_sep S5.out) ?_; rintro e wf ⟨rfl, sf⟩; have SF := hid sf; clear sf S5))
    go_ret
    exact ⟨rfl, by rw [HR.out]; exact SF.out.low⟩
open Go.ChangeShapes Go.WideShapes Go.ChangeAt Go.RowKit Go.Joins

/-! ### From the walk to the statement -/
set_option maxRecDepth 100000 in
theorem lifted (os : Os) (started : os.Started) (H : Type) (enc : TypeId × Value → H) :
    ReturnsInHanded {} Try.checked os 8 .any (Rows.irqNoneSpec.pre6 enc Try.prog Try.f8 Rows.irqNoneRow.domain false) (Rows.irqNoneSpec.post enc Try.prog Try.f8 false true false false) := by
  refine returnsInHanded_of_change (C := Try.checked) own started (by kernel_rfl) Try.func8
    (ChangeSpec.witness6 (enc := enc) (C := Try.checked) false ⟨#[], #[.int .i64 0, .int .i64 0, .bool false], []⟩ 8 (by kernel_rfl) (by kernel_rfl) (by kernel_rfl) (by kernel_rfl)) ?_
  intro W base args ds gs before hval0 hW hcnd _
  have hval : ∀ (j : Nat) t v, Try.f8.params[j]? = some t → args[j]? = some v → Value.okWide Try.prog W .any base t v := hval0
  have hW' := hW
  obtain ⟨p, q, hA0, hV, rfl, hfz, hnd⟩ := hW
  have hA : DataW.TrodAll enc Try.prog W 0 (fun _ => true) true Try.f8.params.toList args.toList ds p := hA0
  rw [Try.params8] at hA hval
  obtain ⟨v0, vs0, d0, ds0, p0, q0, hargs, rfl, rfl, h0, r0⟩ := trodAll_cons hA
  obtain ⟨v1, vs1, d1, ds1, p1, q1, rfl, rfl, rfl, h1, r1⟩ := trodAll_cons r0
  obtain ⟨v2, vs2, d2, ds2, p2, q2, rfl, rfl, rfl, h2, r2⟩ := trodAll_cons r1
  obtain ⟨rfl, rfl, rfl⟩ := trodAll_nil r2
  obtain rfl : args = #[v0, v1, v2] := by cases args; simp_all
  obtain ⟨rfl, rfl⟩ := trodVars_none hV
  have k0 := h0
  have lt0 : ∀ x ∈ p0, x.block < W.heap.size := by obtain ⟨m, hm⟩ := k0; exact DataW.trod_lt m _ _ _ hm
  obtain ⟨a0, rfl, _, _, w0⟩ := open_int Try.underlying3 (hval 0 3 v0 rfl rfl) h0
  have k1 := h1
  have lt1 : ∀ x ∈ p1, x.block < W.heap.size := by obtain ⟨m, hm⟩ := k1; exact DataW.trod_lt m _ _ _ hm
  obtain ⟨a1, rfl, _, _, w1⟩ := open_int Try.underlying3 (hval 1 3 v1 rfl rfl) h1
  have k2 := h2
  have lt2 : ∀ x ∈ p2, x.block < W.heap.size := by obtain ⟨m, hm⟩ := k2; exact DataW.trod_lt m _ _ _ hm
  obtain ⟨a2, rfl, _, _⟩ := open_bool Try.underlying4 (hval 2 4 v2 rfl rfl) h2
  clear hA0 hval0
  refine (walk a0 a1 a2 W (bounds_i64 w0) (bounds_i64 w1)).mono fun e W' ⟨he, bel⟩ => ?_
  subst he
  exact ⟨_, rfl, _, _, _, [], _, [], hW', trodAll_mk1 (shut_bool Try.underlying4 _), (trodAll_cons_mk (Below.trod laidOut (by kernel_rfl) (of_decide_eq_true (by kernel_rfl)) k0 bel lt0) (trodAll_cons_mk (Below.trod laidOut (by kernel_rfl) (of_decide_eq_true (by kernel_rfl)) k1 bel lt1) (trodAll_cons_mk (Below.trod laidOut (by kernel_rfl) (of_decide_eq_true (by kernel_rfl)) k2 bel lt2) trodAll_mk0))), rfl, bel.frame _, fun h => by cases h⟩
theorem over : Rows.irqNoneRow.holds Try.pinned (OpenSpec.ofChange Rows.irqNoneSpec) :=
  OpenClaim.holds_of_wide 8 Try.f8 rfl rfl rfl rfl rfl rfl rfl ⟨rfl, rfl, rfl, rfl, rfl⟩ rfl rfl rfl rfl rfl (by kernel_rfl) Try.func8 (by kernel_rfl)
    (of_decide_eq_true (by kernel_rfl)) (by unfold Func.isWrapper; first | (rw [if_pos (by decide +kernel)]; kernel_rfl) | (rw [if_neg (by decide +kernel)]; exact ⟨rfl, rfl⟩))
    (fun os started H enc _ => lifted os started H enc)
end Go.Proofs.Ytgkcbcigdjappaa.irqNone
namespace Go.Proofs.Ytgkcbcigdjappaa
/-- THE STATEMENT. -/
theorem irqNone_said : Rows.IrqNoneSaid := irqNone.over
#print axioms irqNone_said
end Go.Proofs.Ytgkcbcigdjappaa
