/-
  NotifyTwice: what is signalled to a notification at which nobody waits is its word, all bits together; got once it is signalled no more; no condition.
-/
import Derived.Test.YtbkkpfmhcfkfbaaVLaw
import Derived.Deep.Cut
import Derived.Deep.CutRange
namespace Go.Proofs.Ytbkkpfmhcfkfbaa.notifyTwice
open Go.RowKit Go.Deep Go.Shelf
set_option maxHeartbeats 4000000 in
set_option maxRecDepth 100000 in
theorem walk (a b n : Int) (w : World) (ha : 0 ≤ a ∧ a ≤ 18446744073709551615) (hb : 0 ≤ b ∧ b ≤ 18446744073709551615) (_hn : -9223372036854775808 ≤ n ∧ n ≤ 9223372036854775807) :
    Calls Try.prog 6 #[.int .u64 a, .int .u64 b, .int .i64 n] w fun e w' => e = .returned (.bool true) ∧ Below w.heap.size w w' := by
  obtain ⟨c, hc⟩ : ∃ c, bits .or .u64 a b = c := ⟨_, rfl⟩
  have HA : Hid (U64 a ∧ U64 b ∧ sigS ns0 a = ⟨true, a, []⟩ ∧ sigS ⟨true, a, []⟩ b = ⟨true, c, []⟩) := ⟨ha, hb, by simp [sigS, ns0, zero_or ha], by simp [sigS, orI, hc]⟩
  have HB : Hid (waitW ⟨true, c, []⟩ n = c ∧ waitB ⟨true, c, []⟩ n = true ∧ waitE ⟨true, c, []⟩ n = 0 ∧ waitS ⟨true, c, []⟩ n true = ⟨false, 0, []⟩) := ⟨by simp [waitW, thB], by simp [waitB, thB], by simp [waitE, thB], by simp [waitS, thB]⟩
  clear ha hb _hn
  go_enter Try.func6, Try.ntmps6
  go_wp2_with fail
  refine Calls.mono (new_sep (sep_nil w)) ?_
  rintro e w1 ⟨p, v, rfl, s1⟩
  have S1 := hid s1
  clear s1
  generalize hr : w.heap.size = r at *
  have HR := hid hr
  clear hr
  go_wp2_with fail
  refine Calls.mono (signal_is (a := 0) (x := 0) (q := false) S1.out a HA.out.1 (by decide) rfl rfl rfl HA.out.2.2.1) ?_
  rintro e w2 ⟨rfl, v2, s2⟩
  have S2 := hid s2
  clear s2 S1
  go_wp2_with fail
  refine Calls.mono (signal_is (a := 0) (x := 0) (q := false) S2.out b HA.out.2.1 (by simp) rfl rfl rfl HA.out.2.2.2) ?_
  rintro e w3 ⟨rfl, v3, s3⟩
  have S3 := hid s3
  clear s3 S2
  go_wp2_with fail
  refine Calls.mono (word_is (x := c) (q := true) S3.out rfl rfl) ?_
  rintro e w4 ⟨rfl, s4⟩
  have S4 := hid s4
  clear s4 S3
  go_wp2_with fail
  refine Calls.mono (wait_is S4.out n true (by simp) HB.out.1 HB.out.2.1 HB.out.2.2.1 HB.out.2.2.2) ?_
  rintro e w5 ⟨rfl, v5, s5⟩
  have S5 := hid s5
  clear s5 S4
  go_wp2_with fail
  refine Calls.mono (word_is (x := 0) (q := false) S5.out rfl rfl) ?_
  rintro e w6 ⟨rfl, s6⟩
  have S6 := hid s6
  clear s6 S5
  go_wp2_with (first
    | (go_at_call 19; refine Calls.mono (waits_is (L := []) S6.out (by decide) rfl) ?_; rintro e w7 ⟨al, cl, rfl, s7⟩; simp only [List.length_nil] at s7 ⊢; have S7 := hid s7; clear s7 S6)
    | (go_at_call 21; refine Calls.mono (fixed_sep S7.out) ?_; rintro e wf ⟨rfl, sf⟩; have SF := hid sf; clear sf S7))
  go_ret
  exact ⟨rfl, by rw [HR.out]; exact SF.out.low⟩
open Go.ChangeShapes Go.WideShapes Go.ChangeAt Go.RowKit Go.Joins

/-! ### From the walk to the statement -/
set_option maxRecDepth 100000 in
theorem lifted (os : Os) (started : os.Started) (H : Type) (enc : TypeId × Value → H) :
    ReturnsInHanded {} Try.checked os 6 .any (Rows.notifyTwiceSpec.pre6 enc Try.prog Try.f6 Rows.notifyTwiceRow.domain false) (Rows.notifyTwiceSpec.post enc Try.prog Try.f6 false true false false) := by
  refine returnsInHanded_of_change (C := Try.checked) own started (by kernel_rfl) Try.func6
    (ChangeSpec.witness6 (enc := enc) (C := Try.checked) false ⟨#[], #[.int .u64 0, .int .u64 0, .int .i64 0], []⟩ 8 (by kernel_rfl) (by kernel_rfl) (by kernel_rfl) (by kernel_rfl)) ?_
  intro W base args ds gs before hval0 hW hcnd _
  have hval : ∀ (j : Nat) t v, Try.f6.params[j]? = some t → args[j]? = some v → Value.okWide Try.prog W .any base t v := hval0
  have hW' := hW
  obtain ⟨p, q, hA0, hV, rfl, hfz, hnd⟩ := hW
  have hA : DataW.TrodAll enc Try.prog W 0 (fun _ => true) true Try.f6.params.toList args.toList ds p := hA0
  rw [Try.params6] at hA hval
  obtain ⟨v0, vs0, d0, ds0, p0, q0, hargs, rfl, rfl, h0, r0⟩ := trodAll_cons hA
  obtain ⟨v1, vs1, d1, ds1, p1, q1, rfl, rfl, rfl, h1, r1⟩ := trodAll_cons r0
  obtain ⟨v2, vs2, d2, ds2, p2, q2, rfl, rfl, rfl, h2, r2⟩ := trodAll_cons r1
  obtain ⟨rfl, rfl, rfl⟩ := trodAll_nil r2
  obtain rfl : args = #[v0, v1, v2] := by cases args; simp_all
  obtain ⟨rfl, rfl⟩ := trodVars_none hV
  have k0 := h0
  have lt0 : ∀ x ∈ p0, x.block < W.heap.size := by obtain ⟨m, hm⟩ := k0; exact DataW.trod_lt m _ _ _ hm
  obtain ⟨a0, rfl, _, _, w0⟩ := open_int Try.underlying30 (hval 0 30 v0 rfl rfl) h0
  have k1 := h1
  have lt1 : ∀ x ∈ p1, x.block < W.heap.size := by obtain ⟨m, hm⟩ := k1; exact DataW.trod_lt m _ _ _ hm
  obtain ⟨a1, rfl, _, _, w1⟩ := open_int Try.underlying30 (hval 1 30 v1 rfl rfl) h1
  have k2 := h2
  have lt2 : ∀ x ∈ p2, x.block < W.heap.size := by obtain ⟨m, hm⟩ := k2; exact DataW.trod_lt m _ _ _ hm
  obtain ⟨a2, rfl, _, _, w2⟩ := open_int Try.underlying3 (hval 2 3 v2 rfl rfl) h2
  clear hA0 hval0
  refine (walk a0 a1 a2 W (bounds_u64 w0) (bounds_u64 w1) (bounds_i64 w2)).mono fun e W' ⟨he, bel⟩ => ?_
  subst he
  exact ⟨_, rfl, _, _, _, [], _, [], hW', trodAll_mk1 (shut_bool Try.underlying4 _), (trodAll_cons_mk (Below.trod laidOut (by kernel_rfl) (of_decide_eq_true (by kernel_rfl)) k0 bel lt0) (trodAll_cons_mk (Below.trod laidOut (by kernel_rfl) (of_decide_eq_true (by kernel_rfl)) k1 bel lt1) (trodAll_cons_mk (Below.trod laidOut (by kernel_rfl) (of_decide_eq_true (by kernel_rfl)) k2 bel lt2) trodAll_mk0))), rfl, bel.frame _, fun h => by cases h⟩
theorem over : Rows.notifyTwiceRow.holds Try.pinned (OpenSpec.ofChange Rows.notifyTwiceSpec) :=
  OpenClaim.holds_of_wide 6 Try.f6 rfl rfl rfl rfl rfl rfl rfl ⟨rfl, rfl, rfl, rfl, rfl⟩ rfl rfl rfl rfl rfl (by kernel_rfl) Try.func6 (by kernel_rfl)
    (of_decide_eq_true (by kernel_rfl)) (by unfold Func.isWrapper; first | (rw [if_pos (by decide +kernel)]; kernel_rfl) | (rw [if_neg (by decide +kernel)]; exact ⟨rfl, rfl⟩))
    (fun os started H enc _ => lifted os started H enc)
end Go.Proofs.Ytbkkpfmhcfkfbaa.notifyTwice
namespace Go.Proofs.Ytbkkpfmhcfkfbaa
/-- THE STATEMENT. -/
theorem notifyTwice_said : Rows.NotifyTwiceSaid := notifyTwice.over
#print axioms notifyTwice_said
end Go.Proofs.Ytbkkpfmhcfkfbaa
