/-
  TlbNews: whether any room may be is as the document says; no condition.
-/
import Derived.Test.YtekjoeebomcmeaaYLaw
import Derived.Deep.Cut
import Derived.Deep.CutRange
namespace Go.Proofs.Ytekjoeebomcmeaa.tlbNews
open Go.RowKit Go.Deep Go.Shelf
set_option maxHeartbeats 8000000 in
set_option maxRecDepth 100000 in
theorem walk (z : Int) (w : World) (_hz : I64 z) :
    Calls Try.prog 4 #[.int .i64 z] w fun e w' => e = .returned (.bool true) ∧ Below w.heap.size w w' := by
  by_cases hz : z < 1 ∨ 256 < z
  · have HZ := hid hz
    have hd : (decide (z < 1) || decide (256 < z)) = true := by simpa using hz
    rcases hz with h | h
    · have h1 : decide (z < 1) = true := by simpa using h
      clear hd
      go_enter Try.func4, Try.ntmps4
      go_wp2_with fail
      refine Calls.mono (new_no z HZ.out) ?_
      rintro e w1 ⟨rfl, hw⟩
      subst hw
      go_wp2_with (go_at_call 24; refine Calls.mono (fixed_any _) ?_; rintro e wf ⟨rfl, bf⟩)
      go_ret
      exact ⟨rfl, bf⟩
    · have h1 : decide (z < 1) = false := by simp; omega
      have h2 : decide (256 < z) = true := by simpa using h
      clear hd
      go_enter Try.func4, Try.ntmps4
      go_wp2_with fail
      refine Calls.mono (new_no z HZ.out) ?_
      rintro e w1 ⟨rfl, hw⟩
      subst hw
      go_wp2_with (go_at_call 24; refine Calls.mono (fixed_any _) ?_; rintro e wf ⟨rfl, bf⟩)
      go_ret
      exact ⟨rfl, bf⟩
  · obtain ⟨n, rfl⟩ : ∃ n : Nat, z = (n : Int) := ⟨z.toNat, by omega⟩
    have h1 : decide ((n : Int) < 1) = false := by simp; omega
    have h2 : decide ((256 : Int) < (n : Int)) = false := by simp; omega
    have h3 : ¬ ((n : Int) < 1) := by omega
    have h4 : ¬ ((256 : Int) < (n : Int)) := by omega
    have HN : Hid (1 ≤ n ∧ n ≤ 256) := by exact (by omega : 1 ≤ n ∧ n ≤ 256)
    clear hz
    go_enter Try.func4, Try.ntmps4
    go_wp2_with fail
    refine Calls.mono (new_sep (sep_nil w) HN.out.1 HN.out.2) ?_
    rintro e w1 ⟨p, rfl, s1⟩
    have S1 := hid s1
    clear s1
    generalize hr : w.heap.size = r at *
    have HR := hid hr
    clear hr
    go_wp2_with (first
      | (go_at_call 22; refine Calls.mono (lines_is (k := 0) S1.out rfl) ?_; rintro e w2 ⟨a2, k2, rfl, s2⟩; have S2 := hid s2; clear s2 S1)
      | (go_at_call 24; refine Calls.mono (fixed_sep S2.out) ?_; rintro e wf ⟨rfl, sf⟩; have SF := hid sf; clear sf S2))
    go_ret
    exact ⟨rfl, by rw [HR.out]; exact SF.out.low⟩
open Go.ChangeShapes Go.WideShapes Go.ChangeAt Go.RowKit Go.Joins

/-! ### From the walk to the statement -/
set_option maxRecDepth 100000 in
theorem lifted (os : Os) (started : os.Started) (H : Type) (enc : TypeId × Value → H) :
    ReturnsInHanded {} Try.checked os 4 .any (Rows.tlbNewsSpec.pre6 enc Try.prog Try.f4 Rows.tlbNewsRow.domain false) (Rows.tlbNewsSpec.post enc Try.prog Try.f4 false true false false) := by
  refine returnsInHanded_of_change (C := Try.checked) ownK started (by kernel_rfl) Try.func4
    (ChangeSpec.witness6 (enc := enc) (C := Try.checked) false ⟨#[], #[.int .i64 0], []⟩ 8 (by kernel_rfl) (by kernel_rfl) (by kernel_rfl) (by kernel_rfl)) ?_
  intro W base args ds gs before hval0 hW hcnd _
  have hval : ∀ (j : Nat) t v, Try.f4.params[j]? = some t → args[j]? = some v → Value.okWide Try.prog W .any base t v := hval0
  have hW' := hW
  obtain ⟨p, q, hA0, hV, rfl, hfz, hnd⟩ := hW
  have hA : DataW.TrodAll enc Try.prog W 0 (fun _ => true) true Try.f4.params.toList args.toList ds p := hA0
  rw [Try.params4] at hA hval
  obtain ⟨v0, vs0, d0, ds0, p0, q0, hargs, rfl, rfl, h0, r0⟩ := trodAll_cons hA
  obtain ⟨rfl, rfl, rfl⟩ := trodAll_nil r0
  obtain rfl : args = #[v0] := by cases args; simp_all
  obtain ⟨rfl, rfl⟩ := trodVars_none hV
  have k0 := h0
  have lt0 : ∀ x ∈ p0, x.block < W.heap.size := by obtain ⟨m, hm⟩ := k0; exact DataW.trod_lt m _ _ _ hm
  obtain ⟨a0, rfl, _, _, w0⟩ := open_int Try.underlying3 (hval 0 3 v0 rfl rfl) h0
  clear hA0 hval0
  refine (walk a0 W (bounds_i64 w0)).mono fun e W' ⟨he, bel⟩ => ?_
  subst he
  exact ⟨_, rfl, _, _, _, [], _, [], hW', trodAll_mk1 (shut_bool Try.underlying4 _), (trodAll_cons_mk (Below.trod laidOut (by kernel_rfl) (of_decide_eq_true (by kernel_rfl)) k0 bel lt0) trodAll_mk0), rfl, bel.frame _, fun h => by cases h⟩
theorem over : Rows.tlbNewsRow.holds Try.pinned (OpenSpec.ofChange Rows.tlbNewsSpec) :=
  OpenClaim.holds_of_wide 4 Try.f4 rfl rfl rfl rfl rfl rfl rfl ⟨rfl, rfl, rfl, rfl, rfl⟩ rfl rfl rfl rfl rfl (by kernel_rfl) Try.func4 (by kernel_rfl)
    (of_decide_eq_true (by kernel_rfl)) (by unfold Func.isWrapper; first | (rw [if_pos (by decide +kernel)]; kernel_rfl) | (rw [if_neg (by decide +kernel)]; exact ⟨rfl, rfl⟩))
    (fun os started H enc _ => lifted os started H enc)
end Go.Proofs.Ytekjoeebomcmeaa.tlbNews
namespace Go.Proofs.Ytekjoeebomcmeaa
/-- THE STATEMENT. -/
theorem tlbNews_said : Rows.TlbNewsSaid := tlbNews.over
#print axioms tlbNews_said
end Go.Proofs.Ytekjoeebomcmeaa
