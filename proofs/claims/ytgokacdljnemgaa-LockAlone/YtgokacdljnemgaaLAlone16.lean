/-
  LockAlone: a core that enters a lock that nobody holds holds it at once; it leaves once; no condition.
-/
import Derived.Test.YtgokacdljnemgaaZFixed
import Derived.Test.YtgokacdljnemgaaZSay
import Derived.Test.YtgokacdljnemgaaZPure
import Derived.Deep.Cut
import Derived.Deep.CutRange
namespace Go.Proofs.Ytgokacdljnemgaa.lockAlone
open Go.RowKit Go.Deep Go.Shelf
set_option maxHeartbeats 8000000 in
set_option maxRecDepth 100000 in
theorem walk (cores core : Int) (w : World) (_h1 : I64 cores) (_h2 : I64 core) :
    Calls Try.prog 6 #[.int .i64 cores, .int .i64 core] w fun e w' => e = .returned (.bool true) ∧ Below w.heap.size w w' := by
  obtain ⟨m, hm, hmask⟩ := mask7 cores
  obtain ⟨N, hN⟩ : ∃ N : Nat, N = 1 + m := ⟨_, rfl⟩
  have hN1 : 1 ≤ N := by omega
  have hN8 : N ≤ 8 := by omega
  have hw : IntKind.i64.wrap (1 + (m : Int)) = (N : Int) := by
    unfold IntKind.wrap
    simp [IntKind.bits, IntKind.signed]
    omega
  have hw2 : 1 + (m : Int) = (N : Int) := by omega
  clear hN hm
  obtain ⟨k, hk, hmk⟩ := mask64k core
  obtain ⟨c, hcN, hck⟩ := rem_nat k (N : Int) (by omega)
  have hcN2 : c < N := by omega
  have hN0 : ¬ ((N : Int) = 0) := by omega
  have HH := hid (has_nat hcN2)
  go_enter Try.func6, Try.ntmps6
  go_wp2_with fail
  refine Calls.mono (new_sep (sep_nil w) hN1 hN8) ?_
  rintro e w1 ⟨p, rfl, s1⟩
  have S1 := hid s1
  clear s1
  generalize hr : w.heap.size = r at *
  have HR := hid hr
  clear hr
  have hin0 : inB [] (c : Int) = false := rfl
  have HE := hid (enter_new HH.out hin0)
  have HP0 := hid (probe_nil HH.out)
  have HP1 : Hid (probeB N [(c : Int)] (c : Int) = true ∧ probeE N [(c : Int)] (c : Int) = 0) := ⟨(probe_in HH.out (in_iff.2 (by simp))).1.trans (by simp [firstI]), (probe_in HH.out (in_iff.2 (by simp))).2⟩
  have HL1 := hid (leave_head (T := []) HH.out)
  have HL2 := hid (leave_other HH.out (first_nil (has_iff.1 HH.out).1))
  clear hin0
  go_wp2_with fail
  refine Calls.mono (probe_is S1.out (c : Int) HP0.out.1 HP0.out.2) ?_
  rintro e w2 ⟨rfl, s2⟩
  have S2 := hid s2
  clear s2 S1
  go_wp2_with fail
  refine Calls.mono (enter_is (T := [(c : Int)]) S2.out (c : Int) HE.out.1 HE.out.2) ?_
  rintro e w3 ⟨rfl, s3⟩
  have S3 := hid s3
  clear s3 S2
  go_wp2_with fail
  refine Calls.mono (probe_is S3.out (c : Int) HP1.out.1 HP1.out.2) ?_
  rintro e w4 ⟨rfl, s4⟩
  have S4 := hid s4
  clear s4 S3
  go_wp2_with fail
  refine Calls.mono (holder_is (x := (c : Int)) (q := true) S4.out rfl rfl) ?_
  rintro e w5 ⟨rfl, s5⟩
  have S5 := hid s5
  clear s5 S4
  go_wp2_with fail
  refine Calls.mono (leave_is S5.out (c : Int) HL1.out.1 HL1.out.2) ?_
  rintro e w6 ⟨rfl, s6⟩
  have S6 := hid s6
  clear s6 S5
  go_wp2_with fail
  refine Calls.mono (leave_is S6.out (c : Int) HL2.out.1 HL2.out.2) ?_
  rintro e w7 ⟨rfl, s7⟩
  have S7 := hid s7
  clear s7 S6
  go_wp2_with fail
  refine Calls.mono (holder_is (x := 0) (q := false) S7.out rfl rfl) ?_
  rintro e w8 ⟨rfl, s8⟩
  have S8 := hid s8
  clear s8 S7
  go_wp2_with fail
  refine Calls.mono (ahead_is S8.out (c : Int) (ahead_nil _)) ?_
  rintro e w9 ⟨rfl, s9⟩
  have S9 := hid s9
  clear s9 S8
  go_wp2_with (go_at_call 24; refine Calls.mono (fixed_sep S9.out) ?_; rintro e wf ⟨rfl, sf⟩; have SF := hid sf; clear sf S9)
  go_ret
  exact ⟨rfl, by rw [HR.out]; exact SF.out.low⟩
open Go.ChangeShapes Go.WideShapes Go.ChangeAt Go.RowKit Go.Joins

/-! ### From the walk to the statement -/
set_option maxRecDepth 100000 in
theorem lifted (os : Os) (started : os.Started) (H : Type) (enc : TypeId × Value → H) :
    ReturnsInHanded {} Try.checked os 6 .any (Rows.lockAloneSpec.pre6 enc Try.prog Try.f6 Rows.lockAloneRow.domain false) (Rows.lockAloneSpec.post enc Try.prog Try.f6 false true false false) := by
  refine returnsInHanded_of_change (C := Try.checked) ownK started (by kernel_rfl) Try.func6
    (ChangeSpec.witness6 (enc := enc) (C := Try.checked) false ⟨#[], #[.int .i64 0, .int .i64 0], []⟩ 8 (by kernel_rfl) (by kernel_rfl) (by kernel_rfl) (by kernel_rfl)) ?_
  intro W base args ds gs before hval0 hW hcnd _
  have hval : ∀ (j : Nat) t v, Try.f6.params[j]? = some t → args[j]? = some v → Value.okWide Try.prog W .any base t v := hval0
  have hW' := hW
  obtain ⟨p, q, hA0, hV, rfl, hfz, hnd⟩ := hW
  have hA : DataW.TrodAll enc Try.prog W 0 (fun _ => true) true Try.f6.params.toList args.toList ds p := hA0
  rw [Try.params6] at hA hval
  obtain ⟨v0, vs0, d0, ds0, p0, q0, hargs, rfl, rfl, h0, r0⟩ := trodAll_cons hA
  obtain ⟨v1, vs1, d1, ds1, p1, q1, rfl, rfl, rfl, h1, r1⟩ := trodAll_cons r0
  obtain ⟨rfl, rfl, rfl⟩ := trodAll_nil r1
  obtain rfl : args = #[v0, v1] := by cases args; simp_all
  obtain ⟨rfl, rfl⟩ := trodVars_none hV
  have k0 := h0
  have lt0 : ∀ x ∈ p0, x.block < W.heap.size := by obtain ⟨m, hm⟩ := k0; exact DataW.trod_lt m _ _ _ hm
  obtain ⟨a0, rfl, _, _, w0⟩ := open_int Try.underlying3 (hval 0 3 v0 rfl rfl) h0
  have k1 := h1
  have lt1 : ∀ x ∈ p1, x.block < W.heap.size := by obtain ⟨m, hm⟩ := k1; exact DataW.trod_lt m _ _ _ hm
  obtain ⟨a1, rfl, _, _, w1⟩ := open_int Try.underlying3 (hval 1 3 v1 rfl rfl) h1
  clear hA0 hval0
  refine (walk a0 a1 W (bounds_i64 w0) (bounds_i64 w1)).mono fun e W' ⟨he, bel⟩ => ?_
  subst he
  exact ⟨_, rfl, _, _, _, [], _, [], hW', trodAll_mk1 (shut_bool Try.underlying4 _), (trodAll_cons_mk (Below.trod laidOut (by kernel_rfl) (of_decide_eq_true (by kernel_rfl)) k0 bel lt0) (trodAll_cons_mk (Below.trod laidOut (by kernel_rfl) (of_decide_eq_true (by kernel_rfl)) k1 bel lt1) trodAll_mk0)), rfl, bel.frame _, fun h => by cases h⟩
theorem over : Rows.lockAloneRow.holds Try.pinned (OpenSpec.ofChange Rows.lockAloneSpec) :=
  OpenClaim.holds_of_wide 6 Try.f6 rfl rfl rfl rfl rfl rfl rfl ⟨rfl, rfl, rfl, rfl, rfl⟩ rfl rfl rfl rfl rfl (by kernel_rfl) Try.func6 (by kernel_rfl)
    (of_decide_eq_true (by kernel_rfl)) (by unfold Func.isWrapper; first | (rw [if_pos (by decide +kernel)]; kernel_rfl) | (rw [if_neg (by decide +kernel)]; exact ⟨rfl, rfl⟩))
    (fun os started H enc _ => lifted os started H enc)
end Go.Proofs.Ytgokacdljnemgaa.lockAlone
namespace Go.Proofs.Ytgokacdljnemgaa
/-- THE STATEMENT. -/
theorem lockAlone_said : Rows.LockAloneSaid := lockAlone.over
#print axioms lockAlone_said
end Go.Proofs.Ytgokacdljnemgaa
