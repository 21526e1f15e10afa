/-
  64 tables go in, each at its own place, and no table twice; no condition.
-/
import Derived.Test.YthjcodkgcffamabPLaw
import Derived.Deep.Cut
import Derived.Deep.CutRange
namespace Go.Proofs.Ythjcodkgcffamab.tablesFull
open Go.RowKit Go.Deep Go.Shelf
def fulS (K : Nat) (i : Nat) : Sp := ⟨fun j => if 0 ≤ j ∧ j < (i : Int) then some ((K : Int) + j) else none, fun _ => none⟩
theorem ful_zero (K : Nat) : fulS K 0 = sp0 := by
  unfold fulS sp0
  congr 1
  funext j
  rw [if_neg (by omega)]
theorem ful_next (K : Nat) {i : Nat} (hi : i < 64) : tabE (fulS K i) (i : Int) ((K : Int) + (i : Int)) = 0 ∧ tabS (fulS K i) (i : Int) ((K : Int) + (i : Int)) = fulS K (i + 1) := by
  have e : tabE (fulS K i) (i : Int) ((K : Int) + (i : Int)) = 0 := by
    unfold tabE
    rw [if_neg (by omega), if_neg]
    rintro (h | h)
    · unfold fulS at h
      simp only at h
      rw [if_neg (by omega)] at h
      cases h
    · obtain ⟨k, _, hk⟩ := anyT_true.1 h
      unfold fulS at hk
      simp only at hk
      split at hk
      · simp only [Option.some.injEq] at hk
        omega
      · cases hk
  refine ⟨e, ?_⟩
  unfold tabS
  rw [if_pos e]
  unfold fulS
  congr 1
  funext j
  simp only [upd]
  by_cases h : j = (i : Int)
  · rw [if_pos h, if_pos (by omega), h]
  · rw [if_neg h]
    by_cases h2 : 0 ≤ j ∧ j < (i : Int)
    · rw [if_pos h2, if_pos (by omega)]
    · rw [if_neg h2, if_neg (by omega)]
theorem ful_stay {K i : Nat} {a b : Int} (h : tabE (fulS K i) a b ≠ 0) : tabS (fulS K i) a b = fulS K i := by
  unfold tabS
  rw [if_neg h]
theorem ful_here (K : Nat) {i : Nat} (hi : i < 64) : tabE (fulS K (i + 1)) (i : Int) ((K : Int) + 100) = 140 ∧ tabS (fulS K (i + 1)) (i : Int) ((K : Int) + 100) = fulS K (i + 1) := by
  have e : tabE (fulS K (i + 1)) (i : Int) ((K : Int) + 100) = 140 := by
    unfold tabE
    rw [if_neg (by omega), if_pos]
    left
    unfold fulS
    simp only
    rw [if_pos (by omega)]
    rfl
  exact ⟨e, ful_stay (by rw [e]; decide)⟩
theorem ful_twice (K : Nat) {i : Nat} (hi : i < 63) : tabE (fulS K (i + 1)) ((i : Int) + 1) ((K : Int) + (i : Int)) = 140 ∧ tabS (fulS K (i + 1)) ((i : Int) + 1) ((K : Int) + (i : Int)) = fulS K (i + 1) := by
  have e : tabE (fulS K (i + 1)) ((i : Int) + 1) ((K : Int) + (i : Int)) = 140 := by
    unfold tabE
    rw [if_neg (by omega), if_pos]
    right
    refine anyT_true.2 ⟨i, by omega, ?_⟩
    unfold fulS
    simp only
    rw [if_pos (by omega)]
  exact ⟨e, ful_stay (by rw [e]; decide)⟩
theorem ful_end (K : Nat) : hasN (fulS K 64) 64 = 0 ∧ hasB (fulS K 64) 64 = false ∧ hasN (fulS K 64) 63 = (K : Int) + 63 ∧ hasB (fulS K 64) 63 = true ∧ tabE (fulS K 64) 64 ((K : Int) + 200) = 1 ∧ tabS (fulS K 64) 64 ((K : Int) + 200) = fulS K 64 := by
  have e : tabE (fulS K 64) 64 ((K : Int) + 200) = 1 := by
    unfold tabE
    rw [if_pos (by omega)]
  refine ⟨?_, ?_, ?_, ?_, e, ful_stay (by rw [e]; decide)⟩
  · unfold hasN fulS
    simp only
    rw [if_neg (by omega)]
    rfl
  · unfold hasB fulS
    simp only
    rw [if_neg (by omega)]
    rfl
  · unfold hasN fulS
    simp only
    rw [if_pos (by omega)]
    rfl
  · unfold hasB fulS
    simp only
    rw [if_pos (by omega)]
    rfl
set_option maxHeartbeats 8000000 in
set_option maxRecDepth 100000 in
theorem walk (a : Int) (w : World) (_ : I64 a) :
    Calls Try.prog 3 #[.int .i64 a] w fun e w' => e = .returned (.bool true) ∧ Below w.heap.size w w' := by
  obtain ⟨K, hK, eK⟩ := mask64k a
  have hw1 : IntKind.i64.wrap ((K : Int) + 100) = (K : Int) + 100 := by rw [IntKind.wrap_i64]; omega
  have hw2 : IntKind.i64.wrap ((K : Int) + 200) = (K : Int) + 200 := by rw [IntKind.wrap_i64]; omega
  have hw3 : IntKind.i64.wrap ((K : Int) + 63) = (K : Int) + 63 := by rw [IntKind.wrap_i64]; omega
  go_enter Try.func3, Try.ntmps3
  go_wp2_with fail
  refine Calls.mono (new_sep (sep_nil w)) ?_
  rintro e w1 ⟨p, m1, rfl, s1⟩
  rw [← ful_zero K] at s1
  generalize hr : w.heap.size = r at *
  have HR := hid hr
  clear hr
  have S1 := hid s1
  clear s1
  go_wp2_with fail
  go_loopw [5] (fun s wr => ∃ (i : Nat) (m : Nat → Option Nat), i ≤ 64 ∧ s = .int .i64 i ∧ Sep w r wr [spT p m (fulS K i)]) (fun s _ => 64 - (intOf s).toNat)
  case atStart => exact ⟨0, _, by omega, rfl, S1.out⟩
  case round =>
    clear S1
    obtain ⟨i, m, hi, rfl, s1⟩ := hrel
    have S1 := hid s1
    clear s1
    by_cases hlt : i < 64
    · have hltz : (i : Int) < 64 := by omega
      have hw4 : IntKind.i64.wrap ((K : Int) + (i : Int)) = (K : Int) + (i : Int) := by rw [IntKind.wrap_i64]; omega
      have hw5 : IntKind.i64.wrap ((i : Int) + 1) = (i : Int) + 1 := by rw [IntKind.wrap_i64]; omega
      have HA := hid (ful_next K hlt)
      have HB := hid (ful_here K hlt)
      go_wp2_with fail
      refine Calls.mono (tab_is S1.out (i : Int) ((K : Int) + (i : Int)) HA.out.1 HA.out.2) ?_
      rintro e w2 ⟨rfl, mw2, sw2⟩
      have S2 := hid sw2
      clear sw2 S1
      go_wp2_with fail
      refine Calls.mono (tab_is S2.out (i : Int) ((K : Int) + 100) HB.out.1 HB.out.2) ?_
      rintro e w3 ⟨rfl, mw3, sw3⟩
      have S3 := hid sw3
      clear sw3 S2
      by_cases h63 : i < 63
      · have h63z : (i : Int) < 63 := by omega
        have HC := hid (ful_twice K h63)
        go_wp2_with fail
        refine Calls.mono (tab_is S3.out ((i : Int) + 1) ((K : Int) + (i : Int)) HC.out.1 HC.out.2) ?_
        rintro e w4 ⟨rfl, m4, s4⟩
        have S4 := hid s4
        clear s4 S3
        go_wp2
        go_roundw
        case rel => exact ⟨i + 1, m4, by omega, by go_num, S4.out⟩
        case measure => simp [intOf]; omega
      · have h63z : ¬ (i : Int) < 63 := by omega
        go_wp2
        go_roundw
        case rel => exact ⟨i + 1, _, by omega, by go_num, S3.out⟩
        case measure => simp [intOf]; omega
    · have hk3 : ((i : Nat) : Int) = 64 := by omega
      simp only [hk3]
      obtain rfl : i = 64 := by omega
      clear hlt hi hk3
      have HE := hid (ful_end K)
      go_wp2_with fail
      refine Calls.mono (hs_is S1.out 64 HE.out.1 HE.out.2.1) ?_
      rintro e w2 ⟨rfl, s2⟩
      have S2 := hid s2
      clear s2 S1
      go_wp2_with fail
      refine Calls.mono (hs_is S2.out 63 HE.out.2.2.1 HE.out.2.2.2.1) ?_
      rintro e w3 ⟨rfl, s3⟩
      have S3 := hid s3
      clear s3 S2
      go_wp2_with (first
        | (go_at_call 5; refine Calls.mono (tab_is S3.out 64 ((K : Int) + 200) HE.out.2.2.2.2.1 HE.out.2.2.2.2.2) ?_; rintro e w4 ⟨rfl, m4, s4⟩; have S4 := hid s4; clear s4 S3)
        | (go_at_call 7; refine Calls.mono (fixed_sep S4.out) ?_; rintro e wf ⟨rfl, sf⟩; have SF := hid sf; clear sf S4))
      go_ret
      exact ⟨rfl, by rw [HR.out]; exact SF.out.low⟩
open Go.ChangeShapes Go.WideShapes Go.ChangeAt Go.RowKit Go.Joins

/-! ### From the walk to the statement -/
set_option maxRecDepth 100000 in
theorem lifted (os : Os) (started : os.Started) (H : Type) (enc : TypeId × Value → H) :
    ReturnsInHanded {} Try.checked os 3 .any (Rows.tablesFullSpec.pre6 enc Try.prog Try.f3 Rows.tablesFullRow.domain false) (Rows.tablesFullSpec.post enc Try.prog Try.f3 false true false false) := by
  refine returnsInHanded_of_change (C := Try.checked) own started (by kernel_rfl) Try.func3
    (ChangeSpec.witness6 (enc := enc) (C := Try.checked) false ⟨#[], #[.int .i64 0], []⟩ 8 (by kernel_rfl) (by kernel_rfl) (by kernel_rfl) (by kernel_rfl)) ?_
  intro W base args ds gs before hval0 hW hcnd _
  have hval : ∀ (j : Nat) t v, Try.f3.params[j]? = some t → args[j]? = some v → Value.okWide Try.prog W .any base t v := hval0
  have hW' := hW
  obtain ⟨p, q, hA0, hV, rfl, hfz, hnd⟩ := hW
  have hA : DataW.TrodAll enc Try.prog W 0 (fun _ => true) true Try.f3.params.toList args.toList ds p := hA0
  rw [Try.params3] at hA hval
  obtain ⟨v0, vs0, d0, ds0, p0, q0, hargs, rfl, rfl, h0, r0⟩ := trodAll_cons hA
  obtain ⟨rfl, rfl, rfl⟩ := trodAll_nil r0
  obtain rfl : args = #[v0] := by cases args; simp_all
  obtain ⟨rfl, rfl⟩ := trodVars_none hV
  have k0 := h0
  have lt0 : ∀ x ∈ p0, x.block < W.heap.size := by obtain ⟨m, hm⟩ := k0; exact DataW.trod_lt m _ _ _ hm
  obtain ⟨a0, rfl, _, _, w0⟩ := open_int Try.underlying3 (hval 0 3 v0 rfl rfl) h0
  clear hA0 hval0
  refine (walk a0 W (bounds_i64 w0)).mono fun e W' ⟨he, bel⟩ => ?_
  subst he
  exact ⟨_, rfl, _, _, _, [], _, [], hW', trodAll_mk1 (shut_bool Try.underlying4 _), (trodAll_cons_mk (Below.trod laidOut (by kernel_rfl) (of_decide_eq_true (by kernel_rfl)) k0 bel lt0) trodAll_mk0), rfl, bel.frame _, fun h => by cases h⟩
theorem over : Rows.tablesFullRow.holds Try.pinned (OpenSpec.ofChange Rows.tablesFullSpec) :=
  OpenClaim.holds_of_wide 3 Try.f3 rfl rfl rfl rfl rfl rfl rfl ⟨rfl, rfl, rfl, rfl, rfl⟩ rfl rfl rfl rfl rfl (by kernel_rfl) Try.func3 (by kernel_rfl)
    (of_decide_eq_true (by kernel_rfl)) (by unfold Func.isWrapper; first | (rw [if_pos (by decide +kernel)]; kernel_rfl) | (rw [if_neg (by decide +kernel)]; exact ⟨rfl, rfl⟩))
    (fun os started H enc _ => lifted os started H enc)
end Go.Proofs.Ythjcodkgcffamab.tablesFull
namespace Go.Proofs.Ythjcodkgcffamab
/-- THE STATEMENT. -/
theorem tablesFull_said : Rows.TablesFullSaid := tablesFull.over
#print axioms tablesFull_said
end Go.Proofs.Ythjcodkgcffamab
