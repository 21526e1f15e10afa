/-
  IrqNews: whether any many lines may be is as the document says; no condition.
-/
import Derived.Test.YtgkcbcigdjappaaILaw
import Derived.Deep.Cut
import Derived.Deep.CutRange
namespace Go.Proofs.Ytgkcbcigdjappaa.irqNews
open Go.RowKit Go.Deep Go.Shelf
set_option maxHeartbeats 4000000 in
set_option maxRecDepth 100000 in
theorem walk (n : Int) (w : World) (_hn : -9223372036854775808 ≤ n ∧ n ≤ 9223372036854775807) :
    Calls Try.prog 4 #[.int .i64 n] w fun e w' => e = .returned (.bool true) ∧ Below w.heap.size w w' := by
  by_cases hin : n < 1 ∨ 64 < n
  · have HN := hid (new_no n hin w)
    have hor : (n < 1) ∨ (¬ n < 1 ∧ 64 < n) := by omega
    have HS := hid (sep_nil w)
    clear hin _hn
    rcases hor with h | ⟨h, h2⟩
    all_goals
      go_enter Try.func4, Try.ntmps4
      go_wp2_with fail
      refine Calls.mono HN.out ?_
      rintro e w1 ⟨rfl, hw⟩
      subst hw
      clear HN
      go_wp2_with (go_at_call 22; refine Calls.mono (fixed_sep HS.out) ?_; rintro e wf ⟨rfl, sf⟩; have SF := hid sf; clear sf HS)
      go_ret
      exact ⟨rfl, SF.out.low⟩
  · obtain ⟨k, rfl⟩ : ∃ k : Nat, n = (k : Int) := ⟨n.toNat, by omega⟩
    have h1 : 1 ≤ k := by omega
    have h64 : k ≤ 64 := by omega
    have hz1 : ¬ (k : Int) < 1 := by omega
    have hz2 : ¬ 64 < (k : Int) := by omega
    obtain ⟨T, hT⟩ : ∃ T, bindS (List.replicate k ln0) ((k : Int) - 1) 0 0 = T := ⟨_, rfl⟩
    have HB : Hid (bindE (List.replicate k ln0) ((k : Int) - 1) 0 = 0 ∧ bindS (List.replicate k ln0) ((k : Int) - 1) 0 0 = T ∧ bindE T (k : Int) 0 = 130 ∧ bindS T (k : Int) 0 0 = T) := by
      have e1 := all_at k ((k : Int) - 1) (by omega) (by omega)
      have hl : T.length = k := by rw [← hT, bind_len, List.length_replicate]
      have e2 : atI T (k : Int) = none := atI_out (.inr (by omega))
      exact ⟨by unfold bindE; rw [e1]; rfl, hT, by simp [bindE, e2], by simp [bindS, e2]⟩
    clear hin _hn hT
    go_enter Try.func4, Try.ntmps4
    go_wp2_with fail
    refine Calls.mono (new_sep (sep_nil w) k h1 h64) ?_
    rintro e w1 ⟨p, v, rfl, s1⟩
    have S1 : Hid (Sep w w.heap.size w1 [lnT p v (List.replicate k ln0)]) := s1
    clear s1
    generalize hr : w.heap.size = r at *
    have HR := hid hr
    clear hr
    go_wp2_with (first
      | (go_at_call 11; refine Calls.mono (bind_is S1.out ((k : Int) - 1) 0 0 HB.out.1 HB.out.2.1) ?_; rintro e w2 ⟨rfl, sw2⟩; have S2 := hid sw2; clear sw2 S1)
      | (go_at_call 11; refine Calls.mono (bind_is S2.out (k : Int) 0 0 HB.out.2.2.1 HB.out.2.2.2) ?_; rintro e w3 ⟨rfl, sw3⟩; have S3 := hid sw3; clear sw3 S2)
      | (go_at_call 22; refine Calls.mono (fixed_sep S3.out) ?_; rintro e wf ⟨rfl, sf⟩; have SF := hid sf; clear sf S3))
    go_ret
    exact ⟨rfl, by rw [HR.out]; exact SF.out.low⟩
open Go.ChangeShapes Go.WideShapes Go.ChangeAt Go.RowKit Go.Joins

/-! ### From the walk to the statement -/
set_option maxRecDepth 100000 in
theorem lifted (os : Os) (started : os.Started) (H : Type) (enc : TypeId × Value → H) :
    ReturnsInHanded {} Try.checked os 4 .any (Rows.irqNewsSpec.pre6 enc Try.prog Try.f4 Rows.irqNewsRow.domain false) (Rows.irqNewsSpec.post enc Try.prog Try.f4 false true false false) := by
  refine returnsInHanded_of_change (C := Try.checked) own started (by kernel_rfl) Try.func4
    (ChangeSpec.witness6 (enc := enc) (C := Try.checked) false ⟨#[], #[.int .i64 0], []⟩ 8 (by kernel_rfl) (by kernel_rfl) (by kernel_rfl) (by kernel_rfl)) ?_
  intro W base args ds gs before hval0 hW hcnd _
  have hval : ∀ (j : Nat) t v, Try.f4.params[j]? = some t → args[j]? = some v → Value.okWide Try.prog W .any base t v := hval0
  have hW' := hW
  obtain ⟨p, q, hA0, hV, rfl, hfz, hnd⟩ := hW
  have hA : DataW.TrodAll enc Try.prog W 0 (fun _ => true) true Try.f4.params.toList args.toList ds p := hA0
  rw [Try.params4] at hA hval
  obtain ⟨v0, vs0, d0, ds0, p0, q0, hargs, rfl, rfl, h0, r0⟩ := trodAll_cons hA
  obtain ⟨rfl, rfl, rfl⟩ := trodAll_nil r0
  obtain rfl : args = #[v0] := by cases args; simp_all
  obtain ⟨rfl, rfl⟩ := trodVars_none hV
  have k0 := h0
  have lt0 : ∀ x ∈ p0, x.block < W.heap.size := by obtain ⟨m, hm⟩ := k0; exact DataW.trod_lt m _ _ _ hm
  obtain ⟨a0, rfl, _, _, w0⟩ := open_int Try.underlying3 (hval 0 3 v0 rfl rfl) h0
  clear hA0 hval0
  refine (walk a0 W (bounds_i64 w0)).mono fun e W' ⟨he, bel⟩ => ?_
  subst he
  exact ⟨_, rfl, _, _, _, [], _, [], hW', trodAll_mk1 (shut_bool Try.underlying4 _), (trodAll_cons_mk (Below.trod laidOut (by kernel_rfl) (of_decide_eq_true (by kernel_rfl)) k0 bel lt0) trodAll_mk0), rfl, bel.frame _, fun h => by cases h⟩
theorem over : Rows.irqNewsRow.holds Try.pinned (OpenSpec.ofChange Rows.irqNewsSpec) :=
  OpenClaim.holds_of_wide 4 Try.f4 rfl rfl rfl rfl rfl rfl rfl ⟨rfl, rfl, rfl, rfl, rfl⟩ rfl rfl rfl rfl rfl (by kernel_rfl) Try.func4 (by kernel_rfl)
    (of_decide_eq_true (by kernel_rfl)) (by unfold Func.isWrapper; first | (rw [if_pos (by decide +kernel)]; kernel_rfl) | (rw [if_neg (by decide +kernel)]; exact ⟨rfl, rfl⟩))
    (fun os started H enc _ => lifted os started H enc)
end Go.Proofs.Ytgkcbcigdjappaa.irqNews
namespace Go.Proofs.Ytgkcbcigdjappaa
/-- THE STATEMENT. -/
theorem irqNews_said : Rows.IrqNewsSaid := irqNews.over
#print axioms irqNews_said
end Go.Proofs.Ytgkcbcigdjappaa
