/-
  The statement WordsFields: for every two words and every two numbers the law returns true and what was handed in reads as it did; the table of widths lies as the program's text lays it, and the card ties that to the text.
-/
import Derived.Test.YtpmlhdmncbpodaaDoorFixed
import Derived.Test.YtpmlhdmncbpodaaDoorRefWith
import Derived.Test.YtpmlhdmncbpodaaDoorFrame
namespace Go.Proofs.YtpmlhdmncbpodaaDoor.wordsFields
open Go.RowKit

/-! The law, from what its four calls answer: each pair answers alike. -/
set_option maxHeartbeats 1000000 in
theorem walk0 (v x y z a q b r : Int) (w : World) (ht : Tab w)
    (h1 : Hid (∀ w, Calls Tryd.prog 9 #[.int .u64 v, .int .i64 y, .int .i64 z] w fun e w' => e = .returned (.tuple #[.int .u64 a, .int .i64 q]) ∧ w' = w))
    (h2 : Hid (∀ w, Calls Tryd.prog 10 #[.int .u64 v, .int .i64 y, .int .i64 z] w fun e w' => e = .returned (.tuple #[.int .u64 a, .int .i64 q]) ∧ w' = w))
    (h3 : Hid (∀ w, Calls Tryd.prog 11 #[.int .u64 v, .int .i64 y, .int .i64 z, .int .u64 x] w fun e w' => e = .returned (.tuple #[.int .u64 b, .int .i64 r]) ∧ w' = w))
    (h4 : Hid (∀ w, Calls Tryd.prog 12 #[.int .u64 v, .int .i64 y, .int .i64 z, .int .u64 x] w fun e w' => e = .returned (.tuple #[.int .u64 b, .int .i64 r]) ∧ w' = w)) :
    Calls Tryd.prog 3 #[.int .u64 v, .agg #[.int .i64 y, .int .i64 z], .int .u64 x] w fun e w' => e = .returned (.bool true) ∧ Below w.heap.size w w' := by
  go_enter Tryd.func3, Tryd.ntmps3
  go_wp2_with fail
  refine (h1.out _).mono ?_
  rintro e w' ⟨rfl, rfl⟩
  go_wp2_with fail
  refine (h2.out _).mono ?_
  rintro e w' ⟨rfl, rfl⟩
  go_wp2_with fail
  refine (h3.out _).mono ?_
  rintro e w' ⟨rfl, rfl⟩
  go_wp2_with fail
  refine (h4.out _).mono ?_
  rintro e w' ⟨rfl, rfl⟩
  go_wp2_with fail
  have bA : Below w.heap.size w (w.alloc (Obj.cells #[Value.int IntKind.i64 y, Value.int IntKind.i64 z] 24)) := (Below.refl _ _).alloc (Nat.le_refl _) _
  refine (fixed_any _ (ht.below bA)).mono ?_
  rintro e w1 ⟨rfl, hb⟩
  have bB := bA.trans (hb.mono bA.size)
  clear bA hb
  go_wp2_with fail
  go_ret
  exact ⟨rfl, bB⟩
theorem fields (v a n : Int) (v0 : Word v) (a0 : a ≤ 9223372036854775807) : ∃ p q, (∀ w, Calls Tryd.prog 9 #[.int .u64 v, .int .i64 a, .int .i64 n] w fun e w' => e = .returned (.tuple #[.int .u64 p, .int .i64 q]) ∧ w' = w) ∧
    (∀ w, Calls Tryd.prog 10 #[.int .u64 v, .int .i64 a, .int .i64 n] w fun e w' => e = .returned (.tuple #[.int .u64 p, .int .i64 q]) ∧ w' = w) := by
  by_cases c : 0 ≤ a ∧ 0 ≤ n ∧ n ≤ 64 - a
  · exact ⟨_, _, fun w => field_yes v a n w v0.lo v0.hi c.1 c.2.1 c.2.2, fun w => fieldR_yes v a n w v0.lo v0.hi c.1 c.2.1 c.2.2⟩
  · exact ⟨_, _, fun w => field_no v a n w c a0, fun w => fieldR_no v a n w c⟩
theorem withs (v a n x : Int) (v0 : Word v) (x0 : Word x) (a0 : a ≤ 9223372036854775807) : ∃ p q, (∀ w, Calls Tryd.prog 11 #[.int .u64 v, .int .i64 a, .int .i64 n, .int .u64 x] w fun e w' => e = .returned (.tuple #[.int .u64 p, .int .i64 q]) ∧ w' = w) ∧
    (∀ w, Calls Tryd.prog 12 #[.int .u64 v, .int .i64 a, .int .i64 n, .int .u64 x] w fun e w' => e = .returned (.tuple #[.int .u64 p, .int .i64 q]) ∧ w' = w) := by
  by_cases c : 0 ≤ a ∧ 0 ≤ n ∧ n ≤ 64 - a
  · by_cases d : x ≤ onesI n
    · exact ⟨_, _, fun w => with_yes v a n x w v0.lo v0.hi c.1 c.2.1 c.2.2 x0.lo d, fun w => withR_yes v a n x w v0.lo v0.hi c.1 c.2.1 c.2.2 x0.lo d⟩
    · exact ⟨_, _, fun w => with_big v a n x w c.1 c.2.1 c.2.2 (by omega), fun w => withR_big v a n x w v0.lo v0.hi c.1 c.2.1 c.2.2 (by omega) x0.hi⟩
  · exact ⟨_, _, fun w => with_no v a n x w c a0, fun w => withR_no v a n x w c⟩
theorem walk (v y z x : Int) (w : World) (ht : Tab w) (v0 : Word v) (y0 : -9223372036854775808 ≤ y ∧ y ≤ 9223372036854775807) (_z0 : -9223372036854775808 ≤ z ∧ z ≤ 9223372036854775807) (x0 : Word x) :
    Calls Tryd.prog 3 #[.int .u64 v, .agg #[.int .i64 y, .int .i64 z], .int .u64 x] w fun e w' => e = .returned (.bool true) ∧ Below w.heap.size w w' := by
  obtain ⟨a, q, h1, h2⟩ := fields v y z v0 y0.2
  obtain ⟨b, r, h3, h4⟩ := withs v y z x v0 x0 y0.2
  exact walk0 v x y z a q b r w ht h1 h2 h3 h4
open Go.ChangeShapes Go.WideShapes Go.ChangeAt Go.RowKit Go.Joins

/-! ### From the walk to the statement -/
theorem contract (H : Type) (enc : TypeId × Value → H) (W : World) (base : Nat) (args : Array Value) (ds gs : List (DataW H)) (before : List MemPlace)
    (hval : ∀ (j : Nat) t v, Tryd.f3.params[j]? = some t → args[j]? = some v → Value.okWide Tryd.prog W .any base t v)
    (hW : DataW.Whole enc Tryd.prog Tryd.f3.params.toList Rows.wordsFieldsSpec.vars false W args.toList ds gs before) (hL : laidMetH Tryd.prog Rows.wordsFieldsRow.laid W) :
    Calls Tryd.prog 3 args W fun e W' => ∃ v, e = .returned v ∧ Rows.wordsFieldsSpec.post enc Tryd.prog Tryd.f3 false true false false W args v W' := by
  have hW' := hW
  obtain ⟨p, q, hA0, hV, rfl, hfz, hnd⟩ := hW
  have hA : DataW.TrodAll enc Tryd.prog W 0 (fun _ => true) true Tryd.f3.params.toList args.toList ds p := hA0
  rw [Tryd.params3] at hA hval
  obtain ⟨v0, vs0, d0, ds0, p0, q0, hargs, rfl, rfl, h0, r0⟩ := trodAll_cons hA
  obtain ⟨v1, vs1, d1, ds1, p1, q1, rfl, rfl, rfl, h1, r1⟩ := trodAll_cons r0
  obtain ⟨v2, vs2, d2, ds2, p2, q2, rfl, rfl, rfl, h2, r2⟩ := trodAll_cons r1
  obtain ⟨rfl, rfl, rfl⟩ := trodAll_nil r2
  obtain rfl : args = #[v0, v1, v2] := by cases args; simp_all
  obtain ⟨rfl, rfl⟩ := trodVars_none hV
  have k0 := h0
  have lt0 : ∀ x ∈ p0, x.block < W.heap.size := by obtain ⟨m, hm⟩ := k0; exact DataW.trod_lt m _ _ _ hm
  have k1 := h1
  have lt1 : ∀ x ∈ p1, x.block < W.heap.size := by obtain ⟨m, hm⟩ := k1; exact DataW.trod_lt m _ _ _ hm
  have k2 := h2
  have lt2 : ∀ x ∈ p2, x.block < W.heap.size := by obtain ⟨m, hm⟩ := k2; exact DataW.trod_lt m _ _ _ hm
  obtain ⟨a0, rfl, _, _, w0⟩ := open_int Tryd.underlying22 (hval 0 22 v0 rfl rfl) h0
  obtain ⟨a1x, a1y, rfl, w1x, w1y⟩ := open_part (hval 1 24 v1 rfl rfl) h1
  obtain ⟨a2, rfl, _, _, w2⟩ := open_int Tryd.underlying22 (hval 2 22 v2 rfl rfl) h2
  clear hA0
  refine (walk a0 a1x a1y a2 W (table hL) (word_wf w0) w1x w1y (word_wf w2)).mono fun e W' ⟨he, bel⟩ => ?_
  subst he
  exact ⟨_, rfl, _, _, _, [], _, [], hW', trodAll_mk1 (shut_bool Tryd.underlying4 _), (trodAll_cons_mk (Below.trod laidOut (by kernel_rfl) (of_decide_eq_true (by kernel_rfl)) k0 bel lt0) (trodAll_cons_mk (Below.trod laidOut (by kernel_rfl) (of_decide_eq_true (by kernel_rfl)) k1 bel lt1) (trodAll_cons_mk (Below.trod laidOut (by kernel_rfl) (of_decide_eq_true (by kernel_rfl)) k2 bel lt2) trodAll_mk0))), rfl, bel.frame _, fun h => by cases h⟩

theorem laid_met (os : Os) : laidMet Tryd.prog Rows.wordsFieldsRow.laid ((World.doorLaid Tryd.prog 40 os).forCall (fun _ _ => 0) ⟨#[], #[.int .u64 0, .agg #[.int .i64 0, .int .i64 0], .int .u64 0], []⟩).memory :=
  laidMet_of_run' 8 (by kernel_rfl) (by kernel_rfl)
theorem reads (os : Os) {H : Type} (enc : TypeId × Value → H) : ∃ places, DataW.whole enc Tryd.prog ((World.doorLaid Tryd.prog 40 os).forCall (fun _ _ => 0) ⟨#[], #[.int .u64 0, .agg #[.int .i64 0, .int .i64 0], .int .u64 0], []⟩).memory Tryd.f3.params.toList Rows.wordsFieldsSpec.vars false (#[.int .u64 0, .agg #[.int .i64 0, .int .i64 0], .int .u64 0] : Array Value).toList 8 = some ([.lit (.int .u64 0), .agg [.lit (.int .i64 0), .lit (.int .i64 0)], .lit (.int .u64 0)], [], places) :=
  ⟨[], by kernel_rfl⟩
set_option maxRecDepth 100000 in
theorem lifted (os : Os) (started : os.Started) (H : Type) (enc : TypeId × Value → H) (F : Stop.Interp) :
    ReturnsInHanded {} Tryd.checked os 3 .any ((OpenSpec.ofChange Rows.wordsFieldsSpec).preRow enc Tryd.prog Tryd.f3 Rows.wordsFieldsRow.domain false Rows.wordsFieldsRow.laid) (((OpenSpec.ofChange Rows.wordsFieldsSpec).at F).post enc Tryd.prog Tryd.f3 false true false false) := by
  obtain ⟨places, hx⟩ := reads os enc
  refine returnsInHanded_of_row (C := Tryd.checked) (s := OpenSpec.ofChange Rows.wordsFieldsSpec) own started (by kernel_rfl) Tryd.func3
    (witness_row_at (enc := enc) (C := Tryd.checked) false (World.doorLaid Tryd.prog 40 os) #[.int .u64 0, .agg #[.int .i64 0, .int .i64 0], .int .u64 0] rfl (by kernel_rfl) (by kernel_rfl) (by kernel_rfl)
      (OpenSpec.preRow_of_cond 8 hx (by kernel_rfl) (fun k hk => by cases hk) (by kernel_rfl) (laid_met os))) ?_
  intro W base args ds gs before hval hW _ _ _ hL _ _
  exact contract H enc W base args ds gs before hval hW hL
theorem said : Rows.WordsFieldsSaid :=
  OpenClaim.holds_of_cond 3 Tryd.f3 rfl rfl rfl rfl rfl rfl rfl ⟨rfl, rfl, rfl, rfl, rfl⟩ rfl rfl rfl rfl rfl (by kernel_rfl) Tryd.func3 (by kernel_rfl)
    (of_decide_eq_true (by kernel_rfl)) (by unfold Func.isWrapper; first | (rw [if_pos (by decide +kernel)]; kernel_rfl) | (rw [if_neg (by decide +kernel)]; exact ⟨rfl, rfl⟩))
    (fun os started H enc _ F => by rw [OpenClaim.pre_eq_preRow]; exact lifted os started H enc F)
theorem plain (f : FuncId) (fn : Func) (hf : Tryd.pinned.checked.prog.funcNamed "buttress/buttresslaw01.WordsFields" = some f) (hfn : Tryd.pinned.checked.prog.funcs[f]? = some fn) :
    false = Tryd.pinned.checked.prog.looks [] ∧ ∀ (j : Nat) t, fn.params[j]? = some t → Tryd.pinned.checked.prog.wantsStandIn t = false := by
  obtain rfl : f = 3 := Option.some.inj ((show Tryd.prog.funcNamed "buttress/buttresslaw01.WordsFields" = some 3 by kernel_rfl).symm.trans hf) |>.symm
  obtain rfl : fn = Tryd.f3 := (Option.some.inj (Tryd.func3.symm.trans hfn)).symm
  refine ⟨by kernel_rfl, fun j t ht => ?_⟩
  rw [Tryd.params3] at ht
  have hm : t ∈ [22, 24, 22] := by simpa using Array.mem_of_getElem? ht
  have hall : ([22, 24, 22].all fun u => !Tryd.prog.wantsStandIn u) = true := by kernel_rfl
  exact (show Tryd.prog.wantsStandIn t = false by simpa using List.all_eq_true.1 hall t hm)
end Go.Proofs.YtpmlhdmncbpodaaDoor.wordsFields
namespace Go.Proofs.YtpmlhdmncbpodaaDoor
/-- THE CARD. -/
theorem wordsFields_card : Rows.WordsFieldsCardSaid :=
  Claim7.holds_tied_plain_at .later [] _ _ _ _ wordsFields.said (fun _ h => by cases h) (by kernel_rfl) (fun _ h => by cases h) wordsFields_row_tie rfl ⟨rfl, rfl⟩ (by kernel_rfl) rfl wordsFields.plain (by kernel_rfl)
#print axioms wordsFields_card
end Go.Proofs.YtpmlhdmncbpodaaDoor
