/-
  The statement WordsUps: for every word and every number the law returns true and what was handed in reads as it did; the table of widths lies as the program's text lays it, and the card ties that to the text.
-/
import Derived.Test.YtpmlhdmncbpodaaDoorFixed
import Derived.Test.YtpmlhdmncbpodaaDoorRefWith
import Derived.Test.YtpmlhdmncbpodaaDoorFrame
namespace Go.Proofs.YtpmlhdmncbpodaaDoor.wordsUps
open Go.RowKit

/-! The law, from what its four calls answer: each pair answers alike. -/
set_option maxHeartbeats 1000000 in
theorem walk0 (v n a q b r : Int) (w : World) (ht : Tab w)
    (h1 : Hid (∀ w, Calls Tryd.prog 14 #[.int .i64 n] w fun e w' => e = .returned (.tuple #[.int .u64 a, .int .i64 q]) ∧ w' = w))
    (h2 : Hid (∀ w, Calls Tryd.prog 15 #[.int .i64 n] w fun e w' => e = .returned (.tuple #[.int .u64 a, .int .i64 q]) ∧ w' = w))
    (h3 : Hid (∀ w, Calls Tryd.prog 16 #[.int .u64 v, .int .i64 n] w fun e w' => e = .returned (.tuple #[.int .u64 b, .int .i64 r]) ∧ w' = w))
    (h4 : Hid (∀ w, Calls Tryd.prog 17 #[.int .u64 v, .int .i64 n] w fun e w' => e = .returned (.tuple #[.int .u64 b, .int .i64 r]) ∧ w' = w)) :
    Calls Tryd.prog 4 #[.int .u64 v, .int .i64 n] w fun e w' => e = .returned (.bool true) ∧ Below w.heap.size w w' := by
  go_enter Tryd.func4, Tryd.ntmps4
  go_wp2_with fail
  refine (h1.out _).mono ?_
  rintro e w' ⟨rfl, rfl⟩
  go_wp2_with fail
  refine (h2.out _).mono ?_
  rintro e w' ⟨rfl, rfl⟩
  go_wp2_with fail
  refine (h3.out _).mono ?_
  rintro e w' ⟨rfl, rfl⟩
  go_wp2_with fail
  refine (h4.out _).mono ?_
  rintro e w' ⟨rfl, rfl⟩
  go_wp2_with fail
  refine (fixed_any _ ht).mono ?_
  rintro e w1 ⟨rfl, hb⟩
  go_wp2_with fail
  go_ret
  exact ⟨rfl, hb⟩
theorem masks (n : Int) : ∃ a q, (∀ w, Calls Tryd.prog 14 #[.int .i64 n] w fun e w' => e = .returned (.tuple #[.int .u64 a, .int .i64 q]) ∧ w' = w) ∧
    (∀ w, Calls Tryd.prog 15 #[.int .i64 n] w fun e w' => e = .returned (.tuple #[.int .u64 a, .int .i64 q]) ∧ w' = w) := by
  by_cases c : 0 ≤ n ∧ n ≤ 64
  · exact ⟨_, _, fun w => mask_yes n w c.1 c.2, fun w => maskR_yes n w c.1 c.2⟩
  · exact ⟨_, _, fun w => mask_no n w c, fun w => maskR_no n w c⟩
theorem ups (v n : Int) (v0 : Word v) : ∃ a q, (∀ w, Calls Tryd.prog 16 #[.int .u64 v, .int .i64 n] w fun e w' => e = .returned (.tuple #[.int .u64 a, .int .i64 q]) ∧ w' = w) ∧
    (∀ w, Calls Tryd.prog 17 #[.int .u64 v, .int .i64 n] w fun e w' => e = .returned (.tuple #[.int .u64 a, .int .i64 q]) ∧ w' = w) := by
  by_cases c : 0 ≤ n ∧ n ≤ 63
  · by_cases d : v ≤ notI (onesI n)
    · exact ⟨_, _, fun w => up_yes v n w v0.lo c.1 c.2 d, fun w => upR_yes v n w v0.lo c.1 c.2 d⟩
    · exact ⟨_, _, fun w => up_big v n w c.1 c.2 (by omega), fun w => upR_big v n w v0.hi c.1 c.2 (by omega)⟩
  · exact ⟨_, _, fun w => up_no v n w c, fun w => upR_no v n w c⟩
theorem walk (v n : Int) (w : World) (ht : Tab w) (v0 : Word v) (_n0 : -9223372036854775808 ≤ n ∧ n ≤ 9223372036854775807) :
    Calls Tryd.prog 4 #[.int .u64 v, .int .i64 n] w fun e w' => e = .returned (.bool true) ∧ Below w.heap.size w w' := by
  obtain ⟨a, q, h1, h2⟩ := masks n
  obtain ⟨b, r, h3, h4⟩ := ups v n v0
  exact walk0 v n a q b r w ht h1 h2 h3 h4
open Go.ChangeShapes Go.WideShapes Go.ChangeAt Go.RowKit Go.Joins

/-! ### From the walk to the statement -/
theorem contract (H : Type) (enc : TypeId × Value → H) (W : World) (base : Nat) (args : Array Value) (ds gs : List (DataW H)) (before : List MemPlace)
    (hval : ∀ (j : Nat) t v, Tryd.f4.params[j]? = some t → args[j]? = some v → Value.okWide Tryd.prog W .any base t v)
    (hW : DataW.Whole enc Tryd.prog Tryd.f4.params.toList Rows.wordsUpsSpec.vars false W args.toList ds gs before) (hL : laidMetH Tryd.prog Rows.wordsUpsRow.laid W) :
    Calls Tryd.prog 4 args W fun e W' => ∃ v, e = .returned v ∧ Rows.wordsUpsSpec.post enc Tryd.prog Tryd.f4 false true false false W args v W' := by
  have hW' := hW
  obtain ⟨p, q, hA0, hV, rfl, hfz, hnd⟩ := hW
  have hA : DataW.TrodAll enc Tryd.prog W 0 (fun _ => true) true Tryd.f4.params.toList args.toList ds p := hA0
  rw [Tryd.params4] at hA hval
  obtain ⟨v0, vs0, d0, ds0, p0, q0, hargs, rfl, rfl, h0, r0⟩ := trodAll_cons hA
  obtain ⟨v1, vs1, d1, ds1, p1, q1, rfl, rfl, rfl, h1, r1⟩ := trodAll_cons r0
  obtain ⟨rfl, rfl, rfl⟩ := trodAll_nil r1
  obtain rfl : args = #[v0, v1] := by cases args; simp_all
  obtain ⟨rfl, rfl⟩ := trodVars_none hV
  have k0 := h0
  have lt0 : ∀ x ∈ p0, x.block < W.heap.size := by obtain ⟨m, hm⟩ := k0; exact DataW.trod_lt m _ _ _ hm
  have k1 := h1
  have lt1 : ∀ x ∈ p1, x.block < W.heap.size := by obtain ⟨m, hm⟩ := k1; exact DataW.trod_lt m _ _ _ hm
  obtain ⟨a0, rfl, _, _, w0⟩ := open_int Tryd.underlying22 (hval 0 22 v0 rfl rfl) h0
  obtain ⟨a1, rfl, _, _, w1⟩ := open_int Tryd.underlying3 (hval 1 3 v1 rfl rfl) h1
  clear hA0
  refine (walk a0 a1 W (table hL) (word_wf w0) (bounds_i64 w1)).mono fun e W' ⟨he, bel⟩ => ?_
  subst he
  exact ⟨_, rfl, _, _, _, [], _, [], hW', trodAll_mk1 (shut_bool Tryd.underlying4 _), (trodAll_cons_mk (Below.trod laidOut (by kernel_rfl) (of_decide_eq_true (by kernel_rfl)) k0 bel lt0) (trodAll_cons_mk (Below.trod laidOut (by kernel_rfl) (of_decide_eq_true (by kernel_rfl)) k1 bel lt1) trodAll_mk0)), rfl, bel.frame _, fun h => by cases h⟩

theorem laid_met (os : Os) : laidMet Tryd.prog Rows.wordsUpsRow.laid ((World.doorLaid Tryd.prog 40 os).forCall (fun _ _ => 0) ⟨#[], #[.int .u64 0, .int .i64 0], []⟩).memory :=
  laidMet_of_run' 8 (by kernel_rfl) (by kernel_rfl)
theorem reads (os : Os) {H : Type} (enc : TypeId × Value → H) : ∃ places, DataW.whole enc Tryd.prog ((World.doorLaid Tryd.prog 40 os).forCall (fun _ _ => 0) ⟨#[], #[.int .u64 0, .int .i64 0], []⟩).memory Tryd.f4.params.toList Rows.wordsUpsSpec.vars false (#[.int .u64 0, .int .i64 0] : Array Value).toList 8 = some ([.lit (.int .u64 0), .lit (.int .i64 0)], [], places) :=
  ⟨[], by kernel_rfl⟩
set_option maxRecDepth 100000 in
theorem lifted (os : Os) (started : os.Started) (H : Type) (enc : TypeId × Value → H) (F : Stop.Interp) :
    ReturnsInHanded {} Tryd.checked os 4 .any ((OpenSpec.ofChange Rows.wordsUpsSpec).preRow enc Tryd.prog Tryd.f4 Rows.wordsUpsRow.domain false Rows.wordsUpsRow.laid) (((OpenSpec.ofChange Rows.wordsUpsSpec).at F).post enc Tryd.prog Tryd.f4 false true false false) := by
  obtain ⟨places, hx⟩ := reads os enc
  refine returnsInHanded_of_row (C := Tryd.checked) (s := OpenSpec.ofChange Rows.wordsUpsSpec) own started (by kernel_rfl) Tryd.func4
    (witness_row_at (enc := enc) (C := Tryd.checked) false (World.doorLaid Tryd.prog 40 os) #[.int .u64 0, .int .i64 0] rfl (by kernel_rfl) (by kernel_rfl) (by kernel_rfl)
      (OpenSpec.preRow_of_cond 8 hx (by kernel_rfl) (fun k hk => by cases hk) (by kernel_rfl) (laid_met os))) ?_
  intro W base args ds gs before hval hW _ _ _ hL _ _
  exact contract H enc W base args ds gs before hval hW hL
theorem said : Rows.WordsUpsSaid :=
  OpenClaim.holds_of_cond 4 Tryd.f4 rfl rfl rfl rfl rfl rfl rfl ⟨rfl, rfl, rfl, rfl, rfl⟩ rfl rfl rfl rfl rfl (by kernel_rfl) Tryd.func4 (by kernel_rfl)
    (of_decide_eq_true (by kernel_rfl)) (by unfold Func.isWrapper; first | (rw [if_pos (by decide +kernel)]; kernel_rfl) | (rw [if_neg (by decide +kernel)]; exact ⟨rfl, rfl⟩))
    (fun os started H enc _ F => by rw [OpenClaim.pre_eq_preRow]; exact lifted os started H enc F)
theorem plain (f : FuncId) (fn : Func) (hf : Tryd.pinned.checked.prog.funcNamed "buttress/buttresslaw01.WordsUps" = some f) (hfn : Tryd.pinned.checked.prog.funcs[f]? = some fn) :
    false = Tryd.pinned.checked.prog.looks [] ∧ ∀ (j : Nat) t, fn.params[j]? = some t → Tryd.pinned.checked.prog.wantsStandIn t = false := by
  obtain rfl : f = 4 := Option.some.inj ((show Tryd.prog.funcNamed "buttress/buttresslaw01.WordsUps" = some 4 by kernel_rfl).symm.trans hf) |>.symm
  obtain rfl : fn = Tryd.f4 := (Option.some.inj (Tryd.func4.symm.trans hfn)).symm
  refine ⟨by kernel_rfl, fun j t ht => ?_⟩
  rw [Tryd.params4] at ht
  have hm : t ∈ [22, 3] := by simpa using Array.mem_of_getElem? ht
  have hall : ([22, 3].all fun u => !Tryd.prog.wantsStandIn u) = true := by kernel_rfl
  exact (show Tryd.prog.wantsStandIn t = false by simpa using List.all_eq_true.1 hall t hm)
end Go.Proofs.YtpmlhdmncbpodaaDoor.wordsUps
namespace Go.Proofs.YtpmlhdmncbpodaaDoor
/-- THE CARD. -/
theorem wordsUps_card : Rows.WordsUpsCardSaid :=
  Claim7.holds_tied_plain_at .later [] _ _ _ _ wordsUps.said (fun _ h => by cases h) (by kernel_rfl) (fun _ h => by cases h) wordsUps_row_tie rfl ⟨rfl, rfl⟩ (by kernel_rfl) rfl wordsUps.plain (by kernel_rfl)
#print axioms wordsUps_card
end Go.Proofs.YtpmlhdmncbpodaaDoor
