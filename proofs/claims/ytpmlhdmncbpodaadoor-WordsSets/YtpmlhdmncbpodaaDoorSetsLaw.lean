/-
  The statement WordsSets: for every four words, every number and both ways the law returns true and what was handed in reads as it did; the table of widths lies as the program's text lays it, and the card ties that to the text.
-/
import Derived.Test.YtpmlhdmncbpodaaDoorKeep
import Derived.Test.YtpmlhdmncbpodaaDoorEq
import Derived.Test.YtpmlhdmncbpodaaDoorRefSet
import Derived.Test.YtpmlhdmncbpodaaDoorRefTop
import Derived.Test.YtpmlhdmncbpodaaDoorFrame
import Derived.Deep.RegionHeld3
namespace Go.Proofs.YtpmlhdmncbpodaaDoor.wordsSets
open Go.RowKit

set_option maxHeartbeats 4000000 in
theorem walk0 (b0 b1 b2 b3 n a0 a1 a2 a3 q t : Int) (z y : Bool) (w : World) (ht : Tab w)
    (h1 : Hid (∀ w, Calls Tryd.prog 18 #[.agg #[.int .u64 b0, .int .u64 b1, .int .u64 b2, .int .u64 b3], .int .i64 n, .bool z] w fun e w' => e = .returned (.tuple #[.agg #[.int .u64 a0, .int .u64 a1, .int .u64 a2, .int .u64 a3], .int .i64 q]) ∧ Below w.heap.size w w'))
    (h2 : Hid (∀ w, Calls Tryd.prog 19 #[.agg #[.int .u64 b0, .int .u64 b1, .int .u64 b2, .int .u64 b3], .int .i64 n, .bool z] w fun e w' => e = .returned (.tuple #[.agg #[.int .u64 a0, .int .u64 a1, .int .u64 a2, .int .u64 a3], .int .i64 q]) ∧ Below w.heap.size w w'))
    (h3 : Hid (∀ w, Calls Tryd.prog 20 #[.agg #[.int .u64 b0, .int .u64 b1, .int .u64 b2, .int .u64 b3], .int .i64 n] w fun e w' => e = .returned (.bool y) ∧ Below w.heap.size w w'))
    (h4 : Hid (∀ w, Calls Tryd.prog 21 #[.agg #[.int .u64 b0, .int .u64 b1, .int .u64 b2, .int .u64 b3], .int .i64 n] w fun e w' => e = .returned (.bool y) ∧ Below w.heap.size w w'))
    (h5 : Hid (∀ w, Tab w → Calls Tryd.prog 22 #[.agg #[.int .u64 b0, .int .u64 b1, .int .u64 b2, .int .u64 b3]] w fun e w' => e = .returned (.int .i64 t) ∧ Below w.heap.size w w'))
    (h6 : Hid (∀ w, Calls Tryd.prog 23 #[.agg #[.int .u64 b0, .int .u64 b1, .int .u64 b2, .int .u64 b3]] w fun e w' => e = .returned (.int .i64 t) ∧ Below w.heap.size w w')) :
    Calls Tryd.prog 5 #[.agg #[.int .u64 b0, .int .u64 b1, .int .u64 b2, .int .u64 b3], .int .i64 n, .bool z] w fun e w' => e = .returned (.bool true) ∧ Below w.heap.size w w' := by
  have hq : ∀ W, (Op.equalIn 10000 35 (.agg #[.int .u64 a0, .int .u64 a1, .int .u64 a2, .int .u64 a3]) (.agg #[.int .u64 a0, .int .u64 a1, .int .u64 a2, .int .u64 a3])).run Tryd.prog W = .ok true W := fun W => by
    have := eq_bits 9998 W a0 a1 a2 a3 a0 a1 a2 a3
    simpa using this
  go_enter Tryd.func5, Tryd.ntmps5
  go_wp2_with fail
  have k0 : Ok w (w.alloc (Obj.cells #[.int .u64 b0, .int .u64 b1, .int .u64 b2, .int .u64 b3] 35)) := ⟨ht.below (below_new _ _), below_new _ _⟩
  obtain ⟨c0, c1, c2, c3⟩ := cells_new w (.int .u64 b0) (.int .u64 b1) (.int .u64 b2) (.int .u64 b3) 35
  refine (h1.out _).mono ?_
  rintro e u1 ⟨rfl, hb1⟩
  have k1 := k0.keep hb1
  replace c0 := keepCell hb1 c0
  replace c1 := keepCell hb1 c1
  replace c2 := keepCell hb1 c2
  replace c3 := keepCell hb1 c3
  clear hb1 k0
  have hz1 : w.heap.size < u1.heap.size := World.block_lt_of_cell? u1 _ c0
  go_wp2_with fail
  have n1 := below_new u1 (Obj.cells #[Value.int IntKind.u64 a0, Value.int IntKind.u64 a1, Value.int IntKind.u64 a2, Value.int IntKind.u64 a3] 35)
  obtain ⟨d0, d1, d2, d3⟩ := cells_new u1 (.int .u64 a0) (.int .u64 a1) (.int .u64 a2) (.int .u64 a3) 35
  refine (h2.out _).mono ?_
  rintro e u2 ⟨rfl, hb2⟩
  have k2 := (k1.keep n1).keep hb2
  replace c0 := keepCell hb2 (keepCell n1 c0)
  replace c1 := keepCell hb2 (keepCell n1 c1)
  replace c2 := keepCell hb2 (keepCell n1 c2)
  replace c3 := keepCell hb2 (keepCell n1 c3)
  replace d0 := keepCell hb2 d0
  replace d1 := keepCell hb2 d1
  replace d2 := keepCell hb2 d2
  replace d3 := keepCell hb2 d3
  clear hb2 n1 k1
  have hz2 : u1.heap.size < u2.heap.size := World.block_lt_of_cell? u2 _ d0
  go_wp2_with fail
  have n2 := below_new u2 (Obj.cells #[Value.int IntKind.u64 a0, Value.int IntKind.u64 a1, Value.int IntKind.u64 a2, Value.int IntKind.u64 a3] 35)
  obtain ⟨e0, e1, e2, e3⟩ := cells_new u2 (.int .u64 a0) (.int .u64 a1) (.int .u64 a2) (.int .u64 a3) 35
  have k3 := k2.keep n2
  replace c0 := keepCell n2 c0
  replace c1 := keepCell n2 c1
  replace c2 := keepCell n2 c2
  replace c3 := keepCell n2 c3
  replace d0 := keepCell n2 d0
  replace d1 := keepCell n2 d1
  replace d2 := keepCell n2 d2
  replace d3 := keepCell n2 d3
  clear n2 k2 ht hz1 hz2
  generalize u2.alloc (Obj.cells #[Value.int IntKind.u64 a0, Value.int IntKind.u64 a1, Value.int IntKind.u64 a2, Value.int IntKind.u64 a3] 35) = W at *
  go_region_held3 (fun v => Ok w v ∧ v.cell? ⟨w.heap.size, 0, none⟩ = some (.int .u64 b0) ∧ v.cell? ⟨w.heap.size, 1, none⟩ = some (.int .u64 b1) ∧ v.cell? ⟨w.heap.size, 2, none⟩ = some (.int .u64 b2) ∧ v.cell? ⟨w.heap.size, 3, none⟩ = some (.int .u64 b3) ∧ v.cell? ⟨u1.heap.size, 0, none⟩ = some (.int .u64 a0) ∧ v.cell? ⟨u1.heap.size, 1, none⟩ = some (.int .u64 a1) ∧ v.cell? ⟨u1.heap.size, 2, none⟩ = some (.int .u64 a2) ∧ v.cell? ⟨u1.heap.size, 3, none⟩ = some (.int .u64 a3) ∧ v.cell? ⟨u2.heap.size, 0, none⟩ = some (.int .u64 a0) ∧ v.cell? ⟨u2.heap.size, 1, none⟩ = some (.int .u64 a1) ∧ v.cell? ⟨u2.heap.size, 2, none⟩ = some (.int .u64 a2) ∧ v.cell? ⟨u2.heap.size, 3, none⟩ = some (.int .u64 a3)) (first | (go_split_ands; refine ⟨Ok.keep (by assumption) (by assumption), ?_, ?_, ?_, ?_, ?_, ?_, ?_, ?_, ?_, ?_, ?_, ?_⟩ <;> exact keepCell (by assumption) (by assumption)) | (refine ⟨Ok.drew (by assumption), ?_, ?_, ?_, ?_, ?_, ?_, ?_, ?_, ?_, ?_, ?_, ?_⟩ <;> assumption)) (first | (go_at_call 13; go_split_ands; refine (fixed_any _ (Ok.tab (w := w) (by assumption))).mono ?_; rintro e v ⟨rfl, hb⟩) | (go_at_call 20; go_split_ands; refine (h3.out _).mono ?_; rintro e v ⟨rfl, hb⟩) | (go_at_call 21; go_split_ands; refine (h4.out _).mono ?_; rintro e v ⟨rfl, hb⟩) | (go_at_call 22; go_split_ands; refine (h5.out _ (Ok.tab (w := w) (by assumption))).mono ?_; rintro e v ⟨rfl, hb⟩) | (go_at_call 23; go_split_ands; refine (h6.out _).mono ?_; rintro e v ⟨rfl, hb⟩))
  go_wp2
  go_ret
  go_split_ands
  exact ⟨rfl, Ok.bel (by assumption)⟩
theorem sets (b0 b1 b2 b3 n : Int) (z : Bool) (w0 : Word b0) (w1 : Word b1) (w2 : Word b2) (w3 : Word b3) : ∃ a0 a1 a2 a3 q : Int,
    (∀ w, Calls Tryd.prog 18 #[.agg #[.int .u64 b0, .int .u64 b1, .int .u64 b2, .int .u64 b3], .int .i64 n, .bool z] w fun e w' => e = .returned (.tuple #[.agg #[.int .u64 a0, .int .u64 a1, .int .u64 a2, .int .u64 a3], .int .i64 q]) ∧ Below w.heap.size w w') ∧
    (∀ w, Calls Tryd.prog 19 #[.agg #[.int .u64 b0, .int .u64 b1, .int .u64 b2, .int .u64 b3], .int .i64 n, .bool z] w fun e w' => e = .returned (.tuple #[.agg #[.int .u64 a0, .int .u64 a1, .int .u64 a2, .int .u64 a3], .int .i64 q]) ∧ Below w.heap.size w w') := by
  by_cases c : 0 ≤ n ∧ n < 256
  · exact ⟨_, _, _, _, _, fun w => set_any z b0 b1 b2 b3 n w w0 w1 w2 w3 c.1 c.2, fun w => setR_any z b0 b1 b2 b3 n w w0 w1 w2 w3 c.1 c.2⟩
  · exact ⟨_, _, _, _, _, fun w => set_no b0 b1 b2 b3 n z w c, fun w => setR_no b0 b1 b2 b3 n z w c⟩
theorem walk (b0 b1 b2 b3 n : Int) (z : Bool) (w : World) (ht : Tab w) (w0 : Word b0) (w1 : Word b1) (w2 : Word b2) (w3 : Word b3) (_n0 : -9223372036854775808 ≤ n ∧ n ≤ 9223372036854775807) :
    Calls Tryd.prog 5 #[.agg #[.int .u64 b0, .int .u64 b1, .int .u64 b2, .int .u64 b3], .int .i64 n, .bool z] w fun e w' => e = .returned (.bool true) ∧ Below w.heap.size w w' := by
  obtain ⟨a0, a1, a2, a3, q, h1, h2⟩ := sets b0 b1 b2 b3 n z w0 w1 w2 w3
  exact walk0 b0 b1 b2 b3 n a0 a1 a2 a3 q _ z _ w ht h1 h2 (fun w => has_any b0 b1 b2 b3 n w w0 w1 w2 w3) (fun w => hasR_any b0 b1 b2 b3 n w w0 w1 w2 w3)
    (fun w ht => top_any b0 b1 b2 b3 w ht w0 w1 w2 w3) (fun w => topR_any b0 b1 b2 b3 w w0 w1 w2 w3)
open Go.ChangeShapes Go.WideShapes Go.ChangeAt Go.RowKit Go.Joins

/-! ### From the walk to the statement -/
theorem contract (H : Type) (enc : TypeId × Value → H) (W : World) (base : Nat) (args : Array Value) (ds gs : List (DataW H)) (before : List MemPlace)
    (hval : ∀ (j : Nat) t v, Tryd.f5.params[j]? = some t → args[j]? = some v → Value.okWide Tryd.prog W .any base t v)
    (hW : DataW.Whole enc Tryd.prog Tryd.f5.params.toList Rows.wordsSetsSpec.vars false W args.toList ds gs before) (hL : laidMetH Tryd.prog Rows.wordsSetsRow.laid W) :
    Calls Tryd.prog 5 args W fun e W' => ∃ v, e = .returned v ∧ Rows.wordsSetsSpec.post enc Tryd.prog Tryd.f5 false true false false W args v W' := by
  have hW' := hW
  obtain ⟨p, q, hA0, hV, rfl, hfz, hnd⟩ := hW
  have hA : DataW.TrodAll enc Tryd.prog W 0 (fun _ => true) true Tryd.f5.params.toList args.toList ds p := hA0
  rw [Tryd.params5] at hA hval
  obtain ⟨v0, vs0, d0, ds0, p0, q0, hargs, rfl, rfl, h0, r0⟩ := trodAll_cons hA
  obtain ⟨v1, vs1, d1, ds1, p1, q1, rfl, rfl, rfl, h1, r1⟩ := trodAll_cons r0
  obtain ⟨v2, vs2, d2, ds2, p2, q2, rfl, rfl, rfl, h2, r2⟩ := trodAll_cons r1
  obtain ⟨rfl, rfl, rfl⟩ := trodAll_nil r2
  obtain rfl : args = #[v0, v1, v2] := by cases args; simp_all
  obtain ⟨rfl, rfl⟩ := trodVars_none hV
  have k0 := h0
  have lt0 : ∀ x ∈ p0, x.block < W.heap.size := by obtain ⟨m, hm⟩ := k0; exact DataW.trod_lt m _ _ _ hm
  have k1 := h1
  have lt1 : ∀ x ∈ p1, x.block < W.heap.size := by obtain ⟨m, hm⟩ := k1; exact DataW.trod_lt m _ _ _ hm
  have k2 := h2
  have lt2 : ∀ x ∈ p2, x.block < W.heap.size := by obtain ⟨m, hm⟩ := k2; exact DataW.trod_lt m _ _ _ hm
  obtain ⟨a0p, a0q, a0r, a0s, rfl, w0p, w0q, w0r, w0s⟩ := open_bits (hval 0 35 v0 rfl rfl) h0
  obtain ⟨a1, rfl, _, _, w1⟩ := open_int Tryd.underlying3 (hval 1 3 v1 rfl rfl) h1
  obtain ⟨a2, rfl, _, _⟩ := open_bool Tryd.underlying4 (hval 2 4 v2 rfl rfl) h2
  clear hA0
  refine (walk a0p a0q a0r a0s a1 a2 W (table hL) w0p w0q w0r w0s (bounds_i64 w1)).mono fun e W' ⟨he, bel⟩ => ?_
  subst he
  exact ⟨_, rfl, _, _, _, [], _, [], hW', trodAll_mk1 (shut_bool Tryd.underlying4 _), (trodAll_cons_mk (Below.trod laidOut (by kernel_rfl) (of_decide_eq_true (by kernel_rfl)) k0 bel lt0) (trodAll_cons_mk (Below.trod laidOut (by kernel_rfl) (of_decide_eq_true (by kernel_rfl)) k1 bel lt1) (trodAll_cons_mk (Below.trod laidOut (by kernel_rfl) (of_decide_eq_true (by kernel_rfl)) k2 bel lt2) trodAll_mk0))), rfl, bel.frame _, fun h => by cases h⟩

theorem laid_met (os : Os) : laidMet Tryd.prog Rows.wordsSetsRow.laid ((World.doorLaid Tryd.prog 40 os).forCall (fun _ _ => 0) ⟨#[], #[.agg #[.int .u64 0, .int .u64 0, .int .u64 0, .int .u64 0], .int .i64 0, .bool false], []⟩).memory :=
  laidMet_of_run' 8 (by kernel_rfl) (by kernel_rfl)
theorem reads (os : Os) {H : Type} (enc : TypeId × Value → H) : ∃ places, DataW.whole enc Tryd.prog ((World.doorLaid Tryd.prog 40 os).forCall (fun _ _ => 0) ⟨#[], #[.agg #[.int .u64 0, .int .u64 0, .int .u64 0, .int .u64 0], .int .i64 0, .bool false], []⟩).memory Tryd.f5.params.toList Rows.wordsSetsSpec.vars false (#[.agg #[.int .u64 0, .int .u64 0, .int .u64 0, .int .u64 0], .int .i64 0, .bool false] : Array Value).toList 8 = some ([.agg [.lit (.int .u64 0), .lit (.int .u64 0), .lit (.int .u64 0), .lit (.int .u64 0)], .lit (.int .i64 0), .lit (.bool false)], [], places) :=
  ⟨[], by kernel_rfl⟩
set_option maxRecDepth 100000 in
theorem lifted (os : Os) (started : os.Started) (H : Type) (enc : TypeId × Value → H) (F : Stop.Interp) :
    ReturnsInHanded {} Tryd.checked os 5 .any ((OpenSpec.ofChange Rows.wordsSetsSpec).preRow enc Tryd.prog Tryd.f5 Rows.wordsSetsRow.domain false Rows.wordsSetsRow.laid) (((OpenSpec.ofChange Rows.wordsSetsSpec).at F).post enc Tryd.prog Tryd.f5 false true false false) := by
  obtain ⟨places, hx⟩ := reads os enc
  refine returnsInHanded_of_row (C := Tryd.checked) (s := OpenSpec.ofChange Rows.wordsSetsSpec) own started (by kernel_rfl) Tryd.func5
    (witness_row_at (enc := enc) (C := Tryd.checked) false (World.doorLaid Tryd.prog 40 os) #[.agg #[.int .u64 0, .int .u64 0, .int .u64 0, .int .u64 0], .int .i64 0, .bool false] rfl (by kernel_rfl) (by kernel_rfl) (by kernel_rfl)
      (OpenSpec.preRow_of_cond 8 hx (by kernel_rfl) (fun k hk => by cases hk) (by kernel_rfl) (laid_met os))) ?_
  intro W base args ds gs before hval hW _ _ _ hL _ _
  exact contract H enc W base args ds gs before hval hW hL
theorem said : Rows.WordsSetsSaid :=
  OpenClaim.holds_of_cond 5 Tryd.f5 rfl rfl rfl rfl rfl rfl rfl ⟨rfl, rfl, rfl, rfl, rfl⟩ rfl rfl rfl rfl rfl (by kernel_rfl) Tryd.func5 (by kernel_rfl)
    (of_decide_eq_true (by kernel_rfl)) (by unfold Func.isWrapper; first | (rw [if_pos (by decide +kernel)]; kernel_rfl) | (rw [if_neg (by decide +kernel)]; exact ⟨rfl, rfl⟩))
    (fun os started H enc _ F => by rw [OpenClaim.pre_eq_preRow]; exact lifted os started H enc F)
theorem plain (f : FuncId) (fn : Func) (hf : Tryd.pinned.checked.prog.funcNamed "buttress/buttresslaw01.WordsSets" = some f) (hfn : Tryd.pinned.checked.prog.funcs[f]? = some fn) :
    false = Tryd.pinned.checked.prog.looks [] ∧ ∀ (j : Nat) t, fn.params[j]? = some t → Tryd.pinned.checked.prog.wantsStandIn t = false := by
  obtain rfl : f = 5 := Option.some.inj ((show Tryd.prog.funcNamed "buttress/buttresslaw01.WordsSets" = some 5 by kernel_rfl).symm.trans hf) |>.symm
  obtain rfl : fn = Tryd.f5 := (Option.some.inj (Tryd.func5.symm.trans hfn)).symm
  refine ⟨by kernel_rfl, fun j t ht => ?_⟩
  rw [Tryd.params5] at ht
  have hm : t ∈ [35, 3, 4] := by simpa using Array.mem_of_getElem? ht
  have hall : ([35, 3, 4].all fun u => !Tryd.prog.wantsStandIn u) = true := by kernel_rfl
  exact (show Tryd.prog.wantsStandIn t = false by simpa using List.all_eq_true.1 hall t hm)
end Go.Proofs.YtpmlhdmncbpodaaDoor.wordsSets
namespace Go.Proofs.YtpmlhdmncbpodaaDoor
/-- THE CARD. -/
theorem wordsSets_card : Rows.WordsSetsCardSaid :=
  Claim7.holds_tied_plain_at .later [] _ _ _ _ wordsSets.said (fun _ h => by cases h) (by kernel_rfl) (fun _ h => by cases h) wordsSets_row_tie rfl ⟨rfl, rfl⟩ (by kernel_rfl) rfl wordsSets.plain (by kernel_rfl)
#print axioms wordsSets_card
end Go.Proofs.YtpmlhdmncbpodaaDoor
