/-
  The statement WordsRefuses: for every word, every two numbers and every four words the law returns true and what was handed in reads as it did; the table of widths lies as the program's text lays it, and the card ties that to the text.
-/
import Derived.Test.YtpmlhdmncbpodabDoorFixed
import Derived.Test.YtpmlhdmncbpodabDoorMore
import Derived.Test.YtpmlhdmncbpodabDoorEq
import Derived.Test.YtpmlhdmncbpodabDoorFrame
namespace Go.Proofs.YtpmlhdmncbpodabDoor.wordsRefuses
open Go.RowKit

set_option maxHeartbeats 1000000 in
theorem walk0 (v x y b0 b1 b2 b3 n : Int) (w : World) (ht : Tab w) (hn : bits BinOp.and IntKind.i64 x 63 = n) (n0 : 0 ≤ n) (n1 : n ≤ 63) :
    Calls Tryd.prog 4 #[.int .u64 v, .agg #[.int .i64 x, .int .i64 y], .agg #[.int .u64 b0, .int .u64 b1, .int .u64 b2, .int .u64 b3]] w fun e w' => e = .returned (.bool true) ∧ Below w.heap.size w w' := by
  go_enter Tryd.func4, Tryd.ntmps4
  go_wp2_with fail
  go_quiet (fail)
  have b0' : Below w.heap.size w (((w.alloc (Obj.cells #[Value.int IntKind.i64 x, Value.int IntKind.i64 y] 30)).alloc (Obj.cells #[Value.int IntKind.u64 b0, Value.int IntKind.u64 b1, Value.int IntKind.u64 b2, Value.int IntKind.u64 b3] 32)).drewN nq) :=
    below_drewN (((Below.refl _ _).alloc (Nat.le_refl _) _).alloc (by simp) _) _
  go_wp2_with fail
  refine (field_no _ _ _ _ (by omega) (by omega)).mono ?_
  rintro e w' ⟨rfl, rfl⟩
  go_wp2_with fail
  refine (with_no _ _ _ _ _ (by omega) (by omega)).mono ?_
  rintro e w' ⟨rfl, rfl⟩
  go_wp2_with fail
  refine (mask_no _ _ (by omega)).mono ?_
  rintro e w' ⟨rfl, rfl⟩
  go_wp2_with fail
  refine (set_no _ _ _ _ _ _ _ (by omega)).mono ?_
  rintro e w1 ⟨rfl, hb1⟩
  have b1' := b0'.trans (hb1.mono b0'.size)
  obtain ⟨hc, hf⟩ := bcell hb1
  have hz : w.heap.size + 1 < w1.heap.size := by have := hb1.size; simp at this; omega
  have hq := fun W => eq_bits 9998 W 0 0 0 0 0 0 0 0
  clear b0' hb1
  go_wp2_with fail
  refine (has_no _ _ _ _ _ _ (by omega)).mono ?_
  rintro e w2 ⟨rfl, hb2⟩
  have b2' := (b1'.alloc b1'.size _).trans (hb2.mono (by have := b1'.size; simp; omega))
  have k2 : Below w1.heap.size w1 w2 := ((Below.refl _ _).alloc (Nat.le_refl _) _).trans (hb2.mono (by simp))
  have m2 : ∀ o, w2.cell? ⟨w.heap.size + 1, o, none⟩ = w1.cell? ⟨w.heap.size + 1, o, none⟩ := fun o => k2.cell (p := ⟨w.heap.size + 1, o, none⟩) hz
  clear b1' hb2 k2
  go_wp2_with fail
  refine (has_no _ _ _ _ (255 + (1 + n)) _ (by omega)).mono ?_
  rintro e w3 ⟨rfl, hb3⟩
  have b3' := b2'.trans (hb3.mono b2'.size)
  clear b2' hb3 hc hf m2
  go_wp2_with fail
  refine (fixed_any _ (ht.below b3')).mono ?_
  rintro e w4 ⟨rfl, hb4⟩
  have b4' := b3'.trans (hb4.mono b3'.size)
  clear b3' hb4
  go_wp2_with fail
  go_ret
  exact ⟨rfl, b4'⟩
theorem walk (v x y b0 b1 b2 b3 : Int) (w : World) (ht : Tab w) (_v0 : Word v) (_x0 : -9223372036854775808 ≤ x ∧ x ≤ 9223372036854775807) (_y0 : -9223372036854775808 ≤ y ∧ y ≤ 9223372036854775807) (_w0 : Word b0) (_w1 : Word b1) (_w2 : Word b2) (_w3 : Word b3) :
    Calls Tryd.prog 4 #[.int .u64 v, .agg #[.int .i64 x, .int .i64 y], .agg #[.int .u64 b0, .int .u64 b1, .int .u64 b2, .int .u64 b3]] w fun e w' => e = .returned (.bool true) ∧ Below w.heap.size w w' :=
  walk0 v x y b0 b1 b2 b3 _ w ht (i64_63 x) (Int.emod_nonneg _ (by omega)) (by have := Int.emod_lt_of_pos x (b := 64) (by omega); omega)
open Go.ChangeShapes Go.WideShapes Go.ChangeAt Go.RowKit Go.Joins

/-! ### From the walk to the statement -/
theorem contract (H : Type) (enc : TypeId × Value → H) (W : World) (base : Nat) (args : Array Value) (ds gs : List (DataW H)) (before : List MemPlace)
    (hval : ∀ (j : Nat) t v, Tryd.f4.params[j]? = some t → args[j]? = some v → Value.okWide Tryd.prog W .any base t v)
    (hW : DataW.Whole enc Tryd.prog Tryd.f4.params.toList Rows.wordsRefusesSpec.vars false W args.toList ds gs before) (hL : laidMetH Tryd.prog Rows.wordsRefusesRow.laid W) :
    Calls Tryd.prog 4 args W fun e W' => ∃ v, e = .returned v ∧ Rows.wordsRefusesSpec.post enc Tryd.prog Tryd.f4 false true false false W args v W' := by
  have hW' := hW
  obtain ⟨p, q, hA0, hV, rfl, hfz, hnd⟩ := hW
  have hA : DataW.TrodAll enc Tryd.prog W 0 (fun _ => true) true Tryd.f4.params.toList args.toList ds p := hA0
  rw [Tryd.params4] at hA hval
  obtain ⟨v0, vs0, d0, ds0, p0, q0, hargs, rfl, rfl, h0, r0⟩ := trodAll_cons hA
  obtain ⟨v1, vs1, d1, ds1, p1, q1, rfl, rfl, rfl, h1, r1⟩ := trodAll_cons r0
  obtain ⟨v2, vs2, d2, ds2, p2, q2, rfl, rfl, rfl, h2, r2⟩ := trodAll_cons r1
  obtain ⟨rfl, rfl, rfl⟩ := trodAll_nil r2
  obtain rfl : args = #[v0, v1, v2] := by cases args; simp_all
  obtain ⟨rfl, rfl⟩ := trodVars_none hV
  have k0 := h0
  have lt0 : ∀ x ∈ p0, x.block < W.heap.size := by obtain ⟨m, hm⟩ := k0; exact DataW.trod_lt m _ _ _ hm
  have k1 := h1
  have lt1 : ∀ x ∈ p1, x.block < W.heap.size := by obtain ⟨m, hm⟩ := k1; exact DataW.trod_lt m _ _ _ hm
  have k2 := h2
  have lt2 : ∀ x ∈ p2, x.block < W.heap.size := by obtain ⟨m, hm⟩ := k2; exact DataW.trod_lt m _ _ _ hm
  obtain ⟨a0, rfl, _, _, w0⟩ := open_int Tryd.underlying22 (hval 0 22 v0 rfl rfl) h0
  obtain ⟨a1x, a1y, rfl, w1x, w1y⟩ := open_part (hval 1 30 v1 rfl rfl) h1
  obtain ⟨a2p, a2q, a2r, a2s, rfl, w2p, w2q, w2r, w2s⟩ := open_bits (hval 2 32 v2 rfl rfl) h2
  clear hA0
  refine (walk a0 a1x a1y a2p a2q a2r a2s W (table hL) (word_wf w0) w1x w1y w2p w2q w2r w2s).mono fun e W' ⟨he, bel⟩ => ?_
  subst he
  exact ⟨_, rfl, _, _, _, [], _, [], hW', trodAll_mk1 (shut_bool Tryd.underlying4 _), (trodAll_cons_mk (Below.trod laidOut (by kernel_rfl) (of_decide_eq_true (by kernel_rfl)) k0 bel lt0) (trodAll_cons_mk (Below.trod laidOut (by kernel_rfl) (of_decide_eq_true (by kernel_rfl)) k1 bel lt1) (trodAll_cons_mk (Below.trod laidOut (by kernel_rfl) (of_decide_eq_true (by kernel_rfl)) k2 bel lt2) trodAll_mk0))), rfl, bel.frame _, fun h => by cases h⟩

theorem laid_met (os : Os) : laidMet Tryd.prog Rows.wordsRefusesRow.laid ((World.doorLaid Tryd.prog 40 os).forCall (fun _ _ => 0) ⟨#[], #[.int .u64 0, .agg #[.int .i64 0, .int .i64 0], .agg #[.int .u64 0, .int .u64 0, .int .u64 0, .int .u64 0]], []⟩).memory :=
  laidMet_of_run' 8 (by kernel_rfl) (by kernel_rfl)
theorem reads (os : Os) {H : Type} (enc : TypeId × Value → H) : ∃ places, DataW.whole enc Tryd.prog ((World.doorLaid Tryd.prog 40 os).forCall (fun _ _ => 0) ⟨#[], #[.int .u64 0, .agg #[.int .i64 0, .int .i64 0], .agg #[.int .u64 0, .int .u64 0, .int .u64 0, .int .u64 0]], []⟩).memory Tryd.f4.params.toList Rows.wordsRefusesSpec.vars false (#[.int .u64 0, .agg #[.int .i64 0, .int .i64 0], .agg #[.int .u64 0, .int .u64 0, .int .u64 0, .int .u64 0]] : Array Value).toList 8 = some ([.lit (.int .u64 0), .agg [.lit (.int .i64 0), .lit (.int .i64 0)], .agg [.lit (.int .u64 0), .lit (.int .u64 0), .lit (.int .u64 0), .lit (.int .u64 0)]], [], places) :=
  ⟨[], by kernel_rfl⟩
set_option maxRecDepth 100000 in
theorem lifted (os : Os) (started : os.Started) (H : Type) (enc : TypeId × Value → H) (F : Stop.Interp) :
    ReturnsInHanded {} Tryd.checked os 4 .any ((OpenSpec.ofChange Rows.wordsRefusesSpec).preRow enc Tryd.prog Tryd.f4 Rows.wordsRefusesRow.domain false Rows.wordsRefusesRow.laid) (((OpenSpec.ofChange Rows.wordsRefusesSpec).at F).post enc Tryd.prog Tryd.f4 false true false false) := by
  obtain ⟨places, hx⟩ := reads os enc
  refine returnsInHanded_of_row (C := Tryd.checked) (s := OpenSpec.ofChange Rows.wordsRefusesSpec) own started (by kernel_rfl) Tryd.func4
    (witness_row_at (enc := enc) (C := Tryd.checked) false (World.doorLaid Tryd.prog 40 os) #[.int .u64 0, .agg #[.int .i64 0, .int .i64 0], .agg #[.int .u64 0, .int .u64 0, .int .u64 0, .int .u64 0]] rfl (by kernel_rfl) (by kernel_rfl) (by kernel_rfl)
      (OpenSpec.preRow_of_cond 8 hx (by kernel_rfl) (fun k hk => by cases hk) (by kernel_rfl) (laid_met os))) ?_
  intro W base args ds gs before hval hW _ _ _ hL _ _
  exact contract H enc W base args ds gs before hval hW hL
theorem said : Rows.WordsRefusesSaid :=
  OpenClaim.holds_of_cond 4 Tryd.f4 rfl rfl rfl rfl rfl rfl rfl ⟨rfl, rfl, rfl, rfl, rfl⟩ rfl rfl rfl rfl rfl (by kernel_rfl) Tryd.func4 (by kernel_rfl)
    (of_decide_eq_true (by kernel_rfl)) (by unfold Func.isWrapper; first | (rw [if_pos (by decide +kernel)]; kernel_rfl) | (rw [if_neg (by decide +kernel)]; exact ⟨rfl, rfl⟩))
    (fun os started H enc _ F => by rw [OpenClaim.pre_eq_preRow]; exact lifted os started H enc F)
theorem plain (f : FuncId) (fn : Func) (hf : Tryd.pinned.checked.prog.funcNamed "buttress/buttresslaw01.WordsRefuses" = some f) (hfn : Tryd.pinned.checked.prog.funcs[f]? = some fn) :
    false = Tryd.pinned.checked.prog.looks [] ∧ ∀ (j : Nat) t, fn.params[j]? = some t → Tryd.pinned.checked.prog.wantsStandIn t = false := by
  obtain rfl : f = 4 := Option.some.inj ((show Tryd.prog.funcNamed "buttress/buttresslaw01.WordsRefuses" = some 4 by kernel_rfl).symm.trans hf) |>.symm
  obtain rfl : fn = Tryd.f4 := (Option.some.inj (Tryd.func4.symm.trans hfn)).symm
  refine ⟨by kernel_rfl, fun j t ht => ?_⟩
  rw [Tryd.params4] at ht
  have hm : t ∈ [22, 30, 32] := by simpa using Array.mem_of_getElem? ht
  have hall : ([22, 30, 32].all fun u => !Tryd.prog.wantsStandIn u) = true := by kernel_rfl
  exact (show Tryd.prog.wantsStandIn t = false by simpa using List.all_eq_true.1 hall t hm)
end Go.Proofs.YtpmlhdmncbpodabDoor.wordsRefuses
namespace Go.Proofs.YtpmlhdmncbpodabDoor
/-- THE CARD. -/
theorem wordsRefuses_card : Rows.WordsRefusesCardSaid :=
  Claim7.holds_tied_plain_at .later [] _ _ _ _ wordsRefuses.said (fun _ h => by cases h) (by kernel_rfl) (fun _ h => by cases h) wordsRefuses_row_tie rfl ⟨rfl, rfl⟩ (by kernel_rfl) rfl wordsRefuses.plain (by kernel_rfl)
#print axioms wordsRefuses_card
end Go.Proofs.YtpmlhdmncbpodabDoor
