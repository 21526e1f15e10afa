/-
  The statement UntypedSizes: for every kind and any two numbers of bits the law returns true and what was handed in reads as it did; the table of sizes lies as the program's text lays it, and the card ties that to the text.
-/
import Derived.Test.YtkelblkegpmlpaaDoorUSay
namespace Go.Proofs.YtkelblkegpmlpaaDoor.untypedSizes
open Go.RowKit Go.Deep
set_option maxHeartbeats 1000000 in
theorem one_yes1 (k b c : Int) (w : World) (hT : Tab w) (hb : -9223372036854775808 ≤ b ∧ b ≤ 9223372036854775807) (hc : -9223372036854775808 ≤ c ∧ c ≤ 9223372036854775807) (hk : k = 1) (hz : szE k b = 0) :
    Calls Tryd.prog 6 #[.int .i64 k, .int .i64 b, .int .i64 c] w fun e w' => e = .returned (.bool true) ∧ Below w.heap.size w w' := by
  have k0 : Hid (Kp w w.heap.size w [] []) := Kp.start hT
  generalize hr0 : w.heap.size = r at *
  clear hr0 hT
  have z1 := szN_bd hz
  have z2 : (szE k b != 0) = false := by rw [hz]; rfl
  clear hz
  have n3 : (k != 1) = false := by rw [hk]; rfl
  clear hk
  go_enter Tryd.func6, Tryd.ntmps6
  go_wp2_with fail
  refine (size_kp k b k0.out hb).mono ?_
  rintro e w1 ⟨rfl, h1⟩
  have k1 : Hid (Kp w r w1 [] []) := h1
  clear h1 k0
  go_wp2_with fail
  refine (size_kp k c k1.out hc).mono ?_
  rintro e w2 ⟨rfl, h2⟩
  have k2 : Hid (Kp w r w2 [] []) := h2
  clear h2 k1
  generalize szN k b = sn at *
  generalize szE k b = se at *
  generalize szN k c = sn' at *
  generalize szE k c = se' at *
  go_wp2_with fail
  refine (fixed_kp k2.out).mono ?_
  rintro e w3 ⟨rfl, h3⟩
  have B : Hid (Below r w w3) := h3.bel
  clear h3
  go_wp2_with fail
  go_ret
  exact ⟨rfl, B.out⟩
set_option maxHeartbeats 1000000 in
theorem one_yes2 (k b c : Int) (w : World) (hT : Tab w) (hb : -9223372036854775808 ≤ b ∧ b ≤ 9223372036854775807) (hc : -9223372036854775808 ≤ c ∧ c ≤ 9223372036854775807) (hk : k = 2) (hz : szE k b = 0) :
    Calls Tryd.prog 6 #[.int .i64 k, .int .i64 b, .int .i64 c] w fun e w' => e = .returned (.bool true) ∧ Below w.heap.size w w' := by
  have k0 : Hid (Kp w w.heap.size w [] []) := Kp.start hT
  generalize hr0 : w.heap.size = r at *
  clear hr0 hT
  have z1 := szN_bd hz
  have z2 : (szE k b != 0) = false := by rw [hz]; rfl
  clear hz
  have n3 : (k != 1) = true := by rw [hk]; rfl
  have n4 : (k != 2) = false := by rw [hk]; rfl
  clear hk
  go_enter Tryd.func6, Tryd.ntmps6
  go_wp2_with fail
  refine (size_kp k b k0.out hb).mono ?_
  rintro e w1 ⟨rfl, h1⟩
  have k1 : Hid (Kp w r w1 [] []) := h1
  clear h1 k0
  go_wp2_with fail
  refine (size_kp k c k1.out hc).mono ?_
  rintro e w2 ⟨rfl, h2⟩
  have k2 : Hid (Kp w r w2 [] []) := h2
  clear h2 k1
  generalize szN k b = sn at *
  generalize szE k b = se at *
  generalize szN k c = sn' at *
  generalize szE k c = se' at *
  go_wp2_with fail
  refine (fixed_kp k2.out).mono ?_
  rintro e w3 ⟨rfl, h3⟩
  have B : Hid (Below r w w3) := h3.bel
  clear h3
  go_wp2_with fail
  go_ret
  exact ⟨rfl, B.out⟩
set_option maxHeartbeats 1000000 in
theorem one_no1 (k b c : Int) (w : World) (hT : Tab w) (hb : -9223372036854775808 ≤ b ∧ b ≤ 9223372036854775807) (hc : -9223372036854775808 ≤ c ∧ c ≤ 9223372036854775807) (hk : k = 1) (hz : szE k b ≠ 0) :
    Calls Tryd.prog 6 #[.int .i64 k, .int .i64 b, .int .i64 c] w fun e w' => e = .returned (.bool true) ∧ Below w.heap.size w w' := by
  have k0 : Hid (Kp w w.heap.size w [] []) := Kp.start hT
  generalize hr0 : w.heap.size = r at *
  clear hr0 hT
  have z1 : (szN k b == 0) = true := by rw [szN_no hz]; rfl
  have z2 : (szE k b != 0) = true := by simpa using hz
  clear hz
  have n3 : (k != 1) = false := by rw [hk]; rfl
  clear hk
  go_enter Tryd.func6, Tryd.ntmps6
  go_wp2_with fail
  refine (size_kp k b k0.out hb).mono ?_
  rintro e w1 ⟨rfl, h1⟩
  have k1 : Hid (Kp w r w1 [] []) := h1
  clear h1 k0
  go_wp2_with fail
  refine (size_kp k c k1.out hc).mono ?_
  rintro e w2 ⟨rfl, h2⟩
  have k2 : Hid (Kp w r w2 [] []) := h2
  clear h2 k1
  generalize szN k b = sn at *
  generalize szE k b = se at *
  generalize szN k c = sn' at *
  generalize szE k c = se' at *
  go_wp2_with fail
  refine (fixed_kp k2.out).mono ?_
  rintro e w3 ⟨rfl, h3⟩
  have B : Hid (Below r w w3) := h3.bel
  clear h3
  go_wp2_with fail
  go_ret
  exact ⟨rfl, B.out⟩
set_option maxHeartbeats 1000000 in
theorem one_no2 (k b c : Int) (w : World) (hT : Tab w) (hb : -9223372036854775808 ≤ b ∧ b ≤ 9223372036854775807) (hc : -9223372036854775808 ≤ c ∧ c ≤ 9223372036854775807) (hk : k = 2) (hz : szE k b ≠ 0) :
    Calls Tryd.prog 6 #[.int .i64 k, .int .i64 b, .int .i64 c] w fun e w' => e = .returned (.bool true) ∧ Below w.heap.size w w' := by
  have k0 : Hid (Kp w w.heap.size w [] []) := Kp.start hT
  generalize hr0 : w.heap.size = r at *
  clear hr0 hT
  have z1 : (szN k b == 0) = true := by rw [szN_no hz]; rfl
  have z2 : (szE k b != 0) = true := by simpa using hz
  clear hz
  have n3 : (k != 1) = true := by rw [hk]; rfl
  have n4 : (k != 2) = false := by rw [hk]; rfl
  clear hk
  go_enter Tryd.func6, Tryd.ntmps6
  go_wp2_with fail
  refine (size_kp k b k0.out hb).mono ?_
  rintro e w1 ⟨rfl, h1⟩
  have k1 : Hid (Kp w r w1 [] []) := h1
  clear h1 k0
  go_wp2_with fail
  refine (size_kp k c k1.out hc).mono ?_
  rintro e w2 ⟨rfl, h2⟩
  have k2 : Hid (Kp w r w2 [] []) := h2
  clear h2 k1
  generalize szN k b = sn at *
  generalize szE k b = se at *
  generalize szN k c = sn' at *
  generalize szE k c = se' at *
  go_wp2_with fail
  refine (fixed_kp k2.out).mono ?_
  rintro e w3 ⟨rfl, h3⟩
  have B : Hid (Below r w w3) := h3.bel
  clear h3
  go_wp2_with fail
  go_ret
  exact ⟨rfl, B.out⟩
set_option maxHeartbeats 1000000 in
theorem far_yes (k b c : Int) (w : World) (hT : Tab w) (hb : -9223372036854775808 ≤ b ∧ b ≤ 9223372036854775807) (hc : -9223372036854775808 ≤ c ∧ c ≤ 9223372036854775807) (hk : k ≠ 1 ∧ k ≠ 2) (hz : szE k b = 0) :
    Calls Tryd.prog 6 #[.int .i64 k, .int .i64 b, .int .i64 c] w fun e w' => e = .returned (.bool true) ∧ Below w.heap.size w w' := by
  have k0 : Hid (Kp w w.heap.size w [] []) := Kp.start hT
  generalize hr0 : w.heap.size = r at *
  clear hr0 hT
  obtain ⟨e1, e2⟩ := szN_far k b c hk.1 hk.2
  have n1 : (szN k b != szN k c) = false := by rw [e2]; simp
  have n2 : (szE k b != szE k c) = false := by rw [e1]; simp
  have n3 : (k != 1) = true := by simpa using hk.1
  have n4 : (k != 2) = true := by simpa using hk.2
  clear e1 e2 hk
  have z1 := szN_bd hz
  have z2 : (szE k b != 0) = false := by rw [hz]; rfl
  clear hz
  go_enter Tryd.func6, Tryd.ntmps6
  go_wp2_with fail
  refine (size_kp k b k0.out hb).mono ?_
  rintro e w1 ⟨rfl, h1⟩
  have k1 : Hid (Kp w r w1 [] []) := h1
  clear h1 k0
  go_wp2_with fail
  refine (size_kp k c k1.out hc).mono ?_
  rintro e w2 ⟨rfl, h2⟩
  have k2 : Hid (Kp w r w2 [] []) := h2
  clear h2 k1
  generalize szN k b = sn at *
  generalize szE k b = se at *
  generalize szN k c = sn' at *
  generalize szE k c = se' at *
  go_wp2_with fail
  refine (fixed_kp k2.out).mono ?_
  rintro e w3 ⟨rfl, h3⟩
  have B : Hid (Below r w w3) := h3.bel
  clear h3
  go_wp2_with fail
  go_ret
  exact ⟨rfl, B.out⟩
set_option maxHeartbeats 1000000 in
theorem far_no (k b c : Int) (w : World) (hT : Tab w) (hb : -9223372036854775808 ≤ b ∧ b ≤ 9223372036854775807) (hc : -9223372036854775808 ≤ c ∧ c ≤ 9223372036854775807) (hk : k ≠ 1 ∧ k ≠ 2) (hz : szE k b ≠ 0) :
    Calls Tryd.prog 6 #[.int .i64 k, .int .i64 b, .int .i64 c] w fun e w' => e = .returned (.bool true) ∧ Below w.heap.size w w' := by
  have k0 : Hid (Kp w w.heap.size w [] []) := Kp.start hT
  generalize hr0 : w.heap.size = r at *
  clear hr0 hT
  obtain ⟨e1, e2⟩ := szN_far k b c hk.1 hk.2
  have n1 : (szN k b != szN k c) = false := by rw [e2]; simp
  have n2 : (szE k b != szE k c) = false := by rw [e1]; simp
  have n3 : (k != 1) = true := by simpa using hk.1
  have n4 : (k != 2) = true := by simpa using hk.2
  clear e1 e2 hk
  have z1 : (szN k b == 0) = true := by rw [szN_no hz]; rfl
  have z2 : (szE k b != 0) = true := by simpa using hz
  clear hz
  go_enter Tryd.func6, Tryd.ntmps6
  go_wp2_with fail
  refine (size_kp k b k0.out hb).mono ?_
  rintro e w1 ⟨rfl, h1⟩
  have k1 : Hid (Kp w r w1 [] []) := h1
  clear h1 k0
  go_wp2_with fail
  refine (size_kp k c k1.out hc).mono ?_
  rintro e w2 ⟨rfl, h2⟩
  have k2 : Hid (Kp w r w2 [] []) := h2
  clear h2 k1
  generalize szN k b = sn at *
  generalize szE k b = se at *
  generalize szN k c = sn' at *
  generalize szE k c = se' at *
  go_wp2_with fail
  refine (fixed_kp k2.out).mono ?_
  rintro e w3 ⟨rfl, h3⟩
  have B : Hid (Below r w w3) := h3.bel
  clear h3
  go_wp2_with fail
  go_ret
  exact ⟨rfl, B.out⟩
theorem walk (k b c : Int) (w : World) (hT : Tab w) (_hk : -9223372036854775808 ≤ k ∧ k ≤ 9223372036854775807) (hb : -9223372036854775808 ≤ b ∧ b ≤ 9223372036854775807) (hc : -9223372036854775808 ≤ c ∧ c ≤ 9223372036854775807) :
    Calls Tryd.prog 6 #[.int .i64 k, .int .i64 b, .int .i64 c] w fun e w' => e = .returned (.bool true) ∧ Below w.heap.size w w' := by
  by_cases hz : szE k b = 0
  · by_cases h1 : k = 1
    · exact one_yes1 k b c w hT hb hc h1 hz
    · by_cases h2 : k = 2
      · exact one_yes2 k b c w hT hb hc h2 hz
      · exact far_yes k b c w hT hb hc ⟨h1, h2⟩ hz
  · by_cases h1 : k = 1
    · exact one_no1 k b c w hT hb hc h1 hz
    · by_cases h2 : k = 2
      · exact one_no2 k b c w hT hb hc h2 hz
      · exact far_no k b c w hT hb hc ⟨h1, h2⟩ hz
open Go.ChangeShapes Go.WideShapes Go.ChangeAt Go.RowKit Go.Joins

/-! ### From the walk to the statement -/
theorem contract (H : Type) (enc : TypeId × Value → H) (W : World) (base : Nat) (args : Array Value) (ds gs : List (DataW H)) (before : List MemPlace)
    (hval : ∀ (j : Nat) t v, Tryd.f6.params[j]? = some t → args[j]? = some v → Value.okWide Tryd.prog W .any base t v)
    (hW : DataW.Whole enc Tryd.prog Tryd.f6.params.toList Rows.untypedSizesSpec.vars false W args.toList ds gs before) (hL : laidMetH Tryd.prog Rows.untypedSizesRow.laid W) :
    Calls Tryd.prog 6 args W fun e W' => ∃ v, e = .returned v ∧ Rows.untypedSizesSpec.post enc Tryd.prog Tryd.f6 false true false false W args v W' := by
  have hW' := hW
  obtain ⟨p, q, hA0, hV, rfl, hfz, hnd⟩ := hW
  have hA : DataW.TrodAll enc Tryd.prog W 0 (fun _ => true) true Tryd.f6.params.toList args.toList ds p := hA0
  rw [Tryd.params6] at hA hval
  obtain ⟨v0, vs0, d0, ds0, p0, q0, hargs, rfl, rfl, h0, r0⟩ := trodAll_cons hA
  obtain ⟨v1, vs1, d1, ds1, p1, q1, rfl, rfl, rfl, h1, r1⟩ := trodAll_cons r0
  obtain ⟨v2, vs2, d2, ds2, p2, q2, rfl, rfl, rfl, h2, r2⟩ := trodAll_cons r1
  obtain ⟨rfl, rfl, rfl⟩ := trodAll_nil r2
  obtain rfl : args = #[v0, v1, v2] := by cases args; simp_all
  obtain ⟨rfl, rfl⟩ := trodVars_none hV
  have k0 := h0
  have lt0 : ∀ x ∈ p0, x.block < W.heap.size := by obtain ⟨m, hm⟩ := k0; exact DataW.trod_lt m _ _ _ hm
  have k1 := h1
  have lt1 : ∀ x ∈ p1, x.block < W.heap.size := by obtain ⟨m, hm⟩ := k1; exact DataW.trod_lt m _ _ _ hm
  have k2 := h2
  have lt2 : ∀ x ∈ p2, x.block < W.heap.size := by obtain ⟨m, hm⟩ := k2; exact DataW.trod_lt m _ _ _ hm
  obtain ⟨a0, rfl, _, _, w0⟩ := open_int Tryd.underlying3 (hval 0 3 v0 rfl rfl) h0
  obtain ⟨a1, rfl, _, _, w1⟩ := open_int Tryd.underlying3 (hval 1 3 v1 rfl rfl) h1
  obtain ⟨a2, rfl, _, _, w2⟩ := open_int Tryd.underlying3 (hval 2 3 v2 rfl rfl) h2
  clear hA0
  refine (walk a0 a1 a2 W (table hL) (bounds_i64 w0) (bounds_i64 w1) (bounds_i64 w2)).mono fun e W' ⟨he, bel⟩ => ?_
  subst he
  exact ⟨_, rfl, _, _, _, [], _, [], hW', trodAll_mk1 (shut_bool Tryd.underlying4 _), (trodAll_cons_mk (Below.trod laidOut (by kernel_rfl) (of_decide_eq_true (by kernel_rfl)) k0 bel lt0) (trodAll_cons_mk (Below.trod laidOut (by kernel_rfl) (of_decide_eq_true (by kernel_rfl)) k1 bel lt1) (trodAll_cons_mk (Below.trod laidOut (by kernel_rfl) (of_decide_eq_true (by kernel_rfl)) k2 bel lt2) trodAll_mk0))), rfl, bel.frame _, fun h => by cases h⟩

theorem laid_met (os : Os) : laidMet Tryd.prog Rows.untypedSizesRow.laid ((World.doorLaid Tryd.prog 40 os).forCall (fun _ _ => 0) ⟨#[], #[.int .i64 0, .int .i64 0, .int .i64 0], []⟩).memory :=
  laidMet_of_run' 8 (by kernel_rfl) (by kernel_rfl)
theorem reads (os : Os) {H : Type} (enc : TypeId × Value → H) : ∃ places, DataW.whole enc Tryd.prog ((World.doorLaid Tryd.prog 40 os).forCall (fun _ _ => 0) ⟨#[], #[.int .i64 0, .int .i64 0, .int .i64 0], []⟩).memory Tryd.f6.params.toList Rows.untypedSizesSpec.vars false (#[.int .i64 0, .int .i64 0, .int .i64 0] : Array Value).toList 8 = some ([.lit (.int .i64 0), .lit (.int .i64 0), .lit (.int .i64 0)], [], places) :=
  ⟨[], by kernel_rfl⟩
set_option maxRecDepth 100000 in
theorem lifted (os : Os) (started : os.Started) (H : Type) (enc : TypeId × Value → H) (F : Stop.Interp) :
    ReturnsInHanded {} Tryd.checked os 6 .any ((OpenSpec.ofChange Rows.untypedSizesSpec).preRow enc Tryd.prog Tryd.f6 Rows.untypedSizesRow.domain false Rows.untypedSizesRow.laid) (((OpenSpec.ofChange Rows.untypedSizesSpec).at F).post enc Tryd.prog Tryd.f6 false true false false) := by
  obtain ⟨places, hx⟩ := reads os enc
  refine returnsInHanded_of_row (C := Tryd.checked) (s := OpenSpec.ofChange Rows.untypedSizesSpec) own started (by kernel_rfl) Tryd.func6
    (witness_row_at (enc := enc) (C := Tryd.checked) false (World.doorLaid Tryd.prog 40 os) #[.int .i64 0, .int .i64 0, .int .i64 0] rfl (by kernel_rfl) (by kernel_rfl) (by kernel_rfl)
      (OpenSpec.preRow_of_cond 8 hx (by kernel_rfl) (fun k hk => by cases hk) (by kernel_rfl) (laid_met os))) ?_
  intro W base args ds gs before hval hW _ _ _ hL _ _
  exact contract H enc W base args ds gs before hval hW hL
theorem said : Rows.UntypedSizesSaid :=
  OpenClaim.holds_of_cond 6 Tryd.f6 rfl rfl rfl rfl rfl rfl rfl ⟨rfl, rfl, rfl, rfl, rfl⟩ rfl rfl rfl rfl rfl (by kernel_rfl) Tryd.func6 (by kernel_rfl)
    (of_decide_eq_true (by kernel_rfl)) (by unfold Func.isWrapper; first | (rw [if_pos (by decide +kernel)]; kernel_rfl) | (rw [if_neg (by decide +kernel)]; exact ⟨rfl, rfl⟩))
    (fun os started H enc _ F => by rw [OpenClaim.pre_eq_preRow]; exact lifted os started H enc F)
theorem plain (f : FuncId) (fn : Func) (hf : Tryd.pinned.checked.prog.funcNamed "buttress/buttresslaw08.UntypedSizes" = some f) (hfn : Tryd.pinned.checked.prog.funcs[f]? = some fn) :
    false = Tryd.pinned.checked.prog.looks [] ∧ ∀ (j : Nat) t, fn.params[j]? = some t → Tryd.pinned.checked.prog.wantsStandIn t = false := by
  obtain rfl : f = 6 := Option.some.inj ((show Tryd.prog.funcNamed "buttress/buttresslaw08.UntypedSizes" = some 6 by kernel_rfl).symm.trans hf) |>.symm
  obtain rfl : fn = Tryd.f6 := (Option.some.inj (Tryd.func6.symm.trans hfn)).symm
  refine ⟨by kernel_rfl, fun j t ht => ?_⟩
  rw [Tryd.params6] at ht
  have hm : t ∈ [3, 3, 3] := by simpa using Array.mem_of_getElem? ht
  have hall : ([3, 3, 3].all fun u => !Tryd.prog.wantsStandIn u) = true := by kernel_rfl
  exact (show Tryd.prog.wantsStandIn t = false by simpa using List.all_eq_true.1 hall t hm)
end Go.Proofs.YtkelblkegpmlpaaDoor.untypedSizes
namespace Go.Proofs.YtkelblkegpmlpaaDoor
/-- THE CARD. -/
theorem untypedSizes_card : Rows.UntypedSizesCardSaid :=
  Claim7.holds_tied_plain_at .later [] _ _ _ _ untypedSizes.said (fun _ h => by cases h) (by kernel_rfl) (fun _ h => by cases h) untypedSizes_row_tie rfl ⟨rfl, rfl⟩ (by kernel_rfl) rfl untypedSizes.plain (by kernel_rfl)
#print axioms untypedSizes_card
end Go.Proofs.YtkelblkegpmlpaaDoor
