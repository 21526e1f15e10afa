/-
  The statement WordsBack: for every two words and every two numbers the law returns true and what was handed in reads as it did; the table of widths lies as the program's text lays it, and the card ties that to the text.
-/
import Derived.Test.YtpmlhdmncbpodaaDoorFixed
import Derived.Test.YtpmlhdmncbpodaaDoorMore
import Derived.Test.YtpmlhdmncbpodaaDoorFrame
namespace Go.Proofs.YtpmlhdmncbpodaaDoor.wordsBack
open Go.RowKit

set_option maxHeartbeats 1000000 in
theorem walk0 (v x y z a k n p : Int) (w : World) (ht : Tab w) (v0 : Word v) (ha : bits BinOp.and IntKind.i64 y 63 = a) (hk : bits BinOp.and IntKind.i64 z 65535 = k) (hn : k % (65 - a) = n)
    (hp : bits BinOp.and IntKind.u64 x (onesI n) = p) (a0 : 0 ≤ a) (a1 : a ≤ 63) (k0 : 0 ≤ k) (k1 : k ≤ 65535) (n0 : 0 ≤ n) (n1 : n ≤ 64 - a) (p0 : 0 ≤ p) (p1 : p ≤ onesI n) :
    Calls Tryd.prog 6 #[.int .u64 v, .agg #[.int .i64 y, .int .i64 z], .int .u64 x] w fun e w' => e = .returned (.bool true) ∧ Below w.heap.size w w' := by
  obtain ⟨f1, f2, f3⟩ := back_facts v a n p v0.lo v0.hi a0 n0 n1 p0 p1
  have wb := withI_bd v a n p v0.lo v0.hi a0 n0 n1 p0 p1
  have fb := fieldI_bd v a n n0
  have s1 : (fieldI (withI v a n p) a n == p) = true := by rw [f1]; simp
  have s2 : (withI (withI v a n p) a n (fieldI v a n) == v) = true := by rw [f2]; simp
  have s3 : (bits BinOp.andNot IntKind.u64 (bits BinOp.xor IntKind.u64 (withI v a n p) v) (IntKind.u64.wrap (onesI n * 2 ^ a.toNat)) == 0) = true := by rw [f3]; simp
  clear f1 f2 f3
  go_enter Tryd.func6, Tryd.ntmps6
  go_wp2_with fail
  refine (mask_yes _ _ (by omega) (by omega)).mono ?_
  rintro e w' ⟨rfl, rfl⟩
  go_wp2_with fail
  refine (field_yes _ _ _ _ v0.lo v0.hi (by omega) (by omega) (by omega)).mono ?_
  rintro e w' ⟨rfl, rfl⟩
  go_wp2_with fail
  refine (with_yes _ _ _ _ _ v0.lo v0.hi (by omega) (by omega) (by omega) p0 p1).mono ?_
  rintro e w' ⟨rfl, rfl⟩
  go_wp2_with fail
  refine (field_yes _ _ _ _ wb.1 wb.2 (by omega) (by omega) (by omega)).mono ?_
  rintro e w' ⟨rfl, rfl⟩
  go_wp2_with fail
  refine (with_yes _ _ _ _ _ wb.1 wb.2 (by omega) (by omega) (by omega) fb.1 fb.2).mono ?_
  rintro e w' ⟨rfl, rfl⟩
  go_wp2_with fail
  have bA : Below w.heap.size w (w.alloc (Obj.cells #[Value.int IntKind.i64 y, Value.int IntKind.i64 z] 24)) := (Below.refl _ _).alloc (Nat.le_refl _) _
  refine (fixed_any _ (ht.below bA)).mono ?_
  rintro e w1 ⟨rfl, hb⟩
  have bB := bA.trans (hb.mono bA.size)
  clear bA hb
  go_wp2_with fail
  go_ret
  exact ⟨rfl, bB⟩
theorem walk (v y z x : Int) (w : World) (ht : Tab w) (v0 : Word v) (_y0 : -9223372036854775808 ≤ y ∧ y ≤ 9223372036854775807) (_z0 : -9223372036854775808 ≤ z ∧ z ≤ 9223372036854775807) (x0 : Word x) :
    Calls Tryd.prog 6 #[.int .u64 v, .agg #[.int .i64 y, .int .i64 z], .int .u64 x] w fun e w' => e = .returned (.bool true) ∧ Below w.heap.size w w' := by
  have a0 : 0 ≤ y % 64 := Int.emod_nonneg _ (by omega)
  have a1 : y % 64 ≤ 63 := by have := Int.emod_lt_of_pos y (b := 64) (by omega); omega
  have k0 : 0 ≤ z % 65536 := Int.emod_nonneg _ (by omega)
  have k1 : z % 65536 ≤ 65535 := by have := Int.emod_lt_of_pos z (b := 65536) (by omega); omega
  have ea := i64_63 y
  have ek := i64_65535 z
  generalize y % 64 = a at *
  generalize z % 65536 = k at *
  have n0 : 0 ≤ k % (65 - a) := Int.emod_nonneg _ (by omega)
  have n1 : k % (65 - a) ≤ 64 - a := by have := Int.emod_lt_of_pos k (b := 65 - a) (by omega); omega
  generalize en : k % (65 - a) = n at *
  have ep := and_ones x n x0.lo x0.hi n0 (by omega)
  have pb := fieldI_bd x 0 n n0
  exact walk0 v x y z a k n _ w ht v0 ea ek en ep a0 a1 k0 k1 n0 n1 pb.1 pb.2
open Go.ChangeShapes Go.WideShapes Go.ChangeAt Go.RowKit Go.Joins

/-! ### From the walk to the statement -/
theorem contract (H : Type) (enc : TypeId × Value → H) (W : World) (base : Nat) (args : Array Value) (ds gs : List (DataW H)) (before : List MemPlace)
    (hval : ∀ (j : Nat) t v, Tryd.f6.params[j]? = some t → args[j]? = some v → Value.okWide Tryd.prog W .any base t v)
    (hW : DataW.Whole enc Tryd.prog Tryd.f6.params.toList Rows.wordsBackSpec.vars false W args.toList ds gs before) (hL : laidMetH Tryd.prog Rows.wordsBackRow.laid W) :
    Calls Tryd.prog 6 args W fun e W' => ∃ v, e = .returned v ∧ Rows.wordsBackSpec.post enc Tryd.prog Tryd.f6 false true false false W args v W' := by
  have hW' := hW
  obtain ⟨p, q, hA0, hV, rfl, hfz, hnd⟩ := hW
  have hA : DataW.TrodAll enc Tryd.prog W 0 (fun _ => true) true Tryd.f6.params.toList args.toList ds p := hA0
  rw [Tryd.params6] at hA hval
  obtain ⟨v0, vs0, d0, ds0, p0, q0, hargs, rfl, rfl, h0, r0⟩ := trodAll_cons hA
  obtain ⟨v1, vs1, d1, ds1, p1, q1, rfl, rfl, rfl, h1, r1⟩ := trodAll_cons r0
  obtain ⟨v2, vs2, d2, ds2, p2, q2, rfl, rfl, rfl, h2, r2⟩ := trodAll_cons r1
  obtain ⟨rfl, rfl, rfl⟩ := trodAll_nil r2
  obtain rfl : args = #[v0, v1, v2] := by cases args; simp_all
  obtain ⟨rfl, rfl⟩ := trodVars_none hV
  have k0 := h0
  have lt0 : ∀ x ∈ p0, x.block < W.heap.size := by obtain ⟨m, hm⟩ := k0; exact DataW.trod_lt m _ _ _ hm
  have k1 := h1
  have lt1 : ∀ x ∈ p1, x.block < W.heap.size := by obtain ⟨m, hm⟩ := k1; exact DataW.trod_lt m _ _ _ hm
  have k2 := h2
  have lt2 : ∀ x ∈ p2, x.block < W.heap.size := by obtain ⟨m, hm⟩ := k2; exact DataW.trod_lt m _ _ _ hm
  obtain ⟨a0, rfl, _, _, w0⟩ := open_int Tryd.underlying22 (hval 0 22 v0 rfl rfl) h0
  obtain ⟨a1x, a1y, rfl, w1x, w1y⟩ := open_part (hval 1 24 v1 rfl rfl) h1
  obtain ⟨a2, rfl, _, _, w2⟩ := open_int Tryd.underlying22 (hval 2 22 v2 rfl rfl) h2
  clear hA0
  refine (walk a0 a1x a1y a2 W (table hL) (word_wf w0) w1x w1y (word_wf w2)).mono fun e W' ⟨he, bel⟩ => ?_
  subst he
  exact ⟨_, rfl, _, _, _, [], _, [], hW', trodAll_mk1 (shut_bool Tryd.underlying4 _), (trodAll_cons_mk (Below.trod laidOut (by kernel_rfl) (of_decide_eq_true (by kernel_rfl)) k0 bel lt0) (trodAll_cons_mk (Below.trod laidOut (by kernel_rfl) (of_decide_eq_true (by kernel_rfl)) k1 bel lt1) (trodAll_cons_mk (Below.trod laidOut (by kernel_rfl) (of_decide_eq_true (by kernel_rfl)) k2 bel lt2) trodAll_mk0))), rfl, bel.frame _, fun h => by cases h⟩

theorem laid_met (os : Os) : laidMet Tryd.prog Rows.wordsBackRow.laid ((World.doorLaid Tryd.prog 40 os).forCall (fun _ _ => 0) ⟨#[], #[.int .u64 0, .agg #[.int .i64 0, .int .i64 0], .int .u64 0], []⟩).memory :=
  laidMet_of_run' 8 (by kernel_rfl) (by kernel_rfl)
theorem reads (os : Os) {H : Type} (enc : TypeId × Value → H) : ∃ places, DataW.whole enc Tryd.prog ((World.doorLaid Tryd.prog 40 os).forCall (fun _ _ => 0) ⟨#[], #[.int .u64 0, .agg #[.int .i64 0, .int .i64 0], .int .u64 0], []⟩).memory Tryd.f6.params.toList Rows.wordsBackSpec.vars false (#[.int .u64 0, .agg #[.int .i64 0, .int .i64 0], .int .u64 0] : Array Value).toList 8 = some ([.lit (.int .u64 0), .agg [.lit (.int .i64 0), .lit (.int .i64 0)], .lit (.int .u64 0)], [], places) :=
  ⟨[], by kernel_rfl⟩
set_option maxRecDepth 100000 in
theorem lifted (os : Os) (started : os.Started) (H : Type) (enc : TypeId × Value → H) (F : Stop.Interp) :
    ReturnsInHanded {} Tryd.checked os 6 .any ((OpenSpec.ofChange Rows.wordsBackSpec).preRow enc Tryd.prog Tryd.f6 Rows.wordsBackRow.domain false Rows.wordsBackRow.laid) (((OpenSpec.ofChange Rows.wordsBackSpec).at F).post enc Tryd.prog Tryd.f6 false true false false) := by
  obtain ⟨places, hx⟩ := reads os enc
  refine returnsInHanded_of_row (C := Tryd.checked) (s := OpenSpec.ofChange Rows.wordsBackSpec) own started (by kernel_rfl) Tryd.func6
    (witness_row_at (enc := enc) (C := Tryd.checked) false (World.doorLaid Tryd.prog 40 os) #[.int .u64 0, .agg #[.int .i64 0, .int .i64 0], .int .u64 0] rfl (by kernel_rfl) (by kernel_rfl) (by kernel_rfl)
      (OpenSpec.preRow_of_cond 8 hx (by kernel_rfl) (fun k hk => by cases hk) (by kernel_rfl) (laid_met os))) ?_
  intro W base args ds gs before hval hW _ _ _ hL _ _
  exact contract H enc W base args ds gs before hval hW hL
theorem said : Rows.WordsBackSaid :=
  OpenClaim.holds_of_cond 6 Tryd.f6 rfl rfl rfl rfl rfl rfl rfl ⟨rfl, rfl, rfl, rfl, rfl⟩ rfl rfl rfl rfl rfl (by kernel_rfl) Tryd.func6 (by kernel_rfl)
    (of_decide_eq_true (by kernel_rfl)) (by unfold Func.isWrapper; first | (rw [if_pos (by decide +kernel)]; kernel_rfl) | (rw [if_neg (by decide +kernel)]; exact ⟨rfl, rfl⟩))
    (fun os started H enc _ F => by rw [OpenClaim.pre_eq_preRow]; exact lifted os started H enc F)
theorem plain (f : FuncId) (fn : Func) (hf : Tryd.pinned.checked.prog.funcNamed "buttress/buttresslaw01.WordsBack" = some f) (hfn : Tryd.pinned.checked.prog.funcs[f]? = some fn) :
    false = Tryd.pinned.checked.prog.looks [] ∧ ∀ (j : Nat) t, fn.params[j]? = some t → Tryd.pinned.checked.prog.wantsStandIn t = false := by
  obtain rfl : f = 6 := Option.some.inj ((show Tryd.prog.funcNamed "buttress/buttresslaw01.WordsBack" = some 6 by kernel_rfl).symm.trans hf) |>.symm
  obtain rfl : fn = Tryd.f6 := (Option.some.inj (Tryd.func6.symm.trans hfn)).symm
  refine ⟨by kernel_rfl, fun j t ht => ?_⟩
  rw [Tryd.params6] at ht
  have hm : t ∈ [22, 24, 22] := by simpa using Array.mem_of_getElem? ht
  have hall : ([22, 24, 22].all fun u => !Tryd.prog.wantsStandIn u) = true := by kernel_rfl
  exact (show Tryd.prog.wantsStandIn t = false by simpa using List.all_eq_true.1 hall t hm)
end Go.Proofs.YtpmlhdmncbpodaaDoor.wordsBack
namespace Go.Proofs.YtpmlhdmncbpodaaDoor
/-- THE CARD. -/
theorem wordsBack_card : Rows.WordsBackCardSaid :=
  Claim7.holds_tied_plain_at .later [] _ _ _ _ wordsBack.said (fun _ h => by cases h) (by kernel_rfl) (fun _ h => by cases h) wordsBack_row_tie rfl ⟨rfl, rfl⟩ (by kernel_rfl) rfl wordsBack.plain (by kernel_rfl)
#print axioms wordsBack_card
end Go.Proofs.YtpmlhdmncbpodaaDoor
