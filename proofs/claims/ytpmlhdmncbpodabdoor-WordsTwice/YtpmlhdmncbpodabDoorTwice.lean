/-
  The statement WordsTwice: for every three words the law returns true and what was handed in reads as it did; the table of widths lies as the program's text lays it, and the card ties that to the text.
-/
import Derived.Test.YtpmlhdmncbpodabDoorFixed
import Derived.Test.YtpmlhdmncbpodabDoorFrame

namespace Go.Proofs.YtpmlhdmncbpodabDoor.wordsTwice
open Go.RowKit

/-! ### The plain law -/
theorem and_ones (x n : Int) (x0 : Word x) (n0 : 0 ≤ n) (n1 : n ≤ 64) : bits .and .u64 x (onesI n) = fieldI x 0 n := by
  have := field_bits x 0 n x0.lo x0.hi (by omega) n0 n1
  simpa using this
theorem with_with (v p q : Int) (v0 : Word v) (p0 : 0 ≤ p) (p1 : p ≤ onesI 16) (q0 : 0 ≤ q) (q1 : q ≤ onesI 24) :
    withI (withI v 3 16 p) 30 24 q = withI (withI v 30 24 q) 3 16 p ∧ fieldI (withI (withI v 3 16 p) 30 24 q) 3 16 = p ∧ fieldI (withI (withI v 3 16 p) 30 24 q) 30 24 = q := by
  obtain ⟨V, rfl⟩ := Int.eq_ofNat_of_zero_le v0.lo
  obtain ⟨P, rfl⟩ := Int.eq_ofNat_of_zero_le p0
  obtain ⟨Q, rfl⟩ := Int.eq_ofNat_of_zero_le q0
  have hP : P < 2 ^ 16 := by have : onesI 16 = 65535 := by decide +kernel
                             omega
  have hQ : Q < 2 ^ 24 := by have : onesI 24 = 16777215 := by decide +kernel
                             omega
  have e3 : (3 : Int).toNat = 3 := rfl
  have e16 : (16 : Int).toNat = 16 := rfl
  have e30 : (30 : Int).toNat = 30 := rfl
  have e24 : (24 : Int).toNat = 24 := rfl
  simp only [withI, fieldI, Int.toNat_natCast, e3, e16, e30, e24]
  rw [with_apart V 3 16 P 30 24 Q hP hQ (by omega)]
  refine ⟨rfl, ?_, ?_⟩
  · rw [field_with _ _ _ _ hP]
  · rw [field_apart _ _ _ _ _ _ hP (by omega), field_with _ _ _ _ hQ]

/-! ### The walk -/
set_option maxHeartbeats 1000000 in
theorem walk0 (v x y p q : Int) (w : World) (ht : Tab w) (v0 : Word v) (hp : bits BinOp.and IntKind.u64 x 65535 = p) (hq : bits BinOp.and IntKind.u64 y 16777215 = q)
    (p0 : 0 ≤ p) (p1 : p ≤ onesI 16) (q0 : 0 ≤ q) (q1 : q ≤ onesI 24) :
    Calls Tryd.prog 5 #[.int .u64 v, .int .u64 x, .int .u64 y] w fun e w' => e = .returned (.bool true) ∧ Below w.heap.size w w' := by
  obtain ⟨t1, t2, t3⟩ := with_with v p q v0 p0 p1 q0 q1
  have a1 := withI_bd v 3 16 p v0.lo v0.hi (by omega) (by omega) (by omega) p0 p1
  have a2 := withI_bd (withI v 3 16 p) 30 24 q a1.1 a1.2 (by omega) (by omega) (by omega) q0 q1
  have b1 := withI_bd v 30 24 q v0.lo v0.hi (by omega) (by omega) (by omega) q0 q1
  have s1 : (withI (withI v 3 16 p) 30 24 q == withI (withI v 30 24 q) 3 16 p) = true := by rw [t1]; simp
  have s2 : (fieldI (withI (withI v 3 16 p) 30 24 q) 3 16 == p) = true := by rw [t2]; simp
  have s3 : (fieldI (withI (withI v 3 16 p) 30 24 q) 30 24 == q) = true := by rw [t3]; simp
  clear t1 t2 t3
  go_enter Tryd.func5, Tryd.ntmps5
  go_wp2_with fail
  refine (with_yes _ _ _ _ _ v0.lo v0.hi (by omega) (by omega) (by omega) p0 p1).mono ?_
  rintro e w' ⟨rfl, rfl⟩
  go_wp2_with fail
  refine (with_yes _ _ _ _ _ a1.1 a1.2 (by omega) (by omega) (by omega) q0 q1).mono ?_
  rintro e w' ⟨rfl, rfl⟩
  go_wp2_with fail
  refine (with_yes _ _ _ _ _ v0.lo v0.hi (by omega) (by omega) (by omega) q0 q1).mono ?_
  rintro e w' ⟨rfl, rfl⟩
  go_wp2_with fail
  refine (with_yes _ _ _ _ _ b1.1 b1.2 (by omega) (by omega) (by omega) p0 p1).mono ?_
  rintro e w' ⟨rfl, rfl⟩
  go_wp2_with fail
  refine (field_yes _ _ _ _ a2.1 a2.2 (by omega) (by omega) (by omega)).mono ?_
  rintro e w' ⟨rfl, rfl⟩
  go_wp2_with fail
  refine (field_yes _ _ _ _ a2.1 a2.2 (by omega) (by omega) (by omega)).mono ?_
  rintro e w' ⟨rfl, rfl⟩
  go_wp2_with fail
  refine (fixed_any _ ht).mono ?_
  rintro e w1 ⟨rfl, hb⟩
  go_wp2_with fail
  go_ret
  exact ⟨rfl, hb⟩
theorem walk (v x y : Int) (w : World) (ht : Tab w) (v0 : Word v) (x0 : Word x) (y0 : Word y) :
    Calls Tryd.prog 5 #[.int .u64 v, .int .u64 x, .int .u64 y] w fun e w' => e = .returned (.bool true) ∧ Below w.heap.size w w' := by
  have hx := and_ones x 16 x0 (by decide) (by decide)
  have hy := and_ones y 24 y0 (by decide) (by decide)
  rw [show onesI 16 = 65535 by decide +kernel] at hx
  rw [show onesI 24 = 16777215 by decide +kernel] at hy
  have bx := fieldI_bd x 0 16 (by decide)
  have by' := fieldI_bd y 0 24 (by decide)
  exact walk0 v x y _ _ w ht v0 hx hy bx.1 bx.2 by'.1 by'.2
open Go.ChangeShapes Go.WideShapes Go.ChangeAt Go.RowKit Go.Joins

/-! ### From the walk to the statement -/
theorem contract (H : Type) (enc : TypeId × Value → H) (W : World) (base : Nat) (args : Array Value) (ds gs : List (DataW H)) (before : List MemPlace)
    (hval : ∀ (j : Nat) t v, Tryd.f5.params[j]? = some t → args[j]? = some v → Value.okWide Tryd.prog W .any base t v)
    (hW : DataW.Whole enc Tryd.prog Tryd.f5.params.toList Rows.wordsTwiceSpec.vars false W args.toList ds gs before) (hL : laidMetH Tryd.prog Rows.wordsTwiceRow.laid W) :
    Calls Tryd.prog 5 args W fun e W' => ∃ v, e = .returned v ∧ Rows.wordsTwiceSpec.post enc Tryd.prog Tryd.f5 false true false false W args v W' := by
  have hW' := hW
  obtain ⟨p, q, hA0, hV, rfl, hfz, hnd⟩ := hW
  have hA : DataW.TrodAll enc Tryd.prog W 0 (fun _ => true) true Tryd.f5.params.toList args.toList ds p := hA0
  rw [Tryd.params5] at hA hval
  obtain ⟨v0, vs0, d0, ds0, p0, q0, hargs, rfl, rfl, h0, r0⟩ := trodAll_cons hA
  obtain ⟨v1, vs1, d1, ds1, p1, q1, rfl, rfl, rfl, h1, r1⟩ := trodAll_cons r0
  obtain ⟨v2, vs2, d2, ds2, p2, q2, rfl, rfl, rfl, h2, r2⟩ := trodAll_cons r1
  obtain ⟨rfl, rfl, rfl⟩ := trodAll_nil r2
  obtain rfl : args = #[v0, v1, v2] := by cases args; simp_all
  obtain ⟨rfl, rfl⟩ := trodVars_none hV
  have k0 := h0
  have lt0 : ∀ x ∈ p0, x.block < W.heap.size := by obtain ⟨m, hm⟩ := k0; exact DataW.trod_lt m _ _ _ hm
  have k1 := h1
  have lt1 : ∀ x ∈ p1, x.block < W.heap.size := by obtain ⟨m, hm⟩ := k1; exact DataW.trod_lt m _ _ _ hm
  have k2 := h2
  have lt2 : ∀ x ∈ p2, x.block < W.heap.size := by obtain ⟨m, hm⟩ := k2; exact DataW.trod_lt m _ _ _ hm
  obtain ⟨a0, rfl, _, _, w0⟩ := open_int Tryd.underlying22 (hval 0 22 v0 rfl rfl) h0
  obtain ⟨a1, rfl, _, _, w1⟩ := open_int Tryd.underlying22 (hval 1 22 v1 rfl rfl) h1
  obtain ⟨a2, rfl, _, _, w2⟩ := open_int Tryd.underlying22 (hval 2 22 v2 rfl rfl) h2
  clear hA0
  refine (walk a0 a1 a2 W (table hL) (word_wf w0) (word_wf w1) (word_wf w2)).mono fun e W' ⟨he, bel⟩ => ?_
  subst he
  exact ⟨_, rfl, _, _, _, [], _, [], hW', trodAll_mk1 (shut_bool Tryd.underlying4 _), (trodAll_cons_mk (Below.trod laidOut (by kernel_rfl) (of_decide_eq_true (by kernel_rfl)) k0 bel lt0) (trodAll_cons_mk (Below.trod laidOut (by kernel_rfl) (of_decide_eq_true (by kernel_rfl)) k1 bel lt1) (trodAll_cons_mk (Below.trod laidOut (by kernel_rfl) (of_decide_eq_true (by kernel_rfl)) k2 bel lt2) trodAll_mk0))), rfl, bel.frame _, fun h => by cases h⟩

theorem laid_met (os : Os) : laidMet Tryd.prog Rows.wordsTwiceRow.laid ((World.doorLaid Tryd.prog 40 os).forCall (fun _ _ => 0) ⟨#[], #[.int .u64 0, .int .u64 0, .int .u64 0], []⟩).memory :=
  laidMet_of_run' 8 (by kernel_rfl) (by kernel_rfl)
theorem reads (os : Os) {H : Type} (enc : TypeId × Value → H) : ∃ places, DataW.whole enc Tryd.prog ((World.doorLaid Tryd.prog 40 os).forCall (fun _ _ => 0) ⟨#[], #[.int .u64 0, .int .u64 0, .int .u64 0], []⟩).memory Tryd.f5.params.toList Rows.wordsTwiceSpec.vars false (#[.int .u64 0, .int .u64 0, .int .u64 0] : Array Value).toList 8 = some ([.lit (.int .u64 0), .lit (.int .u64 0), .lit (.int .u64 0)], [], places) :=
  ⟨[], by kernel_rfl⟩
set_option maxRecDepth 100000 in
theorem lifted (os : Os) (started : os.Started) (H : Type) (enc : TypeId × Value → H) (F : Stop.Interp) :
    ReturnsInHanded {} Tryd.checked os 5 .any ((OpenSpec.ofChange Rows.wordsTwiceSpec).preRow enc Tryd.prog Tryd.f5 Rows.wordsTwiceRow.domain false Rows.wordsTwiceRow.laid) (((OpenSpec.ofChange Rows.wordsTwiceSpec).at F).post enc Tryd.prog Tryd.f5 false true false false) := by
  obtain ⟨places, hx⟩ := reads os enc
  refine returnsInHanded_of_row (C := Tryd.checked) (s := OpenSpec.ofChange Rows.wordsTwiceSpec) own started (by kernel_rfl) Tryd.func5
    (witness_row_at (enc := enc) (C := Tryd.checked) false (World.doorLaid Tryd.prog 40 os) #[.int .u64 0, .int .u64 0, .int .u64 0] rfl (by kernel_rfl) (by kernel_rfl) (by kernel_rfl)
      (OpenSpec.preRow_of_cond 8 hx (by kernel_rfl) (fun k hk => by cases hk) (by kernel_rfl) (laid_met os))) ?_
  intro W base args ds gs before hval hW _ _ _ hL _ _
  exact contract H enc W base args ds gs before hval hW hL
theorem said : Rows.WordsTwiceSaid :=
  OpenClaim.holds_of_cond 5 Tryd.f5 rfl rfl rfl rfl rfl rfl rfl ⟨rfl, rfl, rfl, rfl, rfl⟩ rfl rfl rfl rfl rfl (by kernel_rfl) Tryd.func5 (by kernel_rfl)
    (of_decide_eq_true (by kernel_rfl)) (by unfold Func.isWrapper; first | (rw [if_pos (by decide +kernel)]; kernel_rfl) | (rw [if_neg (by decide +kernel)]; exact ⟨rfl, rfl⟩))
    (fun os started H enc _ F => by rw [OpenClaim.pre_eq_preRow]; exact lifted os started H enc F)
theorem plain (f : FuncId) (fn : Func) (hf : Tryd.pinned.checked.prog.funcNamed "buttress/buttresslaw01.WordsTwice" = some f) (hfn : Tryd.pinned.checked.prog.funcs[f]? = some fn) :
    false = Tryd.pinned.checked.prog.looks [] ∧ ∀ (j : Nat) t, fn.params[j]? = some t → Tryd.pinned.checked.prog.wantsStandIn t = false := by
  obtain rfl : f = 5 := Option.some.inj ((show Tryd.prog.funcNamed "buttress/buttresslaw01.WordsTwice" = some 5 by kernel_rfl).symm.trans hf) |>.symm
  obtain rfl : fn = Tryd.f5 := (Option.some.inj (Tryd.func5.symm.trans hfn)).symm
  refine ⟨by kernel_rfl, fun j t ht => ?_⟩
  rw [Tryd.params5] at ht
  have hm : t ∈ [22, 22, 22] := by simpa using Array.mem_of_getElem? ht
  have hall : ([22, 22, 22].all fun u => !Tryd.prog.wantsStandIn u) = true := by kernel_rfl
  exact (show Tryd.prog.wantsStandIn t = false by simpa using List.all_eq_true.1 hall t hm)
end Go.Proofs.YtpmlhdmncbpodabDoor.wordsTwice
namespace Go.Proofs.YtpmlhdmncbpodabDoor
/-- THE CARD. -/
theorem wordsTwice_card : Rows.WordsTwiceCardSaid :=
  Claim7.holds_tied_plain_at .later [] _ _ _ _ wordsTwice.said (fun _ h => by cases h) (by kernel_rfl) (fun _ h => by cases h) wordsTwice_row_tie rfl ⟨rfl, rfl⟩ (by kernel_rfl) rfl wordsTwice.plain (by kernel_rfl)
#print axioms wordsTwice_card
end Go.Proofs.YtpmlhdmncbpodabDoor
