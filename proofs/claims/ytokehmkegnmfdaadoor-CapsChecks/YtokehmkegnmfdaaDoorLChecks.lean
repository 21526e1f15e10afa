/-
  CapsChecks answers true for every input; the program's four places lie as its text lays them, and the card ties that to the text.
-/
import Derived.Test.YtokehmkegnmfdaaDoorCFixed
import Derived.Test.YtokehmkegnmfdaaDoorCSay
import Derived.Test.YtokehmkegnmfdaaDoorCRCheck
import Derived.Test.YtokehmkegnmfdaaDoorCRDer
namespace Go.Proofs.YtokehmkegnmfdaaDoor.capsChecks
open Go.RowKit Go.Deep
set_option linter.unusedSectionVars false
section
variable [dCp : DecidableEq Cp] [dLim : ∀ k, Decidable (Lim k)] [dBad : ∀ k, Decidable (Bad k)] [dFit : ∀ g z, Decidable (Fit g z)] [dFine : ∀ c, Decidable (Fine c)] [dMint : ∀ c v, Decidable (MintR c v)] [dWho : ∀ x y, Decidable (Whose x y)]
theorem next {w W w' : World} {r : Nat} {a b : Cp} (h : W.cell? ⟨r, 0, none⟩ = some (.int .i64 a.k) ∧ W.cell? ⟨r, 1, none⟩ = some (.int .i64 a.o) ∧ W.cell? ⟨r, 2, none⟩ = some (.int .i64 a.r) ∧ W.cell? ⟨r, 3, none⟩ = some (.int .u64 a.b) ∧ W.cell? ⟨r, 4, none⟩ = some (.int .u64 a.g) ∧ W.cell? ⟨r, 5, none⟩ = some (.int .i64 a.z) ∧ W.cell? ⟨r + 1, 0, none⟩ = some (.int .i64 b.k) ∧ W.cell? ⟨r + 1, 1, none⟩ = some (.int .i64 b.o) ∧ W.cell? ⟨r + 1, 2, none⟩ = some (.int .i64 b.r) ∧ W.cell? ⟨r + 1, 3, none⟩ = some (.int .u64 b.b) ∧ W.cell? ⟨r + 1, 4, none⟩ = some (.int .u64 b.g) ∧ W.cell? ⟨r + 1, 5, none⟩ = some (.int .i64 b.z) ∧ (AtC W r a ∧ AtC W (r + 1) b ∧ Laid W ∧ Below r w W))
    (b2 : Below W.heap.size W w') : w'.cell? ⟨r, 0, none⟩ = some (.int .i64 a.k) ∧ w'.cell? ⟨r, 1, none⟩ = some (.int .i64 a.o) ∧ w'.cell? ⟨r, 2, none⟩ = some (.int .i64 a.r) ∧ w'.cell? ⟨r, 3, none⟩ = some (.int .u64 a.b) ∧ w'.cell? ⟨r, 4, none⟩ = some (.int .u64 a.g) ∧ w'.cell? ⟨r, 5, none⟩ = some (.int .i64 a.z) ∧ w'.cell? ⟨r + 1, 0, none⟩ = some (.int .i64 b.k) ∧ w'.cell? ⟨r + 1, 1, none⟩ = some (.int .i64 b.o) ∧ w'.cell? ⟨r + 1, 2, none⟩ = some (.int .i64 b.r) ∧ w'.cell? ⟨r + 1, 3, none⟩ = some (.int .u64 b.b) ∧ w'.cell? ⟨r + 1, 4, none⟩ = some (.int .u64 b.g) ∧ w'.cell? ⟨r + 1, 5, none⟩ = some (.int .i64 b.z) ∧ (AtC w' r a ∧ AtC w' (r + 1) b ∧ Laid w' ∧ Below r w w') := by
  obtain ⟨_, _, _, _, _, _, _, _, _, _, _, _, a0, a1, l, b⟩ := h
  have e0 := a0.below b2
  have e1 := a1.below b2
  obtain ⟨c0_0, c0_1, c0_2, c0_3, c0_4, c0_5⟩ := e0.cells
  obtain ⟨c1_0, c1_1, c1_2, c1_3, c1_4, c1_5⟩ := e1.cells
  exact ⟨c0_0, c0_1, c0_2, c0_3, c0_4, c0_5, c1_0, c1_1, c1_2, c1_3, c1_4, c1_5, e0, e1, l.below b2 l.size, Below.then b b2 (Nat.le_of_lt a0.lt)⟩
set_option maxHeartbeats 8000000 in
theorem walk (a b : Cp) (w : World) (hl : Laid w) (ga : a.Fits) (gb : b.Fits) :
    Calls Tryd.prog 3 #[encC a, encC b] w fun e w' => e = .returned (.bool true) ∧ Below w.heap.size w w' := by
  have fa : Hid a.Fits := ga
  have fb : Hid b.Fits := gb
  clear ga gb
  simp only [encC]
  have bw := below_new w (objC a)
  have bw := Below.then bw (below_new (w.alloc (objC a)) (objC b)) bw.size
  have s0 := AtC.new w a
  have s0 := s0.below (below_new _ (objC b))
  have s1 := AtC.new (w.alloc (objC a)) b
  rw [World.size_alloc] at s1
  have l := hl.below bw hl.size
  have r4 := hl.size
  clear hl
  simp only [objC] at bw l s0 s1
  go_enter Tryd.func3, Tryd.ntmps3
  go_wp2_with fail
  generalize ((w.alloc (Obj.cells #[.int .i64 a.k, .int .i64 a.o, .int .i64 a.r, .int .u64 a.b, .int .u64 a.g, .int .i64 a.z] 24)).alloc (Obj.cells #[.int .i64 b.k, .int .i64 b.o, .int .i64 b.r, .int .u64 b.b, .int .u64 b.g, .int .i64 b.z] 24)) = v0 at *
  generalize hr : w.heap.size = r at *
  have HR : Hid (w.heap.size = r) := hr
  clear hr
  have hb := s0.lt
  obtain ⟨s0c0, s0c1, s0c2, s0c3, s0c4, s0c5⟩ := s0.cells
  obtain ⟨s1c0, s1c1, s1c2, s1c3, s1c4, s1c5⟩ := s1.cells
  have hS : v0.cell? ⟨r, 0, none⟩ = some (.int .i64 a.k) ∧ v0.cell? ⟨r, 1, none⟩ = some (.int .i64 a.o) ∧ v0.cell? ⟨r, 2, none⟩ = some (.int .i64 a.r) ∧ v0.cell? ⟨r, 3, none⟩ = some (.int .u64 a.b) ∧ v0.cell? ⟨r, 4, none⟩ = some (.int .u64 a.g) ∧ v0.cell? ⟨r, 5, none⟩ = some (.int .i64 a.z) ∧ v0.cell? ⟨r + 1, 0, none⟩ = some (.int .i64 b.k) ∧ v0.cell? ⟨r + 1, 1, none⟩ = some (.int .i64 b.o) ∧ v0.cell? ⟨r + 1, 2, none⟩ = some (.int .i64 b.r) ∧ v0.cell? ⟨r + 1, 3, none⟩ = some (.int .u64 b.b) ∧ v0.cell? ⟨r + 1, 4, none⟩ = some (.int .u64 b.g) ∧ v0.cell? ⟨r + 1, 5, none⟩ = some (.int .i64 b.z) ∧ (AtC v0 r a ∧ AtC v0 (r + 1) b ∧ Laid v0 ∧ Below r w v0) := ⟨s0c0, s0c1, s0c2, s0c3, s0c4, s0c5, s1c0, s1c1, s1c2, s1c3, s1c4, s1c5, s0, s1, l, bw⟩
  clear s0c0 s0c1 s0c2 s0c3 s0c4 s0c5 s1c0 s1c1 s1c2 s1c3 s1c4 s1c5 s0 s1 l bw hb
  have lv := hS.2.2.2.2.2.2.2.2.2.2.2.2.2.2.1
  go_region_held3 (fun W => W.cell? ⟨r, 0, none⟩ = some (.int .i64 a.k) ∧ W.cell? ⟨r, 1, none⟩ = some (.int .i64 a.o) ∧ W.cell? ⟨r, 2, none⟩ = some (.int .i64 a.r) ∧ W.cell? ⟨r, 3, none⟩ = some (.int .u64 a.b) ∧ W.cell? ⟨r, 4, none⟩ = some (.int .u64 a.g) ∧ W.cell? ⟨r, 5, none⟩ = some (.int .i64 a.z) ∧ W.cell? ⟨r + 1, 0, none⟩ = some (.int .i64 b.k) ∧ W.cell? ⟨r + 1, 1, none⟩ = some (.int .i64 b.o) ∧ W.cell? ⟨r + 1, 2, none⟩ = some (.int .i64 b.r) ∧ W.cell? ⟨r + 1, 3, none⟩ = some (.int .u64 b.b) ∧ W.cell? ⟨r + 1, 4, none⟩ = some (.int .u64 b.g) ∧ W.cell? ⟨r + 1, 5, none⟩ = some (.int .i64 b.z) ∧ (AtC W r a ∧ AtC W (r + 1) b ∧ Laid W ∧ Below r w W)) ((first | assumption | exact next hS ((Below.refl _ _).drew) | exact next (by assumption) (by assumption)))
    (first | (go_at_call 9; refine (fixed_any _ (lv.below ((Below.refl _ _).drew) lv.size)).mono ?_; rintro e u ⟨rfl, b2⟩) | (go_at_call 10; refine (check_any a _ fa.out).mono ?_; rintro e u ⟨rfl, b2⟩) | (go_at_call 11; refine (rcheck_any a _ fa.out).mono ?_; rintro e u ⟨rfl, b2⟩) | (go_at_call 12; refine (same_any a b _).mono ?_; rintro e u ⟨rfl, b2⟩) | (go_at_call 13; refine (rsame_any a b _).mono ?_; rintro e u ⟨rfl, b2⟩) | (go_at_call 14; refine (der_any a b _).mono ?_; rintro e u ⟨rfl, b2⟩) | (go_at_call 15; refine (rder_any a b _ fb.out).mono ?_; rintro e u ⟨rfl, b2⟩))
  rename_i hH
  obtain ⟨_, _, _, _, _, _, _, _, _, _, _, _, s0, s1, l, bw⟩ := hH
  have B : Hid (Below r w u) := bw
  clear hS lv s0 s1 l bw
  go_wp2
  go_ret
  exact ⟨rfl, by rw [HR.out]; exact B.out⟩
end
open Go.ChangeShapes Go.WideShapes Go.ChangeAt Go.RowKit Go.Joins

/-! ### From the walk to the statement -/
theorem contract (H : Type) (enc : TypeId × Value → H) (W : World) (base : Nat) (args : Array Value) (ds gs : List (DataW H)) (before : List MemPlace)
    (hval : ∀ (j : Nat) t v, Tryd.f3.params[j]? = some t → args[j]? = some v → Value.okWide Tryd.prog W .any base t v)
    (hW : DataW.Whole enc Tryd.prog Tryd.f3.params.toList Rows.capsChecksSpec.vars false W args.toList ds gs before) (hL : laidMetH Tryd.prog Rows.capsChecksRow.laid W) :
    Calls Tryd.prog 3 args W fun e W' => ∃ v, e = .returned v ∧ Rows.capsChecksSpec.post enc Tryd.prog Tryd.f3 false true false false W args v W' := by
  have dCp : DecidableEq Cp := fun a b => Classical.propDecidable (a = b)
  have dLim : ∀ k, Decidable (Lim k) := fun k => Classical.propDecidable (Lim k)
  have dBad : ∀ k, Decidable (Bad k) := fun k => Classical.propDecidable (Bad k)
  have dFit : ∀ g z, Decidable (Fit g z) := fun g z => Classical.propDecidable (Fit g z)
  have dFine : ∀ c, Decidable (Fine c) := fun c => Classical.propDecidable (Fine c)
  have dMint : ∀ c v, Decidable (MintR c v) := fun c v => Classical.propDecidable (MintR c v)
  have dWho : ∀ x y, Decidable (Whose x y) := fun x y => Classical.propDecidable (Whose x y)
  have hW' := hW
  obtain ⟨p, q, hA0, hV, rfl, hfz, hnd⟩ := hW
  have hA : DataW.TrodAll enc Tryd.prog W 0 (fun _ => true) true Tryd.f3.params.toList args.toList ds p := hA0
  rw [Tryd.params3] at hA hval
  obtain ⟨v0, vs0, d0, ds0, p0, q0, hargs, rfl, rfl, h0, r0⟩ := trodAll_cons hA
  obtain ⟨v1, vs1, d1, ds1, p1, q1, rfl, rfl, rfl, h1, r1⟩ := trodAll_cons r0
  obtain ⟨rfl, rfl, rfl⟩ := trodAll_nil r1
  obtain rfl : args = #[v0, v1] := by cases args; simp_all
  obtain ⟨rfl, rfl⟩ := trodVars_none hV
  have k0 := h0
  have lt0 : ∀ x ∈ p0, x.block < W.heap.size := by obtain ⟨m, hm⟩ := k0; exact DataW.trod_lt m _ _ _ hm
  have k1 := h1
  have lt1 : ∀ x ∈ p1, x.block < W.heap.size := by obtain ⟨m, hm⟩ := k1; exact DataW.trod_lt m _ _ _ hm
  obtain ⟨a0, rfl, w0⟩ := open_cap (hval 0 24 v0 rfl rfl) h0
  obtain ⟨a1, rfl, w1⟩ := open_cap (hval 1 24 v1 rfl rfl) h1
  clear hA0
  refine (walk a0 a1 W (table hL) w0 w1).mono fun e W' ⟨he, bel⟩ => ?_
  subst he
  exact ⟨_, rfl, _, _, _, [], _, [], hW', trodAll_mk1 (shut_bool Tryd.underlying4 _), (trodAll_cons_mk (Below.trod laidOut (by kernel_rfl) (of_decide_eq_true (by kernel_rfl)) k0 bel lt0) (trodAll_cons_mk (Below.trod laidOut (by kernel_rfl) (of_decide_eq_true (by kernel_rfl)) k1 bel lt1) trodAll_mk0)), rfl, bel.frame _, fun h => by cases h⟩

theorem laid_met (os : Os) : laidMet Tryd.prog Rows.capsChecksRow.laid ((World.doorLaid Tryd.prog 40 os).forCall (fun _ _ => 0) ⟨#[], #[.agg #[.int .i64 0, .int .i64 0, .int .i64 0, .int .u64 0, .int .u64 0, .int .i64 0], .agg #[.int .i64 0, .int .i64 0, .int .i64 0, .int .u64 0, .int .u64 0, .int .i64 0]], []⟩).memory :=
  laidMet_of_run' 8 (by kernel_rfl) (by kernel_rfl)
theorem reads (os : Os) {H : Type} (enc : TypeId × Value → H) : ∃ places, DataW.whole enc Tryd.prog ((World.doorLaid Tryd.prog 40 os).forCall (fun _ _ => 0) ⟨#[], #[.agg #[.int .i64 0, .int .i64 0, .int .i64 0, .int .u64 0, .int .u64 0, .int .i64 0], .agg #[.int .i64 0, .int .i64 0, .int .i64 0, .int .u64 0, .int .u64 0, .int .i64 0]], []⟩).memory Tryd.f3.params.toList Rows.capsChecksSpec.vars false (#[.agg #[.int .i64 0, .int .i64 0, .int .i64 0, .int .u64 0, .int .u64 0, .int .i64 0], .agg #[.int .i64 0, .int .i64 0, .int .i64 0, .int .u64 0, .int .u64 0, .int .i64 0]] : Array Value).toList 8 = some ([.agg [.lit (.int .i64 0), .lit (.int .i64 0), .lit (.int .i64 0), .lit (.int .u64 0), .lit (.int .u64 0), .lit (.int .i64 0)], .agg [.lit (.int .i64 0), .lit (.int .i64 0), .lit (.int .i64 0), .lit (.int .u64 0), .lit (.int .u64 0), .lit (.int .i64 0)]], [], places) :=
  ⟨[], by kernel_rfl⟩
set_option maxRecDepth 100000 in
theorem lifted (os : Os) (started : os.Started) (H : Type) (enc : TypeId × Value → H) (F : Stop.Interp) :
    ReturnsInHanded {} Tryd.checked os 3 .any ((OpenSpec.ofChange Rows.capsChecksSpec).preRow enc Tryd.prog Tryd.f3 Rows.capsChecksRow.domain false Rows.capsChecksRow.laid) (((OpenSpec.ofChange Rows.capsChecksSpec).at F).post enc Tryd.prog Tryd.f3 false true false false) := by
  have dCp : DecidableEq Cp := fun a b => Classical.propDecidable (a = b)
  have dLim : ∀ k, Decidable (Lim k) := fun k => Classical.propDecidable (Lim k)
  have dBad : ∀ k, Decidable (Bad k) := fun k => Classical.propDecidable (Bad k)
  have dFit : ∀ g z, Decidable (Fit g z) := fun g z => Classical.propDecidable (Fit g z)
  have dFine : ∀ c, Decidable (Fine c) := fun c => Classical.propDecidable (Fine c)
  have dMint : ∀ c v, Decidable (MintR c v) := fun c v => Classical.propDecidable (MintR c v)
  have dWho : ∀ x y, Decidable (Whose x y) := fun x y => Classical.propDecidable (Whose x y)
  obtain ⟨places, hx⟩ := reads os enc
  refine returnsInHanded_of_row (C := Tryd.checked) (s := OpenSpec.ofChange Rows.capsChecksSpec) own started (by kernel_rfl) Tryd.func3
    (witness_row_at (enc := enc) (C := Tryd.checked) false (World.doorLaid Tryd.prog 40 os) #[.agg #[.int .i64 0, .int .i64 0, .int .i64 0, .int .u64 0, .int .u64 0, .int .i64 0], .agg #[.int .i64 0, .int .i64 0, .int .i64 0, .int .u64 0, .int .u64 0, .int .i64 0]] rfl (by kernel_rfl) (by kernel_rfl) (by kernel_rfl)
      (OpenSpec.preRow_of_cond 8 hx (by kernel_rfl) (fun k hk => by cases hk) (by kernel_rfl) (laid_met os))) ?_
  intro W base args ds gs before hval hW _ _ _ hL _ _
  exact contract H enc W base args ds gs before hval hW hL
theorem said : Rows.CapsChecksSaid :=
  OpenClaim.holds_of_cond 3 Tryd.f3 rfl rfl rfl rfl rfl rfl rfl ⟨rfl, rfl, rfl, rfl, rfl⟩ rfl rfl rfl rfl rfl (by kernel_rfl) Tryd.func3 (by kernel_rfl)
    (of_decide_eq_true (by kernel_rfl)) (by unfold Func.isWrapper; first | (rw [if_pos (by decide +kernel)]; kernel_rfl) | (rw [if_neg (by decide +kernel)]; exact ⟨rfl, rfl⟩))
    (fun os started H enc _ F => by rw [OpenClaim.pre_eq_preRow]; exact lifted os started H enc F)
theorem plain (f : FuncId) (fn : Func) (hf : Tryd.pinned.checked.prog.funcNamed "buttress/buttresslaw04.CapsChecks" = some f) (hfn : Tryd.pinned.checked.prog.funcs[f]? = some fn) :
    false = Tryd.pinned.checked.prog.looks [] ∧ ∀ (j : Nat) t, fn.params[j]? = some t → Tryd.pinned.checked.prog.wantsStandIn t = false := by
  obtain rfl : f = 3 := Option.some.inj ((show Tryd.prog.funcNamed "buttress/buttresslaw04.CapsChecks" = some 3 by kernel_rfl).symm.trans hf) |>.symm
  obtain rfl : fn = Tryd.f3 := (Option.some.inj (Tryd.func3.symm.trans hfn)).symm
  refine ⟨by kernel_rfl, fun j t ht => ?_⟩
  rw [Tryd.params3] at ht
  have hm : t ∈ [24, 24] := by simpa using Array.mem_of_getElem? ht
  have hall : ([24, 24].all fun u => !Tryd.prog.wantsStandIn u) = true := by kernel_rfl
  exact (show Tryd.prog.wantsStandIn t = false by simpa using List.all_eq_true.1 hall t hm)
end Go.Proofs.YtokehmkegnmfdaaDoor.capsChecks
namespace Go.Proofs.YtokehmkegnmfdaaDoor
/-- THE CARD. -/
theorem capsChecks_card : Rows.CapsChecksCardSaid :=
  Claim7.holds_tied_plain_at .later [] _ _ _ _ capsChecks.said (fun _ h => by cases h) (by kernel_rfl) (fun _ h => by cases h) capsChecks_row_tie rfl ⟨rfl, rfl⟩ (by kernel_rfl) rfl capsChecks.plain (by kernel_rfl)
#print axioms capsChecks_card
end Go.Proofs.YtokehmkegnmfdaaDoor
