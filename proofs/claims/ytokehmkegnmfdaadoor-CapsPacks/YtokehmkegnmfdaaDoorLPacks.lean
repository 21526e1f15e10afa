/-
  CapsPacks answers true for every input; the program's four places lie as its text lays them, and the card ties that to the text.
-/
import Derived.Test.YtokehmkegnmfdaaDoorCFixed
import Derived.Test.YtokehmkegnmfdaaDoorCSay
import Derived.Test.YtokehmkegnmfdaaDoorCRUnpack
namespace Go.Proofs.YtokehmkegnmfdaaDoor.capsPacks
open Go.RowKit Go.Deep
set_option linter.unusedSectionVars false
section
variable [dCp : DecidableEq Cp] [dLim : ∀ k, Decidable (Lim k)] [dBad : ∀ k, Decidable (Bad k)] [dFit : ∀ g z, Decidable (Fit g z)] [dFine : ∀ c, Decidable (Fine c)] [dMint : ∀ c v, Decidable (MintR c v)] [dWho : ∀ x y, Decidable (Whose x y)]
set_option maxHeartbeats 2000000 in
theorem walk (c : Cp) (x y : Int) (w : World) (hl : Laid w) (hf : c.Fits) (hx : 0 ≤ x ∧ x ≤ 18446744073709551615) (hy : 0 ≤ y ∧ y ≤ 18446744073709551615) :
    Calls Tryd.prog 5 #[encC c, encW x y] w fun e w' => e = .returned (.bool true) ∧ Below w.heap.size w w' := by
  have K1 := fun W hl => pack_any c W hl hf
  have K2 := fun W => rpack_any c W hf
  have K3 := fun W hl => unpack_any x y W hl hx hy
  have K4 := fun W => runpack_any x y W hx hy
  generalize packX c = p1 at *
  generalize packY c = p2 at *
  generalize checkE c = e1 at *
  generalize unpackR x y = m at *
  generalize unpackE x y = e2 at *
  have X1 : Hid (∀ W : World, Laid W → Calls Tryd.prog 20 #[encC c] W fun e w' => e = .returned (.tuple #[encW p1 p2, .int .i64 e1]) ∧ Below W.heap.size W w') := K1
  have X2 : Hid (∀ W : World, Calls Tryd.prog 21 #[encC c] W fun e w' => e = .returned (.tuple #[encW p1 p2, .int .i64 e1]) ∧ Below W.heap.size W w') := K2
  have X3 : Hid (∀ W : World, Laid W → Calls Tryd.prog 22 #[encW x y] W fun e w' => e = .returned (.tuple #[encC m, .int .i64 e2]) ∧ Below W.heap.size W w') := K3
  have X4 : Hid (∀ W : World, Calls Tryd.prog 23 #[encW x y] W fun e w' => e = .returned (.tuple #[encC m, .int .i64 e2]) ∧ Below W.heap.size W w') := K4
  clear K1 K2 K3 K4 hf hx hy
  have HQ1 : ∀ W, (Op.equalIn 10000 33 (.agg #[.int .u64 p1, .int .u64 p2]) (.agg #[.int .u64 p1, .int .u64 p2])).run Tryd.prog W = .ok true W := fun W => by
    have h := eq_words W p1 p2 p1 p2
    rwa [show decide (p1 = p1 ∧ p2 = p2) = true by simp] at h
  have HQ2 : ∀ W, (Op.equalIn 10000 24 (.agg #[.int .i64 m.k, .int .i64 m.o, .int .i64 m.r, .int .u64 m.b, .int .u64 m.g, .int .i64 m.z]) (.agg #[.int .i64 m.k, .int .i64 m.o, .int .i64 m.r, .int .u64 m.b, .int .u64 m.g, .int .i64 m.z])).run Tryd.prog W = .ok true W := fun W => by
    have h := eq_caps W m m
    rwa [show decide (m = m) = true by simp] at h
  simp only [encC, encW] at *
  have bw := below_new w (objC c)
  have bw := Below.then bw (below_new (w.alloc (objC c)) (objW x y)) bw.size
  have s0 := AtC.new w c
  have s0 := s0.below (below_new _ (objW x y))
  have t0 := AtW.new (w.alloc (objC c)) x y
  rw [World.size_alloc] at t0
  have l := hl.below bw hl.size
  have r4 := hl.size
  clear hl
  simp only [objC, objW] at bw l s0 t0
  go_enter Tryd.func5, Tryd.ntmps5
  go_wp2_with fail
  generalize ((w.alloc (Obj.cells #[.int .i64 c.k, .int .i64 c.o, .int .i64 c.r, .int .u64 c.b, .int .u64 c.g, .int .i64 c.z] 24)).alloc (Obj.cells #[.int .u64 x, .int .u64 y] 33)) = v0 at *
  generalize hr : w.heap.size = r at *
  have HR : Hid (w.heap.size = r) := hr
  clear hr
  have hb := s0.lt
  refine (X1.out _ l).mono ?_
  rintro e u1 ⟨rfl, b2⟩
  have s0 := (s0.below b2).below (below_new _ (objW p1 p2))
  have t0 := (t0.below b2).below (below_new _ (objW p1 p2))
  have bw := Below.then (Below.then bw b2 (by omega)) (below_new u1 (objW p1 p2)) (by have := b2.size; omega)
  have l := (l.below b2 l.size).below (below_new u1 (objW p1 p2)) (l.below b2 l.size).size
  have s1 := AtW.new u1 p1 p2
  clear b2 hb
  simp only [objW] at bw l s0 t0 s1
  obtain ⟨s0c0, s0c1, s0c2, s0c3, s0c4, s0c5⟩ := s0.cells
  go_wp2_with fail
  clear s0c0 s0c1 s0c2 s0c3 s0c4 s0c5
  generalize u1.alloc (Obj.cells #[.int .u64 p1, .int .u64 p2] 33) = v1 at *
  generalize u1.heap.size = q1 at *
  have hb := s0.lt
  refine (X2.out _).mono ?_
  rintro e u2 ⟨rfl, b2⟩
  have s0 := (s0.below b2).below (below_new _ (objW p1 p2))
  have t0 := (t0.below b2).below (below_new _ (objW p1 p2))
  have s1 := (s1.below b2).below (below_new _ (objW p1 p2))
  have bw := Below.then (Below.then bw b2 (by omega)) (below_new u2 (objW p1 p2)) (by have := b2.size; omega)
  have l := (l.below b2 l.size).below (below_new u2 (objW p1 p2)) (l.below b2 l.size).size
  have s2 := AtW.new u2 p1 p2
  clear b2 hb
  simp only [objW] at bw l s0 t0 s1 s2
  obtain ⟨t0c0, t0c1⟩ := t0.cells
  go_wp2_with fail
  clear t0c0 t0c1
  generalize u2.alloc (Obj.cells #[.int .u64 p1, .int .u64 p2] 33) = v2 at *
  generalize u2.heap.size = q2 at *
  have hb := s0.lt
  refine (X3.out _ l).mono ?_
  rintro e u3 ⟨rfl, b2⟩
  have s0 := (s0.below b2).below (below_new _ (objC m))
  have t0 := (t0.below b2).below (below_new _ (objC m))
  have s1 := (s1.below b2).below (below_new _ (objC m))
  have s2 := (s2.below b2).below (below_new _ (objC m))
  have bw := Below.then (Below.then bw b2 (by omega)) (below_new u3 (objC m)) (by have := b2.size; omega)
  have l := (l.below b2 l.size).below (below_new u3 (objC m)) (l.below b2 l.size).size
  have s3 := AtC.new u3 m
  clear b2 hb
  simp only [objC] at bw l s0 t0 s1 s2 s3
  obtain ⟨t0c0, t0c1⟩ := t0.cells
  go_wp2_with fail
  clear t0c0 t0c1
  generalize u3.alloc (Obj.cells #[.int .i64 m.k, .int .i64 m.o, .int .i64 m.r, .int .u64 m.b, .int .u64 m.g, .int .i64 m.z] 24) = v3 at *
  generalize u3.heap.size = q3 at *
  have hb := s0.lt
  refine (X4.out _).mono ?_
  rintro e u4 ⟨rfl, b2⟩
  have s0 := (s0.below b2).below (below_new _ (objC m))
  have t0 := (t0.below b2).below (below_new _ (objC m))
  have s1 := (s1.below b2).below (below_new _ (objC m))
  have s2 := (s2.below b2).below (below_new _ (objC m))
  have s3 := (s3.below b2).below (below_new _ (objC m))
  have bw := Below.then (Below.then bw b2 (by omega)) (below_new u4 (objC m)) (by have := b2.size; omega)
  have l := (l.below b2 l.size).below (below_new u4 (objC m)) (l.below b2 l.size).size
  have s4 := AtC.new u4 m
  clear b2 hb
  simp only [objC] at bw l s0 t0 s1 s2 s3 s4
  go_wp2_with fail
  generalize u4.alloc (Obj.cells #[.int .i64 m.k, .int .i64 m.o, .int .i64 m.r, .int .u64 m.b, .int .u64 m.g, .int .i64 m.z] 24) = v4 at *
  generalize u4.heap.size = q4 at *
  have hb := s0.lt
  refine (fixed_any _ l).mono ?_
  rintro e u5 ⟨rfl, b2⟩
  have s0 := s0.below b2
  have t0 := t0.below b2
  have s1 := s1.below b2
  have s2 := s2.below b2
  have s3 := s3.below b2
  have s4 := s4.below b2
  have B : Hid (Below r w u5) := Below.then bw b2 (by omega)
  clear bw b2 l hb
  obtain ⟨s1c0, s1c1⟩ := s1.cells
  obtain ⟨s2c0, s2c1⟩ := s2.cells
  obtain ⟨s3c0, s3c1, s3c2, s3c3, s3c4, s3c5⟩ := s3.cells
  obtain ⟨s4c0, s4c1, s4c2, s4c3, s4c4, s4c5⟩ := s4.cells
  clear s0 t0 s1 s2 s3 s4
  go_wp2
  go_ret
  exact ⟨rfl, by rw [HR.out]; exact B.out⟩
end
open Go.ChangeShapes Go.WideShapes Go.ChangeAt Go.RowKit Go.Joins

/-! ### From the walk to the statement -/
theorem contract (H : Type) (enc : TypeId × Value → H) (W : World) (base : Nat) (args : Array Value) (ds gs : List (DataW H)) (before : List MemPlace)
    (hval : ∀ (j : Nat) t v, Tryd.f5.params[j]? = some t → args[j]? = some v → Value.okWide Tryd.prog W .any base t v)
    (hW : DataW.Whole enc Tryd.prog Tryd.f5.params.toList Rows.capsPacksSpec.vars false W args.toList ds gs before) (hL : laidMetH Tryd.prog Rows.capsPacksRow.laid W) :
    Calls Tryd.prog 5 args W fun e W' => ∃ v, e = .returned v ∧ Rows.capsPacksSpec.post enc Tryd.prog Tryd.f5 false true false false W args v W' := by
  have dCp : DecidableEq Cp := fun a b => Classical.propDecidable (a = b)
  have dLim : ∀ k, Decidable (Lim k) := fun k => Classical.propDecidable (Lim k)
  have dBad : ∀ k, Decidable (Bad k) := fun k => Classical.propDecidable (Bad k)
  have dFit : ∀ g z, Decidable (Fit g z) := fun g z => Classical.propDecidable (Fit g z)
  have dFine : ∀ c, Decidable (Fine c) := fun c => Classical.propDecidable (Fine c)
  have dMint : ∀ c v, Decidable (MintR c v) := fun c v => Classical.propDecidable (MintR c v)
  have dWho : ∀ x y, Decidable (Whose x y) := fun x y => Classical.propDecidable (Whose x y)
  have hW' := hW
  obtain ⟨p, q, hA0, hV, rfl, hfz, hnd⟩ := hW
  have hA : DataW.TrodAll enc Tryd.prog W 0 (fun _ => true) true Tryd.f5.params.toList args.toList ds p := hA0
  rw [Tryd.params5] at hA hval
  obtain ⟨v0, vs0, d0, ds0, p0, q0, hargs, rfl, rfl, h0, r0⟩ := trodAll_cons hA
  obtain ⟨v1, vs1, d1, ds1, p1, q1, rfl, rfl, rfl, h1, r1⟩ := trodAll_cons r0
  obtain ⟨rfl, rfl, rfl⟩ := trodAll_nil r1
  obtain rfl : args = #[v0, v1] := by cases args; simp_all
  obtain ⟨rfl, rfl⟩ := trodVars_none hV
  have k0 := h0
  have lt0 : ∀ x ∈ p0, x.block < W.heap.size := by obtain ⟨m, hm⟩ := k0; exact DataW.trod_lt m _ _ _ hm
  have k1 := h1
  have lt1 : ∀ x ∈ p1, x.block < W.heap.size := by obtain ⟨m, hm⟩ := k1; exact DataW.trod_lt m _ _ _ hm
  obtain ⟨a0, rfl, w0⟩ := open_cap (hval 0 24 v0 rfl rfl) h0
  obtain ⟨a1x, a1y, rfl, w1x, w1y⟩ := open_pair (hval 1 33 v1 rfl rfl) h1
  clear hA0
  refine (walk a0 a1x a1y W (table hL) w0 w1x w1y).mono fun e W' ⟨he, bel⟩ => ?_
  subst he
  exact ⟨_, rfl, _, _, _, [], _, [], hW', trodAll_mk1 (shut_bool Tryd.underlying4 _), (trodAll_cons_mk (Below.trod laidOut (by kernel_rfl) (of_decide_eq_true (by kernel_rfl)) k0 bel lt0) (trodAll_cons_mk (Below.trod laidOut (by kernel_rfl) (of_decide_eq_true (by kernel_rfl)) k1 bel lt1) trodAll_mk0)), rfl, bel.frame _, fun h => by cases h⟩

theorem laid_met (os : Os) : laidMet Tryd.prog Rows.capsPacksRow.laid ((World.doorLaid Tryd.prog 40 os).forCall (fun _ _ => 0) ⟨#[], #[.agg #[.int .i64 0, .int .i64 0, .int .i64 0, .int .u64 0, .int .u64 0, .int .i64 0], .agg #[.int .u64 0, .int .u64 0]], []⟩).memory :=
  laidMet_of_run' 8 (by kernel_rfl) (by kernel_rfl)
theorem reads (os : Os) {H : Type} (enc : TypeId × Value → H) : ∃ places, DataW.whole enc Tryd.prog ((World.doorLaid Tryd.prog 40 os).forCall (fun _ _ => 0) ⟨#[], #[.agg #[.int .i64 0, .int .i64 0, .int .i64 0, .int .u64 0, .int .u64 0, .int .i64 0], .agg #[.int .u64 0, .int .u64 0]], []⟩).memory Tryd.f5.params.toList Rows.capsPacksSpec.vars false (#[.agg #[.int .i64 0, .int .i64 0, .int .i64 0, .int .u64 0, .int .u64 0, .int .i64 0], .agg #[.int .u64 0, .int .u64 0]] : Array Value).toList 8 = some ([.agg [.lit (.int .i64 0), .lit (.int .i64 0), .lit (.int .i64 0), .lit (.int .u64 0), .lit (.int .u64 0), .lit (.int .i64 0)], .agg [.lit (.int .u64 0), .lit (.int .u64 0)]], [], places) :=
  ⟨[], by kernel_rfl⟩
set_option maxRecDepth 100000 in
theorem lifted (os : Os) (started : os.Started) (H : Type) (enc : TypeId × Value → H) (F : Stop.Interp) :
    ReturnsInHanded {} Tryd.checked os 5 .any ((OpenSpec.ofChange Rows.capsPacksSpec).preRow enc Tryd.prog Tryd.f5 Rows.capsPacksRow.domain false Rows.capsPacksRow.laid) (((OpenSpec.ofChange Rows.capsPacksSpec).at F).post enc Tryd.prog Tryd.f5 false true false false) := by
  have dCp : DecidableEq Cp := fun a b => Classical.propDecidable (a = b)
  have dLim : ∀ k, Decidable (Lim k) := fun k => Classical.propDecidable (Lim k)
  have dBad : ∀ k, Decidable (Bad k) := fun k => Classical.propDecidable (Bad k)
  have dFit : ∀ g z, Decidable (Fit g z) := fun g z => Classical.propDecidable (Fit g z)
  have dFine : ∀ c, Decidable (Fine c) := fun c => Classical.propDecidable (Fine c)
  have dMint : ∀ c v, Decidable (MintR c v) := fun c v => Classical.propDecidable (MintR c v)
  have dWho : ∀ x y, Decidable (Whose x y) := fun x y => Classical.propDecidable (Whose x y)
  obtain ⟨places, hx⟩ := reads os enc
  refine returnsInHanded_of_row (C := Tryd.checked) (s := OpenSpec.ofChange Rows.capsPacksSpec) own started (by kernel_rfl) Tryd.func5
    (witness_row_at (enc := enc) (C := Tryd.checked) false (World.doorLaid Tryd.prog 40 os) #[.agg #[.int .i64 0, .int .i64 0, .int .i64 0, .int .u64 0, .int .u64 0, .int .i64 0], .agg #[.int .u64 0, .int .u64 0]] rfl (by kernel_rfl) (by kernel_rfl) (by kernel_rfl)
      (OpenSpec.preRow_of_cond 8 hx (by kernel_rfl) (fun k hk => by cases hk) (by kernel_rfl) (laid_met os))) ?_
  intro W base args ds gs before hval hW _ _ _ hL _ _
  exact contract H enc W base args ds gs before hval hW hL
theorem said : Rows.CapsPacksSaid :=
  OpenClaim.holds_of_cond 5 Tryd.f5 rfl rfl rfl rfl rfl rfl rfl ⟨rfl, rfl, rfl, rfl, rfl⟩ rfl rfl rfl rfl rfl (by kernel_rfl) Tryd.func5 (by kernel_rfl)
    (of_decide_eq_true (by kernel_rfl)) (by unfold Func.isWrapper; first | (rw [if_pos (by decide +kernel)]; kernel_rfl) | (rw [if_neg (by decide +kernel)]; exact ⟨rfl, rfl⟩))
    (fun os started H enc _ F => by rw [OpenClaim.pre_eq_preRow]; exact lifted os started H enc F)
theorem plain (f : FuncId) (fn : Func) (hf : Tryd.pinned.checked.prog.funcNamed "buttress/buttresslaw04.CapsPacks" = some f) (hfn : Tryd.pinned.checked.prog.funcs[f]? = some fn) :
    false = Tryd.pinned.checked.prog.looks [] ∧ ∀ (j : Nat) t, fn.params[j]? = some t → Tryd.pinned.checked.prog.wantsStandIn t = false := by
  obtain rfl : f = 5 := Option.some.inj ((show Tryd.prog.funcNamed "buttress/buttresslaw04.CapsPacks" = some 5 by kernel_rfl).symm.trans hf) |>.symm
  obtain rfl : fn = Tryd.f5 := (Option.some.inj (Tryd.func5.symm.trans hfn)).symm
  refine ⟨by kernel_rfl, fun j t ht => ?_⟩
  rw [Tryd.params5] at ht
  have hm : t ∈ [24, 33] := by simpa using Array.mem_of_getElem? ht
  have hall : ([24, 33].all fun u => !Tryd.prog.wantsStandIn u) = true := by kernel_rfl
  exact (show Tryd.prog.wantsStandIn t = false by simpa using List.all_eq_true.1 hall t hm)
end Go.Proofs.YtokehmkegnmfdaaDoor.capsPacks
namespace Go.Proofs.YtokehmkegnmfdaaDoor
/-- THE CARD. -/
theorem capsPacks_card : Rows.CapsPacksCardSaid :=
  Claim7.holds_tied_plain_at .later [] _ _ _ _ capsPacks.said (fun _ h => by cases h) (by kernel_rfl) (fun _ h => by cases h) capsPacks_row_tie rfl ⟨rfl, rfl⟩ (by kernel_rfl) rfl capsPacks.plain (by kernel_rfl)
#print axioms capsPacks_card
end Go.Proofs.YtokehmkegnmfdaaDoor
