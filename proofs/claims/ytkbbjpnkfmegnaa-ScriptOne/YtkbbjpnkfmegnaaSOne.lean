/-
  ScriptOne answers true for every input; no condition of ours.
-/
import Derived.Test.YtkbbjpnkfmegnaaSLaw
import Derived.Deep.RegionHeld3
namespace Go.Proofs.Ytkbbjpnkfmegnaa.scriptOne
open Go.RowKit Go.Deep
/-- What a call that makes memory alone leaves of an item and of what lay. -/
theorem got_next {w W w' : World} {q : Nat} {x : It} (h : W.cell? ⟨q, 0, none⟩ = some (.int .i64 x.k) ∧ W.cell? ⟨q, 1, none⟩ = some (.int .i64 x.c) ∧ W.cell? ⟨q, 2, none⟩ = some (.int .i64 x.a) ∧ W.cell? ⟨q, 3, none⟩ = some (.int .i64 x.b) ∧ (q < W.heap.size ∧ Below q w W))
    (b : Below W.heap.size W w') : w'.cell? ⟨q, 0, none⟩ = some (.int .i64 x.k) ∧ w'.cell? ⟨q, 1, none⟩ = some (.int .i64 x.c) ∧ w'.cell? ⟨q, 2, none⟩ = some (.int .i64 x.a) ∧ w'.cell? ⟨q, 3, none⟩ = some (.int .i64 x.b) ∧ (q < w'.heap.size ∧ Below q w w') := by
  obtain ⟨h0, h1, h2, h3, h4, h6⟩ := h
  exact ⟨(b.cell (p := ⟨q, 0, none⟩) h4).trans h0, (b.cell (p := ⟨q, 1, none⟩) h4).trans h1, (b.cell (p := ⟨q, 2, none⟩) h4).trans h2, (b.cell (p := ⟨q, 3, none⟩) h4).trans h3, Nat.lt_of_lt_of_le h4 b.size, Below.then h6 b (Nat.le_of_lt h4)⟩
theorem walk (x : It) (c : Int) (w : World) (_hc : I64 c) :
    Calls Try.prog 8 #[encI x, .int .i64 c] w fun e w' => e = .returned (.bool true) ∧ Below w.heap.size w w' := by
  have a1 := AtI.new w x
  have b1 := below_new w (objI x)
  have t2 := told_new (w.alloc (objI x)) [x]
  have b2 := below_new (w.alloc (objI x)) (.cells (cellsI [x]).toArray 29)
  rw [show (cellsI [x]).toArray = (fourI x).toArray by simp [cellsI]] at t2 b2
  have a2 := a1.below b2
  have b3 := Below.then b1 b2 b1.size
  obtain ⟨c0, c1, c2, c3⟩ := a1.cells
  rw [World.size_alloc] at t2
  simp only [encI, objI, fourI] at *
  go_enter Try.func8, Try.ntmps8
  go_wp2_with fail
  clear c0 c1 c2 c3 a1 b1 b2
  generalize hw2 : ((w.alloc (.cells #[.int .i64 x.k, .int .i64 x.c, .int .i64 x.a, .int .i64 x.b] 29)).alloc (.cells #[.int .i64 x.k, .int .i64 x.c, .int .i64 x.a, .int .i64 x.b] 29)) = w2 at *
  refine (print_at _ 1 _ [x] c rfl (by simp) w2 t2).mono ?_
  rintro e w3 ⟨rfl, b4⟩
  have a3 := a2.below b4
  have b5 := Below.then b3 b4 b3.size
  clear a2 b3 b4 t2 hw2
  obtain ⟨c0, c1, c2, c3⟩ := a3.cells
  have a4 := a3.below (below_new w3 (objI x))
  have b6 := Below.then b5 (below_new w3 (objI x)) b5.size
  obtain ⟨d0, d1, d2, d3⟩ := a4.cells
  clear a3 b5 a4
  cases hr : rightB c x with
  | false =>
    rw [show pick c [x] = [] by simp [pick, hr]]
    rw [show strOfNums (flat []) = ⟨#[]⟩ from rfl]
    go_wp2_with fail
    refine (right_any x c w3).mono ?_
    rintro e w4 ⟨rfl, rfl⟩
    rw [hr]
    generalize w3.alloc (objI x) = w4 at *
    clear hr
    go_wp2_with fail
    refine (fixed_any w4).mono ?_
    rintro e w6 ⟨rfl, b8⟩
    have b9 := Below.then b6 b8 b6.size
    clear b6 b8
    go_wp2
    go_ret
    exact ⟨rfl, b9⟩
  | true =>
    have hb := bytes_flat c [x]
    rw [show pick c [x] = [x] by simp [pick, hr]] at hb ⊢
    have hz := strOfNums_size (flat [x])
    have g : ∀ (i : Nat) (hi : i < (strOfNums (flat [x])).size), (((strOfNums (flat [x]))[i]'hi).toNat : Int) = (flat [x]).getD i 0 := fun i hi => str_get _ hb i hi
    rw [show flat [x] = [x.k, x.c, x.a, x.b] from rfl] at hz g hb ⊢
    generalize strOfNums [x.k, x.c, x.a, x.b] = s at *
    simp only [List.length_cons, List.length_nil, Nat.zero_add, Nat.reduceAdd] at hz
    have g0 := g 0 (by omega)
    have g1 := g 1 (by omega)
    have g2 := g 2 (by omega)
    have g3 := g 3 (by omega)
    simp only [List.getD_cons_zero, List.getD_cons_succ] at g0 g1 g2 g3
    have B0 := hb x.k (by simp)
    have B1 := hb x.c (by simp)
    have B2 := hb x.a (by simp)
    have B3 := hb x.b (by simp)
    clear hb g
    have u0 : IntKind.i64.wrap x.k = x.k := by rw [IntKind.wrap_i64] <;> omega
    have u1 : IntKind.i64.wrap x.c = x.c := by rw [IntKind.wrap_i64] <;> omega
    have u2 : IntKind.i64.wrap x.a = x.a := by rw [IntKind.wrap_i64] <;> omega
    have u3 : IntKind.i64.wrap x.b = x.b := by rw [IntKind.wrap_i64] <;> omega
    go_wp2_with fail
    refine (right_any x c w3).mono ?_
    rintro e w4 ⟨rfl, rfl⟩
    rw [hr]
    generalize w3.alloc (objI x) = w4 at *
    clear hr
    go_wp2
    have hq4 := World.block_lt_of_cell? _ _ d0
    simp only at hq4
    generalize hq : w.heap.size = q at *
    have HQ : Hid (w.heap.size = q) := hq
    clear hq
    clear c0 c1 c2 c3
    have hS : w4.cell? ⟨q, 0, none⟩ = some (.int .i64 x.k) ∧ w4.cell? ⟨q, 1, none⟩ = some (.int .i64 x.c) ∧ w4.cell? ⟨q, 2, none⟩ = some (.int .i64 x.a) ∧ w4.cell? ⟨q, 3, none⟩ = some (.int .i64 x.b) ∧ (q < w4.heap.size ∧ Below q w w4) := ⟨d0, d1, d2, d3, hq4, b6⟩
    go_region_held3 (fun W => W.cell? ⟨q, 0, none⟩ = some (.int .i64 x.k) ∧ W.cell? ⟨q, 1, none⟩ = some (.int .i64 x.c) ∧ W.cell? ⟨q, 2, none⟩ = some (.int .i64 x.a) ∧ W.cell? ⟨q, 3, none⟩ = some (.int .i64 x.b) ∧ (q < W.heap.size ∧ Below q w W)) ((first | assumption | exact got_next (by assumption) (by assumption) | exact got_next (by assumption) ((Below.refl _ _).drew)))
      (first | (go_at_call 9; refine (fixed_any _).mono ?_; rintro e w6 ⟨rfl, b8⟩))
    rename_i hH
    have hB := hH.2.2.2.2.2
    clear hH hS b6 b8 d0 d1 d2 d3
    go_wp2
    go_ret
    exact ⟨rfl, by rw [HQ.out]; exact hB⟩
open Go.ChangeShapes Go.WideShapes Go.ChangeAt Go.RowKit Go.Joins

/-! ### From the walk to the statement -/
set_option maxRecDepth 100000 in
theorem lifted (os : Os) (started : os.Started) (H : Type) (enc : TypeId × Value → H) :
    ReturnsInHanded {} Try.checked os 8 .any (Rows.scriptOneSpec.pre6 enc Try.prog Try.f8 Rows.scriptOneRow.domain false) (Rows.scriptOneSpec.post enc Try.prog Try.f8 false true false false) := by
  refine returnsInHanded_of_change (C := Try.checked) own started (by kernel_rfl) Try.func8
    (ChangeSpec.witness6 (enc := enc) (C := Try.checked) false ⟨#[], #[.agg #[.int .i64 0, .int .i64 0, .int .i64 0, .int .i64 0], .int .i64 0], []⟩ 8 (by kernel_rfl) (by kernel_rfl) (by kernel_rfl) (by kernel_rfl)) ?_
  intro W base args ds gs before hval0 hW hcnd _
  have hval : ∀ (j : Nat) t v, Try.f8.params[j]? = some t → args[j]? = some v → Value.okWide Try.prog W .any base t v := hval0
  have hW' := hW
  obtain ⟨p, q, hA0, hV, rfl, hfz, hnd⟩ := hW
  have hA : DataW.TrodAll enc Try.prog W 0 (fun _ => true) true Try.f8.params.toList args.toList ds p := hA0
  rw [Try.params8] at hA hval
  obtain ⟨v0, vs0, d0, ds0, p0, q0, hargs, rfl, rfl, h0, r0⟩ := trodAll_cons hA
  obtain ⟨v1, vs1, d1, ds1, p1, q1, rfl, rfl, rfl, h1, r1⟩ := trodAll_cons r0
  obtain ⟨rfl, rfl, rfl⟩ := trodAll_nil r1
  obtain rfl : args = #[v0, v1] := by cases args; simp_all
  obtain ⟨rfl, rfl⟩ := trodVars_none hV
  have k0 := h0
  have lt0 : ∀ x ∈ p0, x.block < W.heap.size := by obtain ⟨m, hm⟩ := k0; exact DataW.trod_lt m _ _ _ hm
  obtain ⟨a0, rfl⟩ := open_item (hval 0 29 v0 rfl rfl) h0
  have k1 := h1
  have lt1 : ∀ x ∈ p1, x.block < W.heap.size := by obtain ⟨m, hm⟩ := k1; exact DataW.trod_lt m _ _ _ hm
  obtain ⟨a1, rfl, _, _, w1⟩ := open_int Try.underlying3 (hval 1 3 v1 rfl rfl) h1
  clear hA0 hval0
  refine (walk a0 a1 W (bounds_i64 w1)).mono fun e W' ⟨he, bel⟩ => ?_
  subst he
  exact ⟨_, rfl, _, _, _, [], _, [], hW', trodAll_mk1 (shut_bool Try.underlying4 _), (trodAll_cons_mk (Below.trod laidOut (by kernel_rfl) (of_decide_eq_true (by kernel_rfl)) k0 bel lt0) (trodAll_cons_mk (Below.trod laidOut (by kernel_rfl) (of_decide_eq_true (by kernel_rfl)) k1 bel lt1) trodAll_mk0)), rfl, bel.frame _, fun h => by cases h⟩
theorem over : Rows.scriptOneRow.holds Try.pinned (OpenSpec.ofChange Rows.scriptOneSpec) :=
  OpenClaim.holds_of_wide 8 Try.f8 rfl rfl rfl rfl rfl rfl rfl ⟨rfl, rfl, rfl, rfl, rfl⟩ rfl rfl rfl rfl rfl (by kernel_rfl) Try.func8 (by kernel_rfl)
    (of_decide_eq_true (by kernel_rfl)) (by unfold Func.isWrapper; first | (rw [if_pos (by decide +kernel)]; kernel_rfl) | (rw [if_neg (by decide +kernel)]; exact ⟨rfl, rfl⟩))
    (fun os started H enc _ => lifted os started H enc)
end Go.Proofs.Ytkbbjpnkfmegnaa.scriptOne
namespace Go.Proofs.Ytkbbjpnkfmegnaa
/-- THE STATEMENT. -/
theorem scriptOne_said : Rows.ScriptOneSaid := scriptOne.over
#print axioms scriptOne_said
end Go.Proofs.Ytkbbjpnkfmegnaa
