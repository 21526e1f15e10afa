/-
  LookupSlots answers true for every input, and leaves it; no condition of ours.
-/
import Derived.Test.YtafjgoelofobmaaKHeld
namespace Go.Proofs.Ytafjgoelofobmaa.lookupSlots
open Go.RowKit Go.Deep Go.MapKept Go.Maps
set_option linter.unusedSectionVars false
section
variable [dCp : DecidableEq Cp] [dLim : ∀ k, Decidable (Lim k)] [dBad : ∀ k, Decidable (Bad k)] [dFit : ∀ g z, Decidable (Fit g z)] [dFine : ∀ c, Decidable (Fine c)] [dMint : ∀ c v, Decidable (MintR c v)] [dWho : ∀ x y, Decidable (Whose x y)] [dSl : DecidableEq Sl] [dLt : ∀ a b, Decidable (ltS a b)] [dIsN : ∀ S c, Decidable (isN S c)] [dGuN : ∀ a c d, Decidable (GuardN a c d)] [iSl : Inhabited Sl] [iCp : Inhabited Cp]
set_option maxHeartbeats 8000000 in
set_option maxRecDepth 100000 in
theorem walk (ao : Option Addr) (B : List Int) (cap : Nat) (ho : Option Addr) (H : List (Sl × Cp)) (cap2 : Nat) (x : Ak) (w : World) (hb : Bd w ao B ho H) (hx : x.Fits) :
    Calls Try.prog 3 #[encB ao B.length cap ho H.length cap2, encA x] w fun e w' => e = .returned (.bool true) ∧ Below w.heap.size w w' := by
  have HX : Hid x.Fits := hx
  clear hx
  obtain ⟨r, HR⟩ : ∃ r, Hid (w.heap.size = r) := ⟨_, rfl⟩
  obtain ⟨x1, x2, _, xb⟩ := box2 w (objB ao B.length cap ho H.length cap2) (objK x)
  have BD : Hid (Ints ((w.alloc (objB ao B.length cap ho H.length cap2)).alloc (objK x)) ao B ∧ Helds ((w.alloc (objB ao B.length cap ho H.length cap2)).alloc (objK x)) ho H ∧ B.length ≤ 9223372036854775807 ∧ H.length ≤ 9223372036854775807) := ⟨hb.ints.below xb (Nat.le_refl _), hb.helds.below xb (Nat.le_refl _), hb.lb, hb.lh⟩
  obtain ⟨y0, y1⟩ := bld_cells x1
  have Y : Hid (Below w.heap.size w ((w.alloc (objB ao B.length cap ho H.length cap2)).alloc (objK x)) ∧ ((w.alloc (objB ao B.length cap ho H.length cap2)).alloc (objK x)).heap[w.heap.size + 1]? = some (objK x)) := ⟨xb, x2⟩
  clear xb x1 x2 hb
  simp only [encB, objB, encA, objK] at BD Y y0 y1 ⊢
  go_enter Try.func3, Try.ntmps3
  go_wp2_with fail
  refine (built_any ao B cap ho H cap2 _ BD.out.1 BD.out.2.1 BD.out.2.2.1 BD.out.2.2.2).mono ?_
  rintro e w1 ⟨p, F, p2, F2, rfl, h1⟩
  have H1 : Hid (Bk w w.heap.size w1 p F p2 F2 (builtS B H) (builtS B H) [(w.heap.size + 1, objK x)]) := h1.rebase Y.out.1 Y.out.1.size fun z hz => by
    rcases List.mem_cons.1 hz with rfl | hz
    · exact Y.out.2
    · cases hz
  clear h1 Y y0 y1 BD
  obtain ⟨T, HT⟩ : ∃ T, Hid (builtS B H = T) := ⟨_, rfl⟩
  rw [HT.out] at H1
  generalize w.heap.size + 1 = r1 at *
  rw [HR.out] at H1 ⊢
  obtain ⟨s, en, HV⟩ : ∃ s en, Hid (slotR T x.c x.a x.d = (s, en)) := ⟨_, _, rfl⟩
  obtain ⟨cc, ce, HC⟩ : ∃ cc ce, Hid (capR T x.c x.a x.d = (cc, ce)) := ⟨_, _, rfl⟩
  obtain ⟨a0, a1, a2, a3, a4, a5, a6, a7⟩ := ak_cells (H1.out.blk (r1, objK x) (by simp)).1
  go_wp2_with fail
  refine (slot_is H1.out.nds HX.out.c HX.out.a HV.out).mono ?_
  rintro e w2 ⟨he, b2⟩
  obtain rfl : e = .returned (.tuple #[.agg #[.int .i64 s.n, .int .i64 s.i], .int .i64 en]) := he
  have G2 : Hid (Bk w r (w2.alloc (Obj.cells #[.int .i64 s.n, .int .i64 s.i] 36)) p F p2 F2 T T [(w2.heap.size, objS s), (r1, objK x)]) := (H1.out.below b2).alloc (objS s)
  clear b2 H1
  clear a0 a1 a2 a3 a4 a5 a6 a7
  obtain ⟨a0, a1, a2, a3, a4, a5, a6, a7⟩ := ak_cells (G2.out.blk (r1, objK x) (by simp)).1
  obtain ⟨s0, s1⟩ := (G2.out.atS (q := w2.heap.size) (s := s) (by simp)).cells
  go_wp2_with fail
  generalize w2.alloc (Obj.cells #[.int .i64 s.n, .int .i64 s.i] 36) = v2 at *
  generalize w2.heap.size = q2 at *
  have K2 : Hid (Bk w r v2 p F p2 F2 T T [(q2, objS s), (r1, objK x)]) := G2
  clear G2
  refine (rslot_is K2.out.rds HX.out.c HX.out.a HV.out).mono ?_
  rintro e w3 ⟨he, b3⟩
  obtain rfl : e = .returned (.tuple #[.agg #[.int .i64 s.n, .int .i64 s.i], .int .i64 en]) := he
  have G3 : Hid (Bk w r (w3.alloc (Obj.cells #[.int .i64 s.n, .int .i64 s.i] 36)) p F p2 F2 T T [(w3.heap.size, objS s), (q2, objS s), (r1, objK x)]) := (K2.out.rleaves b3).alloc (objS s)
  clear b3 K2
  clear a0 a1 a2 a3 a4 a5 a6 a7
  clear s0 s1
  obtain ⟨a0, a1, a2, a3, a4, a5, a6, a7⟩ := ak_cells (G3.out.blk (r1, objK x) (by simp)).1
  obtain ⟨s0, s1⟩ := (G3.out.atS (q := q2) (s := s) (by simp)).cells
  obtain ⟨t0, t1⟩ := (G3.out.atS (q := w3.heap.size) (s := s) (by simp)).cells
  go_wp2_with fail
  generalize w3.alloc (Obj.cells #[.int .i64 s.n, .int .i64 s.i] 36) = v3 at *
  generalize w3.heap.size = q3 at *
  have K3 : Hid (Bk w r v3 p F p2 F2 T T [(q3, objS s), (q2, objS s), (r1, objK x)]) := G3
  clear G3
  refine (cap_is K3.out.nds HX.out.c HX.out.a HC.out).mono ?_
  rintro e w4 ⟨he, b4⟩
  obtain rfl : e = .returned (.tuple #[.agg #[.int .i64 cc.k, .int .i64 cc.o, .int .i64 cc.r, .int .u64 cc.b, .int .u64 cc.g, .int .i64 cc.z], .int .i64 ce]) := he
  have G4 : Hid (Bk w r (w4.alloc (Obj.cells #[.int .i64 cc.k, .int .i64 cc.o, .int .i64 cc.r, .int .u64 cc.b, .int .u64 cc.g, .int .i64 cc.z] 28)) p F p2 F2 T T [(w4.heap.size, objC cc), (q3, objS s), (q2, objS s), (r1, objK x)]) := (K3.out.below b4).alloc (objC cc)
  clear b4 K3
  clear a0 a1 a2 a3 a4 a5 a6 a7
  clear s0 s1
  clear t0 t1
  obtain ⟨a0, a1, a2, a3, a4, a5, a6, a7⟩ := ak_cells (G4.out.blk (r1, objK x) (by simp)).1
  obtain ⟨s0, s1⟩ := (G4.out.atS (q := q2) (s := s) (by simp)).cells
  obtain ⟨t0, t1⟩ := (G4.out.atS (q := q3) (s := s) (by simp)).cells
  obtain ⟨c0, c1, c2, c3, c4, c5⟩ := (G4.out.atC (q := w4.heap.size) (c := cc) (by simp)).cells
  go_wp2_with fail
  generalize w4.alloc (Obj.cells #[.int .i64 cc.k, .int .i64 cc.o, .int .i64 cc.r, .int .u64 cc.b, .int .u64 cc.g, .int .i64 cc.z] 28) = v4 at *
  generalize w4.heap.size = q4 at *
  have K4 : Hid (Bk w r v4 p F p2 F2 T T [(q4, objC cc), (q3, objS s), (q2, objS s), (r1, objK x)]) := G4
  clear G4
  have HQs := fun W => eq_slot_same W s
  have HQc := fun W => eq_cap_same W cc
  have hee : (en == en) = true := by simp
  have hcc : (ce == ce) = true := by simp
  refine (rcap_is K4.out.rds HX.out.c HX.out.a HC.out).mono ?_
  rintro e w5 ⟨he, b5⟩
  obtain rfl : e = .returned (.tuple #[.agg #[.int .i64 cc.k, .int .i64 cc.o, .int .i64 cc.r, .int .u64 cc.b, .int .u64 cc.g, .int .i64 cc.z], .int .i64 ce]) := he
  have G5 : Hid (Bk w r (w5.alloc (Obj.cells #[.int .i64 cc.k, .int .i64 cc.o, .int .i64 cc.r, .int .u64 cc.b, .int .u64 cc.g, .int .i64 cc.z] 28)) p F p2 F2 T T [(w5.heap.size, objC cc), (q4, objC cc), (q3, objS s), (q2, objS s), (r1, objK x)]) := (K4.out.rleaves b5).alloc (objC cc)
  clear b5 K4
  clear a0 a1 a2 a3 a4 a5 a6 a7
  clear s0 s1
  clear t0 t1
  clear c0 c1 c2 c3 c4 c5
  obtain ⟨a0, a1, a2, a3, a4, a5, a6, a7⟩ := ak_cells (G5.out.blk (r1, objK x) (by simp)).1
  obtain ⟨s0, s1⟩ := (G5.out.atS (q := q2) (s := s) (by simp)).cells
  obtain ⟨t0, t1⟩ := (G5.out.atS (q := q3) (s := s) (by simp)).cells
  obtain ⟨c0, c1, c2, c3, c4, c5⟩ := (G5.out.atC (q := q4) (c := cc) (by simp)).cells
  obtain ⟨d0, d1, d2, d3, d4, d5⟩ := (G5.out.atC (q := w5.heap.size) (c := cc) (by simp)).cells
  go_wp2_with fail
  generalize w5.alloc (Obj.cells #[.int .i64 cc.k, .int .i64 cc.o, .int .i64 cc.r, .int .u64 cc.b, .int .u64 cc.g, .int .i64 cc.z] 28) = v5 at *
  generalize w5.heap.size = q5 at *
  have K5 : Hid (Bk w r v5 p F p2 F2 T T [(q5, objC cc), (q4, objC cc), (q3, objS s), (q2, objS s), (r1, objK x)]) := G5
  clear G5
  obtain ⟨A, HA⟩ : ∃ A, Hid (held T = A ∧ A.length ≤ 1000000) := ⟨_, rfl, Nat.le_trans (held_le K5.out.ok) (by decide)⟩
  refine (held_any p F T _ K5.out.nds).mono ?_
  rintro e w6 ⟨v, rfl, o6, b6⟩
  rw [HA.out.1] at o6
  obtain ⟨L1, ao6, cap6, rfl, k6, o6'⟩ := K5.out.held o6 b6
  have K6 : Hid (Bk w r w6 p F p2 F2 T T L1 ∧ ∀ W, (∀ x ∈ L1, W.heap[x.1]? = some x.2) → OwnH 0 W (.slice ao6 A.length cap6) A) := ⟨k6.fewer fun b hb => List.mem_append_left _ hb, o6'⟩
  clear k6 o6 o6' b6 K5
  clear a0 a1 a2 a3 a4 a5 a6 a7
  clear s0 s1
  clear t0 t1
  clear c0 c1 c2 c3 c4 c5
  clear d0 d1 d2 d3 d4 d5
  go_wp2_with fail
  refine (rheld_any p2 F2 T _ K6.out.1.rds).mono ?_
  rintro e w7 ⟨v, rfl, o7, b7⟩
  rw [HA.out.1] at o7
  obtain ⟨L2, ao7, cap7, rfl, k7, o7'⟩ := K6.out.1.held o7 b7
  have K7 : Hid (Bk w r w7 p F p2 F2 T T (L2 ++ L1) ∧ OwnH 0 w7 (.slice ao6 A.length cap6) A ∧ OwnH 0 w7 (.slice ao7 A.length cap7) A) := ⟨k7, K6.out.2 _ fun x hx => (k7.blk x (List.mem_append_right _ hx)).1, o7' _ fun x hx => (k7.blk x (List.mem_append_left _ hx)).1⟩
  clear k7 o7 o7' b7 K6
  go_wp2_with fail
  refine (same_true 0 0 ao6 ao7 cap6 cap7 A w7 K7.out.2.1 K7.out.2.2 HA.out.2).mono ?_
  rintro e w8 ⟨rfl, b8⟩
  have K8 : Hid (Bk w r w8 p F p2 F2 T T (L2 ++ L1)) := K7.out.1.below b8
  clear b8 K7
  go_wp2_with fail
  refine (fixed_any _).mono ?_
  rintro e w9 ⟨rfl, b9⟩
  have KL : Hid (Below r w w9) := (K8.out.below b9).low
  clear b9 K8
  go_wp2
  go_ret
  exact ⟨rfl, by rw [HR.out]; exact KL.out⟩
end
open Go.ChangeShapes Go.WideShapes Go.ChangeAt Go.RowKit Go.Joins

/-! ### From the walk to the statement -/
set_option maxRecDepth 100000 in
theorem lifted (os : Os) (started : os.Started) (H : Type) (enc : TypeId × Value → H) :
    ReturnsInHanded {} Try.checked os 3 .any (Rows.lookupSlotsSpec.pre6 enc Try.prog Try.f3 Rows.lookupSlotsRow.domain false) (Rows.lookupSlotsSpec.post enc Try.prog Try.f3 false true false false) := by
  have dCp : DecidableEq Cp := fun a b => Classical.propDecidable (a = b)
  have dLim : ∀ k, Decidable (Lim k) := fun k => Classical.propDecidable (Lim k)
  have dBad : ∀ k, Decidable (Bad k) := fun k => Classical.propDecidable (Bad k)
  have dFit : ∀ g z, Decidable (Fit g z) := fun g z => Classical.propDecidable (Fit g z)
  have dFine : ∀ c, Decidable (Fine c) := fun c => Classical.propDecidable (Fine c)
  have dMint : ∀ c v, Decidable (MintR c v) := fun c v => Classical.propDecidable (MintR c v)
  have dWho : ∀ x y, Decidable (Whose x y) := fun x y => Classical.propDecidable (Whose x y)
  have dSl : DecidableEq Sl := fun a b => Classical.propDecidable (a = b)
  have dLt : ∀ a b, Decidable (ltS a b) := fun a b => Classical.propDecidable (ltS a b)
  have dIsN : ∀ S c, Decidable (isN S c) := fun S c => Classical.propDecidable (isN S c)
  have dGuN : ∀ a c d, Decidable (GuardN a c d) := fun a c d => Classical.propDecidable (GuardN a c d)
  have iSl : Inhabited Sl := ⟨⟨0, 0⟩⟩
  have iCp : Inhabited Cp := ⟨no⟩
  refine returnsInHanded_of_change (C := Try.checked) own started (by kernel_rfl) Try.func3
    (ChangeSpec.witness6 (enc := enc) (C := Try.checked) false ⟨#[], #[.agg #[.slice none 0 0, .slice none 0 0], .agg #[.int .i64 0, .int .i64 0, .int .i64 0, .int .u64 0, .int .u64 0, .int .i64 0, .int .u64 0, .int .i64 0]], []⟩ 8 (by kernel_rfl) (by kernel_rfl) (by kernel_rfl) (by kernel_rfl)) ?_
  intro W base args ds gs before hval0 hW hcnd _
  have hval : ∀ (j : Nat) t v, Try.f3.params[j]? = some t → args[j]? = some v → Value.okWide Try.prog W .any base t v := hval0
  have hW' := hW
  obtain ⟨p, q, hA0, hV, rfl, hfz, hnd⟩ := hW
  have hA : DataW.TrodAll enc Try.prog W 0 (fun _ => true) true Try.f3.params.toList args.toList ds p := hA0
  rw [Try.params3] at hA hval
  obtain ⟨v0, vs0, d0, ds0, p0, q0, hargs, rfl, rfl, h0, r0⟩ := trodAll_cons hA
  obtain ⟨v1, vs1, d1, ds1, p1, q1, rfl, rfl, rfl, h1, r1⟩ := trodAll_cons r0
  obtain ⟨rfl, rfl, rfl⟩ := trodAll_nil r1
  obtain rfl : args = #[v0, v1] := by cases args; simp_all
  obtain ⟨rfl, rfl⟩ := trodVars_none hV
  have k0 := h0
  have lt0 : ∀ x ∈ p0, x.block < W.heap.size := by obtain ⟨m, hm⟩ := k0; exact DataW.trod_lt m _ _ _ hm
  obtain ⟨a0, l0, c0, g0, m0, e0, rfl, w0⟩ := open_build (hval 0 25 v0 rfl rfl) h0
  have k1 := h1
  have lt1 : ∀ x ∈ p1, x.block < W.heap.size := by obtain ⟨m, hm⟩ := k1; exact DataW.trod_lt m _ _ _ hm
  obtain ⟨a1, rfl, w1⟩ := open_ask (hval 1 30 v1 rfl rfl) h1
  clear hA0 hval0
  refine (walk a0 l0 c0 g0 m0 e0 a1 W w0 w1).mono fun e W' ⟨he, bel⟩ => ?_
  subst he
  exact ⟨_, rfl, _, _, _, [], _, [], hW', trodAll_mk1 (shut_bool Try.underlying4 _), (trodAll_cons_mk (Below.trod laidOut (by kernel_rfl) (of_decide_eq_true (by kernel_rfl)) k0 bel lt0) (trodAll_cons_mk (Below.trod laidOut (by kernel_rfl) (of_decide_eq_true (by kernel_rfl)) k1 bel lt1) trodAll_mk0)), rfl, bel.frame _, fun h => by cases h⟩
theorem over : Rows.lookupSlotsRow.holds Try.pinned (OpenSpec.ofChange Rows.lookupSlotsSpec) :=
  OpenClaim.holds_of_wide 3 Try.f3 rfl rfl rfl rfl rfl rfl rfl ⟨rfl, rfl, rfl, rfl, rfl⟩ rfl rfl rfl rfl rfl (by kernel_rfl) Try.func3 (by kernel_rfl)
    (of_decide_eq_true (by kernel_rfl)) (by unfold Func.isWrapper; first | (rw [if_pos (by decide +kernel)]; kernel_rfl) | (rw [if_neg (by decide +kernel)]; exact ⟨rfl, rfl⟩))
    (fun os started H enc _ => lifted os started H enc)
end Go.Proofs.Ytafjgoelofobmaa.lookupSlots
namespace Go.Proofs.Ytafjgoelofobmaa
/-- THE STATEMENT. -/
theorem lookupSlots_said : Rows.LookupSlotsSaid := lookupSlots.over
#print axioms lookupSlots_said
end Go.Proofs.Ytafjgoelofobmaa
