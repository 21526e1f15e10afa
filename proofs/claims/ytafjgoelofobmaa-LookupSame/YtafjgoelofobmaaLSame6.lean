/-
  LookupSame answers true for every input, and leaves it; no condition of ours.
-/
import Derived.Test.YtafjgoelofobmaaKHeld
namespace Go.Proofs.Ytafjgoelofobmaa.lookupSame
open Go.RowKit Go.Deep Go.MapKept Go.Maps
set_option linter.unusedSectionVars false
section
variable [dCp : DecidableEq Cp] [dLim : ∀ k, Decidable (Lim k)] [dBad : ∀ k, Decidable (Bad k)] [dFit : ∀ g z, Decidable (Fit g z)] [dFine : ∀ c, Decidable (Fine c)] [dMint : ∀ c v, Decidable (MintR c v)] [dWho : ∀ x y, Decidable (Whose x y)] [dSl : DecidableEq Sl] [dLt : ∀ a b, Decidable (ltS a b)] [dIsN : ∀ S c, Decidable (isN S c)] [dGuN : ∀ a c d, Decidable (GuardN a c d)] [iSl : Inhabited Sl] [iCp : Inhabited Cp]
set_option maxHeartbeats 8000000 in
set_option maxRecDepth 100000 in
theorem walk (ao : Option Addr) (B : List Int) (cap : Nat) (ho : Option Addr) (H : List (Sl × Cp)) (cap2 : Nat) (x : Ak) (c : Cp) (w : World) (hb : Bd w ao B ho H) (hx : x.Fits) (_hc : c.Fits) :
    Calls Try.prog 6 #[encB ao B.length cap ho H.length cap2, encA x, encC c] w fun e w' => e = .returned (.bool true) ∧ Below w.heap.size w w' := by
  have HX : Hid x.Fits := hx
  clear hx
  obtain ⟨r, HR⟩ : ∃ r, Hid (w.heap.size = r) := ⟨_, rfl⟩
  obtain ⟨x1, x2, x3, xb⟩ := box3 w (objB ao B.length cap ho H.length cap2) (objK x) (objC c)
  have BD : Hid (Ints (((w.alloc (objB ao B.length cap ho H.length cap2)).alloc (objK x)).alloc (objC c)) ao B ∧ Helds (((w.alloc (objB ao B.length cap ho H.length cap2)).alloc (objK x)).alloc (objC c)) ho H ∧ B.length ≤ 9223372036854775807 ∧ H.length ≤ 9223372036854775807) := ⟨hb.ints.below xb (Nat.le_refl _), hb.helds.below xb (Nat.le_refl _), hb.lb, hb.lh⟩
  obtain ⟨y0, y1⟩ := bld_cells x1
  have Y : Hid (Below w.heap.size w (((w.alloc (objB ao B.length cap ho H.length cap2)).alloc (objK x)).alloc (objC c)) ∧ (((w.alloc (objB ao B.length cap ho H.length cap2)).alloc (objK x)).alloc (objC c)).heap[w.heap.size + 1]? = some (objK x) ∧ (((w.alloc (objB ao B.length cap ho H.length cap2)).alloc (objK x)).alloc (objC c)).heap[w.heap.size + 1 + 1]? = some (objC c)) := ⟨xb, x2, x3⟩
  clear xb x1 x2 x3 hb
  simp only [encB, objB, encA, objK, encC, objC] at BD Y y0 y1 ⊢
  go_enter Try.func6, Try.ntmps6
  go_wp2_with fail
  refine (built_any ao B cap ho H cap2 _ BD.out.1 BD.out.2.1 BD.out.2.2.1 BD.out.2.2.2).mono ?_
  rintro e w1 ⟨p, F, p2, F2, rfl, h1⟩
  have H1 : Hid (Bk w w.heap.size w1 p F p2 F2 (builtS B H) (builtS B H) [(w.heap.size + 1, objK x), (w.heap.size + 1 + 1, objC c)]) := h1.rebase Y.out.1 Y.out.1.size fun z hz => by
    rcases List.mem_cons.1 hz with rfl | hz
    · exact Y.out.2.1
    · rcases List.mem_cons.1 hz with rfl | hz
      · exact Y.out.2.2
      · cases hz
  clear h1 Y y0 y1 BD
  obtain ⟨T, HT⟩ : ∃ T, Hid (builtS B H = T) := ⟨_, rfl⟩
  rw [HT.out] at H1
  generalize w.heap.size + 1 + 1 = r2 at *
  generalize w.heap.size + 1 = r1 at *
  rw [HR.out] at H1 ⊢
  obtain ⟨s, en, HV⟩ : ∃ s en, Hid (slotR T x.c x.a x.d = (s, en)) := ⟨_, _, rfl⟩
  obtain ⟨cc, HC⟩ : ∃ cc, Hid (capR T x.c x.a x.d = (cc, en) ∧ (en = 0 → getC T s = cc)) := ⟨_, cap_of H1.out.ok HV.out, fun h => by rw [if_pos h]⟩
  obtain ⟨A, HA⟩ : ∃ A, Hid (held T = A ∧ A.length ≤ 1000000) := ⟨_, rfl, Nat.le_trans (held_le H1.out.ok) (by decide)⟩
  obtain ⟨a0, a1, a2, a3, a4, a5, a6, a7⟩ := ak_cells (H1.out.blk (r1, objK x) (by simp)).1
  go_wp2_with fail
  refine (slot_is H1.out.nds HX.out.c HX.out.a HV.out).mono ?_
  rintro e w2 ⟨he, b2⟩
  obtain rfl : e = .returned (.tuple #[.agg #[.int .i64 s.n, .int .i64 s.i], .int .i64 en]) := he
  have G2 : Hid (Bk w r (w2.alloc (Obj.cells #[.int .i64 s.n, .int .i64 s.i] 36)) p F p2 F2 T T [(w2.heap.size, objS s), (r1, objK x), (r2, objC c)]) := (H1.out.below b2).alloc (objS s)
  clear b2 H1
  clear a0 a1 a2 a3 a4 a5 a6 a7
  obtain ⟨a0, a1, a2, a3, a4, a5, a6, a7⟩ := ak_cells (G2.out.blk (r1, objK x) (by simp)).1
  obtain ⟨s0, s1⟩ := (G2.out.atS (q := w2.heap.size) (s := s) (by simp)).cells
  go_wp2_with fail
  generalize w2.alloc (Obj.cells #[.int .i64 s.n, .int .i64 s.i] 36) = v2 at *
  generalize w2.heap.size = q2 at *
  have K2 : Hid (Bk w r v2 p F p2 F2 T T [(q2, objS s), (r1, objK x), (r2, objC c)]) := G2
  clear G2
  refine (held_any p F T _ K2.out.nds).mono ?_
  rintro e w3 ⟨v, rfl, o3, b3⟩
  rw [HA.out.1] at o3
  obtain ⟨L1, ao3, cap3, rfl, k3, o3'⟩ := K2.out.held o3 b3
  have O3 : Hid (∀ W, (∀ x ∈ L1, W.heap[x.1]? = some x.2) → OwnH 0 W (.slice ao3 A.length cap3) A) := o3'
  have K3 : Hid (Bk w r w3 p F p2 F2 T T (L1 ++ [(q2, objS s), (r1, objK x), (r2, objC c)])) := k3
  clear k3 o3 o3' b3 K2
  clear a0 a1 a2 a3 a4 a5 a6 a7
  clear s0 s1
  obtain ⟨a0, a1, a2, a3, a4, a5, a6, a7⟩ := ak_cells (K3.out.blk (r1, objK x) (by simp)).1
  obtain ⟨s0, s1⟩ := (K3.out.atS (q := q2) (s := s) (by simp)).cells
  go_wp2_with fail
  refine (slot_is K3.out.nds HX.out.c HX.out.a HV.out).mono ?_
  rintro e w4 ⟨he, b4⟩
  obtain rfl : e = .returned (.tuple #[.agg #[.int .i64 s.n, .int .i64 s.i], .int .i64 en]) := he
  have G4 : Hid (Bk w r (w4.alloc (Obj.cells #[.int .i64 s.n, .int .i64 s.i] 36)) p F p2 F2 T T ((w4.heap.size, objS s) :: (L1 ++ [(q2, objS s), (r1, objK x), (r2, objC c)]))) := (K3.out.below b4).alloc (objS s)
  clear b4 K3
  clear a0 a1 a2 a3 a4 a5 a6 a7
  clear s0 s1
  obtain ⟨a0, a1, a2, a3, a4, a5, a6, a7⟩ := ak_cells (G4.out.blk (r1, objK x) (by simp)).1
  obtain ⟨s0, s1⟩ := (G4.out.atS (q := q2) (s := s) (by simp)).cells
  obtain ⟨t0, t1⟩ := (G4.out.atS (q := w4.heap.size) (s := s) (by simp)).cells
  go_wp2_with fail
  generalize w4.alloc (Obj.cells #[.int .i64 s.n, .int .i64 s.i] 36) = v4 at *
  generalize w4.heap.size = q4 at *
  have K4 : Hid (Bk w r v4 p F p2 F2 T T ((q4, objS s) :: (L1 ++ [(q2, objS s), (r1, objK x), (r2, objC c)]))) := G4
  clear G4
  refine (cap_is K4.out.nds HX.out.c HX.out.a HC.out.1).mono ?_
  rintro e w5 ⟨he, b5⟩
  obtain rfl : e = .returned (.tuple #[.agg #[.int .i64 cc.k, .int .i64 cc.o, .int .i64 cc.r, .int .u64 cc.b, .int .u64 cc.g, .int .i64 cc.z], .int .i64 en]) := he
  have G5 : Hid (Bk w r (w5.alloc (Obj.cells #[.int .i64 cc.k, .int .i64 cc.o, .int .i64 cc.r, .int .u64 cc.b, .int .u64 cc.g, .int .i64 cc.z] 28)) p F p2 F2 T T ((w5.heap.size, objC cc) :: (q4, objS s) :: (L1 ++ [(q2, objS s), (r1, objK x), (r2, objC c)]))) := (K4.out.below b5).alloc (objC cc)
  clear b5 K4
  clear a0 a1 a2 a3 a4 a5 a6 a7
  clear s0 s1
  clear t0 t1
  obtain ⟨a0, a1, a2, a3, a4, a5, a6, a7⟩ := ak_cells (G5.out.blk (r1, objK x) (by simp)).1
  obtain ⟨s0, s1⟩ := (G5.out.atS (q := q2) (s := s) (by simp)).cells
  obtain ⟨t0, t1⟩ := (G5.out.atS (q := q4) (s := s) (by simp)).cells
  obtain ⟨c0, c1, c2, c3, c4, c5⟩ := (G5.out.atC (q := w5.heap.size) (c := cc) (by simp)).cells
  go_wp2_with fail
  generalize w5.alloc (Obj.cells #[.int .i64 cc.k, .int .i64 cc.o, .int .i64 cc.r, .int .u64 cc.b, .int .u64 cc.g, .int .i64 cc.z] 28) = v5 at *
  generalize w5.heap.size = q5 at *
  have K5 : Hid (Bk w r v5 p F p2 F2 T T ((q5, objC cc) :: (q4, objS s) :: (L1 ++ [(q2, objS s), (r1, objK x), (r2, objC c)]))) := G5
  clear G5
  refine (rget_any p2 F2 T s _ K5.out.rds).mono ?_
  rintro e w6 ⟨rfl, b6⟩
  obtain ⟨gc, HG⟩ : ∃ gc, Hid (getC T s = gc) := ⟨_, rfl⟩
  rw [HG.out]
  generalize getE T s = ge at *
  have he6 : (Ending.returned (.tuple #[encC gc, .int .i64 ge]) : Ending) = .returned (.tuple #[.agg #[.int .i64 gc.k, .int .i64 gc.o, .int .i64 gc.r, .int .u64 gc.b, .int .u64 gc.g, .int .i64 gc.z], .int .i64 ge]) := rfl
  simp only [encC]
  clear he6
  have G6 : Hid (Bk w r (w6.alloc (Obj.cells #[.int .i64 gc.k, .int .i64 gc.o, .int .i64 gc.r, .int .u64 gc.b, .int .u64 gc.g, .int .i64 gc.z] 28)) p F p2 F2 T T ((w6.heap.size, objC gc) :: (q5, objC cc) :: (q4, objS s) :: (L1 ++ [(q2, objS s), (r1, objK x), (r2, objC c)]))) := (K5.out.rleaves b6).alloc (objC gc)
  clear b6 K5
  clear a0 a1 a2 a3 a4 a5 a6 a7
  clear s0 s1
  clear t0 t1
  clear c0 c1 c2 c3 c4 c5
  obtain ⟨a0, a1, a2, a3, a4, a5, a6, a7⟩ := ak_cells (G6.out.blk (r1, objK x) (by simp)).1
  obtain ⟨s0, s1⟩ := (G6.out.atS (q := q2) (s := s) (by simp)).cells
  obtain ⟨t0, t1⟩ := (G6.out.atS (q := q4) (s := s) (by simp)).cells
  obtain ⟨c0, c1, c2, c3, c4, c5⟩ := (G6.out.atC (q := q5) (c := cc) (by simp)).cells
  obtain ⟨d0, d1, d2, d3, d4, d5⟩ := (G6.out.atC (q := w6.heap.size) (c := gc) (by simp)).cells
  have HQs := fun W => eq_slot_same W s
  have hee : (en == en) = true := by simp
  by_cases he : en = 0
  · subst he
    have hgc : cc = gc := (HG.out.symm.trans (HC.out.2 rfl)).symm
    subst hgc
    have HQc := fun W => eq_cap_same W cc
    go_wp2_with fail
    generalize w6.alloc (Obj.cells #[.int .i64 cc.k, .int .i64 cc.o, .int .i64 cc.r, .int .u64 cc.b, .int .u64 cc.g, .int .i64 cc.z] 28) = v6 at *
    have K7 : Hid (Bk w r v6 p F p2 F2 T T L1) := G6.out.fewer fun b hb => by simp [hb]
    clear G6
    refine (held_any p F T _ K7.out.nds).mono ?_
    rintro e w8 ⟨v, rfl, o8, b8⟩
    rw [HA.out.1] at o8
    obtain ⟨L2, ao8, cap8, rfl, k8, o8'⟩ := K7.out.held o8 b8
    have K8 : Hid (Bk w r w8 p F p2 F2 T T (L2 ++ L1) ∧ OwnH 0 w8 (.slice ao3 A.length cap3) A ∧ OwnH 0 w8 (.slice ao8 A.length cap8) A) := ⟨k8, O3.out _ fun x hx => (k8.blk x (List.mem_append_right _ hx)).1, o8' _ fun x hx => (k8.blk x (List.mem_append_left _ hx)).1⟩
    clear k8 o8 o8' b8 K7
    clear a0 a1 a2 a3 a4 a5 a6 a7 s0 s1 t0 t1 c0 c1 c2 c3 c4 c5 d0 d1 d2 d3 d4 d5
    go_wp2_with fail
    refine (same_true 0 0 ao8 ao3 cap8 cap3 A w8 K8.out.2.2 K8.out.2.1 HA.out.2).mono ?_
    rintro e w9 ⟨rfl, b9⟩
    have K9 : Hid (Bk w r w9 p F p2 F2 T T (L2 ++ L1)) := K8.out.1.below b9
    clear b9 K8
    go_wp2_with fail
    refine (fixed_any _).mono ?_
    rintro e w10 ⟨rfl, b10⟩
    have KL : Hid (Below r w w10) := (K9.out.below b10).low
    clear b10 K9
    go_wp2
    go_ret
    exact ⟨rfl, by rw [HR.out]; exact KL.out⟩
  · have he' : (en != 0) = true := by simp [he]
    clear he
    go_wp2_with fail
    generalize w6.alloc (Obj.cells #[.int .i64 gc.k, .int .i64 gc.o, .int .i64 gc.r, .int .u64 gc.b, .int .u64 gc.g, .int .i64 gc.z] 28) = v6 at *
    have K7 : Hid (Bk w r v6 p F p2 F2 T T L1) := G6.out.fewer fun b hb => by simp [hb]
    clear G6
    refine (held_any p F T _ K7.out.nds).mono ?_
    rintro e w8 ⟨v, rfl, o8, b8⟩
    rw [HA.out.1] at o8
    obtain ⟨L2, ao8, cap8, rfl, k8, o8'⟩ := K7.out.held o8 b8
    have K8 : Hid (Bk w r w8 p F p2 F2 T T (L2 ++ L1) ∧ OwnH 0 w8 (.slice ao3 A.length cap3) A ∧ OwnH 0 w8 (.slice ao8 A.length cap8) A) := ⟨k8, O3.out _ fun x hx => (k8.blk x (List.mem_append_right _ hx)).1, o8' _ fun x hx => (k8.blk x (List.mem_append_left _ hx)).1⟩
    clear k8 o8 o8' b8 K7
    clear a0 a1 a2 a3 a4 a5 a6 a7 s0 s1 t0 t1 c0 c1 c2 c3 c4 c5 d0 d1 d2 d3 d4 d5
    go_wp2_with fail
    refine (same_true 0 0 ao8 ao3 cap8 cap3 A w8 K8.out.2.2 K8.out.2.1 HA.out.2).mono ?_
    rintro e w9 ⟨rfl, b9⟩
    have K9 : Hid (Bk w r w9 p F p2 F2 T T (L2 ++ L1)) := K8.out.1.below b9
    clear b9 K8
    go_wp2_with fail
    refine (fixed_any _).mono ?_
    rintro e w10 ⟨rfl, b10⟩
    have KL : Hid (Below r w w10) := (K9.out.below b10).low
    clear b10 K9
    go_wp2
    go_ret
    exact ⟨rfl, by rw [HR.out]; exact KL.out⟩
end
open Go.ChangeShapes Go.WideShapes Go.ChangeAt Go.RowKit Go.Joins

/-! ### From the walk to the statement -/
set_option maxRecDepth 100000 in
theorem lifted (os : Os) (started : os.Started) (H : Type) (enc : TypeId × Value → H) :
    ReturnsInHanded {} Try.checked os 6 .any (Rows.lookupSameSpec.pre6 enc Try.prog Try.f6 Rows.lookupSameRow.domain false) (Rows.lookupSameSpec.post enc Try.prog Try.f6 false true false false) := by
  have dCp : DecidableEq Cp := fun a b => Classical.propDecidable (a = b)
  have dLim : ∀ k, Decidable (Lim k) := fun k => Classical.propDecidable (Lim k)
  have dBad : ∀ k, Decidable (Bad k) := fun k => Classical.propDecidable (Bad k)
  have dFit : ∀ g z, Decidable (Fit g z) := fun g z => Classical.propDecidable (Fit g z)
  have dFine : ∀ c, Decidable (Fine c) := fun c => Classical.propDecidable (Fine c)
  have dMint : ∀ c v, Decidable (MintR c v) := fun c v => Classical.propDecidable (MintR c v)
  have dWho : ∀ x y, Decidable (Whose x y) := fun x y => Classical.propDecidable (Whose x y)
  have dSl : DecidableEq Sl := fun a b => Classical.propDecidable (a = b)
  have dLt : ∀ a b, Decidable (ltS a b) := fun a b => Classical.propDecidable (ltS a b)
  have dIsN : ∀ S c, Decidable (isN S c) := fun S c => Classical.propDecidable (isN S c)
  have dGuN : ∀ a c d, Decidable (GuardN a c d) := fun a c d => Classical.propDecidable (GuardN a c d)
  have iSl : Inhabited Sl := ⟨⟨0, 0⟩⟩
  have iCp : Inhabited Cp := ⟨no⟩
  refine returnsInHanded_of_change (C := Try.checked) own started (by kernel_rfl) Try.func6
    (ChangeSpec.witness6 (enc := enc) (C := Try.checked) false ⟨#[], #[.agg #[.slice none 0 0, .slice none 0 0], .agg #[.int .i64 0, .int .i64 0, .int .i64 0, .int .u64 0, .int .u64 0, .int .i64 0, .int .u64 0, .int .i64 0], .agg #[.int .i64 0, .int .i64 0, .int .i64 0, .int .u64 0, .int .u64 0, .int .i64 0]], []⟩ 8 (by kernel_rfl) (by kernel_rfl) (by kernel_rfl) (by kernel_rfl)) ?_
  intro W base args ds gs before hval0 hW hcnd _
  have hval : ∀ (j : Nat) t v, Try.f6.params[j]? = some t → args[j]? = some v → Value.okWide Try.prog W .any base t v := hval0
  have hW' := hW
  obtain ⟨p, q, hA0, hV, rfl, hfz, hnd⟩ := hW
  have hA : DataW.TrodAll enc Try.prog W 0 (fun _ => true) true Try.f6.params.toList args.toList ds p := hA0
  rw [Try.params6] at hA hval
  obtain ⟨v0, vs0, d0, ds0, p0, q0, hargs, rfl, rfl, h0, r0⟩ := trodAll_cons hA
  obtain ⟨v1, vs1, d1, ds1, p1, q1, rfl, rfl, rfl, h1, r1⟩ := trodAll_cons r0
  obtain ⟨v2, vs2, d2, ds2, p2, q2, rfl, rfl, rfl, h2, r2⟩ := trodAll_cons r1
  obtain ⟨rfl, rfl, rfl⟩ := trodAll_nil r2
  obtain rfl : args = #[v0, v1, v2] := by cases args; simp_all
  obtain ⟨rfl, rfl⟩ := trodVars_none hV
  have k0 := h0
  have lt0 : ∀ x ∈ p0, x.block < W.heap.size := by obtain ⟨m, hm⟩ := k0; exact DataW.trod_lt m _ _ _ hm
  obtain ⟨a0, l0, c0, g0, m0, e0, rfl, w0⟩ := open_build (hval 0 25 v0 rfl rfl) h0
  have k1 := h1
  have lt1 : ∀ x ∈ p1, x.block < W.heap.size := by obtain ⟨m, hm⟩ := k1; exact DataW.trod_lt m _ _ _ hm
  obtain ⟨a1, rfl, w1⟩ := open_ask (hval 1 30 v1 rfl rfl) h1
  have k2 := h2
  have lt2 : ∀ x ∈ p2, x.block < W.heap.size := by obtain ⟨m, hm⟩ := k2; exact DataW.trod_lt m _ _ _ hm
  obtain ⟨a2, rfl, w2⟩ := open_cap (hval 2 28 v2 rfl rfl) h2
  clear hA0 hval0
  refine (walk a0 l0 c0 g0 m0 e0 a1 a2 W w0 w1 w2).mono fun e W' ⟨he, bel⟩ => ?_
  subst he
  exact ⟨_, rfl, _, _, _, [], _, [], hW', trodAll_mk1 (shut_bool Try.underlying4 _), (trodAll_cons_mk (Below.trod laidOut (by kernel_rfl) (of_decide_eq_true (by kernel_rfl)) k0 bel lt0) (trodAll_cons_mk (Below.trod laidOut (by kernel_rfl) (of_decide_eq_true (by kernel_rfl)) k1 bel lt1) (trodAll_cons_mk (Below.trod laidOut (by kernel_rfl) (of_decide_eq_true (by kernel_rfl)) k2 bel lt2) trodAll_mk0))), rfl, bel.frame _, fun h => by cases h⟩
theorem over : Rows.lookupSameRow.holds Try.pinned (OpenSpec.ofChange Rows.lookupSameSpec) :=
  OpenClaim.holds_of_wide 6 Try.f6 rfl rfl rfl rfl rfl rfl rfl ⟨rfl, rfl, rfl, rfl, rfl⟩ rfl rfl rfl rfl rfl (by kernel_rfl) Try.func6 (by kernel_rfl)
    (of_decide_eq_true (by kernel_rfl)) (by unfold Func.isWrapper; first | (rw [if_pos (by decide +kernel)]; kernel_rfl) | (rw [if_neg (by decide +kernel)]; exact ⟨rfl, rfl⟩))
    (fun os started H enc _ => lifted os started H enc)
end Go.Proofs.Ytafjgoelofobmaa.lookupSame
namespace Go.Proofs.Ytafjgoelofobmaa
/-- THE STATEMENT. -/
theorem lookupSame_said : Rows.LookupSameSaid := lookupSame.over
#print axioms lookupSame_said
end Go.Proofs.Ytafjgoelofobmaa
