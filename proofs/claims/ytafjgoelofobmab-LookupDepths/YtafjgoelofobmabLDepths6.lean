/-
  LookupDepths answers true for every input, and leaves it; no condition of ours.
-/
import Derived.Test.YtafjgoelofobmabKCalls
namespace Go.Proofs.Ytafjgoelofobmab.lookupDepths
open Go.RowKit Go.Deep Go.MapKept Go.Maps
set_option linter.unusedSectionVars false
section
variable [dCp : DecidableEq Cp] [dLim : ∀ k, Decidable (Lim k)] [dBad : ∀ k, Decidable (Bad k)] [dFit : ∀ g z, Decidable (Fit g z)] [dFine : ∀ c, Decidable (Fine c)] [dMint : ∀ c v, Decidable (MintR c v)] [dWho : ∀ x y, Decidable (Whose x y)] [dSl : DecidableEq Sl] [dLt : ∀ a b, Decidable (ltS a b)] [dIsN : ∀ S c, Decidable (isN S c)] [dGuN : ∀ a c d, Decidable (GuardN a c d)]
theorem slot_none {S : St} {c : Cp} {a d : Int} (h : ¬ (1 ≤ d ∧ d ≤ 64)) : slotR S c a d = (sl0, 1) := by unfold slotR; rw [if_neg h]
theorem slot_range {S : St} {c : Cp} {a d : Int} {s : Sl} (hv : slotR S c a d = (s, 0)) : 1 ≤ d ∧ d ≤ 64 := by
  unfold slotR at hv
  split at hv
  · assumption
  · cases hv
theorem slot_more {S : St} {c : Cp} {a d : Int} {s : Sl} (ha : 0 ≤ a ∧ a ≤ 18446744073709551615) (hv : slotR S c a d = (s, 0)) (hk : (getC S s).k ≠ 2) (hd : d ≤ 63) : slotR S c (IntKind.u64.wrap (a * 2)) (d + 1) = (sl0, 62) ∧ 0 ≤ IntKind.u64.wrap (a * 2) ∧ IntKind.u64.wrap (a * 2) ≤ 18446744073709551615 := by
  obtain ⟨h1, h2⟩ := slot_range hv
  obtain ⟨A, rfl⟩ := Int.eq_ofNat_of_zero_le ha.1
  obtain ⟨D, rfl⟩ := Int.eq_ofNat_of_zero_le (show 0 ≤ d by omega)
  have e : IntKind.u64.wrap ((A : Int) * 2) = ((2 * A % 2 ^ 64 : Nat) : Int) := by rw [IntKind.wrap_u64]; omega
  rw [e]
  refine ⟨?_, by omega, by omega⟩
  unfold slotR at hv ⊢
  rw [if_pos ⟨h1, h2⟩] at hv
  rw [if_pos (by omega)]
  simp only [Int.toNat_natCast] at hv
  rw [show ((D : Int) + 1).toNat = D + 1 by omega, Int.toNat_natCast]
  exact look_more 65 c D (by omega) (by rw [hv]) (by rw [hv]; exact hk) 65 (Nat.le_refl _)
set_option maxHeartbeats 8000000 in
set_option maxRecDepth 100000 in
theorem walk (ao : Option Addr) (B : List Int) (cap : Nat) (ho : Option Addr) (H : List (Sl × Cp)) (cap2 : Nat) (x : Ak) (w : World) (hb : Bd w ao B ho H) (hx : x.Fits) :
    Calls Try.prog 3 #[encB ao B.length cap ho H.length cap2, encA x] w fun e w' => e = .returned (.bool true) ∧ Below w.heap.size w w' := by
  have HX : Hid x.Fits := hx
  clear hx
  obtain ⟨r, HR⟩ : ∃ r, Hid (w.heap.size = r) := ⟨_, rfl⟩
  obtain ⟨x1, x2, _, xb⟩ := box2 w (objB ao B.length cap ho H.length cap2) (objK x)
  have BD : Hid (Ints ((w.alloc (objB ao B.length cap ho H.length cap2)).alloc (objK x)) ao B ∧ Helds ((w.alloc (objB ao B.length cap ho H.length cap2)).alloc (objK x)) ho H ∧ B.length ≤ 9223372036854775807 ∧ H.length ≤ 9223372036854775807) := ⟨hb.ints.below xb (Nat.le_refl _), hb.helds.below xb (Nat.le_refl _), hb.lb, hb.lh⟩
  obtain ⟨y0, y1⟩ := bld_cells x1
  have Y : Hid (Below w.heap.size w ((w.alloc (objB ao B.length cap ho H.length cap2)).alloc (objK x)) ∧ ((w.alloc (objB ao B.length cap ho H.length cap2)).alloc (objK x)).heap[w.heap.size + 1]? = some (objK x)) := ⟨xb, x2⟩
  clear xb x1 x2 hb
  simp only [encB, objB, encA, objK] at BD Y y0 y1 ⊢
  go_enter Try.func3, Try.ntmps3
  go_wp2_with fail
  refine (built_any ao B cap ho H cap2 _ BD.out.1 BD.out.2.1 BD.out.2.2.1 BD.out.2.2.2).mono ?_
  rintro e w1 ⟨p, F, p2, F2, rfl, h1⟩
  have H1 : Hid (Bk w w.heap.size w1 p F p2 F2 (builtS B H) (builtS B H) [(w.heap.size + 1, objK x)]) := h1.rebase Y.out.1 Y.out.1.size fun z hz => by
    rcases List.mem_cons.1 hz with rfl | hz
    · exact Y.out.2
    · cases hz
  clear h1 Y y0 y1 BD
  obtain ⟨T, HT⟩ : ∃ T, Hid (builtS B H = T) := ⟨_, rfl⟩
  rw [HT.out] at H1
  generalize w.heap.size + 1 = r1 at *
  rw [HR.out] at H1 ⊢
  obtain ⟨a16, h16, e16⟩ := mask16 x.d
  have h16' : (a16 : Int) ≤ 65535 := by omega
  clear h16
  obtain ⟨s, en, HV⟩ : ∃ s en, Hid (slotR T x.c x.a x.d = (s, en)) := ⟨_, _, rfl⟩
  obtain ⟨nd, HND⟩ : ∃ nd : Int, Hid (nd = -1 - (a16 : Int)) := ⟨_, rfl⟩
  have hnd : (-1 : Int) - (a16 : Int) = nd := HND.out.symm
  have hnd0 : nd ≤ -1 := by have := HND.out; omega
  have hnd1 : -65536 ≤ nd := by have := HND.out; omega
  obtain ⟨a0, a1, a2, a3, a4, a5, a6, a7⟩ := ak_cells (H1.out.blk (r1, objK x) (by simp)).1
  go_wp2_with fail
  refine (slot_is H1.out.nds HX.out.c HX.out.a (slot_none (by omega))).mono ?_
  rintro e w2 ⟨he, b2⟩
  obtain rfl : e = .returned (.tuple #[.agg #[.int .i64 0, .int .i64 0], .int .i64 1]) := he
  have G2 : Hid (Bk w r (w2.alloc (Obj.cells #[.int .i64 0, .int .i64 0] 36)) p F p2 F2 T T [(w2.heap.size, objS sl0), (r1, objK x)]) := (H1.out.below b2).alloc (objS sl0)
  clear b2 H1
  clear a0 a1 a2 a3 a4 a5 a6 a7
  obtain ⟨a0, a1, a2, a3, a4, a5, a6, a7⟩ := ak_cells (G2.out.blk (r1, objK x) (by simp)).1
  go_wp2_with fail
  generalize w2.alloc (Obj.cells #[.int .i64 0, .int .i64 0] 36) = v2 at *
  generalize w2.heap.size = q2 at *
  have K2 : Hid (Bk w r v2 p F p2 F2 T T [(q2, objS sl0), (r1, objK x)]) := G2
  clear G2
  have M2 : Hid (Bk w r v2 p F p2 F2 T T [(r1, objK x)]) := K2.out.fewer fun b hb => List.mem_cons_of_mem _ hb
  clear K2
  refine (slot_is M2.out.nds HX.out.c HX.out.a (slot_none (by omega))).mono ?_
  rintro e w3 ⟨he, b3⟩
  obtain rfl : e = .returned (.tuple #[.agg #[.int .i64 0, .int .i64 0], .int .i64 1]) := he
  have G3 : Hid (Bk w r (w3.alloc (Obj.cells #[.int .i64 0, .int .i64 0] 36)) p F p2 F2 T T [(w3.heap.size, objS sl0), (r1, objK x)]) := (M2.out.below b3).alloc (objS sl0)
  clear b3 M2
  clear a0 a1 a2 a3 a4 a5 a6 a7
  obtain ⟨a0, a1, a2, a3, a4, a5, a6, a7⟩ := ak_cells (G3.out.blk (r1, objK x) (by simp)).1
  go_wp2_with fail
  generalize w3.alloc (Obj.cells #[.int .i64 0, .int .i64 0] 36) = v3 at *
  generalize w3.heap.size = q3 at *
  have K3 : Hid (Bk w r v3 p F p2 F2 T T [(q3, objS sl0), (r1, objK x)]) := G3
  clear G3
  have M3 : Hid (Bk w r v3 p F p2 F2 T T [(r1, objK x)]) := K3.out.fewer fun b hb => List.mem_cons_of_mem _ hb
  clear K3
  refine (slot_is M3.out.nds HX.out.c HX.out.a (slot_none (by omega))).mono ?_
  rintro e w4 ⟨he, b4⟩
  obtain rfl : e = .returned (.tuple #[.agg #[.int .i64 0, .int .i64 0], .int .i64 1]) := he
  have G4 : Hid (Bk w r (w4.alloc (Obj.cells #[.int .i64 0, .int .i64 0] 36)) p F p2 F2 T T [(w4.heap.size, objS sl0), (r1, objK x)]) := (M3.out.below b4).alloc (objS sl0)
  clear b4 M3
  clear a0 a1 a2 a3 a4 a5 a6 a7
  obtain ⟨a0, a1, a2, a3, a4, a5, a6, a7⟩ := ak_cells (G4.out.blk (r1, objK x) (by simp)).1
  go_wp2_with fail
  generalize w4.alloc (Obj.cells #[.int .i64 0, .int .i64 0] 36) = v4 at *
  generalize w4.heap.size = q4 at *
  have K4 : Hid (Bk w r v4 p F p2 F2 T T [(q4, objS sl0), (r1, objK x)]) := G4
  clear G4
  have M4 : Hid (Bk w r v4 p F p2 F2 T T [(r1, objK x)]) := K4.out.fewer fun b hb => List.mem_cons_of_mem _ hb
  clear K4
  refine (slot_is M4.out.nds HX.out.c HX.out.a HV.out).mono ?_
  rintro e w5 ⟨he, b5⟩
  obtain rfl : e = .returned (.tuple #[.agg #[.int .i64 s.n, .int .i64 s.i], .int .i64 en]) := he
  have G5 : Hid (Bk w r (w5.alloc (Obj.cells #[.int .i64 s.n, .int .i64 s.i] 36)) p F p2 F2 T T [(w5.heap.size, objS s), (r1, objK x)]) := (M4.out.below b5).alloc (objS s)
  clear b5 M4
  clear a0 a1 a2 a3 a4 a5 a6 a7
  obtain ⟨a0, a1, a2, a3, a4, a5, a6, a7⟩ := ak_cells (G5.out.blk (r1, objK x) (by simp)).1
  obtain ⟨s0, s1⟩ := (G5.out.atS (q := w5.heap.size) (s := s) (by simp)).cells
  go_wp2_with fail
  generalize w5.alloc (Obj.cells #[.int .i64 s.n, .int .i64 s.i] 36) = v5 at *
  generalize w5.heap.size = q5 at *
  have K5 : Hid (Bk w r v5 p F p2 F2 T T [(q5, objS s), (r1, objK x)]) := G5
  clear G5
  refine (rget_any p2 F2 T s _ K5.out.rds).mono ?_
  rintro e w6 ⟨rfl, b6⟩
  obtain ⟨gc, HG⟩ : ∃ gc, Hid (getC T s = gc) := ⟨_, rfl⟩
  rw [HG.out]
  generalize getE T s = ge at *
  simp only [encC]
  have G6 : Hid (Bk w r (w6.alloc (Obj.cells #[.int .i64 gc.k, .int .i64 gc.o, .int .i64 gc.r, .int .u64 gc.b, .int .u64 gc.g, .int .i64 gc.z] 28)) p F p2 F2 T T [(w6.heap.size, objC gc), (r1, objK x)]) := ((K5.out.rleaves b6).alloc (objC gc)).fewer fun b hb => by
    rcases List.mem_cons.1 hb with rfl | hb
    · simp
    · rcases List.mem_cons.1 hb with rfl | hb
      · simp
      · cases hb
  clear b6 K5
  clear a0 a1 a2 a3 a4 a5 a6 a7
  clear s0 s1
  obtain ⟨a0, a1, a2, a3, a4, a5, a6, a7⟩ := ak_cells (G6.out.blk (r1, objK x) (by simp)).1
  obtain ⟨d0, d1, d2, d3, d4, d5⟩ := (G6.out.atC (q := w6.heap.size) (c := gc) (by simp)).cells
  by_cases he : en = 0
  · subst he
    by_cases hk : gc.k = 2
    · have hk' : (gc.k == 2) = true := by simp [hk]
      clear hk
      go_wp2_with fail
      refine (fixed_any _).mono ?_
      rintro e w9 ⟨rfl, b9⟩
      have KL : Hid (Below r w w9) := (G6.out.below b9).low
      clear b9 G6 a0 a1 a2 a3 a4 a5 a6 a7 d0 d1 d2 d3 d4 d5
      go_wp2
      go_ret
      exact ⟨rfl, by rw [HR.out]; exact KL.out⟩
    · have hk' : (gc.k == 2) = false := by simp [hk]
      by_cases hd : 63 < x.d
      · go_wp2_with fail
        refine (fixed_any _).mono ?_
        rintro e w9 ⟨rfl, b9⟩
        have KL : Hid (Below r w w9) := (G6.out.below b9).low
        clear b9 G6 a0 a1 a2 a3 a4 a5 a6 a7 d0 d1 d2 d3 d4 d5
        go_wp2
        go_ret
        exact ⟨rfl, by rw [HR.out]; exact KL.out⟩
      · obtain ⟨m1, m2⟩ := slot_more HX.out.a HV.out (by rw [HG.out]; exact hk) (by omega)
        obtain ⟨r0, r9⟩ := slot_range HV.out
        have SM : Hid (slotR T x.c (IntKind.u64.wrap (x.a * 2)) (x.d + 1) = (sl0, 62) ∧ 0 ≤ IntKind.u64.wrap (x.a * 2) ∧ IntKind.u64.wrap (x.a * 2) ≤ 18446744073709551615) := ⟨m1, m2⟩
        have hd' : x.d ≤ 63 := by omega
        clear hk m1 m2 hd
        go_wp2_with fail
        generalize w6.alloc (Obj.cells #[.int .i64 gc.k, .int .i64 gc.o, .int .i64 gc.r, .int .u64 gc.b, .int .u64 gc.g, .int .i64 gc.z] 28) = v6 at *
        refine (slot_is G6.out.nds HX.out.c SM.out.2 SM.out.1).mono ?_
        rintro e w7 ⟨he, b7⟩
        obtain rfl : e = .returned (.tuple #[.agg #[.int .i64 0, .int .i64 0], .int .i64 62]) := he
        have G7 : Hid (Bk w r (w7.alloc (Obj.cells #[.int .i64 0, .int .i64 0] 36)) p F p2 F2 T T [(w7.heap.size, objS sl0), (w6.heap.size, objC gc), (r1, objK x)]) := (G6.out.below b7).alloc (objS sl0)
        clear b7 G6 a0 a1 a2 a3 a4 a5 a6 a7 d0 d1 d2 d3 d4 d5
        go_wp2_with fail
        refine (fixed_any _).mono ?_
        rintro e w9 ⟨rfl, b9⟩
        have KL : Hid (Below r w w9) := (G7.out.below b9).low
        clear b9 G7
        go_wp2
        go_ret
        exact ⟨rfl, by rw [HR.out]; exact KL.out⟩
  · have he' : (en != 0) = true := by simp [he]
    clear he
    go_wp2_with fail
    refine (fixed_any _).mono ?_
    rintro e w9 ⟨rfl, b9⟩
    have KL : Hid (Below r w w9) := (G6.out.below b9).low
    clear b9 G6 a0 a1 a2 a3 a4 a5 a6 a7 d0 d1 d2 d3 d4 d5
    go_wp2
    go_ret
    exact ⟨rfl, by rw [HR.out]; exact KL.out⟩
end
open Go.ChangeShapes Go.WideShapes Go.ChangeAt Go.RowKit Go.Joins

/-! ### From the walk to the statement -/
set_option maxRecDepth 100000 in
theorem lifted (os : Os) (started : os.Started) (H : Type) (enc : TypeId × Value → H) :
    ReturnsInHanded {} Try.checked os 3 .any (Rows.lookupDepthsSpec.pre6 enc Try.prog Try.f3 Rows.lookupDepthsRow.domain false) (Rows.lookupDepthsSpec.post enc Try.prog Try.f3 false true false false) := by
  have dCp : DecidableEq Cp := fun a b => Classical.propDecidable (a = b)
  have dLim : ∀ k, Decidable (Lim k) := fun k => Classical.propDecidable (Lim k)
  have dBad : ∀ k, Decidable (Bad k) := fun k => Classical.propDecidable (Bad k)
  have dFit : ∀ g z, Decidable (Fit g z) := fun g z => Classical.propDecidable (Fit g z)
  have dFine : ∀ c, Decidable (Fine c) := fun c => Classical.propDecidable (Fine c)
  have dMint : ∀ c v, Decidable (MintR c v) := fun c v => Classical.propDecidable (MintR c v)
  have dWho : ∀ x y, Decidable (Whose x y) := fun x y => Classical.propDecidable (Whose x y)
  have dSl : DecidableEq Sl := fun a b => Classical.propDecidable (a = b)
  have dLt : ∀ a b, Decidable (ltS a b) := fun a b => Classical.propDecidable (ltS a b)
  have dIsN : ∀ S c, Decidable (isN S c) := fun S c => Classical.propDecidable (isN S c)
  have dGuN : ∀ a c d, Decidable (GuardN a c d) := fun a c d => Classical.propDecidable (GuardN a c d)
  refine returnsInHanded_of_change (C := Try.checked) own started (by kernel_rfl) Try.func3
    (ChangeSpec.witness6 (enc := enc) (C := Try.checked) false ⟨#[], #[.agg #[.slice none 0 0, .slice none 0 0], .agg #[.int .i64 0, .int .i64 0, .int .i64 0, .int .u64 0, .int .u64 0, .int .i64 0, .int .u64 0, .int .i64 0]], []⟩ 8 (by kernel_rfl) (by kernel_rfl) (by kernel_rfl) (by kernel_rfl)) ?_
  intro W base args ds gs before hval0 hW hcnd _
  have hval : ∀ (j : Nat) t v, Try.f3.params[j]? = some t → args[j]? = some v → Value.okWide Try.prog W .any base t v := hval0
  have hW' := hW
  obtain ⟨p, q, hA0, hV, rfl, hfz, hnd⟩ := hW
  have hA : DataW.TrodAll enc Try.prog W 0 (fun _ => true) true Try.f3.params.toList args.toList ds p := hA0
  rw [Try.params3] at hA hval
  obtain ⟨v0, vs0, d0, ds0, p0, q0, hargs, rfl, rfl, h0, r0⟩ := trodAll_cons hA
  obtain ⟨v1, vs1, d1, ds1, p1, q1, rfl, rfl, rfl, h1, r1⟩ := trodAll_cons r0
  obtain ⟨rfl, rfl, rfl⟩ := trodAll_nil r1
  obtain rfl : args = #[v0, v1] := by cases args; simp_all
  obtain ⟨rfl, rfl⟩ := trodVars_none hV
  have k0 := h0
  have lt0 : ∀ x ∈ p0, x.block < W.heap.size := by obtain ⟨m, hm⟩ := k0; exact DataW.trod_lt m _ _ _ hm
  obtain ⟨a0, l0, c0, g0, m0, e0, rfl, w0⟩ := open_build (hval 0 25 v0 rfl rfl) h0
  have k1 := h1
  have lt1 : ∀ x ∈ p1, x.block < W.heap.size := by obtain ⟨m, hm⟩ := k1; exact DataW.trod_lt m _ _ _ hm
  obtain ⟨a1, rfl, w1⟩ := open_ask (hval 1 30 v1 rfl rfl) h1
  clear hA0 hval0
  refine (walk a0 l0 c0 g0 m0 e0 a1 W w0 w1).mono fun e W' ⟨he, bel⟩ => ?_
  subst he
  exact ⟨_, rfl, _, _, _, [], _, [], hW', trodAll_mk1 (shut_bool Try.underlying4 _), (trodAll_cons_mk (Below.trod laidOut (by kernel_rfl) (of_decide_eq_true (by kernel_rfl)) k0 bel lt0) (trodAll_cons_mk (Below.trod laidOut (by kernel_rfl) (of_decide_eq_true (by kernel_rfl)) k1 bel lt1) trodAll_mk0)), rfl, bel.frame _, fun h => by cases h⟩
theorem over : Rows.lookupDepthsRow.holds Try.pinned (OpenSpec.ofChange Rows.lookupDepthsSpec) :=
  OpenClaim.holds_of_wide 3 Try.f3 rfl rfl rfl rfl rfl rfl rfl ⟨rfl, rfl, rfl, rfl, rfl⟩ rfl rfl rfl rfl rfl (by kernel_rfl) Try.func3 (by kernel_rfl)
    (of_decide_eq_true (by kernel_rfl)) (by unfold Func.isWrapper; first | (rw [if_pos (by decide +kernel)]; kernel_rfl) | (rw [if_neg (by decide +kernel)]; exact ⟨rfl, rfl⟩))
    (fun os started H enc _ => lifted os started H enc)
end Go.Proofs.Ytafjgoelofobmab.lookupDepths
namespace Go.Proofs.Ytafjgoelofobmab
/-- THE STATEMENT. -/
theorem lookupDepths_said : Rows.LookupDepthsSaid := lookupDepths.over
#print axioms lookupDepths_said
end Go.Proofs.Ytafjgoelofobmab
