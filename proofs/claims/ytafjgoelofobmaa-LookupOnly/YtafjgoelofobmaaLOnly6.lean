/-
  LookupOnly answers true for every input, and leaves it; no condition of ours.
-/
import Derived.Test.YtafjgoelofobmaaKCalls
namespace Go.Proofs.Ytafjgoelofobmaa.lookupOnly
open Go.RowKit Go.Deep Go.MapKept Go.Maps
set_option linter.unusedSectionVars false
section
variable [dCp : DecidableEq Cp] [dLim : ∀ k, Decidable (Lim k)] [dBad : ∀ k, Decidable (Bad k)] [dFit : ∀ g z, Decidable (Fit g z)] [dFine : ∀ c, Decidable (Fine c)] [dMint : ∀ c v, Decidable (MintR c v)] [dWho : ∀ x y, Decidable (Whose x y)] [dSl : DecidableEq Sl] [dLt : ∀ a b, Decidable (ltS a b)] [dIsN : ∀ S c, Decidable (isN S c)] [dGuN : ∀ a c d, Decidable (GuardN a c d)]
set_option maxHeartbeats 8000000 in
set_option maxRecDepth 100000 in
theorem walk (ao : Option Addr) (B : List Int) (cap : Nat) (ho : Option Addr) (H : List (Sl × Cp)) (cap2 : Nat) (x : Ak) (w : World) (hb : Bd w ao B ho H) (hx : x.Fits) :
    Calls Try.prog 5 #[encB ao B.length cap ho H.length cap2, encA x] w fun e w' => e = .returned (.bool true) ∧ Below w.heap.size w w' := by
  have HX : Hid x.Fits := hx
  clear hx
  obtain ⟨r, HR⟩ : ∃ r, Hid (w.heap.size = r) := ⟨_, rfl⟩
  obtain ⟨x1, x2, _, xb⟩ := box2 w (objB ao B.length cap ho H.length cap2) (objK x)
  have BD : Hid (Ints ((w.alloc (objB ao B.length cap ho H.length cap2)).alloc (objK x)) ao B ∧ Helds ((w.alloc (objB ao B.length cap ho H.length cap2)).alloc (objK x)) ho H ∧ B.length ≤ 9223372036854775807 ∧ H.length ≤ 9223372036854775807) := ⟨hb.ints.below xb (Nat.le_refl _), hb.helds.below xb (Nat.le_refl _), hb.lb, hb.lh⟩
  obtain ⟨y0, y1⟩ := bld_cells x1
  have Y : Hid (Below w.heap.size w ((w.alloc (objB ao B.length cap ho H.length cap2)).alloc (objK x)) ∧ ((w.alloc (objB ao B.length cap ho H.length cap2)).alloc (objK x)).heap[w.heap.size + 1]? = some (objK x)) := ⟨xb, x2⟩
  clear xb x1 x2 hb
  simp only [encB, objB, encA, objK] at BD Y y0 y1 ⊢
  go_enter Try.func5, Try.ntmps5
  go_wp2_with fail
  refine (built_any ao B cap ho H cap2 _ BD.out.1 BD.out.2.1 BD.out.2.2.1 BD.out.2.2.2).mono ?_
  rintro e w1 ⟨p, F, p2, F2, rfl, h1⟩
  have H1 : Hid (Bk w w.heap.size w1 p F p2 F2 (builtS B H) (builtS B H) [(w.heap.size + 1, objK x)]) := h1.rebase Y.out.1 Y.out.1.size fun z hz => by
    rcases List.mem_cons.1 hz with rfl | hz
    · exact Y.out.2
    · cases hz
  clear h1 Y y0 y1 BD
  obtain ⟨T, HT⟩ : ∃ T, Hid (builtS B H = T) := ⟨_, rfl⟩
  rw [HT.out] at H1
  generalize w.heap.size + 1 = r1 at *
  rw [HR.out] at H1 ⊢
  obtain ⟨s, en, HV⟩ : ∃ s en, Hid (slotR T x.c x.a x.d = (s, en)) := ⟨_, _, rfl⟩
  obtain ⟨a0, a1, a2, a3, a4, a5, a6, a7⟩ := ak_cells (H1.out.blk (r1, objK x) (by simp)).1
  go_wp2_with fail
  refine (slot_is H1.out.nds HX.out.c HX.out.a HV.out).mono ?_
  rintro e w2 ⟨he, b2⟩
  obtain rfl : e = .returned (.tuple #[.agg #[.int .i64 s.n, .int .i64 s.i], .int .i64 en]) := he
  have K2 : Hid (Bk w r (w2.alloc (Obj.cells #[.int .i64 s.n, .int .i64 s.i] 36)) p F p2 F2 T T [(w2.heap.size, objS s), (r1, objK x)]) := (H1.out.below b2).alloc (objS s)
  clear b2 H1 a0 a1 a2 a3 a4 a5 a6 a7
  obtain ⟨a0, a1, a2, a3, a4, a5, a6, a7⟩ := ak_cells (K2.out.blk (r1, objK x) (by simp)).1
  obtain ⟨s0, s1⟩ := (K2.out.atS (q := w2.heap.size) (s := s) (by simp)).cells
  by_cases he : en = 0
  · subst he
    have hk : (x.c.k != 2) = false := by simp [(slot_isN HV.out).1.1]
    have hck : checkE x.c = 0 := by unfold checkE; rw [if_pos (slot_isN HV.out).1.2.1]
    go_wp2_with fail
    generalize w2.alloc (Obj.cells #[.int .i64 s.n, .int .i64 s.i] 36) = v2 at *
    generalize w2.heap.size = q2 at *
    refine (ris_any p2 F2 T s v2 K2.out.rds).mono ?_
    rintro e w3 ⟨rfl, b3⟩
    rw [slot_there K2.out.ok HV.out]
    have K3 : Hid (Bk w r w3 p F p2 F2 T T [(q2, objS s), (r1, objK x)]) := K2.out.below b3
    clear b3 K2 a0 a1 a2 a3 a4 a5 a6 a7 s0 s1
    obtain ⟨a0, a1, a2, a3, a4, a5, a6, a7⟩ := ak_cells (K3.out.blk (r1, objK x) (by simp)).1
    go_wp2_with fail
    refine (rcheck_any x.c w3 HX.out.c).mono ?_
    rintro e w4 ⟨rfl, b4⟩
    rw [hck]
    have K4 : Hid (Bk w r w4 p F p2 F2 T T [(q2, objS s), (r1, objK x)]) := K3.out.below b4
    clear b4 K3 a0 a1 a2 a3 a4 a5 a6 a7 hk hck
    obtain ⟨a0, a1, a2, a3, a4, a5, a6, a7⟩ := ak_cells (K4.out.blk (r1, objK x) (by simp)).1
    by_cases hz : x.c.z = 0
    · have hz' : (x.c.z == 0) = true := by simp [hz]
      clear hz
      go_wp2_with fail
      refine (fixed_any w4).mono ?_
      rintro e w5 ⟨rfl, b5⟩
      have KL : Hid (Below r w w5) := (K4.out.below b5).low
      clear b5 K4 a0 a1 a2 a3 a4 a5 a6 a7
      go_wp2
      go_ret
      exact ⟨rfl, by rw [HR.out]; exact KL.out⟩
    · have hz' : (x.c.z == 0) = false := by simp [hz]
      obtain ⟨o1, o2⟩ := other_guard HX.out.c HV.out hz
      clear hz
      obtain ⟨oc, hoc⟩ : ∃ oc : Cp, oc = { x.c with g := bits .xor .u64 x.c.g 1 } := ⟨_, rfl⟩
      rw [← hoc] at o1 o2
      have HO : Hid (slotR T oc x.a x.d = (sl0, 61) ∧ oc.Fits) := ⟨o1, o2⟩
      have HOC : Hid (oc = { x.c with g := bits .xor .u64 x.c.g 1 }) := hoc
      clear hoc o1 o2
      have bn := below_new w4 (Obj.cells #[.int .i64 x.c.k, .int .i64 x.c.o, .int .i64 x.c.r, .int .u64 x.c.b, .int .u64 (bits .xor .u64 x.c.g 1), .int .i64 x.c.z] 28)
      have K5 : Hid (Bk w r (w4.alloc (Obj.cells #[.int .i64 x.c.k, .int .i64 x.c.o, .int .i64 x.c.r, .int .u64 x.c.b, .int .u64 (bits .xor .u64 x.c.g 1), .int .i64 x.c.z] 28)) p F p2 F2 T T [(q2, objS s), (r1, objK x)]) := K4.out.below bn
      clear bn
      obtain ⟨b0, b1, b2, b3, b4, b5, b6, b7⟩ := ak_cells (K5.out.blk (r1, objK x) (by simp)).1
      go_wp2_with fail
      generalize w4.alloc (Obj.cells #[.int .i64 x.c.k, .int .i64 x.c.o, .int .i64 x.c.r, .int .u64 x.c.b, .int .u64 (bits .xor .u64 x.c.g 1), .int .i64 x.c.z] 28) = v4 at *
      have sc : Calls Try.prog 10 #[.pointer (some ⟨p, 0, none⟩), .agg #[.int .i64 x.c.k, .int .i64 x.c.o, .int .i64 x.c.r, .int .u64 x.c.b, .int .u64 (bits .xor .u64 x.c.g 1), .int .i64 x.c.z], .int .u64 x.a, .int .i64 x.d] v4 fun e w' => e = .returned (.tuple #[encS sl0, .int .i64 61]) ∧ Below v4.heap.size v4 w' := by
        have h := slot_is K5.out.nds HO.out.2 HX.out.a HO.out.1
        rw [HOC.out] at h
        exact h
      refine sc.mono ?_
      rintro e w6 ⟨he, b6'⟩
      obtain rfl : e = .returned (.tuple #[.agg #[.int .i64 0, .int .i64 0], .int .i64 61]) := he
      clear sc K4 a0 a1 a2 a3 a4 a5 a6 a7 b0 b1 b2 b3 b4 b5 b6 b7
      have K6 : Hid (Bk w r (w6.alloc (Obj.cells #[.int .i64 0, .int .i64 0] 36)) p F p2 F2 T T [(w6.heap.size, objS sl0), (q2, objS s), (r1, objK x)]) := (K5.out.below b6').alloc (objS sl0)
      clear K5 b6'
      have HQ : ∀ W, (Op.equalIn 10000 36 (.agg #[.int .i64 0, .int .i64 0]) (.agg #[.int .i64 0, .int .i64 0])).run Try.prog W = .ok true W := fun W => by
        have h := eq_slots W sl0 sl0
        simpa [sl0] using h
      obtain ⟨s0, s1⟩ := (K6.out.atS (q := w6.heap.size) (s := sl0) (by simp)).cells
      simp only [sl0] at s0 s1
      go_wp2_with fail
      refine (fixed_any _).mono ?_
      rintro e w7 ⟨rfl, b7⟩
      have KL : Hid (Below r w w7) := (K6.out.below b7).low
      clear b7 K6 s0 s1
      go_wp2
      go_ret
      exact ⟨rfl, by rw [HR.out]; exact KL.out⟩
  · obtain rfl : s = sl0 := slot_sl0 HV.out he
    have he' : (en != 0) = true := by simp [he]
    clear he
    have HQ : ∀ W, (Op.equalIn 10000 36 (.agg #[.int .i64 0, .int .i64 0]) (.agg #[.int .i64 0, .int .i64 0])).run Try.prog W = .ok true W := fun W => by
      have h := eq_slots W sl0 sl0
      simpa [sl0] using h
    simp only [sl0] at K2 s0 s1 a0 a1 a2 a3 a4 a5 a6 a7 ⊢
    go_wp2_with fail
    refine (fixed_any _).mono ?_
    rintro e w5 ⟨rfl, b5⟩
    have KL : Hid (Below r w w5) := (K2.out.below b5).low
    clear b5 K2 a0 a1 a2 a3 a4 a5 a6 a7 s0 s1
    go_wp2
    go_ret
    exact ⟨rfl, by rw [HR.out]; exact KL.out⟩
end
open Go.ChangeShapes Go.WideShapes Go.ChangeAt Go.RowKit Go.Joins

/-! ### From the walk to the statement -/
set_option maxRecDepth 100000 in
theorem lifted (os : Os) (started : os.Started) (H : Type) (enc : TypeId × Value → H) :
    ReturnsInHanded {} Try.checked os 5 .any (Rows.lookupOnlySpec.pre6 enc Try.prog Try.f5 Rows.lookupOnlyRow.domain false) (Rows.lookupOnlySpec.post enc Try.prog Try.f5 false true false false) := by
  have dCp : DecidableEq Cp := fun a b => Classical.propDecidable (a = b)
  have dLim : ∀ k, Decidable (Lim k) := fun k => Classical.propDecidable (Lim k)
  have dBad : ∀ k, Decidable (Bad k) := fun k => Classical.propDecidable (Bad k)
  have dFit : ∀ g z, Decidable (Fit g z) := fun g z => Classical.propDecidable (Fit g z)
  have dFine : ∀ c, Decidable (Fine c) := fun c => Classical.propDecidable (Fine c)
  have dMint : ∀ c v, Decidable (MintR c v) := fun c v => Classical.propDecidable (MintR c v)
  have dWho : ∀ x y, Decidable (Whose x y) := fun x y => Classical.propDecidable (Whose x y)
  have dSl : DecidableEq Sl := fun a b => Classical.propDecidable (a = b)
  have dLt : ∀ a b, Decidable (ltS a b) := fun a b => Classical.propDecidable (ltS a b)
  have dIsN : ∀ S c, Decidable (isN S c) := fun S c => Classical.propDecidable (isN S c)
  have dGuN : ∀ a c d, Decidable (GuardN a c d) := fun a c d => Classical.propDecidable (GuardN a c d)
  refine returnsInHanded_of_change (C := Try.checked) own started (by kernel_rfl) Try.func5
    (ChangeSpec.witness6 (enc := enc) (C := Try.checked) false ⟨#[], #[.agg #[.slice none 0 0, .slice none 0 0], .agg #[.int .i64 0, .int .i64 0, .int .i64 0, .int .u64 0, .int .u64 0, .int .i64 0, .int .u64 0, .int .i64 0]], []⟩ 8 (by kernel_rfl) (by kernel_rfl) (by kernel_rfl) (by kernel_rfl)) ?_
  intro W base args ds gs before hval0 hW hcnd _
  have hval : ∀ (j : Nat) t v, Try.f5.params[j]? = some t → args[j]? = some v → Value.okWide Try.prog W .any base t v := hval0
  have hW' := hW
  obtain ⟨p, q, hA0, hV, rfl, hfz, hnd⟩ := hW
  have hA : DataW.TrodAll enc Try.prog W 0 (fun _ => true) true Try.f5.params.toList args.toList ds p := hA0
  rw [Try.params5] at hA hval
  obtain ⟨v0, vs0, d0, ds0, p0, q0, hargs, rfl, rfl, h0, r0⟩ := trodAll_cons hA
  obtain ⟨v1, vs1, d1, ds1, p1, q1, rfl, rfl, rfl, h1, r1⟩ := trodAll_cons r0
  obtain ⟨rfl, rfl, rfl⟩ := trodAll_nil r1
  obtain rfl : args = #[v0, v1] := by cases args; simp_all
  obtain ⟨rfl, rfl⟩ := trodVars_none hV
  have k0 := h0
  have lt0 : ∀ x ∈ p0, x.block < W.heap.size := by obtain ⟨m, hm⟩ := k0; exact DataW.trod_lt m _ _ _ hm
  obtain ⟨a0, l0, c0, g0, m0, e0, rfl, w0⟩ := open_build (hval 0 25 v0 rfl rfl) h0
  have k1 := h1
  have lt1 : ∀ x ∈ p1, x.block < W.heap.size := by obtain ⟨m, hm⟩ := k1; exact DataW.trod_lt m _ _ _ hm
  obtain ⟨a1, rfl, w1⟩ := open_ask (hval 1 30 v1 rfl rfl) h1
  clear hA0 hval0
  refine (walk a0 l0 c0 g0 m0 e0 a1 W w0 w1).mono fun e W' ⟨he, bel⟩ => ?_
  subst he
  exact ⟨_, rfl, _, _, _, [], _, [], hW', trodAll_mk1 (shut_bool Try.underlying4 _), (trodAll_cons_mk (Below.trod laidOut (by kernel_rfl) (of_decide_eq_true (by kernel_rfl)) k0 bel lt0) (trodAll_cons_mk (Below.trod laidOut (by kernel_rfl) (of_decide_eq_true (by kernel_rfl)) k1 bel lt1) trodAll_mk0)), rfl, bel.frame _, fun h => by cases h⟩
theorem over : Rows.lookupOnlyRow.holds Try.pinned (OpenSpec.ofChange Rows.lookupOnlySpec) :=
  OpenClaim.holds_of_wide 5 Try.f5 rfl rfl rfl rfl rfl rfl rfl ⟨rfl, rfl, rfl, rfl, rfl⟩ rfl rfl rfl rfl rfl (by kernel_rfl) Try.func5 (by kernel_rfl)
    (of_decide_eq_true (by kernel_rfl)) (by unfold Func.isWrapper; first | (rw [if_pos (by decide +kernel)]; kernel_rfl) | (rw [if_neg (by decide +kernel)]; exact ⟨rfl, rfl⟩))
    (fun os started H enc _ => lifted os started H enc)
end Go.Proofs.Ytafjgoelofobmaa.lookupOnly
namespace Go.Proofs.Ytafjgoelofobmaa
/-- THE STATEMENT. -/
theorem lookupOnly_said : Rows.LookupOnlySaid := lookupOnly.over
#print axioms lookupOnly_said
end Go.Proofs.Ytafjgoelofobmaa
