/-
  TreeAdds answers true for every input, and leaves it; no condition of ours.
-/
import Derived.Test.YthfoeppcageneaaTLaw2
namespace Go.Proofs.Ythfoeppcageneaa.treeAdds
open Go.RowKit Go.Deep Go.Shelf
set_option linter.unusedSectionVars false
section
variable [DecidableEq Sl]
set_option maxHeartbeats 8000000 in
set_option maxRecDepth 100000 in
theorem walk (ao : Option Addr) (X : List Oc) (cap : Nat) (n : Int) (w : World) (hX : Script w ao X) (_hl : X.length ≤ 9223372036854775807) (_hn : -9223372036854775808 ≤ n ∧ n ≤ 9223372036854775807) :
    Calls Try.prog 7 #[.slice ao X.length cap, .int .i64 n] w fun e w' => e = .returned (.bool true) ∧ Below w.heap.size w w' := by
  have HX : Hid (Script w ao X) := hX
  obtain ⟨r, HR⟩ : ∃ r, Hid (w.heap.size = r) := ⟨_, rfl⟩
  have H1 : Hid (Sep w r w []) := by
    rw [← HR.out]
    exact sep_nil w
  obtain ⟨m, -, hbits⟩ := mask16 n
  clear hX
  go_enter Try.func7, Try.ntmps7
  go_wp2_with fail
  refine (laid_sep ao X cap H1.out HX.out HR.out).mono ?_
  rintro e w2 ⟨p, v, S, rfl, hS40, hgood, h2⟩
  have K2 : Hid (Sep w r w2 [trT p v S]) := h2
  have HG : Hid (S.length ≤ 1000 ∧ S.length ≤ 40 ∧ Good S) := ⟨by omega, hS40, hgood⟩
  obtain ⟨A, HA⟩ : ∃ A, Hid (allS S = A ∧ A.length ≤ 1000 ∧ A.length = S.length) := ⟨_, rfl, by rw [all_len]; omega, all_len S⟩
  clear h2 H1 hS40 hgood
  go_wp2_with fail
  refine (all_is A K2.out HG.out.1 HA.out.1).mono ?_
  rintro e w3 ⟨ao3, cap3, rfl, h3⟩
  have h3b := h3.boxed (objS ⟨1099511627776, 0⟩)
  have j3 : Hid _ := h3b
  clear h3 h3b K2
  obtain ⟨y00, y01⟩ := j3.out.slotAt (q := w3.heap.size) (s := ⟨1099511627776, 0⟩) (by simp)
  have hA3 := HA.out.2.1
  simp only [objS] at j3 y00 y01
  by_cases hA0 : A.length = 0
  · have hz : ((A.length : Int) == 0) = true := by simp [hA0]
    clear hA0
    go_wp2_with fail
    refine (fixed_sep j3.out).mono ?_
    rintro e w9 ⟨rfl, h9⟩
    go_wp2
    go_ret
    exact ⟨rfl, by rw [HR.out]; exact h9.low⟩
  · have hz : ((A.length : Int) == 0) = false := by rw [beq_eq_false_iff_ne]; omega
    obtain ⟨k, hk, hrem⟩ := rem_nat m A.length (by omega)
    have hkz : (k : Int) < (A.length : Int) := by omega
    have hnz : ¬ ((A.length : Int) = 0) := by omega
    have hA1000 : (A.length : Int) ≤ 1000 := by omega
    clear hA0
    go_wp2_with fail
    generalize w3.alloc _ = v3 at *
    generalize w3.heap.size = q7 at *
    have K3 : Hid (Sep w r v3 [trT p v S, blk q7 (objS ⟨1099511627776, 0⟩), lstS (.slice ao3 A.length cap3) A]) := j3
    clear j3 y00 y01
    refine (among_is ⟨1099511627776, 0⟩ (decide ((⟨1099511627776, 0⟩ : Sl) ∈ A)) K3.out (ao := ao3) (cap := cap3) (A := A) (by simp) HA.out.2.1 rfl).mono ?_
    rintro e w4 ⟨rfl, h4⟩
    have K4 : Hid (Sep w r w4 [trT p v S, blk q7 (objS ⟨1099511627776, 0⟩), lstS (.slice ao3 A.length cap3) A]) := h4
    clear K3
    clear h4
    by_cases hm : (⟨1099511627776, 0⟩ : Sl) ∈ A
    · rw [decide_eq_true hm]
      clear hm
      go_wp2_with fail
      refine (fixed_sep K4.out).mono ?_
      rintro e w9 ⟨rfl, h9⟩
      go_wp2
      go_ret
      exact ⟨rfl, by rw [HR.out]; exact h9.low⟩
    · rw [decide_eq_false hm]
      have hno : hasB S ⟨1099511627776, 0⟩ = false := by
        rw [← HA.out.1, mem_all] at hm
        simpa using hm
      clear hm
      have hkS : k < S.length := by have := HA.out.2.2; omega
      obtain ⟨T, f1, f2, f3, f4, f5, f6, f7, f8, f9, f10, f11, f12⟩ := adds_facts HG.out.2.2 hkS hno
      have hx : A[k]? = some (slt S k) := by rw [← HA.out.1]; exact all_get hkS
      obtain ⟨b, rfl, z0, z1⟩ := K4.out.listAt (ao := ao3) (n := A.length) (cap := cap3) (A := A) (by simp) hx
      generalize slt S k = x at *
      obtain ⟨U, HU⟩ : ∃ U, Hid (underS S x = U ∧ U.length ≤ 40) := ⟨_, rfl, Nat.le_trans (under_le S x) HG.out.2.1⟩
      obtain ⟨V, HV⟩ : ∃ V, Hid (underS T x = V ∧ V.length ≤ 41 ∧ V.length = U.length + 1 ∧ amongB V ⟨1099511627776, 0⟩ = true) := ⟨_, rfl, Nat.le_trans (under_le T x) (by have := HG.out.2.1; omega), by rw [← HU.out.1]; exact f6, decide_eq_true f7⟩
      have F : Hid (addE S x ⟨1099511627776, 0⟩ = 0 ∧ addS S x ⟨1099511627776, 0⟩ = T ∧ T.length ≤ 1000 ∧ parS T ⟨1099511627776, 0⟩ = x ∧ parB T ⟨1099511627776, 0⟩ = true ∧ underS T ⟨1099511627776, 0⟩ = [] ∧ addE T x ⟨1099511627776, 0⟩ = 70 ∧ addS T x ⟨1099511627776, 0⟩ = T ∧ takeE T ⟨1099511627776, 0⟩ = 0 ∧ takeS T ⟨1099511627776, 0⟩ = S) := ⟨f1, f2, by have := HG.out.2.1; omega, f4, f5, f8, f9, f10, f11, f12⟩
      have hul : (U.length : Int) ≤ 40 := by have := HU.out.2; omega
      have hvu : ((V.length : Int) != (U.length : Int) + 1) = false := by rw [bne_eq_false_iff_eq]; have := HV.out.2.2.1; omega
      have hq := eq_yes x
      clear hkS hno f1 f2 f3 f4 f5 f6 f7 f8 f9 f10 f11 f12 hx
      obtain ⟨y00, y01⟩ := K4.out.slotAt (q := q7) (s := ⟨1099511627776, 0⟩) (by simp)
      have K4' : Hid _ := K4.out.boxed (objS x)
      obtain ⟨y10, y11⟩ := K4'.out.slotAt (q := w4.heap.size) (s := x) (by simp)
      simp only [objS] at K4' y10 y11
      go_wp2_with fail
      generalize w4.alloc _ = v4 at *
      generalize w4.heap.size = q8 at *
      clear y00 y01
      clear y10 y11 z0 z1
      have K5 : Hid (Sep w r v4 [trT p v S, blk q8 (objS x), blk q7 (objS ⟨1099511627776, 0⟩), lstS (.slice (some ⟨b, 0, none⟩) A.length cap3) A]) := K4'
      clear K4 K4'
      refine (under_is x U K5.out HG.out.1 HU.out.1).mono ?_
      rintro e w5 ⟨ao5, cap5, rfl, h5⟩
      have K6 : Hid (Sep w r w5 [trT p v S, lstS (.slice ao5 U.length cap5) U, blk q8 (objS x), blk q7 (objS ⟨1099511627776, 0⟩), lstS (.slice (some ⟨b, 0, none⟩) A.length cap3) A]) := h5
      clear K5
      clear h5
      obtain ⟨y00, y01⟩ := K6.out.slotAt (q := q8) (s := x) (by simp)
      obtain ⟨y10, y11⟩ := K6.out.slotAt (q := q7) (s := ⟨1099511627776, 0⟩) (by simp)
      go_wp2_with fail
      refine (add_is x ⟨1099511627776, 0⟩ 0 T K6.out HG.out.1 F.out.1 F.out.2.1).mono ?_
      rintro e w6 ⟨rfl, v6, h6⟩
      clear y00 y01 y10 y11
      have K7 : Hid (Sep w r w6 [trT p v6 T, lstS (.slice ao5 U.length cap5) U, blk q8 (objS x), blk q7 (objS ⟨1099511627776, 0⟩), lstS (.slice (some ⟨b, 0, none⟩) A.length cap3) A]) := h6
      clear K6
      clear h6
      obtain ⟨y00, y01⟩ := K7.out.slotAt (q := q8) (s := x) (by simp)
      obtain ⟨y10, y11⟩ := K7.out.slotAt (q := q7) (s := ⟨1099511627776, 0⟩) (by simp)
      go_wp2_with fail
      refine (parent_is ⟨1099511627776, 0⟩ x true K7.out F.out.2.2.1 F.out.2.2.2.1 F.out.2.2.2.2.1).mono ?_
      rintro e w7 ⟨rfl, h7⟩
      clear y00 y01 y10 y11
      have j7 : Hid _ := h7.boxed (objS x)
      clear h7 K7
      obtain ⟨y00, y01⟩ := j7.out.slotAt (q := w7.heap.size) (s := x) (by simp)
      obtain ⟨y10, y11⟩ := j7.out.slotAt (q := q8) (s := x) (by simp)
      obtain ⟨y20, y21⟩ := j7.out.slotAt (q := q7) (s := ⟨1099511627776, 0⟩) (by simp)
      simp only [objS] at j7 y00 y01 y10 y11 y20 y21
      go_wp2_with fail
      generalize w7.alloc _ = v7 at *
      generalize w7.heap.size = q11 at *
      clear y00 y01 y10 y11 y20 y21
      have K8 : Hid (Sep w r v7 [trT p v6 T, blk q11 (objS x), lstS (.slice ao5 U.length cap5) U, blk q8 (objS x), blk q7 (objS ⟨1099511627776, 0⟩), lstS (.slice (some ⟨b, 0, none⟩) A.length cap3) A]) := j7
      clear j7
      refine (under_is x V K8.out F.out.2.2.1 HV.out.1).mono ?_
      rintro e w8 ⟨ao8, cap8, rfl, h8⟩
      have K9 : Hid (Sep w r w8 [trT p v6 T, lstS (.slice ao8 V.length cap8) V, blk q11 (objS x), lstS (.slice ao5 U.length cap5) U, blk q8 (objS x), blk q7 (objS ⟨1099511627776, 0⟩), lstS (.slice (some ⟨b, 0, none⟩) A.length cap3) A]) := h8
      clear K8
      clear h8
      obtain ⟨y00, y01⟩ := K9.out.slotAt (q := q11) (s := x) (by simp)
      obtain ⟨y10, y11⟩ := K9.out.slotAt (q := q8) (s := x) (by simp)
      obtain ⟨y20, y21⟩ := K9.out.slotAt (q := q7) (s := ⟨1099511627776, 0⟩) (by simp)
      go_wp2_with fail
      refine (under_is ⟨1099511627776, 0⟩ [] K9.out F.out.2.2.1 F.out.2.2.2.2.2.1).mono ?_
      rintro e w10 ⟨ao10, cap10, rfl, h10⟩
      clear y00 y01 y10 y11 y20 y21
      have K10 : Hid (Sep w r w10 [trT p v6 T, lstS (.slice ao8 V.length cap8) V, blk q11 (objS x), lstS (.slice ao5 U.length cap5) U, blk q8 (objS x), blk q7 (objS ⟨1099511627776, 0⟩), lstS (.slice (some ⟨b, 0, none⟩) A.length cap3) A]) := h10.drop2
      clear K9
      clear h10
      obtain ⟨y00, y01⟩ := K10.out.slotAt (q := q11) (s := x) (by simp)
      obtain ⟨y10, y11⟩ := K10.out.slotAt (q := q8) (s := x) (by simp)
      obtain ⟨y20, y21⟩ := K10.out.slotAt (q := q7) (s := ⟨1099511627776, 0⟩) (by simp)
      go_wp2_with fail
      refine (among_is ⟨1099511627776, 0⟩ true K10.out (ao := ao8) (cap := cap8) (A := V) (by simp) (by have := HV.out.2.1; omega) HV.out.2.2.2).mono ?_
      rintro e w11 ⟨rfl, h11⟩
      clear y00 y01 y10 y11 y20 y21
      have K11 : Hid (Sep w r w11 [trT p v6 T, lstS (.slice ao8 V.length cap8) V, blk q11 (objS x), lstS (.slice ao5 U.length cap5) U, blk q8 (objS x), blk q7 (objS ⟨1099511627776, 0⟩), lstS (.slice (some ⟨b, 0, none⟩) A.length cap3) A]) := h11
      clear K10
      clear h11
      obtain ⟨y00, y01⟩ := K11.out.slotAt (q := q11) (s := x) (by simp)
      obtain ⟨y10, y11⟩ := K11.out.slotAt (q := q8) (s := x) (by simp)
      obtain ⟨y20, y21⟩ := K11.out.slotAt (q := q7) (s := ⟨1099511627776, 0⟩) (by simp)
      go_wp2_with fail
      refine (add_is x ⟨1099511627776, 0⟩ 70 T K11.out F.out.2.2.1 F.out.2.2.2.2.2.2.1 F.out.2.2.2.2.2.2.2.1).mono ?_
      rintro e w12 ⟨rfl, v12, h12⟩
      clear y00 y01 y10 y11 y20 y21
      have K12 : Hid (Sep w r w12 [trT p v12 T, lstS (.slice ao8 V.length cap8) V, blk q11 (objS x), lstS (.slice ao5 U.length cap5) U, blk q8 (objS x), blk q7 (objS ⟨1099511627776, 0⟩), lstS (.slice (some ⟨b, 0, none⟩) A.length cap3) A]) := h12
      clear K11
      clear h12
      obtain ⟨y00, y01⟩ := K12.out.slotAt (q := q11) (s := x) (by simp)
      obtain ⟨y10, y11⟩ := K12.out.slotAt (q := q8) (s := x) (by simp)
      obtain ⟨y20, y21⟩ := K12.out.slotAt (q := q7) (s := ⟨1099511627776, 0⟩) (by simp)
      go_wp2_with fail
      refine (take_is ⟨1099511627776, 0⟩ 0 S K12.out F.out.2.2.1 F.out.2.2.2.2.2.2.2.2.1 F.out.2.2.2.2.2.2.2.2.2).mono ?_
      rintro e w13 ⟨rfl, v13, h13⟩
      clear y00 y01 y10 y11 y20 y21
      have K13 : Hid (Sep w r w13 [trT p v13 S, lstS (.slice ao8 V.length cap8) V, blk q11 (objS x), lstS (.slice ao5 U.length cap5) U, blk q8 (objS x), blk q7 (objS ⟨1099511627776, 0⟩), lstS (.slice (some ⟨b, 0, none⟩) A.length cap3) A]) := h13
      clear K12
      clear h13
      go_wp2_with fail
      refine (all_is A K13.out HG.out.1 HA.out.1).mono ?_
      rintro e w14 ⟨ao14, cap14, rfl, h14⟩
      have K14 : Hid (Sep w r w14 [trT p v13 S, lstS (.slice ao14 A.length cap14) A, lstS (.slice ao8 V.length cap8) V, blk q11 (objS x), lstS (.slice ao5 U.length cap5) U, blk q8 (objS x), blk q7 (objS ⟨1099511627776, 0⟩), lstS (.slice (some ⟨b, 0, none⟩) A.length cap3) A]) := h14
      clear K13
      clear h14
      go_wp2_with fail
      refine (same_is K14.out (ao := ao14) (bo := some ⟨b, 0, none⟩) (cap := cap14) (cap' := cap3) (A := A) (by simp) (by simp) HA.out.2.1).mono ?_
      rintro e w15 ⟨rfl, h15⟩
      have K15 : Hid (Sep w r w15 [trT p v13 S, lstS (.slice ao14 A.length cap14) A, lstS (.slice ao8 V.length cap8) V, blk q11 (objS x), lstS (.slice ao5 U.length cap5) U, blk q8 (objS x), blk q7 (objS ⟨1099511627776, 0⟩), lstS (.slice (some ⟨b, 0, none⟩) A.length cap3) A]) := h15
      clear K14
      clear h15
      go_wp2_with fail
      refine (fixed_sep K15.out).mono ?_
      rintro e w9 ⟨rfl, h9⟩
      go_wp2
      go_ret
      exact ⟨rfl, by rw [HR.out]; exact h9.low⟩
end
open Go.ChangeShapes Go.WideShapes Go.ChangeAt Go.RowKit Go.Joins

/-! ### From the walk to the statement -/
set_option maxRecDepth 100000 in
theorem lifted (os : Os) (started : os.Started) (H : Type) (enc : TypeId × Value → H) :
    ReturnsInHanded {} Try.checked os 7 .any (Rows.treeAddsSpec.pre6 enc Try.prog Try.f7 Rows.treeAddsRow.domain false) (Rows.treeAddsSpec.post enc Try.prog Try.f7 false true false false) := by
  have hdec : DecidableEq Sl := fun a b => Classical.propDecidable (a = b)
  refine returnsInHanded_of_change (C := Try.checked) own started (by kernel_rfl) Try.func7
    (ChangeSpec.witness6 (enc := enc) (C := Try.checked) false ⟨#[], #[.slice none 0 0, .int .i64 0], []⟩ 8 (by kernel_rfl) (by kernel_rfl) (by kernel_rfl) (by kernel_rfl)) ?_
  intro W base args ds gs before hval0 hW hcnd _
  have hval : ∀ (j : Nat) t v, Try.f7.params[j]? = some t → args[j]? = some v → Value.okWide Try.prog W .any base t v := hval0
  have hW' := hW
  obtain ⟨p, q, hA0, hV, rfl, hfz, hnd⟩ := hW
  have hA : DataW.TrodAll enc Try.prog W 0 (fun _ => true) true Try.f7.params.toList args.toList ds p := hA0
  rw [Try.params7] at hA hval
  obtain ⟨v0, vs0, d0, ds0, p0, q0, hargs, rfl, rfl, h0, r0⟩ := trodAll_cons hA
  obtain ⟨v1, vs1, d1, ds1, p1, q1, rfl, rfl, rfl, h1, r1⟩ := trodAll_cons r0
  obtain ⟨rfl, rfl, rfl⟩ := trodAll_nil r1
  obtain rfl : args = #[v0, v1] := by cases args; simp_all
  obtain ⟨rfl, rfl⟩ := trodVars_none hV
  have k0 := h0
  have lt0 : ∀ x ∈ p0, x.block < W.heap.size := by obtain ⟨m, hm⟩ := k0; exact DataW.trod_lt m _ _ _ hm
  obtain ⟨a0, l0, c0, rfl, t0, s0⟩ := open_ops (hval 0 22 v0 rfl rfl) h0
  have k1 := h1
  have lt1 : ∀ x ∈ p1, x.block < W.heap.size := by obtain ⟨m, hm⟩ := k1; exact DataW.trod_lt m _ _ _ hm
  obtain ⟨a1, rfl, _, _, w1⟩ := open_int Try.underlying3 (hval 1 3 v1 rfl rfl) h1
  clear hA0 hval0
  refine (walk a0 l0 c0 a1 W t0 s0 (bounds_i64 w1)).mono fun e W' ⟨he, bel⟩ => ?_
  subst he
  exact ⟨_, rfl, _, _, _, [], _, [], hW', trodAll_mk1 (shut_bool Try.underlying4 _), (trodAll_cons_mk (Below.trod laidOut (by kernel_rfl) (of_decide_eq_true (by kernel_rfl)) k0 bel lt0) (trodAll_cons_mk (Below.trod laidOut (by kernel_rfl) (of_decide_eq_true (by kernel_rfl)) k1 bel lt1) trodAll_mk0)), rfl, bel.frame _, fun h => by cases h⟩
theorem over : Rows.treeAddsRow.holds Try.pinned (OpenSpec.ofChange Rows.treeAddsSpec) :=
  OpenClaim.holds_of_wide 7 Try.f7 rfl rfl rfl rfl rfl rfl rfl ⟨rfl, rfl, rfl, rfl, rfl⟩ rfl rfl rfl rfl rfl (by kernel_rfl) Try.func7 (by kernel_rfl)
    (of_decide_eq_true (by kernel_rfl)) (by unfold Func.isWrapper; first | (rw [if_pos (by decide +kernel)]; kernel_rfl) | (rw [if_neg (by decide +kernel)]; exact ⟨rfl, rfl⟩))
    (fun os started H enc _ => lifted os started H enc)
end Go.Proofs.Ythfoeppcageneaa.treeAdds
namespace Go.Proofs.Ythfoeppcageneaa
/-- THE STATEMENT. -/
theorem treeAdds_said : Rows.TreeAddsSaid := treeAdds.over
#print axioms treeAdds_said
end Go.Proofs.Ythfoeppcageneaa
