/-
  TreeMoves answers true for every input, and leaves it; no condition of ours.
-/
import Derived.Test.YthfoeppcageneaaTLaw2
namespace Go.Proofs.Ythfoeppcageneaa.treeMoves
open Go.RowKit Go.Deep Go.Shelf
set_option linter.unusedSectionVars false
section
variable [DecidableEq Sl]
set_option maxHeartbeats 8000000 in
set_option maxRecDepth 100000 in
theorem walk (ao : Option Addr) (X : List Oc) (cap : Nat) (n : Int) (w : World) (hX : Script w ao X) (_hl : X.length ≤ 9223372036854775807) (_hn : -9223372036854775808 ≤ n ∧ n ≤ 9223372036854775807) :
    Calls Try.prog 6 #[.slice ao X.length cap, .int .i64 n] w fun e w' => e = .returned (.bool true) ∧ Below w.heap.size w w' := by
  have HX : Hid (Script w ao X) := hX
  obtain ⟨r, HR⟩ : ∃ r, Hid (w.heap.size = r) := ⟨_, rfl⟩
  have H1 : Hid (Sep w r w []) := by
    rw [← HR.out]
    exact sep_nil w
  obtain ⟨m, -, hbits⟩ := mask16 n
  clear hX
  go_enter Try.func6, Try.ntmps6
  go_wp2_with fail
  refine (laid_sep ao X cap H1.out HX.out HR.out).mono ?_
  rintro e w2 ⟨p, v, S, rfl, hS40, hgood, h2⟩
  have K2 : Hid (Sep w r w2 [trT p v S]) := h2
  have HG : Hid (S.length ≤ 1000 ∧ S.length ≤ 40 ∧ Good S) := ⟨by omega, hS40, hgood⟩
  obtain ⟨A, HA⟩ : ∃ A, Hid (allS S = A ∧ A.length ≤ 1000 ∧ A.length = S.length) := ⟨_, rfl, by rw [all_len]; omega, all_len S⟩
  clear h2 H1 hS40 hgood
  go_wp2_with fail
  refine (all_is A K2.out HG.out.1 HA.out.1).mono ?_
  rintro e w3 ⟨ao3, cap3, rfl, h3⟩
  have K3 : Hid (Sep w r w3 [trT p v S, lstS (.slice ao3 A.length cap3) A]) := h3
  clear K2
  clear h3
  have hA3 := HA.out.2.1
  by_cases hA0 : A.length = 0
  · have hz : ((A.length : Int) == 0) = true := by simp [hA0]
    clear hA0
    go_wp2_with fail
    refine (fixed_sep K3.out).mono ?_
    rintro e w9 ⟨rfl, h9⟩
    go_wp2
    go_ret
    exact ⟨rfl, by rw [HR.out]; exact h9.low⟩
  · have hz : ((A.length : Int) == 0) = false := by rw [beq_eq_false_iff_ne]; omega
    obtain ⟨k, hk, hrem⟩ := rem_nat m A.length (by omega)
    have hkz : (k : Int) < (A.length : Int) := by omega
    have hnz : ¬ ((A.length : Int) = 0) := by omega
    have hA1000 : (A.length : Int) ≤ 1000 := by omega
    clear hA0
    have hkS : k < S.length := by have := HA.out.2.2; omega
    have hx : A[k]? = some (slt S k) := by rw [← HA.out.1]; exact all_get hkS
    obtain ⟨b, rfl, z0, z1⟩ := K3.out.listAt (ao := ao3) (n := A.length) (cap := cap3) (A := A) (by simp) hx
    have HM : Hid (hasB S ⟨1099511627776, 1099511627776⟩ = false → ∃ T, moveE S (slt S k) ⟨1099511627776, 1099511627776⟩ = 0 ∧ moveS S (slt S k) ⟨1099511627776, 1099511627776⟩ = T ∧ T.length = S.length ∧ parS T ⟨1099511627776, 1099511627776⟩ = parS S (slt S k) ∧ parB T ⟨1099511627776, 1099511627776⟩ = parB S (slt S k) ∧ underS T ⟨1099511627776, 1099511627776⟩ = underS S (slt S k) ∧ moveE T ⟨1099511627776, 1099511627776⟩ (slt S k) = 0 ∧ moveS T ⟨1099511627776, 1099511627776⟩ (slt S k) = S) := fun h => moves_facts HG.out.2.2 hkS h
    generalize slt S k = x at *
    clear hkS hx
    have j4 : Hid _ := (K3.out.boxed (objS x)).boxed (objS ⟨1099511627776, 1099511627776⟩)
    have yy := j4.out.slotAt (q := (w3.alloc (objS x)).heap.size) (s := ⟨1099511627776, 1099511627776⟩) (by simp)
    rw [World.size_alloc] at j4 yy
    obtain ⟨y00, y01⟩ := yy
    simp only [objS] at j4 y00 y01
    go_wp2_with fail
    generalize (w3.alloc _).alloc _ = v4 at *
    generalize w3.heap.size + 1 = q8 at *
    generalize w3.heap.size = q7 at *
    clear y00 y01 z0 z1
    have K4 : Hid (Sep w r v4 [trT p v S, blk q8 (objS ⟨1099511627776, 1099511627776⟩), blk q7 (objS x), lstS (.slice (some ⟨b, 0, none⟩) A.length cap3) A]) := j4
    clear j4 K3
    refine (among_is ⟨1099511627776, 1099511627776⟩ (decide ((⟨1099511627776, 1099511627776⟩ : Sl) ∈ A)) K4.out (ao := some ⟨b, 0, none⟩) (cap := cap3) (A := A) (by simp) HA.out.2.1 rfl).mono ?_
    rintro e w5 ⟨rfl, h5⟩
    have K5 : Hid (Sep w r w5 [trT p v S, blk q8 (objS ⟨1099511627776, 1099511627776⟩), blk q7 (objS x), lstS (.slice (some ⟨b, 0, none⟩) A.length cap3) A]) := h5
    clear K4
    clear h5
    by_cases hm : (⟨1099511627776, 1099511627776⟩ : Sl) ∈ A
    · rw [decide_eq_true hm]
      clear hm
      go_wp2_with fail
      refine (fixed_sep K5.out).mono ?_
      rintro e w9 ⟨rfl, h9⟩
      go_wp2
      go_ret
      exact ⟨rfl, by rw [HR.out]; exact h9.low⟩
    · rw [decide_eq_false hm]
      have hno : hasB S ⟨1099511627776, 1099511627776⟩ = false := by
        rw [← HA.out.1, mem_all] at hm
        simpa using hm
      obtain ⟨T, f1, f2, f3, f4, f5, f6, f7, f8⟩ := HM.out hno
      obtain ⟨U, HU⟩ : ∃ U, Hid (underS S x = U ∧ U.length ≤ 40 ∧ underS T ⟨1099511627776, 1099511627776⟩ = U) := ⟨_, rfl, Nat.le_trans (under_le S x) HG.out.2.1, f6⟩
      obtain ⟨y, β, HP⟩ : ∃ y β, Hid (parS S x = y ∧ parB S x = β ∧ parS T ⟨1099511627776, 1099511627776⟩ = y ∧ parB T ⟨1099511627776, 1099511627776⟩ = β) := ⟨_, _, rfl, rfl, f4, f5⟩
      have F : Hid (moveE S x ⟨1099511627776, 1099511627776⟩ = 0 ∧ moveS S x ⟨1099511627776, 1099511627776⟩ = T ∧ T.length ≤ 1000 ∧ moveE T ⟨1099511627776, 1099511627776⟩ x = 0 ∧ moveS T ⟨1099511627776, 1099511627776⟩ x = S) := ⟨f1, f2, by have := HG.out.2.1; omega, f7, f8⟩
      have hq := eq_yes y
      have hββ : (β == β) = true := by simp
      clear hm hno f1 f2 f3 f4 f5 f6 f7 f8 HM
      obtain ⟨y00, y01⟩ := K5.out.slotAt (q := q8) (s := ⟨1099511627776, 1099511627776⟩) (by simp)
      obtain ⟨y10, y11⟩ := K5.out.slotAt (q := q7) (s := x) (by simp)
      go_wp2_with fail
      refine (under_is x U K5.out HG.out.1 HU.out.1).mono ?_
      rintro e w6 ⟨ao6, cap6, rfl, h6⟩
      clear y00 y01 y10 y11
      have K6 : Hid (Sep w r w6 [trT p v S, lstS (.slice ao6 U.length cap6) U, blk q8 (objS ⟨1099511627776, 1099511627776⟩), blk q7 (objS x), lstS (.slice (some ⟨b, 0, none⟩) A.length cap3) A]) := h6
      clear K5
      clear h6
      obtain ⟨y00, y01⟩ := K6.out.slotAt (q := q8) (s := ⟨1099511627776, 1099511627776⟩) (by simp)
      obtain ⟨y10, y11⟩ := K6.out.slotAt (q := q7) (s := x) (by simp)
      go_wp2_with fail
      refine (parent_is x y β K6.out HG.out.1 HP.out.1 HP.out.2.1).mono ?_
      rintro e w7 ⟨rfl, h7⟩
      clear y00 y01 y10 y11
      have j7 : Hid _ := h7.boxed (objS y)
      clear h7 K6
      obtain ⟨y00, y01⟩ := j7.out.slotAt (q := w7.heap.size) (s := y) (by simp)
      obtain ⟨y10, y11⟩ := j7.out.slotAt (q := q8) (s := ⟨1099511627776, 1099511627776⟩) (by simp)
      obtain ⟨y20, y21⟩ := j7.out.slotAt (q := q7) (s := x) (by simp)
      simp only [objS] at j7 y00 y01 y10 y11 y20 y21
      go_wp2_with fail
      generalize w7.alloc _ = vw7 at *
      generalize w7.heap.size = q10 at *
      clear y00 y01 y10 y11 y20 y21
      have K7 : Hid (Sep w r vw7 [trT p v S, blk q10 (objS y), lstS (.slice ao6 U.length cap6) U, blk q8 (objS ⟨1099511627776, 1099511627776⟩), blk q7 (objS x), lstS (.slice (some ⟨b, 0, none⟩) A.length cap3) A]) := j7
      clear j7
      refine (move_is x ⟨1099511627776, 1099511627776⟩ 0 T K7.out HG.out.1 F.out.1 F.out.2.1).mono ?_
      rintro e w8 ⟨rfl, v8, h8⟩
      have K8 : Hid (Sep w r w8 [trT p v8 T, blk q10 (objS y), lstS (.slice ao6 U.length cap6) U, blk q8 (objS ⟨1099511627776, 1099511627776⟩), blk q7 (objS x), lstS (.slice (some ⟨b, 0, none⟩) A.length cap3) A]) := h8
      clear K7
      clear h8
      obtain ⟨y00, y01⟩ := K8.out.slotAt (q := q10) (s := y) (by simp)
      obtain ⟨y10, y11⟩ := K8.out.slotAt (q := q8) (s := ⟨1099511627776, 1099511627776⟩) (by simp)
      obtain ⟨y20, y21⟩ := K8.out.slotAt (q := q7) (s := x) (by simp)
      go_wp2_with fail
      refine (parent_is ⟨1099511627776, 1099511627776⟩ y β K8.out F.out.2.2.1 HP.out.2.2.1 HP.out.2.2.2).mono ?_
      rintro e w10 ⟨rfl, h7⟩
      clear y00 y01 y10 y11 y20 y21
      have j7 : Hid _ := h7.boxed (objS y)
      clear h7 K8
      obtain ⟨y00, y01⟩ := j7.out.slotAt (q := w10.heap.size) (s := y) (by simp)
      obtain ⟨y10, y11⟩ := j7.out.slotAt (q := q10) (s := y) (by simp)
      obtain ⟨y20, y21⟩ := j7.out.slotAt (q := q8) (s := ⟨1099511627776, 1099511627776⟩) (by simp)
      obtain ⟨y30, y31⟩ := j7.out.slotAt (q := q7) (s := x) (by simp)
      simp only [objS] at j7 y00 y01 y10 y11 y20 y21 y30 y31
      go_wp2_with fail
      generalize w10.alloc _ = vw10 at *
      generalize w10.heap.size = q13 at *
      clear y00 y01 y10 y11 y20 y21 y30 y31
      have K9 : Hid (Sep w r vw10 [trT p v8 T, blk q13 (objS y), blk q10 (objS y), lstS (.slice ao6 U.length cap6) U, blk q8 (objS ⟨1099511627776, 1099511627776⟩), blk q7 (objS x), lstS (.slice (some ⟨b, 0, none⟩) A.length cap3) A]) := j7
      clear j7
      refine (under_is ⟨1099511627776, 1099511627776⟩ U K9.out F.out.2.2.1 HU.out.2.2).mono ?_
      rintro e w11 ⟨ao11, cap11, rfl, h11⟩
      have K10 : Hid (Sep w r w11 [trT p v8 T, lstS (.slice ao11 U.length cap11) U, blk q13 (objS y), blk q10 (objS y), lstS (.slice ao6 U.length cap6) U, blk q8 (objS ⟨1099511627776, 1099511627776⟩), blk q7 (objS x), lstS (.slice (some ⟨b, 0, none⟩) A.length cap3) A]) := h11
      clear K9
      clear h11
      obtain ⟨y00, y01⟩ := K10.out.slotAt (q := q13) (s := y) (by simp)
      obtain ⟨y10, y11⟩ := K10.out.slotAt (q := q10) (s := y) (by simp)
      obtain ⟨y20, y21⟩ := K10.out.slotAt (q := q8) (s := ⟨1099511627776, 1099511627776⟩) (by simp)
      obtain ⟨y30, y31⟩ := K10.out.slotAt (q := q7) (s := x) (by simp)
      go_wp2_with fail
      refine (move_is ⟨1099511627776, 1099511627776⟩ x 0 S K10.out F.out.2.2.1 F.out.2.2.2.1 F.out.2.2.2.2).mono ?_
      rintro e w12 ⟨rfl, v12, h12⟩
      clear y00 y01 y10 y11 y20 y21 y30 y31
      have K11 : Hid (Sep w r w12 [trT p v12 S, lstS (.slice ao11 U.length cap11) U, blk q13 (objS y), blk q10 (objS y), lstS (.slice ao6 U.length cap6) U, blk q8 (objS ⟨1099511627776, 1099511627776⟩), blk q7 (objS x), lstS (.slice (some ⟨b, 0, none⟩) A.length cap3) A]) := h12
      clear K10
      clear h12
      obtain ⟨y00, y01⟩ := K11.out.slotAt (q := q13) (s := y) (by simp)
      obtain ⟨y10, y11⟩ := K11.out.slotAt (q := q10) (s := y) (by simp)
      obtain ⟨y20, y21⟩ := K11.out.slotAt (q := q8) (s := ⟨1099511627776, 1099511627776⟩) (by simp)
      obtain ⟨y30, y31⟩ := K11.out.slotAt (q := q7) (s := x) (by simp)
      go_wp2_with fail
      refine (same_is K11.out (ao := ao6) (bo := ao11) (cap := cap6) (cap' := cap11) (A := U) (by simp) (by simp) (by have := HU.out.2.1; omega)).mono ?_
      rintro e w13 ⟨rfl, h13⟩
      clear y00 y01 y10 y11 y20 y21 y30 y31
      have K12 : Hid (Sep w r w13 [trT p v12 S, lstS (.slice ao11 U.length cap11) U, blk q13 (objS y), blk q10 (objS y), lstS (.slice ao6 U.length cap6) U, blk q8 (objS ⟨1099511627776, 1099511627776⟩), blk q7 (objS x), lstS (.slice (some ⟨b, 0, none⟩) A.length cap3) A]) := h13
      clear K11
      clear h13
      go_wp2_with fail
      refine (all_is A K12.out HG.out.1 HA.out.1).mono ?_
      rintro e w14 ⟨ao14, cap14, rfl, h14⟩
      have K13 : Hid (Sep w r w14 [trT p v12 S, lstS (.slice ao14 A.length cap14) A, lstS (.slice ao11 U.length cap11) U, blk q13 (objS y), blk q10 (objS y), lstS (.slice ao6 U.length cap6) U, blk q8 (objS ⟨1099511627776, 1099511627776⟩), blk q7 (objS x), lstS (.slice (some ⟨b, 0, none⟩) A.length cap3) A]) := h14
      clear K12
      clear h14
      go_wp2_with fail
      refine (same_is K13.out (ao := ao14) (bo := some ⟨b, 0, none⟩) (cap := cap14) (cap' := cap3) (A := A) (by simp) (by simp) HA.out.2.1).mono ?_
      rintro e w15 ⟨rfl, h15⟩
      have K14 : Hid (Sep w r w15 [trT p v12 S, lstS (.slice ao14 A.length cap14) A, lstS (.slice ao11 U.length cap11) U, blk q13 (objS y), blk q10 (objS y), lstS (.slice ao6 U.length cap6) U, blk q8 (objS ⟨1099511627776, 1099511627776⟩), blk q7 (objS x), lstS (.slice (some ⟨b, 0, none⟩) A.length cap3) A]) := h15
      clear K13
      clear h15
      go_wp2_with fail
      refine (fixed_sep K14.out).mono ?_
      rintro e w9 ⟨rfl, h9⟩
      go_wp2
      go_ret
      exact ⟨rfl, by rw [HR.out]; exact h9.low⟩
end
open Go.ChangeShapes Go.WideShapes Go.ChangeAt Go.RowKit Go.Joins

/-! ### From the walk to the statement -/
set_option maxRecDepth 100000 in
theorem lifted (os : Os) (started : os.Started) (H : Type) (enc : TypeId × Value → H) :
    ReturnsInHanded {} Try.checked os 6 .any (Rows.treeMovesSpec.pre6 enc Try.prog Try.f6 Rows.treeMovesRow.domain false) (Rows.treeMovesSpec.post enc Try.prog Try.f6 false true false false) := by
  have hdec : DecidableEq Sl := fun a b => Classical.propDecidable (a = b)
  refine returnsInHanded_of_change (C := Try.checked) own started (by kernel_rfl) Try.func6
    (ChangeSpec.witness6 (enc := enc) (C := Try.checked) false ⟨#[], #[.slice none 0 0, .int .i64 0], []⟩ 8 (by kernel_rfl) (by kernel_rfl) (by kernel_rfl) (by kernel_rfl)) ?_
  intro W base args ds gs before hval0 hW hcnd _
  have hval : ∀ (j : Nat) t v, Try.f6.params[j]? = some t → args[j]? = some v → Value.okWide Try.prog W .any base t v := hval0
  have hW' := hW
  obtain ⟨p, q, hA0, hV, rfl, hfz, hnd⟩ := hW
  have hA : DataW.TrodAll enc Try.prog W 0 (fun _ => true) true Try.f6.params.toList args.toList ds p := hA0
  rw [Try.params6] at hA hval
  obtain ⟨v0, vs0, d0, ds0, p0, q0, hargs, rfl, rfl, h0, r0⟩ := trodAll_cons hA
  obtain ⟨v1, vs1, d1, ds1, p1, q1, rfl, rfl, rfl, h1, r1⟩ := trodAll_cons r0
  obtain ⟨rfl, rfl, rfl⟩ := trodAll_nil r1
  obtain rfl : args = #[v0, v1] := by cases args; simp_all
  obtain ⟨rfl, rfl⟩ := trodVars_none hV
  have k0 := h0
  have lt0 : ∀ x ∈ p0, x.block < W.heap.size := by obtain ⟨m, hm⟩ := k0; exact DataW.trod_lt m _ _ _ hm
  obtain ⟨a0, l0, c0, rfl, t0, s0⟩ := open_ops (hval 0 22 v0 rfl rfl) h0
  have k1 := h1
  have lt1 : ∀ x ∈ p1, x.block < W.heap.size := by obtain ⟨m, hm⟩ := k1; exact DataW.trod_lt m _ _ _ hm
  obtain ⟨a1, rfl, _, _, w1⟩ := open_int Try.underlying3 (hval 1 3 v1 rfl rfl) h1
  clear hA0 hval0
  refine (walk a0 l0 c0 a1 W t0 s0 (bounds_i64 w1)).mono fun e W' ⟨he, bel⟩ => ?_
  subst he
  exact ⟨_, rfl, _, _, _, [], _, [], hW', trodAll_mk1 (shut_bool Try.underlying4 _), (trodAll_cons_mk (Below.trod laidOut (by kernel_rfl) (of_decide_eq_true (by kernel_rfl)) k0 bel lt0) (trodAll_cons_mk (Below.trod laidOut (by kernel_rfl) (of_decide_eq_true (by kernel_rfl)) k1 bel lt1) trodAll_mk0)), rfl, bel.frame _, fun h => by cases h⟩
theorem over : Rows.treeMovesRow.holds Try.pinned (OpenSpec.ofChange Rows.treeMovesSpec) :=
  OpenClaim.holds_of_wide 6 Try.f6 rfl rfl rfl rfl rfl rfl rfl ⟨rfl, rfl, rfl, rfl, rfl⟩ rfl rfl rfl rfl rfl (by kernel_rfl) Try.func6 (by kernel_rfl)
    (of_decide_eq_true (by kernel_rfl)) (by unfold Func.isWrapper; first | (rw [if_pos (by decide +kernel)]; kernel_rfl) | (rw [if_neg (by decide +kernel)]; exact ⟨rfl, rfl⟩))
    (fun os started H enc _ => lifted os started H enc)
end Go.Proofs.Ythfoeppcageneaa.treeMoves
namespace Go.Proofs.Ythfoeppcageneaa
/-- THE STATEMENT. -/
theorem treeMoves_said : Rows.TreeMovesSaid := treeMoves.over
#print axioms treeMoves_said
end Go.Proofs.Ythfoeppcageneaa
