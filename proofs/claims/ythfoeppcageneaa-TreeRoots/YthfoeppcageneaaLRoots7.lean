/-
  TreeRoots answers true for every input, and leaves it; no condition of ours.
-/
import Derived.Test.YthfoeppcageneaaTApp
namespace Go.Proofs.Ythfoeppcageneaa.treeRoots
open Go.RowKit Go.Deep Go.Shelf
set_option linter.unusedSectionVars false
section
variable [DecidableEq Sl]
set_option maxHeartbeats 8000000 in
set_option maxRecDepth 100000 in
theorem walk (ao : Option Addr) (X : List Oc) (cap : Nat) (w : World) (hX : Script w ao X) (_hl : X.length ≤ 9223372036854775807) :
    Calls Try.prog 8 #[.slice ao X.length cap] w fun e w' => e = .returned (.bool true) ∧ Below w.heap.size w w' := by
  have HX : Hid (Script w ao X) := hX
  obtain ⟨r, HR⟩ : ∃ r, Hid (w.heap.size = r) := ⟨_, rfl⟩
  have H1 : Hid (Sep w r w []) := by
    rw [← HR.out]
    exact sep_nil w
  clear hX
  go_enter Try.func8, Try.ntmps8
  go_wp2_with fail
  refine (laid_sep ao X cap H1.out HX.out HR.out).mono ?_
  rintro e w2 ⟨p, v, S, rfl, hS40, hgood, h2⟩
  have K2 : Hid (Sep w r w2 [trT p v S]) := h2
  have HG : Hid (S.length ≤ 1000 ∧ S.length ≤ 40 ∧ Good S) := ⟨by omega, hS40, hgood⟩
  obtain ⟨A, HA⟩ : ∃ A, Hid (allS S = A ∧ A.length ≤ 40 ∧ A.length = S.length) := ⟨_, rfl, by rw [all_len]; omega, all_len S⟩
  clear h2 H1 hS40 hgood
  go_wp2_with fail
  refine (all_is A K2.out HG.out.1 HA.out.1).mono ?_
  rintro e w3 ⟨ao3, cap3, rfl, h3⟩
  have j3 : Hid _ := h3.empty
  clear h3 K2
  have hA3 : (A.length : Int) ≤ 1000 := by have := HA.out.2.1; omega
  go_wp2
  have K3 : Hid (Sep w r (w3.alloc (.cells #[] 31)) [trT p v S, lstS (.slice (some ⟨w3.heap.size, 0, none⟩) 0 0) [], lstS (.slice ao3 A.length cap3) A]) := j3
  clear j3
  generalize w3.alloc _ = v3 at *
  generalize w3.heap.size = q3 at *
  go_loopw [5, 6] (fun s5 s6 wr => ∃ (k m : Nat) (u : Value), k ≤ S.length ∧ s6 = .int .i64 k ∧ s5 = u ∧ Hid (RootAt S k m) ∧ Sep w r wr [trT p v S, lstS u (A.take m), lstS (.slice ao3 A.length cap3) A]) (fun _ s6 _ => S.length - (intOf s6).toNat)
  case atStart => exact ⟨0, 0, _, Nat.zero_le _, rfl, rfl, root_start HG.out.2.2, K3.out⟩
  case round =>
    clear K3
    obtain ⟨k, m, u, hk, rfl, rfl, hrt, hh⟩ := hrel
    have KW : Hid (Sep w r wr [trT p v S, lstS u5 (A.take m), lstS (.slice ao3 A.length cap3) A]) := hh
    have hmm : m ≤ S.length := hrt.out.2.1
    clear hh
    obtain ⟨ao5, cap5, e5⟩ := KW.out.swap.sliceAt
    by_cases hlt : k < S.length
    · have hkA : (k : Int) < (A.length : Int) := by have := HA.out.2.2; omega
      have hx : A[k]? = some (slt S k) := by rw [← HA.out.1]; exact all_get hlt
      obtain ⟨b, rfl, z0, z1⟩ := KW.out.listAt (ao := ao3) (n := A.length) (cap := cap3) (A := A) (by simp) hx
      have HK : Hid (k < S.length) := hlt
      have hpar := par_root HG.out.2.2 hlt
      subst e5
      by_cases hd : dep S k = 0
      · obtain ⟨rfl, R2, hcat⟩ := root_yes HG.out.2.2 hrt.out hlt hd
        rw [HA.out.1] at hcat
        have hpb : parB S (slt S k) = false := by rw [hpar]; simp [hd]
        have HE : Hid (endN S k ≤ S.length) := (endN_le hlt).1
        have HRt : Hid (RootAt S (k + 1) (endN S k)) := R2
        generalize endN S k = M at *
        have HU0 := under_le S (slt S k)
        generalize hxx : slt S k = x at *
        clear hxx
        obtain ⟨U, HU⟩ : ∃ U, Hid (underS S x = U ∧ U.length ≤ 40 ∧ A.take k ++ [x] ++ U = A.take M) := ⟨_, rfl, Nat.le_trans HU0 HG.out.2.1, hcat⟩
        obtain ⟨y, HY⟩ : ∃ y, Hid (parS S x = y) := ⟨_, rfl⟩
        clear hlt hk hd hpar hrt R2 hcat HU0 hx hmm
        go_wp2_with fail
        refine (parent_is x y false KW.out HG.out.1 HY.out hpb).mono ?_
        rintro e w4 ⟨rfl, h4⟩
        have K4 : Hid (Sep w r (w4.alloc (objS y)) [trT p v S, lstS (.slice ao5 (A.take k).length cap5) (A.take k), lstS (.slice (some ⟨b, 0, none⟩) A.length cap3) A]) := h4.below (below_new _ _)
        clear h4 KW z0 z1
        have hx : A[k]? = some x := by
          have := congrArg (fun l => l[k]?) HU.out.2.2
          have hlk : (A.take k).length = k := by rw [List.length_take]; have := HA.out.2.2; have := HK.out; omega
          simp only [List.append_assoc] at this
          rw [List.getElem?_append_right (by omega), hlk, Nat.sub_self] at this
          simp only [List.cons_append, List.nil_append, List.getElem?_cons_zero] at this
          rw [List.getElem?_take] at this
          split at this
          · exact this.symm
          · cases this
        obtain ⟨b', eb, z0, z1⟩ := K4.out.listAt (ao := some ⟨b, 0, none⟩) (n := A.length) (cap := cap3) (A := A) (by simp) hx
        cases eb
        have HXk : Hid (A[k]? = some x) := hx
        have hlk : (A.take k).length ≤ 1000 := by rw [List.length_take]; have := HA.out.2.1; omega
        obtain ⟨v5, w5, hrun, h5⟩ := app1_sep 26 x K4.out.swap hlk
        obtain ⟨ao6, cap6, rfl⟩ := h5.sliceAt
        have K5 : Hid (Sep w r w5 [trT p v S, lstS (.slice ao6 (A.take k ++ [x]).length cap6) (A.take k ++ [x]), lstS (.slice (some ⟨b, 0, none⟩) A.length cap3) A]) := h5.swap
        have HRun : Hid _ := hrun
        obtain ⟨L1, HL1⟩ : ∃ L1, Hid (A.take k ++ [x] = L1) := ⟨_, rfl⟩
        rw [HL1.out] at HRun K5
        obtain ⟨L0, HL0⟩ : ∃ L0, Hid (A.take k = L0) := ⟨_, rfl⟩
        rw [HL0.out] at HRun ⊢
        clear hrun h5 K4 hx hlk
        simp only [objS, World.size_alloc] at HRun z0 z1
        obtain ⟨b', eb, c0, c1⟩ := K5.out.listAt (ao := some ⟨b, 0, none⟩) (n := A.length) (cap := cap3) (A := A) (by simp) HXk.out
        cases eb
        go_wp2_with (first | (at_builtin; refine wpList_append_run rfl (.tmp 33) (.tmp 38) _ _ rfl _ _ _ _ rfl rfl HRun.out ?_) | fail)
        clear HRun z0 z1 c0 c1
        refine (under_is x U K5.out HG.out.1 HU.out.1).mono ?_
        rintro e w6 ⟨ao7, cap7, rfl, h6⟩
        have hl1 : L1.length ≤ 1000 := by rw [← HL1.out, List.length_append, List.length_take]; have := HA.out.2.1; simp; omega
        obtain ⟨v7, w7, hrun7, h7⟩ := appN_sep 26 (ao := ao7) (cap := cap7) (U := U) h6.third.swap (by simp) hl1 (by have := HU.out.2.1; omega)
        obtain ⟨ao8, cap8, rfl⟩ := h7.sliceAt
        have K7 : Hid (Sep w r w7 [trT p v S, lstS (.slice ao8 (L1 ++ U).length cap8) (L1 ++ U), lstS (.slice (some ⟨b, 0, none⟩) A.length cap3) A]) := h7.swap.drop.swap
        have HM2 : Hid (L1 ++ U = A.take M) := by
          rw [← HL1.out]
          exact HU.out.2.2
        have HRun7 : Hid _ := hrun7
        clear hrun7 h7 h6 hl1 K5
        obtain ⟨L2, HL2⟩ : ∃ L2, Hid (L1 ++ U = L2) := ⟨_, rfl⟩
        rw [HL2.out] at HRun7 K7 HM2
        go_wp2_with (at_builtin; refine wpList_append_run rfl (.tmp 40) (.tmp 46) _ _ rfl _ _ _ _ rfl rfl HRun7.out ?_)
        go_roundw
        case rel =>
          have := K7.out
          rw [HM2.out] at this
          exact ⟨k + 1, M, _, by have := HK.out; omega, by go_num, by rw [HM2.out], HRt.out, this⟩
        case measure => simp [intOf]; have := HK.out; omega
      · have hpb : parB S (slt S k) = true := by rw [hpar]; simp [hd]
        have HRt : Hid (RootAt S (k + 1) m) := root_no hrt.out hlt hd
        generalize hxx : slt S k = x at *
        clear hxx
        obtain ⟨y, HY⟩ : ∃ y, Hid (parS S x = y) := ⟨_, rfl⟩
        obtain ⟨L0, HL0⟩ : ∃ L0, Hid (A.take m = L0) := ⟨_, rfl⟩
        rw [HL0.out] at KW ⊢
        clear hlt hk hd hpar hrt hx hmm
        go_wp2_with fail
        refine (parent_is x y true KW.out HG.out.1 HY.out hpb).mono ?_
        rintro e w4 ⟨rfl, h4⟩
        have K4 : Hid (Sep w r (w4.alloc (.cells #[.int .i64 y.n, .int .i64 y.i] 31)) [trT p v S, lstS (.slice ao5 L0.length cap5) L0, lstS (.slice (some ⟨b, 0, none⟩) A.length cap3) A]) := h4.below (below_new _ _)
        clear h4 KW z0 z1
        go_wp2
        go_roundw
        case rel =>
          have := K4.out
          rw [← HL0.out] at this
          exact ⟨k + 1, m, _, by have := HK.out; omega, by go_num, by rw [HL0.out], HRt.out, this⟩
        case measure => simp [intOf]; have := HK.out; omega
    · have hkA : ¬ (k : Int) < (A.length : Int) := by have := HA.out.2.2; omega
      have hfin : A.take m = A := by rw [← HA.out.1]; exact root_end hrt.out (by omega)
      rw [hfin] at KW e5
      subst e5
      clear hlt hk hrt hfin hmm
      go_wp2_with fail
      refine (same_is KW.out (ao := ao5) (bo := ao3) (cap := cap5) (cap' := cap3) (A := A) (by simp) (by simp) (by have := HA.out.2.1; omega)).mono ?_
      rintro e w8 ⟨rfl, h8⟩
      have K8 : Hid (Sep w r w8 _) := h8
      clear h8 KW
      go_wp2_with fail
      refine (fixed_sep K8.out).mono ?_
      rintro e w9 ⟨rfl, h9⟩
      go_wp2
      go_ret
      exact ⟨rfl, by rw [HR.out]; exact h9.low⟩
end
open Go.ChangeShapes Go.WideShapes Go.ChangeAt Go.RowKit Go.Joins

/-! ### From the walk to the statement -/
set_option maxRecDepth 100000 in
theorem lifted (os : Os) (started : os.Started) (H : Type) (enc : TypeId × Value → H) :
    ReturnsInHanded {} Try.checked os 8 .any (Rows.treeRootsSpec.pre6 enc Try.prog Try.f8 Rows.treeRootsRow.domain false) (Rows.treeRootsSpec.post enc Try.prog Try.f8 false true false false) := by
  have hdec : DecidableEq Sl := fun a b => Classical.propDecidable (a = b)
  refine returnsInHanded_of_change (C := Try.checked) own started (by kernel_rfl) Try.func8
    (ChangeSpec.witness6 (enc := enc) (C := Try.checked) false ⟨#[], #[.slice none 0 0], []⟩ 8 (by kernel_rfl) (by kernel_rfl) (by kernel_rfl) (by kernel_rfl)) ?_
  intro W base args ds gs before hval0 hW hcnd _
  have hval : ∀ (j : Nat) t v, Try.f8.params[j]? = some t → args[j]? = some v → Value.okWide Try.prog W .any base t v := hval0
  have hW' := hW
  obtain ⟨p, q, hA0, hV, rfl, hfz, hnd⟩ := hW
  have hA : DataW.TrodAll enc Try.prog W 0 (fun _ => true) true Try.f8.params.toList args.toList ds p := hA0
  rw [Try.params8] at hA hval
  obtain ⟨v0, vs0, d0, ds0, p0, q0, hargs, rfl, rfl, h0, r0⟩ := trodAll_cons hA
  obtain ⟨rfl, rfl, rfl⟩ := trodAll_nil r0
  obtain rfl : args = #[v0] := by cases args; simp_all
  obtain ⟨rfl, rfl⟩ := trodVars_none hV
  have k0 := h0
  have lt0 : ∀ x ∈ p0, x.block < W.heap.size := by obtain ⟨m, hm⟩ := k0; exact DataW.trod_lt m _ _ _ hm
  obtain ⟨a0, l0, c0, rfl, t0, s0⟩ := open_ops (hval 0 22 v0 rfl rfl) h0
  clear hA0 hval0
  refine (walk a0 l0 c0 W t0 s0).mono fun e W' ⟨he, bel⟩ => ?_
  subst he
  exact ⟨_, rfl, _, _, _, [], _, [], hW', trodAll_mk1 (shut_bool Try.underlying4 _), (trodAll_cons_mk (Below.trod laidOut (by kernel_rfl) (of_decide_eq_true (by kernel_rfl)) k0 bel lt0) trodAll_mk0), rfl, bel.frame _, fun h => by cases h⟩
theorem over : Rows.treeRootsRow.holds Try.pinned (OpenSpec.ofChange Rows.treeRootsSpec) :=
  OpenClaim.holds_of_wide 8 Try.f8 rfl rfl rfl rfl rfl rfl rfl ⟨rfl, rfl, rfl, rfl, rfl⟩ rfl rfl rfl rfl rfl (by kernel_rfl) Try.func8 (by kernel_rfl)
    (of_decide_eq_true (by kernel_rfl)) (by unfold Func.isWrapper; first | (rw [if_pos (by decide +kernel)]; kernel_rfl) | (rw [if_neg (by decide +kernel)]; exact ⟨rfl, rfl⟩))
    (fun os started H enc _ => lifted os started H enc)
end Go.Proofs.Ythfoeppcageneaa.treeRoots
namespace Go.Proofs.Ythfoeppcageneaa
/-- THE STATEMENT. -/
theorem treeRoots_said : Rows.TreeRootsSaid := treeRoots.over
#print axioms treeRoots_said
end Go.Proofs.Ythfoeppcageneaa
