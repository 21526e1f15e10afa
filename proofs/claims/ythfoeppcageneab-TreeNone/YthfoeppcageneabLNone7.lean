/-
  TreeNone answers true for every input, and leaves it; no condition of ours.
-/
import Derived.Test.YthfoeppcageneabTLaw
namespace Go.Proofs.Ythfoeppcageneab.treeNone
open Go.RowKit Go.Deep Go.Shelf
set_option linter.unusedSectionVars false
section
variable [DecidableEq Sl]
set_option maxHeartbeats 8000000 in
set_option maxRecDepth 100000 in
theorem walk (ao : Option Addr) (X : List Oc) (cap : Nat) (s : Sl) (w : World) (hX : Script w ao X) (_hl : X.length ≤ 9223372036854775807) (_ht : True) :
    Calls Try.prog 3 #[.slice ao X.length cap, encS s] w fun e w' => e = .returned (.bool true) ∧ Below w.heap.size w w' := by
  have HX : Hid (Script w ao X) := hX
  obtain ⟨r, HR⟩ : ∃ r, Hid (w.heap.size = r) := ⟨_, rfl⟩
  obtain ⟨q, HQ⟩ : ∃ q, Hid (w.heap.size = q) := ⟨_, rfl⟩
  have H1 : Hid (Sep w r (w.alloc (objS s)) [blk q (objS s)]) := by
    have := (sep_nil w).box (objS s)
    rw [HR.out] at this
    rw [← HQ.out, HR.out]
    exact this
  clear hX
  simp only [encS, objS] at *
  go_enter Try.func3, Try.ntmps3
  go_wp2_with fail
  rw [HQ.out]
  refine (laid_sep ao X cap H1.out HX.out HR.out).mono ?_
  rintro e w2 ⟨p, v, S, rfl, hS40, hgood, h2⟩
  have K2 : Hid (Sep w r w2 [trT p v S, blk q (objS s)]) := h2
  have HG : Hid (S.length ≤ 1000 ∧ Good S) := ⟨by omega, hgood⟩
  clear h2 H1 hS40 hgood
  go_wp2_with fail
  refine (all_sep K2.out HG.out.1).mono ?_
  rintro e w3 ⟨ao3, cap3, rfl, h3⟩
  obtain ⟨A, HA⟩ : ∃ A, Hid (allS S = A ∧ A.length ≤ 1000) := ⟨_, rfl, by rw [all_len]; exact HG.out.1⟩
  rw [HA.out.1] at h3 ⊢
  have K3 : Hid (Sep w r w3 [trT p v S, lstS (.slice ao3 A.length cap3) A, blk q (objS s)]) := h3
  clear h3 K2
  obtain ⟨s0, s1⟩ := K3.out.slotAt (q := q) (s := s) (by simp)
  go_wp2_with fail
  refine (among_sep s K3.out (ao := ao3) (cap := cap3) (A := A) (n := A.length) (by simp) rfl HA.out.2).mono ?_
  rintro e w4 ⟨rfl, h4⟩
  have K4 : Hid (Sep w r w4 [trT p v S, lstS (.slice ao3 A.length cap3) A, blk q (objS s)]) := h4
  clear h4 K3 s0 s1
  by_cases hm : s ∈ A
  · have e4 : amongB A s = true := decide_eq_true hm
    rw [e4]
    clear hm
    go_wp2_with fail
    refine (fixed_sep K4.out).mono ?_
    rintro e w5 ⟨rfl, h5⟩
    go_wp2
    go_ret
    exact ⟨rfl, by rw [HR.out]; exact h5.low⟩
  · have e4 : amongB A s = false := decide_eq_false hm
    rw [e4]
    have hh : hasB S s = false := by
      rw [← HA.out.1, mem_all] at hm
      simpa using hm
    have E : Hid (parS S s = no ∧ parB S s = false ∧ takeE S s = 71 ∧ takeS S s = S ∧ moveE S s ⟨0, -5⟩ = 71 ∧ moveS S s ⟨0, -5⟩ = S ∧ addE S s ⟨0, -6⟩ = 71 ∧ addS S s ⟨0, -6⟩ = S ∧ underS S s = []) := by
      unfold parS parB parO takeE takeS moveE moveS addE addS underS
      simp [hh]
      exact trivial
    clear hm hh
    obtain ⟨s0, s1⟩ := K4.out.slotAt (q := q) (s := s) (by simp)
    go_wp2_with fail
    refine (parent_sep s K4.out HG.out.1).mono ?_
    rintro e w5 ⟨he, h5⟩
    rw [E.out.1, E.out.2.1] at he
    obtain rfl : e = .returned (.tuple #[.agg #[.int .i64 0, .int .i64 0], .bool false]) := he
    have K5 : Hid (Sep w r (w5.alloc (.cells #[.int .i64 0, .int .i64 0] 24)) [trT p v S, lstS (.slice ao3 A.length cap3) A, blk q (objS s)]) := h5.below (below_new _ _)
    clear h5 K4 s0 s1
    go_wp2
    generalize w5.alloc _ = w6 at *
    have hS := K5.out.slotAt (q := q) (s := s) (by simp)
    have C1 : Hid (∀ W, Sep w r W [trT p v S, lstS (.slice ao3 A.length cap3) A, blk q (objS s)] → Calls Try.prog 9 #[.pointer (some ⟨p, 0, none⟩), .agg #[.int .i64 s.n, .int .i64 s.i]] W fun e w' => e = .returned (.int .i64 71) ∧ ∃ v', Sep w r w' [trT p v' S, lstS (.slice ao3 A.length cap3) A, blk q (objS s)]) := fun W h => by
      have := take_sep s h HG.out.1
      rw [E.out.2.2.1, E.out.2.2.2.1] at this
      exact this
    have C2 : Hid (∀ W v, Sep w r W [trT p v S, lstS (.slice ao3 A.length cap3) A, blk q (objS s)] → Calls Try.prog 10 #[.pointer (some ⟨p, 0, none⟩), .agg #[.int .i64 s.n, .int .i64 s.i], .agg #[.int .i64 0, .int .i64 (-5)]] W fun e w' => e = .returned (.int .i64 71) ∧ ∃ v', Sep w r w' [trT p v' S, lstS (.slice ao3 A.length cap3) A, blk q (objS s)]) := fun W v h => by
      have := move_sep s ⟨0, -5⟩ h HG.out.1
      rw [E.out.2.2.2.2.1, E.out.2.2.2.2.2.1] at this
      exact this
    have C3 : Hid (∀ W v, Sep w r W [trT p v S, lstS (.slice ao3 A.length cap3) A, blk q (objS s)] → Calls Try.prog 11 #[.pointer (some ⟨p, 0, none⟩), .agg #[.int .i64 s.n, .int .i64 s.i], .agg #[.int .i64 0, .int .i64 (-6)]] W fun e w' => e = .returned (.int .i64 71) ∧ ∃ v', Sep w r w' [trT p v' S, lstS (.slice ao3 A.length cap3) A, blk q (objS s)]) := fun W v h => by
      have := add_sep s ⟨0, -6⟩ h HG.out.1
      rw [E.out.2.2.2.2.2.2.1, E.out.2.2.2.2.2.2.2.1] at this
      exact this
    go_region_held3 (fun W => W.cell? ⟨q, 0, none⟩ = some (.int .i64 s.n) ∧ W.cell? ⟨q, 1, none⟩ = some (.int .i64 s.i)) ((first | with_reducible assumption | with_reducible exact g3.slotAt (q := q) (s := s) (by simp) | with_reducible exact g2.slotAt (q := q) (s := s) (by simp) | with_reducible exact g1.slotAt (q := q) (s := s) (by simp) | with_reducible exact K5.out.drew.slotAt (q := q) (s := s) (by simp)))
      (first | (go_at_call 11; with_reducible refine Calls.mono (C3.out _ _ g2) ?_; rintro e u3 ⟨rfl, v3, g3⟩) | (go_at_call 10; with_reducible refine Calls.mono (C2.out _ _ g1) ?_; rintro e u2 ⟨rfl, v2, g2⟩) | (go_at_call 9; with_reducible refine Calls.mono (C1.out _ K5.out.drew) ?_; rintro e u1 ⟨rfl, v1, g1⟩))
    have K6 : Hid (Sep w r u3 [trT p v3 S, lstS (.slice ao3 A.length cap3) A, blk q (objS s)]) := g3
    clear g1 g2 g3 hS K5 C1 C2 C3
    obtain ⟨s0, s1⟩ := K6.out.slotAt (q := q) (s := s) (by simp)
    go_wp2_with fail
    refine (under_sep s K6.out HG.out.1).mono ?_
    rintro e w7 ⟨ao7, cap7, rfl, h7⟩
    rw [E.out.2.2.2.2.2.2.2.2] at h7 ⊢
    have K7 : Hid (Sep w r w7 [trT p v3 S, lstS (.slice ao7 0 cap7) [], lstS (.slice ao3 A.length cap3) A, blk q (objS s)]) := h7
    clear h7 K6 s0 s1
    go_wp2_with fail
    refine (all_sep K7.out HG.out.1).mono ?_
    rintro e w8 ⟨ao8, cap8, rfl, h8⟩
    rw [HA.out.1] at h8 ⊢
    have K8 : Hid (Sep w r w8 [trT p v3 S, lstS (.slice ao8 A.length cap8) A, lstS (.slice ao7 0 cap7) [], lstS (.slice ao3 A.length cap3) A, blk q (objS s)]) := h8
    clear h8 K7
    go_wp2_with fail
    refine (same_sep K8.out (ao := ao8) (bo := ao3) (cap := cap8) (cap' := cap3) (A := A) (B := A) (n := A.length) (m := A.length) (by simp) (by simp) rfl rfl HA.out.2).mono ?_
    rintro e w9 ⟨rfl, h9⟩
    have e9 : sameB A A = true := by simp [sameB]
    rw [e9]
    have K9 : Hid (Sep w r w9 _) := h9
    clear h9 K8
    go_wp2_with fail
    refine (fixed_sep K9.out).mono ?_
    rintro e w10 ⟨rfl, h10⟩
    go_wp2
    go_ret
    exact ⟨rfl, by rw [HR.out]; exact h10.low⟩
end
open Go.ChangeShapes Go.WideShapes Go.ChangeAt Go.RowKit Go.Joins

/-! ### From the walk to the statement -/
set_option maxRecDepth 100000 in
theorem lifted (os : Os) (started : os.Started) (H : Type) (enc : TypeId × Value → H) :
    ReturnsInHanded {} Try.checked os 3 .any (Rows.treeNoneSpec.pre6 enc Try.prog Try.f3 Rows.treeNoneRow.domain false) (Rows.treeNoneSpec.post enc Try.prog Try.f3 false true false false) := by
  have hdec : DecidableEq Sl := fun a b => Classical.propDecidable (a = b)
  refine returnsInHanded_of_change (C := Try.checked) own started (by kernel_rfl) Try.func3
    (ChangeSpec.witness6 (enc := enc) (C := Try.checked) false ⟨#[], #[.slice none 0 0, .agg #[.int .i64 0, .int .i64 0]], []⟩ 8 (by kernel_rfl) (by kernel_rfl) (by kernel_rfl) (by kernel_rfl)) ?_
  intro W base args ds gs before hval0 hW hcnd _
  have hval : ∀ (j : Nat) t v, Try.f3.params[j]? = some t → args[j]? = some v → Value.okWide Try.prog W .any base t v := hval0
  have hW' := hW
  obtain ⟨p, q, hA0, hV, rfl, hfz, hnd⟩ := hW
  have hA : DataW.TrodAll enc Try.prog W 0 (fun _ => true) true Try.f3.params.toList args.toList ds p := hA0
  rw [Try.params3] at hA hval
  obtain ⟨v0, vs0, d0, ds0, p0, q0, hargs, rfl, rfl, h0, r0⟩ := trodAll_cons hA
  obtain ⟨v1, vs1, d1, ds1, p1, q1, rfl, rfl, rfl, h1, r1⟩ := trodAll_cons r0
  obtain ⟨rfl, rfl, rfl⟩ := trodAll_nil r1
  obtain rfl : args = #[v0, v1] := by cases args; simp_all
  obtain ⟨rfl, rfl⟩ := trodVars_none hV
  have k0 := h0
  have lt0 : ∀ x ∈ p0, x.block < W.heap.size := by obtain ⟨m, hm⟩ := k0; exact DataW.trod_lt m _ _ _ hm
  obtain ⟨a0, l0, c0, rfl, t0, s0⟩ := open_ops (hval 0 22 v0 rfl rfl) h0
  have k1 := h1
  have lt1 : ∀ x ∈ p1, x.block < W.heap.size := by obtain ⟨m, hm⟩ := k1; exact DataW.trod_lt m _ _ _ hm
  obtain ⟨a1, rfl, w1⟩ := open_slot (hval 1 24 v1 rfl rfl) h1
  clear hA0 hval0
  refine (walk a0 l0 c0 a1 W t0 s0 w1).mono fun e W' ⟨he, bel⟩ => ?_
  subst he
  exact ⟨_, rfl, _, _, _, [], _, [], hW', trodAll_mk1 (shut_bool Try.underlying4 _), (trodAll_cons_mk (Below.trod laidOut (by kernel_rfl) (of_decide_eq_true (by kernel_rfl)) k0 bel lt0) (trodAll_cons_mk (Below.trod laidOut (by kernel_rfl) (of_decide_eq_true (by kernel_rfl)) k1 bel lt1) trodAll_mk0)), rfl, bel.frame _, fun h => by cases h⟩
theorem over : Rows.treeNoneRow.holds Try.pinned (OpenSpec.ofChange Rows.treeNoneSpec) :=
  OpenClaim.holds_of_wide 3 Try.f3 rfl rfl rfl rfl rfl rfl rfl ⟨rfl, rfl, rfl, rfl, rfl⟩ rfl rfl rfl rfl rfl (by kernel_rfl) Try.func3 (by kernel_rfl)
    (of_decide_eq_true (by kernel_rfl)) (by unfold Func.isWrapper; first | (rw [if_pos (by decide +kernel)]; kernel_rfl) | (rw [if_neg (by decide +kernel)]; exact ⟨rfl, rfl⟩))
    (fun os started H enc _ => lifted os started H enc)
end Go.Proofs.Ythfoeppcageneab.treeNone
namespace Go.Proofs.Ythfoeppcageneab
/-- THE STATEMENT. -/
theorem treeNone_said : Rows.TreeNoneSaid := treeNone.over
#print axioms treeNone_said
end Go.Proofs.Ythfoeppcageneab
