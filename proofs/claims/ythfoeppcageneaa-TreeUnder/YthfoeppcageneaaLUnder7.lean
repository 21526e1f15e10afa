/-
  TreeUnder answers true for every input, and leaves it; no condition of ours.
-/
import Derived.Test.YthfoeppcageneaaTQuiet
import Derived.BigQuiet
namespace Go.Proofs.Ythfoeppcageneaa.treeUnder
open Go.RowKit Go.Deep Go.Shelf
set_option linter.unusedSectionVars false
section
variable [DecidableEq Sl]
section
variable {w : World} {r p q8 b i k : Nat} {v : Value} {S : St} {x z t : Sl} {U A : List Sl} {ao6 : Option Addr} {cap6 cap3 : Nat} {W W' : World}
theorem seven (hz : A[k]? = some z) (hx : A[i]? = some x) (h : Sep w r W [trT p v S, blk q8 (objS t), lstS (.slice ao6 U.length cap6) U, lstS (.slice (some ⟨b, 0, none⟩) A.length cap3) A]) : W.cell? ⟨b, k * 2, none⟩ = some (.int .i64 z.n) ∧ W.cell? ⟨b, k * 2 + 1, none⟩ = some (.int .i64 z.i) ∧ W.cell? ⟨q8, 0, none⟩ = some (.int .i64 t.n) ∧ W.cell? ⟨q8, 1, none⟩ = some (.int .i64 t.i) ∧ W.cell? ⟨b, i * 2, none⟩ = some (.int .i64 x.n) ∧ W.cell? ⟨b, i * 2 + 1, none⟩ = some (.int .i64 x.i) ∧ Sep w r W [trT p v S, blk q8 (objS t), lstS (.slice ao6 U.length cap6) U, lstS (.slice (some ⟨b, 0, none⟩) A.length cap3) A] := by
  obtain ⟨b1, e1, c0, c1⟩ := h.listAt (ao := some ⟨b, 0, none⟩) (n := A.length) (cap := cap3) (A := A) (by simp) hz
  cases e1
  obtain ⟨b2, e2, d0, d1⟩ := h.listAt (ao := some ⟨b, 0, none⟩) (n := A.length) (cap := cap3) (A := A) (by simp) hx
  cases e2
  obtain ⟨t0, t1⟩ := h.slotAt (q := q8) (s := t) (by simp)
  exact ⟨c0, c1, t0, t1, d0, d1, h⟩
theorem seven_sep (h : W.cell? ⟨b, k * 2, none⟩ = some (.int .i64 z.n) ∧ W.cell? ⟨b, k * 2 + 1, none⟩ = some (.int .i64 z.i) ∧ W.cell? ⟨q8, 0, none⟩ = some (.int .i64 t.n) ∧ W.cell? ⟨q8, 1, none⟩ = some (.int .i64 t.i) ∧ W.cell? ⟨b, i * 2, none⟩ = some (.int .i64 x.n) ∧ W.cell? ⟨b, i * 2 + 1, none⟩ = some (.int .i64 x.i) ∧ Sep w r W [trT p v S, blk q8 (objS t), lstS (.slice ao6 U.length cap6) U, lstS (.slice (some ⟨b, 0, none⟩) A.length cap3) A]) : Sep w r W [trT p v S, blk q8 (objS t), lstS (.slice ao6 U.length cap6) U, lstS (.slice (some ⟨b, 0, none⟩) A.length cap3) A] := h.2.2.2.2.2.2
end
set_option maxHeartbeats 16000000 in
set_option maxRecDepth 100000 in
theorem walk (ao : Option Addr) (X : List Oc) (cap : Nat) (w : World) (hX : Script w ao X) (_hl : X.length ≤ 9223372036854775807) :
    Calls Try.prog 4 #[.slice ao X.length cap] w fun e w' => e = .returned (.bool true) ∧ Below w.heap.size w w' := by
  have HX : Hid (Script w ao X) := hX
  obtain ⟨r, HR⟩ : ∃ r, Hid (w.heap.size = r) := ⟨_, rfl⟩
  have H1 : Hid (Sep w r w []) := by
    rw [← HR.out]
    exact sep_nil w
  clear hX
  go_enter Try.func4, Try.ntmps4
  go_wp2_with fail
  refine (laid_sep ao X cap H1.out HX.out HR.out).mono ?_
  rintro e w2 ⟨p, v, S, rfl, hS40, hgood, h2⟩
  have K2 : Hid (Sep w r w2 [trT p v S]) := h2
  have HG : Hid (S.length ≤ 1000 ∧ S.length ≤ 40 ∧ Good S) := ⟨by omega, hS40, hgood⟩
  obtain ⟨A, HA⟩ : ∃ A, Hid (allS S = A ∧ A.length ≤ 1000 ∧ A.length = S.length) := ⟨_, rfl, by rw [all_len]; omega, all_len S⟩
  clear h2 H1 hS40 hgood
  go_wp2_with fail
  refine (all_is A K2.out HG.out.1 HA.out.1).mono ?_
  rintro e w3 ⟨ao3, cap3, rfl, h3⟩
  have K3 : Hid (Sep w r w3 [trT p v S, lstS (.slice ao3 A.length cap3) A]) := h3
  clear h3 K2
  have hA1000 : (A.length : Int) ≤ 1000 := by have := HA.out.2.1; omega
  go_wp2
  go_loopw [5] (fun s5 wr => ∃ i : Nat, i ≤ S.length ∧ s5 = .int .i64 i ∧ Sep w r wr [trT p v S, lstS (.slice ao3 A.length cap3) A]) (fun s5 _ => S.length - (intOf s5).toNat)
  case atStart => exact ⟨0, Nat.zero_le _, rfl, K3.out⟩
  case round =>
    clear K3
    obtain ⟨i, hi, rfl, hh⟩ := hrel
    have KW : Hid (Sep w r wr [trT p v S, lstS (.slice ao3 A.length cap3) A]) := hh
    clear hh
    by_cases hlt : i < S.length
    · have hiA : (i : Int) < (A.length : Int) := by have := HA.out.2.2; omega
      have hxA : A[i]? = some (slt S i) := by rw [← HA.out.1]; exact all_get hlt
      obtain ⟨b, rfl, z0, z1⟩ := KW.out.listAt (ao := ao3) (n := A.length) (cap := cap3) (A := A) (by simp) hxA
      have HF : Hid (∀ k, k < S.length → decide (slt S k ∈ underS S (slt S i)) = (parB S (slt S k) && (decide (parS S (slt S k) = slt S i) || decide (parS S (slt S k) ∈ underS S (slt S i)))) ∧ (slt S i = slt S k ↔ i = k)) := fun k hk => ⟨under_facts HG.out.2.2 hlt hk, fun e => HG.out.2.2.one i k hlt hk e, fun e => by rw [e]⟩
      have HN : Hid (amongB (underS S (slt S i)) (slt S i) = false) := decide_eq_false (under_self HG.out.2.2 hlt)
      have HU0 := under_le S (slt S i)
      have HI : Hid (i < S.length) := hlt
      clear hlt hi
      generalize slt S i = x at *
      obtain ⟨U, HU⟩ : ∃ U, Hid (underS S x = U ∧ U.length ≤ 1000) := ⟨_, rfl, Nat.le_trans HU0 HG.out.1⟩
      rw [HU.out.1] at HF HN
      have HXA : Hid (A[i]? = some x) := hxA
      clear HU0 hxA
      go_wp2_with fail
      refine (under_is x U KW.out HG.out.1 HU.out.1).mono ?_
      rintro e w4 ⟨ao6, cap6, rfl, h4⟩
      have K4 : Hid (Sep w r w4 [trT p v S, lstS (.slice ao6 U.length cap6) U, lstS (.slice (some ⟨b, 0, none⟩) A.length cap3) A]) := h4
      clear h4 KW z0 z1
      go_wp2
      go_loopw [7] (fun s7 wr => ∃ k : Nat, k ≤ S.length ∧ s7 = .int .i64 k ∧ Sep w r wr [trT p v S, lstS (.slice ao6 U.length cap6) U, lstS (.slice (some ⟨b, 0, none⟩) A.length cap3) A]) (fun s7 _ => S.length - (intOf s7).toNat)
      case atStart => exact ⟨0, Nat.zero_le _, rfl, K4.out⟩
      case round =>
        clear K4
        obtain ⟨k, hk, rfl, hh⟩ := hrel
        have KW : Hid (Sep w r wr [trT p v S, lstS (.slice ao6 U.length cap6) U, lstS (.slice (some ⟨b, 0, none⟩) A.length cap3) A]) := hh
        clear hh
        by_cases hlt : k < S.length
        · have hkA : (k : Int) < (A.length : Int) := by have := HA.out.2.2; omega
          have hzA : A[k]? = some (slt S k) := by rw [← HA.out.1]; exact all_get hlt
          obtain ⟨b', eb, z0, z1⟩ := KW.out.listAt (ao := some ⟨b, 0, none⟩) (n := A.length) (cap := cap3) (A := A) (by simp) hzA
          cases eb
          have HKK : Hid (k < S.length) := hlt
          obtain ⟨hf, ho⟩ := HF.out k hlt
          clear hlt hk
          generalize slt S k = z at *
          obtain ⟨t, γ, HQ⟩ : ∃ t γ, Hid (parS S z = t ∧ parB S z = γ) := ⟨_, _, rfl, rfl⟩
          rw [HQ.out.1, HQ.out.2] at hf
          have HZA : Hid (A[k]? = some z) := hzA
          clear hzA
          go_wp2_with fail
          refine (parent_is z t γ KW.out HG.out.1 HQ.out.1 HQ.out.2).mono ?_
          rintro e w5 ⟨rfl, h5⟩
          have j5 : Hid _ := h5.boxed (objS t)
          clear h5 KW z0 z1
          simp only [objS] at j5
          go_wp2
          generalize w5.alloc _ = w6 at *
          generalize w5.heap.size = q8 at *
          have K6 : Hid (Sep w r w6 [trT p v S, blk q8 (objS t), lstS (.slice ao6 U.length cap6) U, lstS (.slice (some ⟨b, 0, none⟩) A.length cap3) A]) := j5
          clear j5
          have hS := seven HZA.out HXA.out K6.out
          have lb : b < w6.heap.size := (World.ownsRow.lt (K6.out.each _ (by simp : lstS (.slice (some ⟨b, 0, none⟩) A.length cap3) A ∈ _)).1 b rfl).2
          have lq : q8 < w6.heap.size := (blk q8 (objS t)).lt w6 (K6.out.each _ (by simp)).1 q8 rfl
          have g0 := cell_grown (a := ⟨b, k * 2, none⟩) lb hS.1
          have g1 := cell_grown (a := ⟨b, k * 2 + 1, none⟩) lb hS.2.1
          have g2 := cell_grown (a := ⟨q8, 0, none⟩) lq hS.2.2.1
          have g3 := cell_grown (a := ⟨q8, 1, none⟩) lq hS.2.2.2.1
          have g4 := cell_grown (a := ⟨b, i * 2, none⟩) lb hS.2.2.2.2.1
          have g5 := cell_grown (a := ⟨b, i * 2 + 1, none⟩) lb hS.2.2.2.2.2.1
          have C : Hid (∀ (s : Sl) (n : Nat) (os : Array Obj), Calls Try.prog 22 #[.slice ao6 U.length cap6, .agg #[.int .i64 s.n, .int .i64 s.i]] (Sort.grow (w6.drewN n) os) fun e w' => e = .returned (.bool (amongB U s)) ∧ ∃ q os', w' = Sort.grow ((Sort.grow (w6.drewN n) os).drewN q) os') := fun s n os => among_grown ao6 cap6 U s _ ((RowS.see (K6.out.each _ (by simp : lstS (.slice ao6 U.length cap6) U ∈ _)).1).below (below_grown _ _ _)) HU.out.2
          clear hS lb lq
          have mixed : Try.prog.follows Departure.mixedOrders = true := by kernel_rfl
          have hq1 := fun W => eq_slots W t x
          have hq2 := fun W => eq_slots W x z
          try simp only [List.append_eq, List.cons_append, List.nil_append]
          by_cases hik : i = k
          · have hne : ((i : Int) != (k : Int)) = false := by rw [bne_eq_false_iff_eq]; omega
            clear hik
            cases γ with
            | false =>
              have hza : amongB U z = false := by simpa [amongB] using hf
              have hb0 : (false != false) = false := rfl
              clear hf ho HF
              refine wp_region_quiet_grown (by assumption) (by kernel_rfl) ?_
              repeat (go_big_quiet_step ((go_at_call 22; exact Calls.grown_of (C.out _ _ _))))
              refine wpQuiet_nil ?_
              intro _ hw'
              obtain ⟨⟨nq, osq⟩, hw''⟩ := hw'
              subst hw''
              have KF : Hid (Sep w r _ [trT p v S, blk q8 (objS t), lstS (.slice ao6 U.length cap6) U, lstS (.slice (some ⟨b, 0, none⟩) A.length cap3) A]) := K6.out.below (below_grown _ nq osq)
              go_wp2
              go_roundw
              case rel => exact ⟨k + 1, by have := HKK.out; omega, by go_num, KF.out.drop2⟩
              case measure => simp [intOf]; have := HKK.out; omega
            | true =>
              by_cases htx : t = x
              · rw [decide_eq_true htx] at hq1 hf
                have hza : amongB U z = true := by simpa [amongB] using hf
                clear htx
                have hb0 : (true != true) = false := rfl
                clear hf ho HF
                refine wp_region_quiet_grown (by assumption) (by kernel_rfl) ?_
                repeat (go_big_quiet_step ((go_at_call 22; exact Calls.grown_of (C.out _ _ _))))
                refine wpQuiet_nil ?_
                intro _ hw'
                obtain ⟨⟨nq, osq⟩, hw''⟩ := hw'
                subst hw''
                have KF : Hid (Sep w r _ [trT p v S, blk q8 (objS t), lstS (.slice ao6 U.length cap6) U, lstS (.slice (some ⟨b, 0, none⟩) A.length cap3) A]) := K6.out.below (below_grown _ nq osq)
                go_wp2
                go_roundw
                case rel => exact ⟨k + 1, by have := HKK.out; omega, by go_num, KF.out.drop2⟩
                case measure => simp [intOf]; have := HKK.out; omega
              · rw [decide_eq_false htx] at hq1 hf
                have hza : amongB U z = amongB U t := by simpa [amongB] using hf
                clear htx
                have hb0 : (amongB U t != amongB U t) = false := by simp
                clear hf ho HF
                refine wp_region_quiet_grown (by assumption) (by kernel_rfl) ?_
                repeat (go_big_quiet_step ((go_at_call 22; exact Calls.grown_of (C.out _ _ _))))
                refine wpQuiet_nil ?_
                intro _ hw'
                obtain ⟨⟨nq, osq⟩, hw''⟩ := hw'
                subst hw''
                have KF : Hid (Sep w r _ [trT p v S, blk q8 (objS t), lstS (.slice ao6 U.length cap6) U, lstS (.slice (some ⟨b, 0, none⟩) A.length cap3) A]) := K6.out.below (below_grown _ nq osq)
                go_wp2
                go_roundw
                case rel => exact ⟨k + 1, by have := HKK.out; omega, by go_num, KF.out.drop2⟩
                case measure => simp [intOf]; have := HKK.out; omega
          · have hne : ((i : Int) != (k : Int)) = true := by rw [bne_iff_ne]; omega
            have e2 : decide (x = z) = false := decide_eq_false fun e => hik (ho.1 e)
            rw [e2] at hq2
            clear hik
            cases γ with
            | false =>
              have hza : amongB U z = false := by simpa [amongB] using hf
              have hb0 : (false != false) = false := rfl
              clear hf ho HF
              refine wp_region_quiet_grown (by assumption) (by kernel_rfl) ?_
              repeat (go_big_quiet_step ((go_at_call 22; exact Calls.grown_of (C.out _ _ _))))
              refine wpQuiet_nil ?_
              intro _ hw'
              obtain ⟨⟨nq, osq⟩, hw''⟩ := hw'
              subst hw''
              have KF : Hid (Sep w r _ [trT p v S, blk q8 (objS t), lstS (.slice ao6 U.length cap6) U, lstS (.slice (some ⟨b, 0, none⟩) A.length cap3) A]) := K6.out.below (below_grown _ nq osq)
              go_wp2
              go_roundw
              case rel => exact ⟨k + 1, by have := HKK.out; omega, by go_num, KF.out.drop2⟩
              case measure => simp [intOf]; have := HKK.out; omega
            | true =>
              by_cases htx : t = x
              · rw [decide_eq_true htx] at hq1 hf
                have hza : amongB U z = true := by simpa [amongB] using hf
                clear htx
                have hb0 : (true != true) = false := rfl
                clear hf ho HF
                refine wp_region_quiet_grown (by assumption) (by kernel_rfl) ?_
                repeat (go_big_quiet_step ((go_at_call 22; exact Calls.grown_of (C.out _ _ _))))
                refine wpQuiet_nil ?_
                intro _ hw'
                obtain ⟨⟨nq, osq⟩, hw''⟩ := hw'
                subst hw''
                have KF : Hid (Sep w r _ [trT p v S, blk q8 (objS t), lstS (.slice ao6 U.length cap6) U, lstS (.slice (some ⟨b, 0, none⟩) A.length cap3) A]) := K6.out.below (below_grown _ nq osq)
                go_wp2
                go_roundw
                case rel => exact ⟨k + 1, by have := HKK.out; omega, by go_num, KF.out.drop2⟩
                case measure => simp [intOf]; have := HKK.out; omega
              · rw [decide_eq_false htx] at hq1 hf
                have hza : amongB U z = amongB U t := by simpa [amongB] using hf
                clear htx
                have hb0 : (amongB U t != amongB U t) = false := by simp
                clear hf ho HF
                refine wp_region_quiet_grown (by assumption) (by kernel_rfl) ?_
                repeat (go_big_quiet_step ((go_at_call 22; exact Calls.grown_of (C.out _ _ _))))
                refine wpQuiet_nil ?_
                intro _ hw'
                obtain ⟨⟨nq, osq⟩, hw''⟩ := hw'
                subst hw''
                have KF : Hid (Sep w r _ [trT p v S, blk q8 (objS t), lstS (.slice ao6 U.length cap6) U, lstS (.slice (some ⟨b, 0, none⟩) A.length cap3) A]) := K6.out.below (below_grown _ nq osq)
                go_wp2
                go_roundw
                case rel => exact ⟨k + 1, by have := HKK.out; omega, by go_num, KF.out.drop2⟩
                case measure => simp [intOf]; have := HKK.out; omega
        · have hkA : ¬ (k : Int) < (A.length : Int) := by have := HA.out.2.2; omega
          clear hlt hk
          obtain ⟨b', eb, z0, z1⟩ := KW.out.listAt (ao := some ⟨b, 0, none⟩) (n := A.length) (cap := cap3) (A := A) (by simp) HXA.out
          cases eb
          go_wp2_with fail
          refine (among_is x false KW.out (ao := ao6) (cap := cap6) (A := U) (by simp) HU.out.2 HN.out).mono ?_
          rintro e w7 ⟨rfl, h7⟩
          have K7 : Hid (Sep w r w7 [trT p v S, lstS (.slice ao6 U.length cap6) U, lstS (.slice (some ⟨b, 0, none⟩) A.length cap3) A]) := h7
          clear h7 KW z0 z1
          go_wp2
          go_roundw
          case rel => exact ⟨i + 1, by have := HI.out; omega, by go_num, K7.out.drop2⟩
          case measure => simp [intOf]; have := HI.out; omega
    · have hiA : ¬ (i : Int) < (A.length : Int) := by have := HA.out.2.2; omega
      clear hlt hi
      go_wp2_with fail
      refine (fixed_sep KW.out).mono ?_
      rintro e w8 ⟨rfl, h8⟩
      go_wp2
      go_ret
      exact ⟨rfl, by rw [HR.out]; exact h8.low⟩
end
open Go.ChangeShapes Go.WideShapes Go.ChangeAt Go.RowKit Go.Joins

/-! ### From the walk to the statement -/
set_option maxRecDepth 100000 in
theorem lifted (os : Os) (started : os.Started) (H : Type) (enc : TypeId × Value → H) :
    ReturnsInHanded {} Try.checked os 4 .any (Rows.treeUnderSpec.pre6 enc Try.prog Try.f4 Rows.treeUnderRow.domain false) (Rows.treeUnderSpec.post enc Try.prog Try.f4 false true false false) := by
  have hdec : DecidableEq Sl := fun a b => Classical.propDecidable (a = b)
  refine returnsInHanded_of_change (C := Try.checked) own started (by kernel_rfl) Try.func4
    (ChangeSpec.witness6 (enc := enc) (C := Try.checked) false ⟨#[], #[.slice none 0 0], []⟩ 8 (by kernel_rfl) (by kernel_rfl) (by kernel_rfl) (by kernel_rfl)) ?_
  intro W base args ds gs before hval0 hW hcnd _
  have hval : ∀ (j : Nat) t v, Try.f4.params[j]? = some t → args[j]? = some v → Value.okWide Try.prog W .any base t v := hval0
  have hW' := hW
  obtain ⟨p, q, hA0, hV, rfl, hfz, hnd⟩ := hW
  have hA : DataW.TrodAll enc Try.prog W 0 (fun _ => true) true Try.f4.params.toList args.toList ds p := hA0
  rw [Try.params4] at hA hval
  obtain ⟨v0, vs0, d0, ds0, p0, q0, hargs, rfl, rfl, h0, r0⟩ := trodAll_cons hA
  obtain ⟨rfl, rfl, rfl⟩ := trodAll_nil r0
  obtain rfl : args = #[v0] := by cases args; simp_all
  obtain ⟨rfl, rfl⟩ := trodVars_none hV
  have k0 := h0
  have lt0 : ∀ x ∈ p0, x.block < W.heap.size := by obtain ⟨m, hm⟩ := k0; exact DataW.trod_lt m _ _ _ hm
  obtain ⟨a0, l0, c0, rfl, t0, s0⟩ := open_ops (hval 0 22 v0 rfl rfl) h0
  clear hA0 hval0
  refine (walk a0 l0 c0 W t0 s0).mono fun e W' ⟨he, bel⟩ => ?_
  subst he
  exact ⟨_, rfl, _, _, _, [], _, [], hW', trodAll_mk1 (shut_bool Try.underlying4 _), (trodAll_cons_mk (Below.trod laidOut (by kernel_rfl) (of_decide_eq_true (by kernel_rfl)) k0 bel lt0) trodAll_mk0), rfl, bel.frame _, fun h => by cases h⟩
theorem over : Rows.treeUnderRow.holds Try.pinned (OpenSpec.ofChange Rows.treeUnderSpec) :=
  OpenClaim.holds_of_wide 4 Try.f4 rfl rfl rfl rfl rfl rfl rfl ⟨rfl, rfl, rfl, rfl, rfl⟩ rfl rfl rfl rfl rfl (by kernel_rfl) Try.func4 (by kernel_rfl)
    (of_decide_eq_true (by kernel_rfl)) (by unfold Func.isWrapper; first | (rw [if_pos (by decide +kernel)]; kernel_rfl) | (rw [if_neg (by decide +kernel)]; exact ⟨rfl, rfl⟩))
    (fun os started H enc _ => lifted os started H enc)
end Go.Proofs.Ythfoeppcageneaa.treeUnder
namespace Go.Proofs.Ythfoeppcageneaa
/-- THE STATEMENT. -/
theorem treeUnder_said : Rows.TreeUnderSaid := treeUnder.over
#print axioms treeUnder_said
end Go.Proofs.Ythfoeppcageneaa
