/-
  TreeTakes answers true for every input, and leaves it; no condition of ours.
-/
import Derived.Test.YthfoeppcageneaaTTwo
namespace Go.Proofs.Ythfoeppcageneaa.treeTakes
open Go.RowKit Go.Deep Go.Shelf
set_option linter.unusedSectionVars false
section
variable [DecidableEq Sl]
set_option maxHeartbeats 8000000 in
set_option maxRecDepth 100000 in
theorem walk (ao : Option Addr) (X : List Oc) (cap : Nat) (n : Int) (w : World) (hX : Script w ao X) (_hl : X.length ≤ 9223372036854775807) (_hn : -9223372036854775808 ≤ n ∧ n ≤ 9223372036854775807) :
    Calls Try.prog 5 #[.slice ao X.length cap, .int .i64 n] w fun e w' => e = .returned (.bool true) ∧ Below w.heap.size w w' := by
  have HX : Hid (Script w ao X) := hX
  obtain ⟨r, HR⟩ : ∃ r, Hid (w.heap.size = r) := ⟨_, rfl⟩
  have H1 : Hid (Sep w r w []) := by
    rw [← HR.out]
    exact sep_nil w
  obtain ⟨m, -, hbits⟩ := mask16 n
  clear hX
  go_enter Try.func5, Try.ntmps5
  go_wp2_with fail
  refine (laid_sep ao X cap H1.out HX.out HR.out).mono ?_
  rintro e w2 ⟨p, v, S, rfl, hS40, hgood, h2⟩
  have K2 : Hid (Sep w r w2 [trT p v S]) := h2
  have HG : Hid (S.length ≤ 1000 ∧ S.length ≤ 40 ∧ Good S) := ⟨by omega, hS40, hgood⟩
  obtain ⟨A, HA⟩ : ∃ A, Hid (allS S = A ∧ A.length ≤ 1000 ∧ A.length = S.length) := ⟨_, rfl, by rw [all_len]; omega, all_len S⟩
  clear h2 H1 hS40 hgood
  go_wp2_with fail
  refine (all_is A K2.out HG.out.1 HA.out.1).mono ?_
  rintro e w3 ⟨ao3, cap3, rfl, h3⟩
  have K3 : Hid (Sep w r w3 [trT p v S, lstS (.slice ao3 A.length cap3) A]) := h3
  clear K2
  clear h3
  have hA3 := HA.out.2.1
  by_cases hA0 : A.length = 0
  · have hz : ((A.length : Int) == 0) = true := by simp [hA0]
    clear hA0
    go_wp2_with fail
    refine (fixed_sep K3.out).mono ?_
    rintro e w9 ⟨rfl, h9⟩
    go_wp2
    go_ret
    exact ⟨rfl, by rw [HR.out]; exact h9.low⟩
  · have hz : ((A.length : Int) == 0) = false := by rw [beq_eq_false_iff_ne]; omega
    obtain ⟨k, hk, hrem⟩ := rem_nat m A.length (by omega)
    have hkz : (k : Int) < (A.length : Int) := by omega
    have hnz : ¬ ((A.length : Int) = 0) := by omega
    have hA1000 : (A.length : Int) ≤ 1000 := by omega
    clear hA0
    have hkS : k < S.length := by have := HA.out.2.2; omega
    have hx : A[k]? = some (slt S k) := by rw [← HA.out.1]; exact all_get hkS
    obtain ⟨b, rfl, z0, z1⟩ := K3.out.listAt (ao := ao3) (n := A.length) (cap := cap3) (A := A) (by simp) hx
    obtain ⟨f1, f2, f3, f4⟩ := takes_facts HG.out.2.2 hkS
    have HT : Hid (∀ i, i < S.length → i ≠ k → parO (takeN S k) (slt S i) = if parO S (slt S i) = some (slt S k) then parO S (slt S k) else parO S (slt S i)) := fun i hi hik => takes_par HG.out.2.2 hkS hi hik
    have HO : Hid (∀ i, i < S.length → (slt S i = slt S k ↔ i = k)) := fun i hi => ⟨fun e => HG.out.2.2.one i k hi hkS e, fun e => by rw [e]⟩
    obtain ⟨C, HC⟩ : ∃ C, Hid (takeN S k = C ∧ C.length ≤ 1000) := ⟨_, rfl, by have := HG.out.2.1; omega⟩
    rw [HC.out.1] at f2 f3 f4 HT
    generalize slt S k = x at *
    obtain ⟨y, β, HP⟩ : ∃ y β, Hid (parS S x = y ∧ parB S x = β) := ⟨_, _, rfl, rfl⟩
    obtain ⟨D, HD⟩ : ∃ D, Hid (allS C = D ∧ D.length = C.length) := ⟨_, rfl, all_len C⟩
    have F : Hid (takeE S x = 0 ∧ takeS S x = C ∧ underS C x = []) := ⟨f1, f2, f4⟩
    have hdl : ((D.length : Int) != (A.length : Int) - 1) = false := by rw [bne_eq_false_iff_eq]; have := HD.out.2; have := HA.out.2.2; omega
    have hwl : IntKind.i64.wrap ((A.length : Int) - 1) = (A.length : Int) - 1 := by rw [IntKind.wrap_i64]; omega
    clear hkS hx f1 f2 f3 f4
    have j4 : Hid _ := K3.out.boxed (objS x)
    obtain ⟨y00, y01⟩ := j4.out.slotAt (q := w3.heap.size) (s := x) (by simp)
    simp only [objS] at j4 y00 y01
    go_wp2_with fail
    generalize w3.alloc _ = v4 at *
    generalize w3.heap.size = q7 at *
    clear y00 y01 z0 z1
    have K4 : Hid (Sep w r v4 [trT p v S, blk q7 (objS x), lstS (.slice (some ⟨b, 0, none⟩) A.length cap3) A]) := j4
    clear j4 K3
    refine (parent_is x y β K4.out HG.out.1 HP.out.1 HP.out.2).mono ?_
    rintro e w5 ⟨rfl, h5⟩
    have j5 : Hid _ := h5.boxed (objS y)
    clear h5 K4
    simp only [objS] at j5
    go_wp2_with fail
    generalize w5.alloc _ = v5 at *
    generalize w5.heap.size = q8 at *
    have K5 : Hid (Sep w r v5 [trT p v S, blk q8 (objS y), blk q7 (objS x), lstS (.slice (some ⟨b, 0, none⟩) A.length cap3) A]) := j5
    clear j5
    refine (copy_sep K5.out HG.out.1).mono ?_
    rintro e w6 ⟨q, vc, rfl, h6⟩
    have K6 : Hid (Sep w r w6 [trT q vc S, trT p v S, blk q8 (objS y), blk q7 (objS x), lstS (.slice (some ⟨b, 0, none⟩) A.length cap3) A]) := h6
    clear K5
    clear h6
    obtain ⟨y00, y01⟩ := K6.out.slotAt (q := q8) (s := y) (by simp)
    obtain ⟨y10, y11⟩ := K6.out.slotAt (q := q7) (s := x) (by simp)
    go_wp2_with fail
    refine (take_is x 0 C K6.out HG.out.1 F.out.1 F.out.2.1).mono ?_
    rintro e w7 ⟨rfl, v7, h7⟩
    clear y00 y01 y10 y11
    have K7 : Hid (Sep w r w7 [trT q v7 C, trT p v S, blk q8 (objS y), blk q7 (objS x), lstS (.slice (some ⟨b, 0, none⟩) A.length cap3) A]) := h7
    clear K6
    clear h7
    obtain ⟨y00, y01⟩ := K7.out.slotAt (q := q8) (s := y) (by simp)
    obtain ⟨y10, y11⟩ := K7.out.slotAt (q := q7) (s := x) (by simp)
    go_wp2_with fail
    refine (all_is D K7.out HC.out.2 HD.out.1).mono ?_
    rintro e w8 ⟨ao8, cap8, rfl, h8⟩
    clear y00 y01 y10 y11
    have K8 : Hid (Sep w r w8 [trT q v7 C, trT p v S, blk q8 (objS y), blk q7 (objS x), lstS (.slice (some ⟨b, 0, none⟩) A.length cap3) A]) := h8.drop2
    clear K7
    clear h8
    obtain ⟨y00, y01⟩ := K8.out.slotAt (q := q8) (s := y) (by simp)
    obtain ⟨y10, y11⟩ := K8.out.slotAt (q := q7) (s := x) (by simp)
    go_wp2_with fail
    refine (under_is x [] K8.out HC.out.2 F.out.2.2).mono ?_
    rintro e w9 ⟨ao9, cap9, rfl, h9⟩
    clear y00 y01 y10 y11
    have K9 : Hid (Sep w r w9 [trT q v7 C, trT p v S, blk q8 (objS y), blk q7 (objS x), lstS (.slice (some ⟨b, 0, none⟩) A.length cap3) A]) := h9.drop2
    clear K8
    clear h9
    go_wp2
    go_loopw [11] (fun s11 wr => ∃ i : Nat, i ≤ S.length ∧ s11 = .int .i64 i ∧ Sep w r wr [trT q v7 C, trT p v S, blk q8 (objS y), blk q7 (objS x), lstS (.slice (some ⟨b, 0, none⟩) A.length cap3) A]) (fun s11 _ => S.length - (intOf s11).toNat)
    case atStart => exact ⟨0, Nat.zero_le _, rfl, K9.out⟩
    case round =>
      clear K9
      obtain ⟨i, hi, rfl, hh⟩ := hrel
      have KW : Hid (Sep w r wr [trT q v7 C, trT p v S, blk q8 (objS y), blk q7 (objS x), lstS (.slice (some ⟨b, 0, none⟩) A.length cap3) A]) := hh
      clear hh
      by_cases hlt : i < S.length
      · have hiA : (i : Int) < (A.length : Int) := by have := HA.out.2.2; omega
        have hx : A[i]? = some (slt S i) := by rw [← HA.out.1]; exact all_get hlt
        obtain ⟨b', eb, z0, z1⟩ := KW.out.listAt (ao := some ⟨b, 0, none⟩) (n := A.length) (cap := cap3) (A := A) (by simp) hx
        cases eb
        obtain ⟨y00, y01⟩ := KW.out.slotAt (q := q7) (s := x) (by simp)
        have HI : Hid (i < S.length ∧ A[i]? = some (slt S i)) := ⟨hlt, hx⟩
        have ho := HO.out i hlt
        have ht := HT.out i hlt
        have hqx := fun W => eq_slots W (slt S i) x
        clear hi hlt hx
        generalize slt S i = z at *
        by_cases hik : i = k
        · have hd : decide (z = x) = true := decide_eq_true (ho.2 hik)
          rw [hd] at hqx
          clear ho ht hik hd
          go_wp2
          go_quiet (fail)
          go_wp2
          go_roundw
          case rel => exact ⟨i + 1, by have := HI.out.1; omega, by go_num, KW.out.drewN _⟩
          case measure => simp [intOf]; have := HI.out.1; omega
        · have hd : decide (z = x) = false := decide_eq_false fun e => hik (ho.1 e)
          rw [hd] at hqx
          have ht' := ht hik
          clear ho ht hik hd
          obtain ⟨t, γ, HQ⟩ : ∃ t γ, Hid (parS S z = t ∧ parB S z = γ) := ⟨_, _, rfl, rfl⟩
          obtain ⟨u, δ, HQ'⟩ : ∃ u δ, Hid (parS C z = u ∧ parB C z = δ) := ⟨_, _, rfl, rfl⟩
          have hcase : (γ = true ∧ t = x ∧ u = y ∧ δ = β) ∨ (¬ (γ = true ∧ t = x) ∧ u = t ∧ δ = γ) := by
            have e1 := par_of HQ.out.1 HQ.out.2
            have e2 := par_of HP.out.1 HP.out.2
            by_cases c : parO S z = some x
            · left
              rw [if_pos c] at ht'
              have h1 : parS S z = x := by unfold parS; rw [c]; rfl
              have h2 : parB S z = true := by unfold parB; rw [c]; rfl
              refine ⟨by rw [← HQ.out.2, h2], by rw [← HQ.out.1, h1], ?_, ?_⟩
              · rw [← HQ'.out.1, ← HP.out.1]; unfold parS; rw [ht']
              · rw [← HQ'.out.2, ← HP.out.2]; unfold parB; rw [ht']
            · right
              rw [if_neg c] at ht'
              refine ⟨fun hh => c ?_, ?_, ?_⟩
              · rw [e1, hh.1, hh.2]; rfl
              · rw [← HQ'.out.1, ← HQ.out.1]; unfold parS; rw [ht']
              · rw [← HQ'.out.2, ← HQ.out.2]; unfold parB; rw [ht']
          have HCs : Hid _ := hcase
          clear hcase ht'
          go_wp2
          go_quiet (fail)
          clear y00 y01 z0 z1
          have K1 : Hid (Sep w r (wr.drewN nq) [trT q v7 C, trT p v S, blk q8 (objS y), blk q7 (objS x), lstS (.slice (some ⟨b, 0, none⟩) A.length cap3) A]) := KW.out.drewN _
          generalize wr.drewN nq = w1 at *
          clear KW
          obtain ⟨b', eb, z0, z1⟩ := K1.out.listAt (ao := some ⟨b, 0, none⟩) (n := A.length) (cap := cap3) (A := A) (by simp) HI.out.2
          cases eb
          go_wp2_with fail
          refine (parent_is z t γ K1.out.swap HG.out.1 HQ.out.1 HQ.out.2).mono ?_
          rintro e w10 ⟨rfl, h10⟩
          have j10 : Hid _ := (h10.swap.box (objS t))
          clear h10 K1 z0 z1
          obtain ⟨b', eb, z0, z1⟩ := j10.out.listAt (ao := some ⟨b, 0, none⟩) (n := A.length) (cap := cap3) (A := A) (by simp) HI.out.2
          cases eb
          simp only [objS] at j10 z0 z1
          go_wp2_with fail
          generalize w10.alloc _ = v10 at *
          generalize w10.heap.size = q12 at *
          have K10 : Hid (Sep w r v10 (blk q12 (objS t) :: [trT q v7 C, trT p v S, blk q8 (objS y), blk q7 (objS x), lstS (.slice (some ⟨b, 0, none⟩) A.length cap3) A])) := j10
          clear j10 z0 z1
          refine (parent_is z u δ K10.out.swap HC.out.2 HQ'.out.1 HQ'.out.2).mono ?_
          rintro e w11 ⟨rfl, h11⟩
          have j11 : Hid _ := (h11.swap.box (objS u)).swap
          clear h11 K10
          have K11 : Hid (Sep w r (w11.alloc (objS u)) (blk q12 (objS t) :: blk w11.heap.size (objS u) :: [trT q v7 C, trT p v S, blk q8 (objS y), blk q7 (objS x), lstS (.slice (some ⟨b, 0, none⟩) A.length cap3) A])) := j11
          clear j11
          obtain ⟨t0, t1⟩ := K11.out.slotAt (q := q12) (s := t) (by simp)
          have tf := K11.out.frozenAt (q := q12) (s := t) (by simp)
          obtain ⟨u0, u1⟩ := K11.out.slotAt (q := w11.heap.size) (s := u) (by simp)
          obtain ⟨x0, x1⟩ := K11.out.slotAt (q := q7) (s := x) (by simp)
          obtain ⟨a0, a1⟩ := K11.out.slotAt (q := q8) (s := y) (by simp)
          have hqt := fun W => eq_slots W t x
          have KP : Hid _ := K11.out.put2 y
          obtain ⟨s0, s1⟩ := KP.out.slotAt (q := q12) (s := y) (by simp)
          obtain ⟨r0, r1⟩ := KP.out.slotAt (q := w11.heap.size) (s := u) (by simp)
          simp only [objS] at K11 KP t0 t1 tf u0 u1 x0 x1 a0 a1 s0 s1 r0 r1
          rcases HCs.out with ⟨rfl, rfl, rfl, rfl⟩ | ⟨hne, rfl, rfl⟩
          · have hd : decide (t = t) = true := by simp
            rw [hd] at hqt
            have hyy := eq_yes u
            have hbb : (δ != δ) = false := by simp
            clear hd
            go_wp2
            go_roundw
            case rel => exact ⟨i + 1, by have := HI.out.1; omega, by go_num, KP.out.drop.drop⟩
            case measure => simp [intOf]; have := HI.out.1; omega
          · have hyy := eq_yes u
            have hbb : (δ != δ) = false := by simp
            clear s0 s1 r0 r1 a0 a1 tf
            cases δ with
            | false =>
              go_wp2
              go_roundw
              case rel => exact ⟨i + 1, by have := HI.out.1; omega, by go_num, K11.out.drop.drop⟩
              case measure => simp [intOf]; have := HI.out.1; omega
            | true =>
              have hd : decide (u = x) = false := decide_eq_false fun e => hne ⟨rfl, e⟩
              rw [hd] at hqt
              clear hd
              go_wp2
              go_roundw
              case rel => exact ⟨i + 1, by have := HI.out.1; omega, by go_num, K11.out.drop.drop⟩
              case measure => simp [intOf]; have := HI.out.1; omega
      · have hiA : ¬ (i : Int) < (A.length : Int) := by have := HA.out.2.2; omega
        clear hlt hi
        go_wp2_with fail
        refine (all_is A KW.out.swap HG.out.1 HA.out.1).mono ?_
        rintro e w12 ⟨ao12, cap12, rfl, h12⟩
        have K12 : Hid (Sep w r w12 _) := h12
        clear h12 KW
        go_wp2_with fail
        refine (same_is K12.out (ao := ao12) (bo := some ⟨b, 0, none⟩) (cap := cap12) (cap' := cap3) (A := A) (by simp) (by simp) HA.out.2.1).mono ?_
        rintro e w13 ⟨rfl, h13⟩
        have K13 : Hid (Sep w r w13 _) := h13
        clear h13 K12
        go_wp2_with fail
        refine (fixed_sep K13.out).mono ?_
        rintro e w14 ⟨rfl, h14⟩
        go_wp2
        go_ret
        exact ⟨rfl, by rw [HR.out]; exact h14.low⟩
end
open Go.ChangeShapes Go.WideShapes Go.ChangeAt Go.RowKit Go.Joins

/-! ### From the walk to the statement -/
set_option maxRecDepth 100000 in
theorem lifted (os : Os) (started : os.Started) (H : Type) (enc : TypeId × Value → H) :
    ReturnsInHanded {} Try.checked os 5 .any (Rows.treeTakesSpec.pre6 enc Try.prog Try.f5 Rows.treeTakesRow.domain false) (Rows.treeTakesSpec.post enc Try.prog Try.f5 false true false false) := by
  have hdec : DecidableEq Sl := fun a b => Classical.propDecidable (a = b)
  refine returnsInHanded_of_change (C := Try.checked) own started (by kernel_rfl) Try.func5
    (ChangeSpec.witness6 (enc := enc) (C := Try.checked) false ⟨#[], #[.slice none 0 0, .int .i64 0], []⟩ 8 (by kernel_rfl) (by kernel_rfl) (by kernel_rfl) (by kernel_rfl)) ?_
  intro W base args ds gs before hval0 hW hcnd _
  have hval : ∀ (j : Nat) t v, Try.f5.params[j]? = some t → args[j]? = some v → Value.okWide Try.prog W .any base t v := hval0
  have hW' := hW
  obtain ⟨p, q, hA0, hV, rfl, hfz, hnd⟩ := hW
  have hA : DataW.TrodAll enc Try.prog W 0 (fun _ => true) true Try.f5.params.toList args.toList ds p := hA0
  rw [Try.params5] at hA hval
  obtain ⟨v0, vs0, d0, ds0, p0, q0, hargs, rfl, rfl, h0, r0⟩ := trodAll_cons hA
  obtain ⟨v1, vs1, d1, ds1, p1, q1, rfl, rfl, rfl, h1, r1⟩ := trodAll_cons r0
  obtain ⟨rfl, rfl, rfl⟩ := trodAll_nil r1
  obtain rfl : args = #[v0, v1] := by cases args; simp_all
  obtain ⟨rfl, rfl⟩ := trodVars_none hV
  have k0 := h0
  have lt0 : ∀ x ∈ p0, x.block < W.heap.size := by obtain ⟨m, hm⟩ := k0; exact DataW.trod_lt m _ _ _ hm
  obtain ⟨a0, l0, c0, rfl, t0, s0⟩ := open_ops (hval 0 22 v0 rfl rfl) h0
  have k1 := h1
  have lt1 : ∀ x ∈ p1, x.block < W.heap.size := by obtain ⟨m, hm⟩ := k1; exact DataW.trod_lt m _ _ _ hm
  obtain ⟨a1, rfl, _, _, w1⟩ := open_int Try.underlying3 (hval 1 3 v1 rfl rfl) h1
  clear hA0 hval0
  refine (walk a0 l0 c0 a1 W t0 s0 (bounds_i64 w1)).mono fun e W' ⟨he, bel⟩ => ?_
  subst he
  exact ⟨_, rfl, _, _, _, [], _, [], hW', trodAll_mk1 (shut_bool Try.underlying4 _), (trodAll_cons_mk (Below.trod laidOut (by kernel_rfl) (of_decide_eq_true (by kernel_rfl)) k0 bel lt0) (trodAll_cons_mk (Below.trod laidOut (by kernel_rfl) (of_decide_eq_true (by kernel_rfl)) k1 bel lt1) trodAll_mk0)), rfl, bel.frame _, fun h => by cases h⟩
theorem over : Rows.treeTakesRow.holds Try.pinned (OpenSpec.ofChange Rows.treeTakesSpec) :=
  OpenClaim.holds_of_wide 5 Try.f5 rfl rfl rfl rfl rfl rfl rfl ⟨rfl, rfl, rfl, rfl, rfl⟩ rfl rfl rfl rfl rfl (by kernel_rfl) Try.func5 (by kernel_rfl)
    (of_decide_eq_true (by kernel_rfl)) (by unfold Func.isWrapper; first | (rw [if_pos (by decide +kernel)]; kernel_rfl) | (rw [if_neg (by decide +kernel)]; exact ⟨rfl, rfl⟩))
    (fun os started H enc _ => lifted os started H enc)
end Go.Proofs.Ythfoeppcageneaa.treeTakes
namespace Go.Proofs.Ythfoeppcageneaa
/-- THE STATEMENT. -/
theorem treeTakes_said : Rows.TreeTakesSaid := treeTakes.over
#print axioms treeTakes_said
end Go.Proofs.Ythfoeppcageneaa
