/-
  TlbDoes: whatever is filled in, and dropped, in any order: each answer, and all lines, in order, are as the document says; what is told is its owner's; no condition.
-/
import Derived.Test.YtekjoeebomcmeaaYDo
import Derived.Deep.Cut
import Derived.Deep.CutRange
import Derived.Deep.CutBlock
namespace Go.Proofs.Ytekjoeebomcmeaa.tlbDoes
open Go.RowKit Go.Deep Go.Shelf
set_option maxHeartbeats 16000000 in
set_option maxRecDepth 100000 in
theorem walk (room : Int) (ao : Option Addr) (X : List Oc) (cap : Nat) (w : World) (_hr : I64 room) (hX : Ops w ao X) (_hxl : X.length ≤ 9223372036854775807) :
    Calls Try.prog 3 #[.int .i64 room, .slice ao X.length cap] w fun e w' => e = .returned (.bool true) ∧ Below w.heap.size w w' := by
  obtain ⟨m, hm, hmask⟩ := mask15 room
  obtain ⟨N, hN⟩ : ∃ N : Nat, N = 1 + m := ⟨_, rfl⟩
  have hN1 : 1 ≤ N := by omega
  have hN16 : N ≤ 16 := by omega
  have hw : IntKind.i64.wrap (1 + (m : Int)) = (N : Int) := by
    unfold IntKind.wrap
    simp [IntKind.bits, IntKind.signed]
    omega
  have hw2 : 1 + (m : Int) = (N : Int) := by omega
  have HX := hid hX
  clear hN hm hX
  go_enter Try.func3, Try.ntmps3
  go_wp2_with fail
  refine Calls.mono (new_sep (sep_nil w) hN1 (by omega)) ?_
  rintro e w1 ⟨p0, rfl, s1⟩
  have S1 := hid s1
  clear s1
  generalize hr : w.heap.size = r at *
  have HR := hid hr
  clear hr
  go_wp2_with fail
  refine Calls.mono (rnew_sep S1.out hN1 (by omega)) ?_
  rintro e w2 ⟨k, rfl, s2⟩
  have S2 := hid s2.swap
  clear s2 S1
  go_wp2_with fail
  go_loopw [5, 9] (fun s5 s9 wr => ∃ (i : Nat) (S : St) (p : Nat) (v u : Value), i ≤ 80 ∧ s5 = ptr p ∧ s9 = .int .i64 i ∧ Sep w r wr [tbT kP N p v S, tbT kR N k u S]) (fun _ s9 _ => 80 - (intOf s9).toNat)
  case atStart => exact ⟨0, [], p0, _, _, by omega, rfl, rfl, S2.out⟩
  case round =>
    clear S2
    obtain ⟨i, S, p, v, u, hi, rfl, rfl, s1⟩ := hrel
    by_cases hgo : i < X.length ∧ i < 80
    · obtain ⟨hlt, h80⟩ := hgo
      obtain ⟨-, b, o, rfl, d0, d1, d2, d3, d4⟩ := Ops.at (SeeK.below HX.out s1.low (by rw [HR.out]; exact Nat.le_refl _)) (List.getElem?_eq_getElem hlt)
      generalize X[i] = x at *
      obtain ⟨xk, xs, xp, xf, xr⟩ := x
      simp only at d0 d1 d2 d3 d4
      generalize hn : X.length = n at *
      have hltz : (i : Int) < (n : Int) := by omega
      have h80z : (i : Int) < 80 := by omega
      have s5 := (s1.box (objO ⟨xk, ⟨xs, xp, xf, xr⟩⟩)).third
      obtain ⟨o0, o1, o2, o3, o4⟩ := s5.opAt (q := wr.heap.size) (x := ⟨xk, ⟨xs, xp, xf, xr⟩⟩) (by simp)
      simp only [objO] at o0 o1 o2 o3 o4
      have H5 : Hid (Sep w r (wr.alloc (.cells #[.int .i64 xk, .int .i64 xs, .int .i64 xp, .int .i64 xf, .int .i64 xr] 35)) [tbT kP N p v S, tbT kR N k u S, blk wr.heap.size (objO ⟨xk, ⟨xs, xp, xf, xr⟩⟩)]) := s5
      clear s1 s5
      go_upto_block 2 with fail
      go_cut [5, 11, 12, 13, 14] from 49 to 191 (fun s5 s11 s12 s13 s14 wx => ∃ (T : St) (p2 : Nat) (v2 u2 : Value) (E : Int), s5 = ptr p2 ∧ s11 = .int .i64 E ∧ s12 = .int .i64 E ∧ Sep w r wx [tbT kP N p2 v2 T, tbT kR N k u2 T, blk wr.heap.size (objO ⟨xk, ⟨xs, xp, xf, xr⟩⟩)])
      case first =>
        by_cases hk0 : xk = 0
        · have hq0 : (xk == 0) = true := by simpa using hk0
          clear hk0
          as_aux_lemma =>
            go_wp2_with fail
            refine Calls.mono (fill_sep H5.out ⟨xs, xp, xf, xr⟩) ?_
            rintro e w6 ⟨rfl, v6, s6⟩
            clear o0 o1 o2 o3 o4
            generalize hz0 : wr.heap.size = q at *
            clear hz0
            obtain ⟨o0, o1, o2, o3, o4⟩ := s6.opAt (q := q) (x := ⟨xk, ⟨xs, xp, xf, xr⟩⟩) (by simp)
            simp only at o0 o1 o2 o3 o4
            have H6 := hid s6.swap
            clear s6 H5
            go_wp2_with fail
            refine Calls.mono (rfill_sep H6.out ⟨xs, xp, xf, xr⟩) ?_
            rintro e w7 ⟨rfl, v7, s7⟩
            have H7 := hid s7.swap
            clear s7 H6
            clear o0 o1 o2 o3 o4
            go_wp2_with fail
            go_meet
            exact ⟨_, _, _, _, _, rfl, rfl, rfl, H7.out⟩
        · have hq0 : (xk == 0) = false := by simpa using hk0
          clear hk0
          by_cases hk1 : xk = 1
          · have hq1 : (xk == 1) = true := by simpa using hk1
            clear hk1
            as_aux_lemma =>
              go_wp2_with fail
              refine Calls.mono (drop_sep H5.out xs xp) ?_
              rintro e w6 ⟨v6, rfl, s6⟩
              clear o0 o1 o2 o3 o4
              generalize hz0 : wr.heap.size = q at *
              clear hz0
              obtain ⟨o0, o1, o2, o3, o4⟩ := s6.opAt (q := q) (x := ⟨xk, ⟨xs, xp, xf, xr⟩⟩) (by simp)
              simp only at o0 o1 o2 o3 o4
              have H6 := hid s6.swap
              clear s6 H5
              go_wp2_with fail
              refine Calls.mono (rdrop_sep H6.out xs xp) ?_
              rintro e w7 ⟨rfl, v7, s7⟩
              have H7 := hid s7.swap
              clear s7 H6
              clear o0 o1 o2 o3 o4
              generalize S.any (isK xs xp) = β at *
              cases β
              all_goals
                go_wp2_with fail
                go_meet
                exact ⟨_, _, _, _, _, rfl, rfl, rfl, H7.out⟩
          · have hq1 : (xk == 1) = false := by simpa using hk1
            clear hk1
            by_cases hk2 : xk = 2
            · have hq2 : (xk == 2) = true := by simpa using hk2
              clear hk2
              as_aux_lemma =>
                go_wp2_with fail
                refine Calls.mono (space_sep H5.out xs) ?_
                rintro e w6 ⟨v6, rfl, s6⟩
                clear o0 o1 o2 o3 o4
                generalize hz0 : wr.heap.size = q at *
                clear hz0
                obtain ⟨o0, o1, o2, o3, o4⟩ := s6.opAt (q := q) (x := ⟨xk, ⟨xs, xp, xf, xr⟩⟩) (by simp)
                simp only at o0 o1 o2 o3 o4
                have H6 := hid s6.swap
                clear s6 H5
                go_wp2_with fail
                refine Calls.mono (rspace_sep H6.out xs) ?_
                rintro e w7 ⟨rfl, v7, s7⟩
                have H7 := hid s7.swap
                clear s7 H6
                clear o0 o1 o2 o3 o4
                generalize lessN (isS xs) S = kn at *
                go_wp2_with fail
                go_meet
                exact ⟨_, _, _, _, _, rfl, rfl, rfl, H7.out⟩
            · have hq2 : (xk == 2) = false := by simpa using hk2
              clear hk2
              by_cases hk3 : xk = 3
              · have hq3 : (xk == 3) = true := by simpa using hk3
                clear hk3
                as_aux_lemma =>
                  go_wp2_with fail
                  refine Calls.mono (frame_sep H5.out xf) ?_
                  rintro e w6 ⟨v6, rfl, s6⟩
                  clear o0 o1 o2 o3 o4
                  generalize hz0 : wr.heap.size = q at *
                  clear hz0
                  obtain ⟨o0, o1, o2, o3, o4⟩ := s6.opAt (q := q) (x := ⟨xk, ⟨xs, xp, xf, xr⟩⟩) (by simp)
                  simp only at o0 o1 o2 o3 o4
                  have H6 := hid s6.swap
                  clear s6 H5
                  go_wp2_with fail
                  refine Calls.mono (rframe_sep H6.out xf) ?_
                  rintro e w7 ⟨rfl, v7, s7⟩
                  have H7 := hid s7.swap
                  clear s7 H6
                  clear o0 o1 o2 o3 o4
                  generalize lessN (isF xf) S = kn at *
                  go_wp2_with fail
                  go_meet
                  exact ⟨_, _, _, _, _, rfl, rfl, rfl, H7.out⟩
              · have hq3 : (xk == 3) = false := by simpa using hk3
                clear hk3
                by_cases hk4 : xk = 4
                · have hq4 : (xk == 4) = true := by simpa using hk4
                  clear hk4
                  as_aux_lemma =>
                    go_wp2_with fail
                    refine Calls.mono (copy_sep H5.out) ?_
                    rintro e w6 ⟨p6, v6, rfl, s6⟩
                    generalize hz0 : wr.heap.size = q at *
                    clear hz0
                    have H6 := hid s6.swap
                    clear s6 H5
                    clear o0 o1 o2 o3 o4
                    go_wp2_with fail
                    refine Calls.mono (fill_sep H6.out ⟨99, 0, 0, 0⟩) ?_
                    rintro e w7 ⟨rfl, v7, s7⟩
                    obtain ⟨o0, o1, o2, o3, o4⟩ := s7.opAt (q := q) (x := ⟨xk, ⟨xs, xp, xf, xr⟩⟩) (by simp)
                    simp only at o0 o1 o2 o3 o4
                    have H8 := hid s7
                    clear s7 H6
                    go_wp2_with fail
                    refine Calls.mono (space_sep H8.out xs) ?_
                    rintro e w8 ⟨v8, rfl, s8⟩
                    have H7 := hid s8.drop
                    clear s8 H8
                    generalize lessN (isS xs) (fillS N S ⟨99, 0, 0, 0⟩) = kn at *
                    clear o0 o1 o2 o3 o4
                    go_wp2_with fail
                    go_meet
                    exact ⟨_, _, _, _, _, rfl, rfl, rfl, H7.out⟩
                · have hq4 : (xk == 4) = false := by simpa using hk4
                  clear hk4
                  as_aux_lemma =>
                    go_wp2_with fail
                    go_meet
                    exact ⟨_, _, _, _, 0, rfl, rfl, rfl, H5.out⟩
      case rest =>
        as_aux_lemma =>
          clear H5 o0 o1 o2 o3 o4
          obtain ⟨T, p2, v2, u2, E, rfl, rfl, rfl, s7⟩ := hcut
          generalize hz0 : wr.heap.size = q at *
          clear hz0
          obtain ⟨o0, o1, o2, o3, o4⟩ := s7.opAt (q := q) (x := ⟨xk, ⟨xs, xp, xf, xr⟩⟩) (by simp)
          simp only at o0 o1 o2 o3 o4
          have H7 := hid s7
          clear s7
          obtain ⟨lf, hlf⟩ : ∃ lf, lookF T xs xp = lf := ⟨_, rfl⟩
          obtain ⟨lr, hlr⟩ : ∃ lr, lookR T xs xp = lr := ⟨_, rfl⟩
          obtain ⟨lb, hlb⟩ : ∃ lb, lookB T xs xp = lb := ⟨_, rfl⟩
          obtain ⟨tn, htn⟩ : ∃ tn, T.length = tn := ⟨_, rfl⟩
          have HLK := hid (And.intro hlf (And.intro hlr hlb))
          have HTN := hid htn
          have ht16 : tn ≤ 16 := by have := H7.out.good.le; omega
          clear hlf hlr hlb htn
          go_wp2_with fail
          refine Calls.mono (look_is H7.out xs xp HLK.out.1 HLK.out.2.1 HLK.out.2.2) ?_
          rintro e w8 ⟨rfl, s8⟩
          have s8b := (s8.box (objP lf lr)).third.swap
          clear o0 o1 o2 o3 o4
          obtain ⟨o0, o1, o2, o3, o4⟩ := s8b.opAt (q := q) (x := ⟨xk, ⟨xs, xp, xf, xr⟩⟩) (by simp)
          simp only at o0 o1 o2 o3 o4
          simp only [objP] at o0 o1 o2 o3 o4
          have H8 := hid s8b
          clear s8 s8b H7
          go_wp2_with fail
          refine Calls.mono ((rlook_sep H8.out xs xp).mono fun _ _ h => h) ?_
          rintro e w9 ⟨rfl, s9⟩
          rw [HLK.out.1, HLK.out.2.1, HLK.out.2.2]
          generalize hz8 : w8.heap.size = q8 at *
          clear hz8 H8
          have H9 := hid (s9.box (objP lf lr)).third.swap
          clear s9
          clear o0 o1 o2 o3 o4
          go_wp2_with fail
          refine Calls.mono (lines_is (k := tn) H9.out HTN.out) ?_
          rintro e wA ⟨aA, cA, rfl, sA⟩
          generalize hz9 : w9.heap.size = q9 at *
          clear hz9 H9
          obtain ⟨z0, z1⟩ := cellsG (f := lf) (r := lr) (sA.each (blk q8 (objP lf lr)) (by simp)).1
          obtain ⟨z2, z3⟩ := cellsG (f := lf) (r := lr) (sA.each (blk q9 (objP lf lr)) (by simp)).1
          have c7 := sA.drop.drop.cellR
          have he : ∀ W, (Op.equalIn 10000 31 (.agg #[.int .i64 lf, .int .i64 lr]) (.agg #[.int .i64 lf, .int .i64 lr])).run Try.prog W = .ok true W := fun W => (eq_page W lf lr lf lr).trans (by rw [pgB_self])
          have hbb : (lb != lb) = false := by simp
          have hbb2 : (lb == lb) = true := by simp
          have HA := hid sA
          clear sA
          go_wp2_with fail
          refine Calls.mono (same_do HA.out HTN.out) ?_
          rintro e wB ⟨rfl, sB⟩
          have HB := hid (sB.swap.anyL HTN.out)
          clear sB HA z0 z1 z2 z3 c7
          go_wp2_with fail
          go_loopw [20] (fun s20 wx => ∃ j : Nat, j ≤ tn ∧ s20 = .int .i64 j ∧ Sep w r wx [anyL (.slice aA tn cA) tn, tbT kP N p2 v2 T, tbT kR N k u2 T, blk q9 (objP lf lr), blk q8 (objP lf lr), blk q (objO ⟨xk, ⟨xs, xp, xf, xr⟩⟩)]) (fun s20 _ => tn - (intOf s20).toNat)
          case atStart => exact ⟨0, Nat.zero_le _, rfl, HB.out⟩
          case round =>
            clear HB
            obtain ⟨j, hj, rfl, s1⟩ := hrel
            by_cases hjl : j < tn
            · obtain ⟨g, rfl, ⟨y, hy⟩, hf, hset⟩ := s1.overL hjl
              have S2 := hid (hset 99)
              have hjz : (j : Int) < (tn : Int) := by omega
              clear s1 hset
              go_wp2
              go_round
              case rel => exact ⟨j + 1, by omega, by go_num, S2.out⟩
              case measure => simp [intOf]; omega
            · have hjz : ¬ ((j : Int) < (tn : Int)) := by omega
              have S2 := hid (s1.drop.third.third.swap.swap)
              have S3 : Hid (Sep w r _ [tbT kP N p2 v2 T, tbT kR N k u2 T]) := ⟨s1.low, s1.size, fun t ht => s1.each t (by simp at ht ⊢; rcases ht with h | h <;> simp [h]), by
                have := (List.pairwise_cons.1 s1.apart).2
                exact this.sublist (.cons_cons _ (.cons_cons _ (List.nil_sublist _)))⟩
              clear s1 S2
              go_wp2
              go_roundw
              case rel => exact ⟨i + 1, T, p2, v2, u2, by omega, rfl, by go_num, S3.out⟩
              case measure => simp [intOf]; omega
    · have hex : (¬ ((i : Int) < (X.length : Int))) ∨ ((i : Int) < (X.length : Int) ∧ ¬ ((i : Int) < 80)) := by omega
      have S1 := hid s1
      clear hgo s1
      generalize hn : X.length = nX at *
      rcases hex with h | ⟨h, h2⟩
      all_goals
        go_wp2_with (go_at_call 24; refine Calls.mono (fixed_sep S1.out) ?_; rintro e wf ⟨rfl, sf⟩; have SF := hid sf; clear sf S1)
        go_ret
        exact ⟨rfl, by rw [HR.out]; exact SF.out.low⟩
open Go.ChangeShapes Go.WideShapes Go.ChangeAt Go.RowKit Go.Joins

/-! ### From the walk to the statement -/
set_option maxRecDepth 100000 in
theorem lifted (os : Os) (started : os.Started) (H : Type) (enc : TypeId × Value → H) :
    ReturnsInHanded {} Try.checked os 3 .any (Rows.tlbDoesSpec.pre6 enc Try.prog Try.f3 Rows.tlbDoesRow.domain false) (Rows.tlbDoesSpec.post enc Try.prog Try.f3 false true false false) := by
  refine returnsInHanded_of_change (C := Try.checked) ownK started (by kernel_rfl) Try.func3
    (ChangeSpec.witness6 (enc := enc) (C := Try.checked) false ⟨#[], #[.int .i64 0, .slice none 0 0], []⟩ 8 (by kernel_rfl) (by kernel_rfl) (by kernel_rfl) (by kernel_rfl)) ?_
  intro W base args ds gs before hval0 hW hcnd _
  have hval : ∀ (j : Nat) t v, Try.f3.params[j]? = some t → args[j]? = some v → Value.okWide Try.prog W .any base t v := hval0
  have hW' := hW
  obtain ⟨p, q, hA0, hV, rfl, hfz, hnd⟩ := hW
  have hA : DataW.TrodAll enc Try.prog W 0 (fun _ => true) true Try.f3.params.toList args.toList ds p := hA0
  rw [Try.params3] at hA hval
  obtain ⟨v0, vs0, d0, ds0, p0, q0, hargs, rfl, rfl, h0, r0⟩ := trodAll_cons hA
  obtain ⟨v1, vs1, d1, ds1, p1, q1, rfl, rfl, rfl, h1, r1⟩ := trodAll_cons r0
  obtain ⟨rfl, rfl, rfl⟩ := trodAll_nil r1
  obtain rfl : args = #[v0, v1] := by cases args; simp_all
  obtain ⟨rfl, rfl⟩ := trodVars_none hV
  have k0 := h0
  have lt0 : ∀ x ∈ p0, x.block < W.heap.size := by obtain ⟨m, hm⟩ := k0; exact DataW.trod_lt m _ _ _ hm
  obtain ⟨a0, rfl, _, _, w0⟩ := open_int Try.underlying3 (hval 0 3 v0 rfl rfl) h0
  have k1 := h1
  have lt1 : ∀ x ∈ p1, x.block < W.heap.size := by obtain ⟨m, hm⟩ := k1; exact DataW.trod_lt m _ _ _ hm
  obtain ⟨a1, l1, c1, rfl, t1, s1⟩ := open_ops (hval 1 22 v1 rfl rfl) h1
  clear hA0 hval0
  refine (walk a0 a1 l1 c1 W (bounds_i64 w0) t1 s1).mono fun e W' ⟨he, bel⟩ => ?_
  subst he
  exact ⟨_, rfl, _, _, _, [], _, [], hW', trodAll_mk1 (shut_bool Try.underlying4 _), (trodAll_cons_mk (Below.trod laidOut (by kernel_rfl) (of_decide_eq_true (by kernel_rfl)) k0 bel lt0) (trodAll_cons_mk (Below.trod laidOut (by kernel_rfl) (of_decide_eq_true (by kernel_rfl)) k1 bel lt1) trodAll_mk0)), rfl, bel.frame _, fun h => by cases h⟩
theorem over : Rows.tlbDoesRow.holds Try.pinned (OpenSpec.ofChange Rows.tlbDoesSpec) :=
  OpenClaim.holds_of_wide 3 Try.f3 rfl rfl rfl rfl rfl rfl rfl ⟨rfl, rfl, rfl, rfl, rfl⟩ rfl rfl rfl rfl rfl (by kernel_rfl) Try.func3 (by kernel_rfl)
    (of_decide_eq_true (by kernel_rfl)) (by unfold Func.isWrapper; first | (rw [if_pos (by decide +kernel)]; kernel_rfl) | (rw [if_neg (by decide +kernel)]; exact ⟨rfl, rfl⟩))
    (fun os started H enc _ => lifted os started H enc)
end Go.Proofs.Ytekjoeebomcmeaa.tlbDoes
namespace Go.Proofs.Ytekjoeebomcmeaa
/-- THE STATEMENT. -/
theorem tlbDoes_said : Rows.TlbDoesSaid := tlbDoes.over
#print axioms tlbDoes_said
end Go.Proofs.Ytekjoeebomcmeaa
