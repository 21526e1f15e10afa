/-
  LockDoes: whatever cores enter, probe and leave, in any order: each answer, who holds the lock, and the whole line, is as the document says; what is told is its owner's; no condition.
-/
import Derived.Test.YtgokacdljnemgaaZDo
import Derived.Deep.Cut
import Derived.Deep.CutRange
import Derived.Deep.CutBlock
namespace Go.Proofs.Ytgokacdljnemgaa.lockDoes
open Go.RowKit Go.Deep Go.Shelf
set_option maxHeartbeats 16000000 in
set_option maxRecDepth 100000 in
theorem walk (cores : Int) (ao : Option Addr) (X : List Oc) (cap : Nat) (w : World) (_hr : I64 cores) (hX : Ops w ao X) (_hxl : X.length ≤ 9223372036854775807) :
    Calls Try.prog 3 #[.int .i64 cores, .slice ao X.length cap] w fun e w' => e = .returned (.bool true) ∧ Below w.heap.size w w' := by
  have HX := hid hX
  clear hX
  obtain ⟨m, hm, hmask⟩ := mask7 cores
  obtain ⟨N, hN⟩ : ∃ N : Nat, N = 1 + m := ⟨_, rfl⟩
  have hN1 : 1 ≤ N := by omega
  have hN8 : N ≤ 8 := by omega
  have hw : IntKind.i64.wrap (1 + (m : Int)) = (N : Int) := by
    unfold IntKind.wrap
    simp [IntKind.bits, IntKind.signed]
    omega
  have hw2 : 1 + (m : Int) = (N : Int) := by omega
  clear hN hm
  go_enter Try.func3, Try.ntmps3
  go_wp2_with fail
  refine Calls.mono (new_sep (sep_nil w) hN1 hN8) ?_
  rintro e w1 ⟨p0, rfl, s1⟩
  have S1 := hid s1
  clear s1
  generalize hr : w.heap.size = r at *
  have HR := hid hr
  clear hr
  go_wp2_with fail
  refine Calls.mono (rnew_sep S1.out hN1 hN8) ?_
  rintro e w2 ⟨k, rfl, s2⟩
  have S2 := hid s2.third.third
  clear s2 S1
  go_wp2_with fail
  go_loopw [5, 9] (fun s5 s9 wr => ∃ (i : Nat) (L : St) (p : Nat) (u : Value), i ≤ 100 ∧ s5 = ptr p ∧ s9 = .int .i64 i ∧ Sep w r wr [lkT N p L, blk k (objR N u), lstI u L]) (fun _ s9 _ => 100 - (intOf s9).toNat)
  case atStart => exact ⟨0, [], p0, _, by omega, rfl, rfl, S2.out⟩
  case round =>
    clear S2
    obtain ⟨i, L, p, u, hi, rfl, rfl, s1⟩ := hrel
    by_cases hgo : i < X.length ∧ i < 100
    · obtain ⟨hlt, h100⟩ := hgo
      obtain ⟨-, b, o, rfl, d0, d1⟩ := Ops.at (SeeK.below HX.out s1.low (by rw [HR.out]; exact Nat.le_refl _)) (List.getElem?_eq_getElem hlt)
      generalize X[i] = x at *
      obtain ⟨xk, xc⟩ := x
      simp only at d0 d1
      generalize hn : X.length = n at *
      have hltz : (i : Int) < (n : Int) := by omega
      have h100z : (i : Int) < 100 := by omega
      have hl8 := s1.goodK.few
      have s5 := (s1.box (objO ⟨xk, xc⟩)).perm ((List.perm_append_comm (l₁ := [blk wr.heap.size (objO ⟨xk, xc⟩)]) (l₂ := [lkT N p L, blk k (objR N u), lstI u L])))
      obtain ⟨o0, o1⟩ := s5.opAt (q := wr.heap.size) (x := ⟨xk, xc⟩) (by simp)
      simp only [objO] at o0 o1
      have H5 : Hid (Sep w r (wr.alloc (.cells #[.int .i64 xk, .int .i64 xc] 31)) [lkT N p L, blk k (objR N u), lstI u L, blk wr.heap.size (objO ⟨xk, xc⟩)]) := s5
      clear s1 s5
      go_upto_block 2 with fail
      go_cut [5, 11, 12, 13, 14, 15, 16, 17] from 52 to 179 (fun s5 s11 s12 s13 s14 s15 s16 s17 wx => ∃ (M : St) (p2 : Nat) (u2 : Value) (E : Int) (β : Bool), s5 = ptr p2 ∧ s11 = .int .i64 E ∧ s12 = .int .i64 E ∧ s13 = .bool β ∧ s14 = .bool β ∧ Sep w r wx [lkT N p2 M, blk k (objR N u2), lstI u2 M, blk wr.heap.size (objO ⟨xk, xc⟩)])
      case first =>
        by_cases hk0 : xk = 0
        · have hq0 : (xk == 0) = true := by simpa using hk0
          clear hk0
          as_aux_lemma =>
            go_wp2_with fail
            refine Calls.mono (enter_sep H5.out xc) ?_
            rintro e w6 ⟨rfl, s6⟩
            clear o0 o1
            generalize hz0 : wr.heap.size = q at *
            clear hz0
            obtain ⟨o0, o1⟩ := s6.opAt (q := q) (x := ⟨xk, xc⟩) (by simp)
            simp only at o0 o1
            have H6 := hid s6.third
            clear s6 H5
            go_wp2_with fail
            refine Calls.mono (renter_sep H6.out hl8 xc) ?_
            rintro e w7 ⟨rfl, u7, s7⟩
            have H7 := hid s7.third.third
            clear s7 H6
            generalize enterE N L xc = E at *
            clear o0 o1
            go_wp2_with fail
            go_meet
            exact ⟨_, _, _, _, _, rfl, rfl, rfl, rfl, rfl, H7.out⟩
        · have hq0 : (xk == 0) = false := by simpa using hk0
          clear hk0
          by_cases hk1 : xk = 1
          · have hq1 : (xk == 1) = true := by simpa using hk1
            clear hk1
            as_aux_lemma =>
              go_wp2_with fail
              refine Calls.mono (probe_sep H5.out xc) ?_
              rintro e w6 ⟨rfl, s6⟩
              clear o0 o1
              generalize hz0 : wr.heap.size = q at *
              clear hz0
              obtain ⟨o0, o1⟩ := s6.opAt (q := q) (x := ⟨xk, xc⟩) (by simp)
              simp only at o0 o1
              have H6 := hid s6.third
              clear s6 H5
              go_wp2_with fail
              refine Calls.mono (rprobe_sep H6.out hl8 xc) ?_
              rintro e w7 ⟨rfl, hw7⟩
              subst hw7
              have H7 := hid H6.out.third.third
              clear H6
              generalize probeE N L xc = E at *
              generalize probeB N L xc = β at *
              clear o0 o1
              go_wp2_with fail
              go_meet
              exact ⟨_, _, _, _, _, rfl, rfl, rfl, rfl, rfl, H7.out⟩
          · have hq1 : (xk == 1) = false := by simpa using hk1
            clear hk1
            by_cases hk2 : xk = 2
            · have hq2 : (xk == 2) = true := by simpa using hk2
              clear hk2
              as_aux_lemma =>
                go_wp2_with fail
                refine Calls.mono (leave_sep H5.out xc) ?_
                rintro e w6 ⟨rfl, s6⟩
                clear o0 o1
                generalize hz0 : wr.heap.size = q at *
                clear hz0
                obtain ⟨o0, o1⟩ := s6.opAt (q := q) (x := ⟨xk, xc⟩) (by simp)
                simp only at o0 o1
                have H6 := hid s6.third
                clear s6 H5
                go_wp2_with fail
                refine Calls.mono (rleave_sep H6.out hl8 xc) ?_
                rintro e w7 ⟨rfl, u7, s7⟩
                have H7 := hid s7.third.third
                clear s7 H6
                generalize leaveE N L xc = E at *
                clear o0 o1
                go_wp2_with fail
                go_meet
                exact ⟨_, _, _, _, _, rfl, rfl, rfl, rfl, rfl, H7.out⟩
            · have hq2 : (xk == 2) = false := by simpa using hk2
              clear hk2
              by_cases hk3 : xk = 3
              · have hq3 : (xk == 3) = true := by simpa using hk3
                clear hk3
                as_aux_lemma =>
                  go_wp2_with fail
                  refine Calls.mono (copy_sep H5.out) ?_
                  rintro e w6 ⟨p6, rfl, s6⟩
                  generalize hz0 : wr.heap.size = q at *
                  clear hz0
                  have H6 := hid s6.swap
                  clear s6 H5
                  clear o0 o1
                  go_wp2_with fail
                  refine Calls.mono (holder_sep H6.out) ?_
                  rintro e w7 ⟨rfl, s7⟩
                  have H8 := hid s7
                  clear s7 H6
                  generalize holdN L = hN at *
                  generalize holdB L = hB at *
                  go_wp2_with fail
                  refine Calls.mono (leave_sep H8.out hN) ?_
                  rintro e w8 ⟨rfl, s8⟩
                  have H9 := hid s8
                  clear s8 H8
                  generalize leaveE N L hN = E1 at *
                  go_wp2_with fail
                  refine Calls.mono (enter_sep H9.out 0) ?_
                  rintro e w9 ⟨rfl, s9⟩
                  have H7 := hid s9.drop
                  clear s9 H9
                  generalize enterE N (leaveS N L hN) 0 = E2 at *
                  go_wp2_with fail
                  go_meet
                  exact ⟨_, _, _, _, _, rfl, rfl, rfl, rfl, rfl, H7.out⟩
              · have hq3 : (xk == 3) = false := by simpa using hk3
                clear hk3
                as_aux_lemma =>
                  go_wp2_with fail
                  go_meet
                  exact ⟨_, _, _, 0, false, rfl, rfl, rfl, rfl, rfl, H5.out⟩
      case rest =>
        as_aux_lemma =>
          clear H5 o0 o1 hl8
          obtain ⟨M, p2, u2, E, β, rfl, rfl, rfl, rfl, rfl, s7⟩ := hcut
          generalize hz0 : wr.heap.size = q at *
          clear hz0
          have hl8 := s7.goodK.few
          obtain ⟨m, hm⟩ : ∃ m, M.length = m := ⟨_, rfl⟩
          have HM := hid hm
          obtain ⟨a2, k2, ev⟩ := s7.listIs (E := elI) (v := u2) (A := M) (by simp)
          rw [hm] at ev hl8
          subst ev
          obtain ⟨hn, hhn⟩ : ∃ hn, holdN M = hn := ⟨_, rfl⟩
          obtain ⟨hb, hhb⟩ : ∃ hb, holdB M = hb := ⟨_, rfl⟩
          have HH := hid (And.intro hhn hhb)
          have H7 := hid s7
          clear s7 hm hhn hhb
          go_wp2_with fail
          refine Calls.mono (holder_is H7.out HH.out.1 HH.out.2) ?_
          rintro e w8 ⟨rfl, s8⟩
          have H8 := hid s8
          clear s8 H7
          go_wp2_with fail
          refine Calls.mono (rholder_sep H8.out.third (by rw [HM.out]; exact hl8)) ?_
          rintro e w9 ⟨rfl, hw9⟩
          subst hw9
          rw [HH.out.1, HH.out.2]
          go_wp2_with fail
          refine Calls.mono (line_is H8.out HM.out) ?_
          rintro e wA ⟨aA, cA, rfl, sA⟩
          clear H8
          obtain ⟨C, t, a, hC, lk⟩ := sA.lk
          have rowA : RowI wA (.slice aA m cA) M := sA.drop.head
          have rowU : RowI wA (.slice a2 m k2) M := (sA.each (lstI (.slice a2 m k2) M) (by simp)).1
          have hk1 : wA.cell? ⟨k, 1, none⟩ = some (.slice a2 m k2) := sA.drop.drop.cellsR.2.1
          have lk1 : k < wA.heap.size := World.block_lt_of_cell? wA _ hk1
          have o1 := (sA.opAt (q := q) (x := ⟨xk, xc⟩) (by simp)).2
          simp only at o1
          have lq1 : q < wA.heap.size := World.block_lt_of_cell? wA _ o1
          have K1 := fun p : Grw wA => p.cell lk1 hk1
          have O1 := fun p : Grw wA => p.cell lq1 o1
          obtain ⟨z, hz⟩ : ∃ z, aheadI M xc = z := ⟨_, rfl⟩
          have CN : Hid (∀ p : Grw wA, Calls Try.prog 21 #[.slice aA m cA, .slice a2 m k2] p.val fun e w' => e = .returned (.bool true) ∧ Below p.val.heap.size p.val w') := fun p => by
            have := nums_any (.slice aA m cA) (.slice a2 m k2) M M p.val (rowA.below p.bel) (rowU.below p.bel) (by rw [HM.out]; omega)
            rw [decide_eq_true rfl] at this
            exact this
          have CA : Hid (∀ p : Grw wA, Calls Try.prog 22 #[ptr p2, .int .i64 xc] p.val fun e w' => e = .returned (.int .i64 z) ∧ Below p.val.heap.size p.val w') := fun p => by
            have := ahead_below (heap_below hC p.bel) lk xc
            rw [hz] at this
            exact this
          have CR : Hid (∀ p : Grw wA, Calls Try.prog 23 #[ptr k, .int .i64 xc] p.val fun e w' => e = .returned (.int .i64 z) ∧ w' = p.val) := fun p => by
            have := rahead_any (p.cell lk1 hk1) (rowU.below p.bel) (by rw [HM.out]; omega) xc
            rw [hz] at this
            exact this
          have hbb : (β != β) = false := by simp
          have hbb2 : (β == β) = true := by simp
          have hcc : (hb != hb) = false := by simp
          have hcc2 : (hb == hb) = true := by simp
          have HA := hid sA
          clear sA hC lk rowA rowU hk1 o1 hz lk1 lq1
          have hgi : ∀ u : World, Inhabited (Grw u) := grw0
          go_wp2_with fail
          (try simp only [List.append_eq, List.cons_append, List.nil_append])
          refine wp_region_grw (by kernel_rfl) (by kernel_rfl) ?_
          repeat (go_big_quiet_step ((first | (go_at_call 21; exact grw_of (CN.out _)) | (go_at_call 22; exact grw_of (CA.out _)) | (go_at_call 23; exact grw_same (CR.out _)))))
          refine wpQuiet_nil ?_
          intro _ hw'
          obtain ⟨p9, hw''⟩ := hw'
          subst hw''
          have hB := (HA.out.grw p9).swap.any
          rw [HM.out] at hB
          have HB := hid hB
          clear hB HA K1 O1 CN CA CR
          generalize p9.val = wB at *
          go_wp2_with fail
          go_loopw [23] (fun s23 wx => ∃ j : Nat, j ≤ m ∧ s23 = .int .i64 j ∧ Sep w r wx [anyI (.slice aA m cA) m, lkT N p2 M, blk k (objR N (.slice a2 m k2)), lstI (.slice a2 m k2) M, blk q (objO ⟨xk, xc⟩)]) (fun s23 _ => m - (intOf s23).toNat)
          case atStart => exact ⟨0, Nat.zero_le _, rfl, HB.out⟩
          case round =>
            clear HB
            obtain ⟨j, hj, rfl, s1⟩ := hrel
            by_cases hjl : j < m
            · obtain ⟨g, rfl, ⟨y, hy⟩, hf, hset⟩ := s1.over hjl
              have S2 := hid (hset 99)
              have hjz : (j : Int) < (m : Int) := by omega
              clear s1 hset
              go_wp2
              go_round
              case rel => exact ⟨j + 1, by omega, by go_num, S2.out⟩
              case measure => simp [intOf]; omega
            · have hjz : ¬ ((j : Int) < (m : Int)) := by omega
              have S3 : Hid (Sep w r _ [lkT N p2 M, blk k (objR N (.slice a2 m k2)), lstI (.slice a2 m k2) M]) := ⟨s1.low, s1.size, fun t ht => s1.each t (by simp at ht ⊢; rcases ht with h | h | h <;> simp [h]), by
                have := (List.pairwise_cons.1 s1.apart).2
                exact this.sublist (.cons_cons _ (.cons_cons _ (.cons_cons _ (List.nil_sublist _))))⟩
              clear s1
              go_wp2
              go_roundw
              case rel => exact ⟨i + 1, M, p2, _, by omega, rfl, by go_num, S3.out⟩
              case measure => simp [intOf]; omega
    · have hex : (¬ ((i : Int) < (X.length : Int))) ∨ ((i : Int) < (X.length : Int) ∧ ¬ ((i : Int) < 100)) := by omega
      have S1 := hid s1
      clear hgo s1
      generalize hn : X.length = nX at *
      rcases hex with h | ⟨h, h2⟩
      all_goals
        go_wp2_with (go_at_call 24; refine Calls.mono (fixed_sep S1.out) ?_; rintro e wf ⟨rfl, sf⟩; have SF := hid sf; clear sf S1)
        go_ret
        exact ⟨rfl, by rw [HR.out]; exact SF.out.low⟩
open Go.ChangeShapes Go.WideShapes Go.ChangeAt Go.RowKit Go.Joins

/-! ### From the walk to the statement -/
set_option maxRecDepth 100000 in
theorem lifted (os : Os) (started : os.Started) (H : Type) (enc : TypeId × Value → H) :
    ReturnsInHanded {} Try.checked os 3 .any (Rows.lockDoesSpec.pre6 enc Try.prog Try.f3 Rows.lockDoesRow.domain false) (Rows.lockDoesSpec.post enc Try.prog Try.f3 false true false false) := by
  refine returnsInHanded_of_change (C := Try.checked) ownK started (by kernel_rfl) Try.func3
    (ChangeSpec.witness6 (enc := enc) (C := Try.checked) false ⟨#[], #[.int .i64 0, .slice none 0 0], []⟩ 8 (by kernel_rfl) (by kernel_rfl) (by kernel_rfl) (by kernel_rfl)) ?_
  intro W base args ds gs before hval0 hW hcnd _
  have hval : ∀ (j : Nat) t v, Try.f3.params[j]? = some t → args[j]? = some v → Value.okWide Try.prog W .any base t v := hval0
  have hW' := hW
  obtain ⟨p, q, hA0, hV, rfl, hfz, hnd⟩ := hW
  have hA : DataW.TrodAll enc Try.prog W 0 (fun _ => true) true Try.f3.params.toList args.toList ds p := hA0
  rw [Try.params3] at hA hval
  obtain ⟨v0, vs0, d0, ds0, p0, q0, hargs, rfl, rfl, h0, r0⟩ := trodAll_cons hA
  obtain ⟨v1, vs1, d1, ds1, p1, q1, rfl, rfl, rfl, h1, r1⟩ := trodAll_cons r0
  obtain ⟨rfl, rfl, rfl⟩ := trodAll_nil r1
  obtain rfl : args = #[v0, v1] := by cases args; simp_all
  obtain ⟨rfl, rfl⟩ := trodVars_none hV
  have k0 := h0
  have lt0 : ∀ x ∈ p0, x.block < W.heap.size := by obtain ⟨m, hm⟩ := k0; exact DataW.trod_lt m _ _ _ hm
  obtain ⟨a0, rfl, _, _, w0⟩ := open_int Try.underlying3 (hval 0 3 v0 rfl rfl) h0
  have k1 := h1
  have lt1 : ∀ x ∈ p1, x.block < W.heap.size := by obtain ⟨m, hm⟩ := k1; exact DataW.trod_lt m _ _ _ hm
  obtain ⟨a1, l1, c1, rfl, t1, s1⟩ := open_ops (hval 1 22 v1 rfl rfl) h1
  clear hA0 hval0
  refine (walk a0 a1 l1 c1 W (bounds_i64 w0) t1 s1).mono fun e W' ⟨he, bel⟩ => ?_
  subst he
  exact ⟨_, rfl, _, _, _, [], _, [], hW', trodAll_mk1 (shut_bool Try.underlying4 _), (trodAll_cons_mk (Below.trod laidOut (by kernel_rfl) (of_decide_eq_true (by kernel_rfl)) k0 bel lt0) (trodAll_cons_mk (Below.trod laidOut (by kernel_rfl) (of_decide_eq_true (by kernel_rfl)) k1 bel lt1) trodAll_mk0)), rfl, bel.frame _, fun h => by cases h⟩
theorem over : Rows.lockDoesRow.holds Try.pinned (OpenSpec.ofChange Rows.lockDoesSpec) :=
  OpenClaim.holds_of_wide 3 Try.f3 rfl rfl rfl rfl rfl rfl rfl ⟨rfl, rfl, rfl, rfl, rfl⟩ rfl rfl rfl rfl rfl (by kernel_rfl) Try.func3 (by kernel_rfl)
    (of_decide_eq_true (by kernel_rfl)) (by unfold Func.isWrapper; first | (rw [if_pos (by decide +kernel)]; kernel_rfl) | (rw [if_neg (by decide +kernel)]; exact ⟨rfl, rfl⟩))
    (fun os started H enc _ => lifted os started H enc)
end Go.Proofs.Ytgokacdljnemgaa.lockDoes
namespace Go.Proofs.Ytgokacdljnemgaa
/-- THE STATEMENT. -/
theorem lockDoes_said : Rows.LockDoesSaid := lockDoes.over
#print axioms lockDoes_said
end Go.Proofs.Ytgokacdljnemgaa
