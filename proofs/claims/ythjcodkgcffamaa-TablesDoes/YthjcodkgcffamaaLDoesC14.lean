/-
  Whatever tables are put in, and dropped, whatever pages are mapped, changed and unmapped, in any order: each answer, all pages, and those of a frame, is as the document says; no condition.
-/
import Derived.Test.YthjcodkgcffamaaPDo
import Derived.Deep.Cut
import Derived.Deep.CutRange
import Derived.Deep.CutBlock
namespace Go.Proofs.Ythjcodkgcffamaa.tablesDoes
open Go.RowKit Go.Deep Go.Shelf
theorem Rs.two {w0 w : World} {r k N q : Nat} {S : Sp} {R : List Th} {a0 b0 : Value} {ty : TypeId} (h : Rs w0 r w k S N (blk q (.cells #[a0, b0] ty) :: R)) (a b : Value) : Rs w0 r ((w.setCell ⟨q, 0, none⟩ a).setCell ⟨q, 1, none⟩ b) k S N (blk q (.cells #[a, b] ty) :: R) := by
  obtain ⟨a', b', A, B, s, h1⟩ := h
  exact ⟨a', b', A, B, (s.fourth.two a b).one3, h1⟩
theorem perm4 (a b c d : Th) (R : List Th) : (a :: b :: c :: d :: R).Perm (d :: a :: b :: c :: R) := List.Perm.append_right R (List.perm_append_comm (l₁ := [a, b, c]) (l₂ := [d]))
theorem perm5 (a b c d e : Th) (R : List Th) : (a :: b :: c :: d :: e :: R).Perm (e :: a :: b :: c :: d :: R) := List.Perm.append_right R (List.perm_append_comm (l₁ := [a, b, c, d]) (l₂ := [e]))
theorem perm6 (a b c l1 l2 t : Th) : [l2, l1, c, b, a, t].Perm [t, l1, l2, b, c, a] := by
  have p1 : [l2, l1, c, b, a, t].Perm [t, a, b, c, l1, l2] := List.reverse_perm [t, a, b, c, l1, l2]
  have p2 : [a, b, c, l1, l2].Perm [b, c, l1, l2, a] := List.perm_append_comm (l₁ := [a])
  have p3 : [b, c, l1, l2, a].Perm [l1, l2, b, c, a] := List.Perm.append_right [a] (List.perm_append_comm (l₁ := [b, c]) (l₂ := [l1, l2]))
  exact p1.trans (.cons _ (p2.trans p3))
theorem start5 {w0 w : World} {r k N : Nat} {S : Sp} {t : Th} (a b c : Obj) (h : Rs w0 r w k S N [t]) :
    Rs w0 r (((((w.alloc a).alloc b).alloc c).alloc (.cells #[] 53)).alloc (.cells #[] 53)) k S N [t, lstL (.slice (some ⟨w.heap.size + 3, 0, none⟩) 0 0) [], lstL (.slice (some ⟨w.heap.size + 4, 0, none⟩) 0 0) [], blk (w.heap.size + 1) b, blk (w.heap.size + 2) c, blk w.heap.size a] := by
  have h3 := ((h.box a).box b).box c
  have h4 := h3.join (Sep.made (E := elL) (sep_nil _))
  have h5 := h4.join (Sep.made (E := elL) (sep_nil _))
  have e1 : (w.alloc a).heap.size = w.heap.size + 1 := by simp
  have e2 : ((w.alloc a).alloc b).heap.size = w.heap.size + 2 := by simp
  have e3 : (((w.alloc a).alloc b).alloc c).heap.size = w.heap.size + 3 := by simp
  have e4 : ((((w.alloc a).alloc b).alloc c).alloc (.cells #[] elL.e)).heap.size = w.heap.size + 4 := by simp
  rw [e1, e2, e3, e4] at h5
  exact h5.perm (perm6 _ _ _ _ _ _)
set_option maxHeartbeats 16000000 in
set_option maxRecDepth 100000 in
theorem walk (ao : Option Addr) (X : List Oc) (cap : Nat) (w : World) (hX : Ops w ao X) (_hxl : X.length ≤ 9223372036854775807) :
    Calls Try.prog 3 #[.slice ao X.length cap] w fun e w' => e = .returned (.bool true) ∧ Below w.heap.size w w' := by
  have HX := hid hX
  clear hX
  go_enter Try.func3, Try.ntmps3
  go_wp2_with fail
  refine Calls.mono (new_sep (sep_nil w)) ?_
  rintro e w1 ⟨p, m1, rfl, s1⟩
  have h1 : Rs w w.heap.size (w1.alloc (.cells #[.slice none 0 0, .slice none 0 0] 29)) w1.heap.size sp0 0 [spT p m1 sp0] := ⟨.slice none 0 0, .slice none 0 0, [], [], Sep.box (Sep.nil (E := elT) (Sep.nil (E := elL) s1)) (objR (.slice none 0 0) (.slice none 0 0)), rl0, by simp, by simp⟩
  have H1 := hid h1
  clear s1 h1
  generalize hr : w.heap.size = r at *
  have HR := hid hr
  clear hr
  go_wp2_with fail
  generalize w1.heap.size = k at *
  go_loopw [3, 5] (fun s3 s5 wr => ∃ (i : Nat) (T : Sp) (p : Nat) (m : Nat → Option Nat), i ≤ 60 ∧ s5 = .int .i64 i ∧ s3 = ptr p ∧ Rs w r wr k T i [spT p m T]) (fun _ s5 _ => 60 - (intOf s5).toNat)
  case atStart => exact ⟨0, sp0, p, m1, by omega, rfl, rfl, H1.out⟩
  case round =>
    clear H1
    obtain ⟨i, T, p, m, hi, rfl, rfl, h1⟩ := hrel
    by_cases hlt : i < X.length ∧ i < 60
    · obtain ⟨hl1, hl2⟩ := hlt
      have hl2z : (i : Int) < 60 := by omega
      obtain ⟨x, hx⟩ : ∃ x, X[i]? = some x := ⟨_, List.getElem?_eq_getElem hl1⟩
      obtain ⟨xk, xl, xn, xf, xt⟩ := x
      obtain ⟨-, b0, o0, rfl, d0, d1, d2, d3, d4⟩ := Ops.at (SeeK.below HX.out h1.low (by rw [HR.out]; exact Nat.le_refl _)) hx
      simp only at d0 d1 d2 d3 d4
      clear hx
      generalize X.length = n0 at *
      have hl1z : (i : Int) < (n0 : Int) := by omega
      have HG : Hid (Good T) := SpP.good h1.spP
      have HN : Hid (i ≤ 900) := by show i ≤ 900; omega
      have h5 := start5 (objO ⟨xk, xl, xn, ⟨xf, xt⟩⟩) (objP ⟨0, 0⟩) (objP ⟨0, 0⟩) h1
      have H5 := hid h5
      clear h1 h5
      go_upto_block 2 with fail
      go_cut [3, 7, 8, 11, 12] from 27 to 217 (fun s3 s7 s8 s11 s12 wx => ∃ (T2 : Sp) (p2 : Nat) (m2 : Nat → Option Nat) (N2 : Nat) (D : List La) (E b1 b2 : Int), s3 = ptr p2 ∧ s7 = .int .i64 E ∧ s8 = .int .i64 E ∧ D.length ≤ 5000 ∧ N2 ≤ i + 1 ∧ Rs w r wx k T2 N2 (spT p2 m2 T2 :: lstL s11 D :: lstL s12 D :: blk (wr.heap.size + 1) (objP ⟨b1, b2⟩) :: blk (wr.heap.size + 2) (objP ⟨b1, b2⟩) :: blk wr.heap.size (objO ⟨xk, xl, xn, ⟨xf, xt⟩⟩) :: []))
      case first =>
        by_cases hk0 : xk = 0
        · have hq0 : (xk == 0) = true := by simpa using hk0
          clear hk0
          as_aux_lemma =>
            go_wp2_with fail
            refine Calls.mono (d_tab H5.out xl xn) ?_
            rintro e w6 ⟨rfl, m6, s6⟩
            generalize hz4 : wr.heap.size + 4 = z4 at *
            generalize hz3 : wr.heap.size + 3 = z3 at *
            generalize hz2 : wr.heap.size + 2 = q10 at *
            generalize hz1 : wr.heap.size + 1 = q9 at *
            generalize hz0 : wr.heap.size = q6 at *
            clear hz4 hz3 hz2 hz1 hz0
            obtain ⟨-, o1, o2, o3, o4⟩ := s6.sep.opAt (q := q6) (x := ⟨xk, xl, xn, ⟨xf, xt⟩⟩) (by simp)
            (try simp only at o1 o2 o3 o4)
            have H6 := hid s6
            clear s6 H5
            go_wp2_with fail
            refine Calls.mono (rtable_rs H6.out HG.out xl xn HN.out) ?_
            rintro e w7 ⟨rfl, s7⟩
            have H7' := hid s7
            clear s7 H6 o1 o2 o3 o4
            generalize tabS T xl xn = T2 at *
            generalize tabE T xl xn = E at *
            obtain ⟨N2, hN2⟩ : ∃ N2 : Nat, i + 1 = N2 := ⟨_, rfl⟩
            have HN2 : Hid (N2 ≤ 900) := by show N2 ≤ 900; omega
            have HI : Hid (N2 ≤ i + 1) := by show N2 ≤ i + 1; omega
            rw [hN2] at H7'
            have HD : Hid (([] : List La).length ≤ 5000) := by show _ ≤ _; simp
            have H7 := hid H7'.out
            clear H7' hN2
            go_wp2_with fail
            go_meet
            exact ⟨_, _, _, _, _, _, _, _, rfl, rfl, rfl, HD.out, HI.out, H7.out⟩
        · have hq0 : (xk == 0) = false := by simpa using hk0
          clear hk0
          by_cases hk1 : xk = 1
          · have hq1 : (xk == 1) = true := by simpa using hk1
            clear hk1
            as_aux_lemma =>
              go_wp2_with fail
              refine Calls.mono (d_drp H5.out xl) ?_
              rintro e w6 ⟨v1, m6, rfl, s6⟩
              generalize hz4 : wr.heap.size + 4 = z4 at *
              generalize hz3 : wr.heap.size + 3 = z3 at *
              generalize hz2 : wr.heap.size + 2 = q10 at *
              generalize hz1 : wr.heap.size + 1 = q9 at *
              generalize hz0 : wr.heap.size = q6 at *
              clear hz4 hz3 hz2 hz1 hz0
              obtain ⟨-, o1, o2, o3, o4⟩ := s6.sep.opAt (q := q6) (x := ⟨xk, xl, xn, ⟨xf, xt⟩⟩) (by simp)
              (try simp only at o1 o2 o3 o4)
              have H6 := hid s6
              clear s6 H5
              go_wp2_with fail
              refine Calls.mono (rdrop_rs H6.out HG.out xl HN.out) ?_
              rintro e w7 ⟨v2, rfl, s7⟩
              have HD := hid (drp_len T xl)
              generalize drpS T xl = T2 at *
              generalize drpE T xl = E at *
              generalize drpL T xl = D at *
              obtain ⟨N2, hN2⟩ : ∃ N2 : Nat, i = N2 := ⟨_, rfl⟩
              have HN2 : Hid (N2 ≤ 900) := by show N2 ≤ 900; omega
              have HI : Hid (N2 ≤ i + 1) := by show N2 ≤ i + 1; omega
              rw [hN2] at s7
              have H7 : Hid (Rs w r w7 k T2 N2 (spT p m6 T2 :: lstL v1 D :: lstL v2 D :: blk q9 (objP ⟨0, 0⟩) :: blk q10 (objP ⟨0, 0⟩) :: blk q6 (objO ⟨xk, xl, xn, ⟨xf, xt⟩⟩) :: [])) := (s7.perm (((List.Perm.swap _ _ _).trans (.cons _ (.swap _ _ _))).trans (.cons _ (.cons _ (.cons _ (List.perm_append_comm (l₁ := [lstL (.slice (some ⟨z3, 0, none⟩) 0 0) [], lstL (.slice (some ⟨z4, 0, none⟩) 0 0) []]) (l₂ := [blk q9 (objP ⟨0, 0⟩), blk q10 (objP ⟨0, 0⟩), blk q6 (objO ⟨xk, xl, xn, ⟨xf, xt⟩⟩)]))))))).sub (.cons_cons _ (.cons_cons _ (.cons_cons _ (.cons_cons _ (.cons_cons _ (.cons_cons _ (List.nil_sublist _)))))))
              clear s7 H6 o1 o2 o3 o4 hN2
              go_wp2_with fail
              go_meet
              exact ⟨_, _, _, _, _, _, _, _, rfl, rfl, rfl, HD.out, HI.out, H7.out⟩
          · have hq1 : (xk == 1) = false := by simpa using hk1
            clear hk1
            by_cases hk2 : xk = 2
            · have hq2 : (xk == 2) = true := by simpa using hk2
              clear hk2
              as_aux_lemma =>
                go_wp2_with fail
                refine Calls.mono (d_map H5.out xl xf xt) ?_
                rintro e w6 ⟨rfl, s6⟩
                generalize hz4 : wr.heap.size + 4 = z4 at *
                generalize hz3 : wr.heap.size + 3 = z3 at *
                generalize hz2 : wr.heap.size + 2 = q10 at *
                generalize hz1 : wr.heap.size + 1 = q9 at *
                generalize hz0 : wr.heap.size = q6 at *
                clear hz4 hz3 hz2 hz1 hz0
                obtain ⟨-, o1, o2, o3, o4⟩ := s6.sep.opAt (q := q6) (x := ⟨xk, xl, xn, ⟨xf, xt⟩⟩) (by simp)
                (try simp only at o1 o2 o3 o4)
                have H6 := hid s6
                clear s6 H5
                go_wp2_with fail
                refine Calls.mono (rmap_rs H6.out xl ⟨xf, xt⟩ HN.out) ?_
                rintro e w7 ⟨rfl, s7⟩
                have H7' := hid s7
                clear s7 H6 o1 o2 o3 o4
                generalize mapS T xl ⟨xf, xt⟩ = T2 at *
                generalize mapE T xl ⟨xf, xt⟩ = E at *
                obtain ⟨N2, hN2⟩ : ∃ N2 : Nat, i + 1 = N2 := ⟨_, rfl⟩
                have HN2 : Hid (N2 ≤ 900) := by show N2 ≤ 900; omega
                have HI : Hid (N2 ≤ i + 1) := by show N2 ≤ i + 1; omega
                rw [hN2] at H7'
                have HD : Hid (([] : List La).length ≤ 5000) := by show _ ≤ _; simp
                have H7 := hid H7'.out
                clear H7' hN2
                go_wp2_with fail
                go_meet
                exact ⟨_, _, _, _, _, _, _, _, rfl, rfl, rfl, HD.out, HI.out, H7.out⟩
            · have hq2 : (xk == 2) = false := by simpa using hk2
              clear hk2
              by_cases hk3 : xk = 3
              · have hq3 : (xk == 3) = true := by simpa using hk3
                clear hk3
                as_aux_lemma =>
                  go_wp2_with fail
                  refine Calls.mono (d_rgt H5.out xl xn) ?_
                  rintro e w6 ⟨rfl, s6⟩
                  generalize hz4 : wr.heap.size + 4 = z4 at *
                  generalize hz3 : wr.heap.size + 3 = z3 at *
                  generalize hz2 : wr.heap.size + 2 = q10 at *
                  generalize hz1 : wr.heap.size + 1 = q9 at *
                  generalize hz0 : wr.heap.size = q6 at *
                  clear hz4 hz3 hz2 hz1 hz0
                  obtain ⟨-, o1, o2, o3, o4⟩ := s6.sep.opAt (q := q6) (x := ⟨xk, xl, xn, ⟨xf, xt⟩⟩) (by simp)
                  (try simp only at o1 o2 o3 o4)
                  have H6 := hid s6
                  clear s6 H5
                  go_wp2_with fail
                  refine Calls.mono (rrights_rs H6.out xl xn HN.out) ?_
                  rintro e w7 ⟨rfl, s7⟩
                  have H7' := hid s7
                  clear s7 H6 o1 o2 o3 o4
                  generalize rgtS T xl xn = T2 at *
                  generalize rgtE T xl xn = E at *
                  obtain ⟨N2, hN2⟩ : ∃ N2 : Nat, i = N2 := ⟨_, rfl⟩
                  have HN2 : Hid (N2 ≤ 900) := by show N2 ≤ 900; omega
                  have HI : Hid (N2 ≤ i + 1) := by show N2 ≤ i + 1; omega
                  rw [hN2] at H7'
                  have HD : Hid (([] : List La).length ≤ 5000) := by show _ ≤ _; simp
                  have H7 := hid H7'.out
                  clear H7' hN2
                  go_wp2_with fail
                  go_meet
                  exact ⟨_, _, _, _, _, _, _, _, rfl, rfl, rfl, HD.out, HI.out, H7.out⟩
              · have hq3 : (xk == 3) = false := by simpa using hk3
                clear hk3
                by_cases hk4 : xk = 4
                · have hq4 : (xk == 4) = true := by simpa using hk4
                  clear hk4
                  as_aux_lemma =>
                    go_wp2_with fail
                    refine Calls.mono (d_unm H5.out xl) ?_
                    rintro e w6 ⟨rfl, s6⟩
                    generalize hz4 : wr.heap.size + 4 = z4 at *
                    generalize hz3 : wr.heap.size + 3 = z3 at *
                    generalize hz2 : wr.heap.size + 2 = q10 at *
                    generalize hz1 : wr.heap.size + 1 = q9 at *
                    generalize hz0 : wr.heap.size = q6 at *
                    clear hz4 hz3 hz2 hz1 hz0
                    obtain ⟨-, o1, o2, o3, o4⟩ := s6.sep.opAt (q := q6) (x := ⟨xk, xl, xn, ⟨xf, xt⟩⟩) (by simp)
                    (try simp only at o1 o2 o3 o4)
                    have HW := hid (And.intro (rfl : wlkP T xl = wlkP T xl) (rfl : unmS T xl = unmS T xl))
                    generalize hpw : wlkP T xl = pw at *
                    obtain ⟨b1, b2⟩ := pw
                    (try simp only)
                    obtain ⟨g0, g1⟩ := s6.sep.pageAt (q := q9) (x := ⟨0, 0⟩) (by simp)
                    have g2 : ∀ j, w6.frozen? ⟨q9, j, none⟩ = false := fun j => by
                      have h9 : w6.heap[q9]? = some (objP ⟨0, 0⟩) := (s6.sep.each (blk q9 (objP ⟨0, 0⟩)) (by simp)).1
                      unfold objP at h9
                      simp [World.frozen?, h9]
                    (try simp only at g0 g1)
                    have s6b := (Rs.two (s6.perm (perm4 _ _ _ _ _)) (.int .i64 b1) (.int .i64 b2)).perm (perm4 _ _ _ _ _).symm
                    obtain ⟨-, o5, -, -, -⟩ := s6b.sep.opAt (q := q6) (x := ⟨xk, xl, xn, ⟨xf, xt⟩⟩) (by simp)
                    (try simp only at o5)
                    have H6 := hid s6b
                    have HPW := hid hpw
                    clear s6 s6b H5 hpw HW
                    go_wp2_with fail
                    refine Calls.mono (runmap_rs H6.out HG.out xl HN.out) ?_
                    rintro e w7 ⟨rfl, s7⟩
                    rw [HPW.out]
                    (try simp only)
                    obtain ⟨g3, g4⟩ := s7.sep.pageAt (q := q10) (x := ⟨0, 0⟩) (by simp)
                    have g5 : ∀ j, w7.frozen? ⟨q10, j, none⟩ = false := fun j => by
                      have h9 : w7.heap[q10]? = some (objP ⟨0, 0⟩) := (s7.sep.each (blk q10 (objP ⟨0, 0⟩)) (by simp)).1
                      unfold objP at h9
                      simp [World.frozen?, h9]
                    (try simp only at g3 g4)
                    have s7b := (Rs.two (s7.perm (perm5 _ _ _ _ _ _)) (.int .i64 b1) (.int .i64 b2)).perm (perm5 _ _ _ _ _ _).symm
                    generalize unmS T xl = T2 at *
                    generalize unmE T xl = E at *
                    obtain ⟨N2, hN2⟩ : ∃ N2 : Nat, i = N2 := ⟨_, rfl⟩
                    have HN2 : Hid (N2 ≤ 900) := by show N2 ≤ 900; omega
                    have HI : Hid (N2 ≤ i + 1) := by show N2 ≤ i + 1; omega
                    rw [hN2] at s7b
                    have HD : Hid (([] : List La).length ≤ 5000) := by show _ ≤ _; simp
                    have H7 : Hid (Rs w r ((w7.setCell ⟨q10, 0, none⟩ (.int .i64 b1)).setCell ⟨q10, 1, none⟩ (.int .i64 b2)) k T2 N2 (spT p m T2 :: lstL (.slice (some ⟨z3, 0, none⟩) 0 0) [] :: lstL (.slice (some ⟨z4, 0, none⟩) 0 0) [] :: blk q9 (objP ⟨b1, b2⟩) :: blk q10 (objP ⟨b1, b2⟩) :: blk q6 (objO ⟨xk, xl, xn, ⟨xf, xt⟩⟩) :: [])) := s7b
                    clear s7 s7b H6 o1 o2 o3 o4 o5 hN2 g0 g1 g2
                    go_wp2_with fail
                    go_meet
                    exact ⟨_, _, _, _, _, _, _, _, rfl, rfl, rfl, HD.out, HI.out, H7.out⟩
                · have hq4 : (xk == 4) = false := by simpa using hk4
                  clear hk4
                  by_cases hk5 : xk = 5
                  · have hq5 : (xk == 5) = true := by simpa using hk5
                    clear hk5
                    as_aux_lemma =>
                      go_wp2_with fail
                      refine Calls.mono (d_copy H5.out) ?_
                      rintro e w6 ⟨p6, m6, rfl, s6⟩
                      generalize hz4 : wr.heap.size + 4 = z4 at *
                      generalize hz3 : wr.heap.size + 3 = z3 at *
                      generalize hz2 : wr.heap.size + 2 = q10 at *
                      generalize hz1 : wr.heap.size + 1 = q9 at *
                      generalize hz0 : wr.heap.size = q6 at *
                      clear hz4 hz3 hz2 hz1 hz0
                      have H6 := hid s6.swap
                      clear s6 H5
                      go_wp2_with fail
                      refine Calls.mono (d_drp H6.out 0) ?_
                      rintro e w7 ⟨v7, m7, rfl, s7⟩
                      obtain ⟨-, o1, o2, o3, o4⟩ := s7.sep.opAt (q := q6) (x := ⟨xk, xl, xn, ⟨xf, xt⟩⟩) (by simp)
                      (try simp only at o1 o2 o3 o4)
                      have HQ := hid s7
                      clear s7 H6
                      generalize drpE T 0 = E7 at *
                      generalize drpL T 0 = D7 at *
                      go_wp2_with fail
                      refine Calls.mono (d_unm HQ.out xl) ?_
                      rintro e w7b ⟨rfl, s7⟩
                      generalize (wlkP (drpS T 0) xl).fr = j1 at *
                      generalize (wlkP (drpS T 0) xl).rt = j2 at *
                      generalize unmE (drpS T 0) xl = j3 at *
                      obtain ⟨T2, hT2⟩ : ∃ T2, T = T2 := ⟨_, rfl⟩
                      obtain ⟨N2, hN2⟩ : ∃ N2 : Nat, i = N2 := ⟨_, rfl⟩
                      have HN2 : Hid (N2 ≤ 900) := by show N2 ≤ 900; omega
                      have HI : Hid (N2 ≤ i + 1) := by show N2 ≤ i + 1; omega
                      have HD : Hid (([] : List La).length ≤ 5000) := by show _ ≤ _; simp
                      have s8 : Rs w r w7b k T2 N2 (spT p6 m6 T2 :: lstL (.slice (some ⟨z3, 0, none⟩) 0 0) [] :: lstL (.slice (some ⟨z4, 0, none⟩) 0 0) [] :: blk q9 (objP ⟨0, 0⟩) :: blk q10 (objP ⟨0, 0⟩) :: blk q6 (objO ⟨xk, xl, xn, ⟨xf, xt⟩⟩) :: []) := by
                        rw [← hT2, ← hN2]
                        exact s7.sub (.cons _ (.cons _ (List.Sublist.refl _)))
                      have H7 := hid s8
                      clear s7 s8 HQ o1 o2 o3 o4 hT2 hN2
                      go_wp2_with fail
                      go_meet
                      exact ⟨_, _, _, _, _, _, _, _, rfl, rfl, rfl, HD.out, HI.out, H7.out⟩
                  · have hq5 : (xk == 5) = false := by simpa using hk5
                    clear hk5
                    as_aux_lemma =>
                      go_wp2_with fail
                      go_meet
                      exact ⟨T, p, m, i, [], 0, 0, 0, rfl, rfl, rfl, by simp, by omega, H5.out⟩
      case rest =>
        as_aux_lemma =>
          clear H5
          obtain ⟨T2, p2, m2, N2, D, E, b1, b2, rfl, rfl, rfl, hD, hI, h7⟩ := hcut
          generalize hz2 : wr.heap.size + 2 = q10 at *
          generalize hz1 : wr.heap.size + 1 = q9 at *
          generalize hz0 : wr.heap.size = q6 at *
          clear hz2 hz1 hz0
          have HN2 : Hid (N2 ≤ 900) := by show N2 ≤ 900; omega
          have HI := hid hI
          have HD := hid hD
          have H7 := hid h7
          clear hI hD h7
          have gT : Good T2 := SpP.good H7.out.spP
          have HGd := hid gT
          clear gT
          obtain ⟨-, o1, -, -, -⟩ := H7.out.sep.opAt (q := q6) (x := ⟨xk, xl, xn, ⟨xf, xt⟩⟩) (by simp)
          (try simp only at o1)
          go_wp2_with fail
          refine Calls.mono (d_wlk H7.out xl) ?_
          rintro e w8 ⟨rfl, h8⟩
          have h8b := (h8.box (objP (wlkP T2 xl))).swap
          generalize hpp : wlkP T2 xl = pp at *
          obtain ⟨a1, a2⟩ := pp
          (try simp only at h8b)
          (try simp only)
          have HPP := hid hpp
          clear hpp h8 o1 H7
          obtain ⟨-, o1, -, -, -⟩ := h8b.sep.opAt (q := q6) (x := ⟨xk, xl, xn, ⟨xf, xt⟩⟩) (by simp)
          (try simp only at o1)
          have H8 := hid h8b
          clear h8b
          go_wp2_with fail
          refine Calls.mono (r_wlk H8.out xl HN2.out) ?_
          rintro e w9 ⟨rfl, h9⟩
          rw [HPP.out]
          have h9b := (h9.box (objP ⟨a1, a2⟩)).swap
          generalize w8.heap.size = q14 at *
          (try simp only)
          clear h9 o1 H8
          obtain ⟨-, o1, -, -, -⟩ := h9b.sep.opAt (q := q6) (x := ⟨xk, xl, xn, ⟨xf, xt⟩⟩) (by simp)
          (try simp only at o1)
          have H9 : Hid (Rs w r (w9.alloc (.cells #[.int .i64 a1, .int .i64 a2] 31)) k T2 N2 (spT p2 m2 T2 :: blk w9.heap.size (objP ⟨a1, a2⟩) :: blk q14 (objP ⟨a1, a2⟩) :: lstL u11 D :: lstL u12 D :: blk q9 (objP ⟨b1, b2⟩) :: blk q10 (objP ⟨b1, b2⟩) :: blk q6 (objO ⟨xk, xl, xn, ⟨xf, xt⟩⟩) :: [])) := h9b
          clear h9b
          generalize wlkB T2 xl = wb at *
          go_wp2_with fail
          refine Calls.mono (d_has H9.out xl) ?_
          rintro e wA ⟨rfl, hA⟩
          generalize w9.heap.size = q16 at *
          clear o1 H9
          obtain ⟨-, o1, -, -, -⟩ := hA.sep.opAt (q := q6) (x := ⟨xk, xl, xn, ⟨xf, xt⟩⟩) (by simp)
          (try simp only at o1)
          have HA := hid hA
          clear hA
          go_wp2_with fail
          refine Calls.mono (r_has HA.out xl HN2.out) ?_
          rintro e wB ⟨rfl, hB⟩
          have HB := hid hB
          clear hB HA o1
          generalize hasN T2 xl = hn at *
          generalize hasB T2 xl = hb at *
          have HC : Hid (∀ (u : World) (Q : List Th), Rs w r u k T2 N2 (Q ++ (blk q16 (objP ⟨a1, a2⟩) :: blk q14 (objP ⟨a1, a2⟩) :: lstL u11 D :: lstL u12 D :: blk q9 (objP ⟨b1, b2⟩) :: blk q10 (objP ⟨b1, b2⟩) :: blk q6 (objO ⟨xk, xl, xn, ⟨xf, xt⟩⟩) :: [])) → u.cell? ⟨q9, 0, none⟩ = some (.int .i64 b1) ∧ u.cell? ⟨q9, 1, none⟩ = some (.int .i64 b2) ∧ u.cell? ⟨q10, 0, none⟩ = some (.int .i64 b1) ∧ u.cell? ⟨q10, 1, none⟩ = some (.int .i64 b2) ∧ u.cell? ⟨q14, 0, none⟩ = some (.int .i64 a1) ∧ u.cell? ⟨q14, 1, none⟩ = some (.int .i64 a2) ∧ u.cell? ⟨q16, 0, none⟩ = some (.int .i64 a1) ∧ u.cell? ⟨q16, 1, none⟩ = some (.int .i64 a2) ∧ u.cell? ⟨q6, 3, none⟩ = some (.int .i64 xf)) := fun u Q h => by
            have s := h.sep
            obtain ⟨e1, e2⟩ := s.pageAt (q := q9) (x := ⟨b1, b2⟩) (by simp)
            obtain ⟨e3, e4⟩ := s.pageAt (q := q10) (x := ⟨b1, b2⟩) (by simp)
            obtain ⟨e5, e6⟩ := s.pageAt (q := q14) (x := ⟨a1, a2⟩) (by simp)
            obtain ⟨e7, e8⟩ := s.pageAt (q := q16) (x := ⟨a1, a2⟩) (by simp)
            obtain ⟨-, -, -, e9, -⟩ := s.opAt (q := q6) (x := ⟨xk, xl, xn, ⟨xf, xt⟩⟩) (by simp)
            exact ⟨e1, e2, e3, e4, e5, e6, e7, e8, e9⟩
          have K1 : Hid (∀ u, Rs w r u k T2 N2 (spT p2 m2 T2 :: blk q16 (objP ⟨a1, a2⟩) :: blk q14 (objP ⟨a1, a2⟩) :: lstL u11 D :: lstL u12 D :: blk q9 (objP ⟨b1, b2⟩) :: blk q10 (objP ⟨b1, b2⟩) :: blk q6 (objO ⟨xk, xl, xn, ⟨xf, xt⟩⟩) :: []) → Calls Try.prog 25 #[u11, u12] u fun e w' => e = .returned (.bool true) ∧ Rs w r w' k T2 N2 (spT p2 m2 T2 :: blk q16 (objP ⟨a1, a2⟩) :: blk q14 (objP ⟨a1, a2⟩) :: lstL u11 D :: lstL u12 D :: blk q9 (objP ⟨b1, b2⟩) :: blk q10 (objP ⟨b1, b2⟩) :: blk q6 (objO ⟨xk, xl, xn, ⟨xf, xt⟩⟩) :: [])) := fun u h => d_same h (.tail _ (.tail _ (.tail _ (.head _)))) (.tail _ (.tail _ (.tail _ (.tail _ (.head _))))) HD.out
          have K2 : Hid (∀ u (y1 y2 : Value), Rs w r u k T2 N2 (spT p2 m2 T2 :: lstL y2 (allP T2.f) :: lstL y1 (allP T2.f) :: blk q16 (objP ⟨a1, a2⟩) :: blk q14 (objP ⟨a1, a2⟩) :: lstL u11 D :: lstL u12 D :: blk q9 (objP ⟨b1, b2⟩) :: blk q10 (objP ⟨b1, b2⟩) :: blk q6 (objO ⟨xk, xl, xn, ⟨xf, xt⟩⟩) :: []) → Calls Try.prog 25 #[y1, y2] u fun e w' => e = .returned (.bool true) ∧ Rs w r w' k T2 N2 (spT p2 m2 T2 :: lstL y2 (allP T2.f) :: lstL y1 (allP T2.f) :: blk q16 (objP ⟨a1, a2⟩) :: blk q14 (objP ⟨a1, a2⟩) :: lstL u11 D :: lstL u12 D :: blk q9 (objP ⟨b1, b2⟩) :: blk q10 (objP ⟨b1, b2⟩) :: blk q6 (objO ⟨xk, xl, xn, ⟨xf, xt⟩⟩) :: [])) := fun u y1 y2 h => d_same h (.tail _ (.tail _ (.head _))) (.tail _ (.head _)) (Nat.le_trans (all_len _) (by omega))
          have K3 : Hid (∀ u (y1 y2 : Value) (Z : List Th), Rs w r u k T2 N2 (spT p2 m2 T2 :: lstI y2 (frmL T2.f xf) :: lstI y1 (frmL T2.f xf) :: Z) → Calls Try.prog 28 #[y1, y2] u fun e w' => e = .returned (.bool true) ∧ Rs w r w' k T2 N2 (spT p2 m2 T2 :: lstI y2 (frmL T2.f xf) :: lstI y1 (frmL T2.f xf) :: Z)) := fun u y1 y2 Z h => d_nums h (.tail _ (.tail _ (.head _))) (.tail _ (.head _)) (frm_len _ _)
          have hS : wB.drew.cell? ⟨q9, 0, none⟩ = some (.int .i64 b1) ∧ wB.drew.cell? ⟨q9, 1, none⟩ = some (.int .i64 b2) ∧ wB.drew.cell? ⟨q10, 0, none⟩ = some (.int .i64 b1) ∧ wB.drew.cell? ⟨q10, 1, none⟩ = some (.int .i64 b2) ∧ wB.drew.cell? ⟨q14, 0, none⟩ = some (.int .i64 a1) ∧ wB.drew.cell? ⟨q14, 1, none⟩ = some (.int .i64 a2) ∧ wB.drew.cell? ⟨q16, 0, none⟩ = some (.int .i64 a1) ∧ wB.drew.cell? ⟨q16, 1, none⟩ = some (.int .i64 a2) ∧ wB.drew.cell? ⟨q6, 3, none⟩ = some (.int .i64 xf) := HC.out _ [spT p2 m2 T2] HB.out.drew
          have he1 : ∀ W, (Op.equalIn 10000 31 (.agg #[.int .i64 a1, .int .i64 a2]) (.agg #[.int .i64 a1, .int .i64 a2])).run Try.prog W = .ok true W := fun W => (eq_page W a1 a2 a1 a2).trans (by rw [pgB_self])
          have he2 : ∀ W, (Op.equalIn 10000 31 (.agg #[.int .i64 b1, .int .i64 b2]) (.agg #[.int .i64 b1, .int .i64 b2])).run Try.prog W = .ok true W := fun W => (eq_page W b1 b2 b1 b2).trans (by rw [pgB_self])
          go_wp2_with fail
          (try simp only [List.append_eq, List.cons_append, List.nil_append])
          go_region_held3 (fun W => W.cell? ⟨q9, 0, none⟩ = some (.int .i64 b1) ∧ W.cell? ⟨q9, 1, none⟩ = some (.int .i64 b2) ∧ W.cell? ⟨q10, 0, none⟩ = some (.int .i64 b1) ∧ W.cell? ⟨q10, 1, none⟩ = some (.int .i64 b2) ∧ W.cell? ⟨q14, 0, none⟩ = some (.int .i64 a1) ∧ W.cell? ⟨q14, 1, none⟩ = some (.int .i64 a2) ∧ W.cell? ⟨q16, 0, none⟩ = some (.int .i64 a1) ∧ W.cell? ⟨q16, 1, none⟩ = some (.int .i64 a2) ∧ W.cell? ⟨q6, 3, none⟩ = some (.int .i64 xf)) ((first | with_reducible assumption | with_reducible exact hS))
            (first
              | (go_at_call 28; (with_reducible refine Calls.mono (K3.out _ y5 y6 _ J6.out) ?_); rintro e u7 ⟨rfl, j7⟩; have t7 : u7.cell? ⟨q9, 0, none⟩ = some (.int .i64 b1) ∧ u7.cell? ⟨q9, 1, none⟩ = some (.int .i64 b2) ∧ u7.cell? ⟨q10, 0, none⟩ = some (.int .i64 b1) ∧ u7.cell? ⟨q10, 1, none⟩ = some (.int .i64 b2) ∧ u7.cell? ⟨q14, 0, none⟩ = some (.int .i64 a1) ∧ u7.cell? ⟨q14, 1, none⟩ = some (.int .i64 a2) ∧ u7.cell? ⟨q16, 0, none⟩ = some (.int .i64 a1) ∧ u7.cell? ⟨q16, 1, none⟩ = some (.int .i64 a2) ∧ u7.cell? ⟨q6, 3, none⟩ = some (.int .i64 xf) := HC.out _ [spT p2 m2 T2, lstI y6 (frmL T2.f xf), lstI y5 (frmL T2.f xf), lstL y4 (allP T2.f), lstL y3 (allP T2.f)] j7; have J7 := hid j7; clear j7 J6)
              | (go_at_call 30; (with_reducible refine Calls.mono (r_frm J5.out HGd.out xf HN2.out) ?_); rintro e u6 ⟨y6, rfl, j6⟩; have t6 : u6.cell? ⟨q9, 0, none⟩ = some (.int .i64 b1) ∧ u6.cell? ⟨q9, 1, none⟩ = some (.int .i64 b2) ∧ u6.cell? ⟨q10, 0, none⟩ = some (.int .i64 b1) ∧ u6.cell? ⟨q10, 1, none⟩ = some (.int .i64 b2) ∧ u6.cell? ⟨q14, 0, none⟩ = some (.int .i64 a1) ∧ u6.cell? ⟨q14, 1, none⟩ = some (.int .i64 a2) ∧ u6.cell? ⟨q16, 0, none⟩ = some (.int .i64 a1) ∧ u6.cell? ⟨q16, 1, none⟩ = some (.int .i64 a2) ∧ u6.cell? ⟨q6, 3, none⟩ = some (.int .i64 xf) := HC.out _ [spT p2 m2 T2, lstI y6 (frmL T2.f xf), lstI y5 (frmL T2.f xf), lstL y4 (allP T2.f), lstL y3 (allP T2.f)] j6; have J6 := hid j6; clear j6 J5)
              | (go_at_call 29; (with_reducible refine Calls.mono (d_frm J4.out xf) ?_); rintro e u5 ⟨y5, rfl, j5⟩; have t5 : u5.cell? ⟨q9, 0, none⟩ = some (.int .i64 b1) ∧ u5.cell? ⟨q9, 1, none⟩ = some (.int .i64 b2) ∧ u5.cell? ⟨q10, 0, none⟩ = some (.int .i64 b1) ∧ u5.cell? ⟨q10, 1, none⟩ = some (.int .i64 b2) ∧ u5.cell? ⟨q14, 0, none⟩ = some (.int .i64 a1) ∧ u5.cell? ⟨q14, 1, none⟩ = some (.int .i64 a2) ∧ u5.cell? ⟨q16, 0, none⟩ = some (.int .i64 a1) ∧ u5.cell? ⟨q16, 1, none⟩ = some (.int .i64 a2) ∧ u5.cell? ⟨q6, 3, none⟩ = some (.int .i64 xf) := HC.out _ [spT p2 m2 T2, lstI y5 (frmL T2.f xf), lstL y4 (allP T2.f), lstL y3 (allP T2.f)] j5; have J5 := hid j5; clear j5 J4)
              | (go_at_call 25; (with_reducible refine Calls.mono (K2.out _ y3 y4 J3.out) ?_); rintro e u4 ⟨rfl, j4⟩; have t4 : u4.cell? ⟨q9, 0, none⟩ = some (.int .i64 b1) ∧ u4.cell? ⟨q9, 1, none⟩ = some (.int .i64 b2) ∧ u4.cell? ⟨q10, 0, none⟩ = some (.int .i64 b1) ∧ u4.cell? ⟨q10, 1, none⟩ = some (.int .i64 b2) ∧ u4.cell? ⟨q14, 0, none⟩ = some (.int .i64 a1) ∧ u4.cell? ⟨q14, 1, none⟩ = some (.int .i64 a2) ∧ u4.cell? ⟨q16, 0, none⟩ = some (.int .i64 a1) ∧ u4.cell? ⟨q16, 1, none⟩ = some (.int .i64 a2) ∧ u4.cell? ⟨q6, 3, none⟩ = some (.int .i64 xf) := HC.out _ [spT p2 m2 T2, lstL y4 (allP T2.f), lstL y3 (allP T2.f)] j4; have J4 := hid j4; clear j4 J3)
              | (go_at_call 27; (with_reducible refine Calls.mono (r_pgs J2.out HGd.out HN2.out) ?_); rintro e u3 ⟨y4, rfl, j3⟩; have t3 : u3.cell? ⟨q9, 0, none⟩ = some (.int .i64 b1) ∧ u3.cell? ⟨q9, 1, none⟩ = some (.int .i64 b2) ∧ u3.cell? ⟨q10, 0, none⟩ = some (.int .i64 b1) ∧ u3.cell? ⟨q10, 1, none⟩ = some (.int .i64 b2) ∧ u3.cell? ⟨q14, 0, none⟩ = some (.int .i64 a1) ∧ u3.cell? ⟨q14, 1, none⟩ = some (.int .i64 a2) ∧ u3.cell? ⟨q16, 0, none⟩ = some (.int .i64 a1) ∧ u3.cell? ⟨q16, 1, none⟩ = some (.int .i64 a2) ∧ u3.cell? ⟨q6, 3, none⟩ = some (.int .i64 xf) := HC.out _ [spT p2 m2 T2, lstL y4 (allP T2.f), lstL y3 (allP T2.f)] j3; have J3 := hid j3; clear j3 J2)
              | (go_at_call 26; (with_reducible refine Calls.mono (d_pgs J1.out) ?_); rintro e u2 ⟨y3, rfl, j2⟩; have t2 : u2.cell? ⟨q9, 0, none⟩ = some (.int .i64 b1) ∧ u2.cell? ⟨q9, 1, none⟩ = some (.int .i64 b2) ∧ u2.cell? ⟨q10, 0, none⟩ = some (.int .i64 b1) ∧ u2.cell? ⟨q10, 1, none⟩ = some (.int .i64 b2) ∧ u2.cell? ⟨q14, 0, none⟩ = some (.int .i64 a1) ∧ u2.cell? ⟨q14, 1, none⟩ = some (.int .i64 a2) ∧ u2.cell? ⟨q16, 0, none⟩ = some (.int .i64 a1) ∧ u2.cell? ⟨q16, 1, none⟩ = some (.int .i64 a2) ∧ u2.cell? ⟨q6, 3, none⟩ = some (.int .i64 xf) := HC.out _ [spT p2 m2 T2, lstL y3 (allP T2.f)] j2; have J2 := hid j2; clear j2 J1)
              | (go_at_call 25; (with_reducible refine Calls.mono (K1.out _ HB.out.drew) ?_); rintro e u1 ⟨rfl, j1⟩; have t1 : u1.cell? ⟨q9, 0, none⟩ = some (.int .i64 b1) ∧ u1.cell? ⟨q9, 1, none⟩ = some (.int .i64 b2) ∧ u1.cell? ⟨q10, 0, none⟩ = some (.int .i64 b1) ∧ u1.cell? ⟨q10, 1, none⟩ = some (.int .i64 b2) ∧ u1.cell? ⟨q14, 0, none⟩ = some (.int .i64 a1) ∧ u1.cell? ⟨q14, 1, none⟩ = some (.int .i64 a2) ∧ u1.cell? ⟨q16, 0, none⟩ = some (.int .i64 a1) ∧ u1.cell? ⟨q16, 1, none⟩ = some (.int .i64 a2) ∧ u1.cell? ⟨q6, 3, none⟩ = some (.int .i64 xf) := HC.out _ [spT p2 m2 T2] j1; have J1 := hid j1; clear j1 HB))
          clear hS t1 t2 t3 t4 t5 t6 t7
          go_wp2
          go_roundw
          case rel => exact ⟨i + 1, T2, p2, m2, by omega, by go_num, rfl, (J7.out.sub (.cons_cons _ (List.nil_sublist _))).mono HI.out⟩
          case measure => simp [intOf]; omega
    · have HZ := hid h1
      clear h1
      have hor : (¬ i < X.length) ∨ (i < X.length ∧ ¬ i < 60) := by omega
      clear hlt
      rcases hor with hge | ⟨hl1, hge⟩
      · have hgez : ¬ (i : Int) < (X.length : Int) := by omega
        generalize X.length = n0 at *
        go_wp2_with (go_at_call 31; refine Calls.mono (d_fix HZ.out) ?_; rintro e wf ⟨rfl, sf⟩; have SF := hid sf; clear sf HZ)
        go_ret
        exact ⟨rfl, by rw [HR.out]; exact SF.out.low⟩
      · have hl1z : (i : Int) < (X.length : Int) := by omega
        have hgez : ¬ (i : Int) < 60 := by omega
        generalize X.length = n0 at *
        go_wp2_with (go_at_call 31; refine Calls.mono (d_fix HZ.out) ?_; rintro e wf ⟨rfl, sf⟩; have SF := hid sf; clear sf HZ)
        go_ret
        exact ⟨rfl, by rw [HR.out]; exact SF.out.low⟩
open Go.ChangeShapes Go.WideShapes Go.ChangeAt Go.RowKit Go.Joins

/-! ### From the walk to the statement -/
set_option maxRecDepth 100000 in
theorem lifted (os : Os) (started : os.Started) (H : Type) (enc : TypeId × Value → H) :
    ReturnsInHanded {} Try.checked os 3 .any (Rows.tablesDoesSpec.pre6 enc Try.prog Try.f3 Rows.tablesDoesRow.domain false) (Rows.tablesDoesSpec.post enc Try.prog Try.f3 false true false false) := by
  refine returnsInHanded_of_change (C := Try.checked) own started (by kernel_rfl) Try.func3
    (ChangeSpec.witness6 (enc := enc) (C := Try.checked) false ⟨#[], #[.slice none 0 0], []⟩ 8 (by kernel_rfl) (by kernel_rfl) (by kernel_rfl) (by kernel_rfl)) ?_
  intro W base args ds gs before hval0 hW hcnd _
  have hval : ∀ (j : Nat) t v, Try.f3.params[j]? = some t → args[j]? = some v → Value.okWide Try.prog W .any base t v := hval0
  have hW' := hW
  obtain ⟨p, q, hA0, hV, rfl, hfz, hnd⟩ := hW
  have hA : DataW.TrodAll enc Try.prog W 0 (fun _ => true) true Try.f3.params.toList args.toList ds p := hA0
  rw [Try.params3] at hA hval
  obtain ⟨v0, vs0, d0, ds0, p0, q0, hargs, rfl, rfl, h0, r0⟩ := trodAll_cons hA
  obtain ⟨rfl, rfl, rfl⟩ := trodAll_nil r0
  obtain rfl : args = #[v0] := by cases args; simp_all
  obtain ⟨rfl, rfl⟩ := trodVars_none hV
  have k0 := h0
  have lt0 : ∀ x ∈ p0, x.block < W.heap.size := by obtain ⟨m, hm⟩ := k0; exact DataW.trod_lt m _ _ _ hm
  obtain ⟨a0, l0, c0, rfl, t0, s0⟩ := open_ops (hval 0 22 v0 rfl rfl) h0
  clear hA0 hval0
  refine (walk a0 l0 c0 W t0 s0).mono fun e W' ⟨he, bel⟩ => ?_
  subst he
  exact ⟨_, rfl, _, _, _, [], _, [], hW', trodAll_mk1 (shut_bool Try.underlying4 _), (trodAll_cons_mk (Below.trod laidOut (by kernel_rfl) (of_decide_eq_true (by kernel_rfl)) k0 bel lt0) trodAll_mk0), rfl, bel.frame _, fun h => by cases h⟩
theorem over : Rows.tablesDoesRow.holds Try.pinned (OpenSpec.ofChange Rows.tablesDoesSpec) :=
  OpenClaim.holds_of_wide 3 Try.f3 rfl rfl rfl rfl rfl rfl rfl ⟨rfl, rfl, rfl, rfl, rfl⟩ rfl rfl rfl rfl rfl (by kernel_rfl) Try.func3 (by kernel_rfl)
    (of_decide_eq_true (by kernel_rfl)) (by unfold Func.isWrapper; first | (rw [if_pos (by decide +kernel)]; kernel_rfl) | (rw [if_neg (by decide +kernel)]; exact ⟨rfl, rfl⟩))
    (fun os started H enc _ => lifted os started H enc)
end Go.Proofs.Ythjcodkgcffamaa.tablesDoes
namespace Go.Proofs.Ythjcodkgcffamaa
/-- THE STATEMENT. -/
theorem tablesDoes_said : Rows.TablesDoesSaid := tablesDoes.over
#print axioms tablesDoes_said
end Go.Proofs.Ythjcodkgcffamaa
