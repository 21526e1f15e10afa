/-
  MailboxDoes: whatever is sent and taken, in any order: each answer, each box that is named, and how many are owed, is as the document says; what is told is its owner's; no condition.
-/
import Derived.Test.YtpapjdmnhgnpfaaMBDo
import Derived.Test.YtpapjdmnhgnpfaaMBFixed
import Derived.Deep.Cut
import Derived.Deep.CutRange
import Derived.Deep.CutBlock
namespace Go.Proofs.Ytpapjdmnhgnpfaa.mailboxDoes
open Go.RowKit Go.Deep Go.Shelf
set_option maxHeartbeats 16000000 in
set_option maxRecDepth 100000 in
theorem walk (cores : Int) (ao : Option Addr) (X : List Oc) (cap : Nat) (w : World) (_hr : I64 cores) (hX : Ops w ao X) (_hxl : X.length ≤ 9223372036854775807) :
    Calls Try.prog 3 #[.int .i64 cores, .slice ao X.length cap] w fun e w' => e = .returned (.bool true) ∧ Below w.heap.size w w' := by
  have HX := hid hX
  clear hX
  obtain ⟨m, hm, hmask⟩ := mask7 cores
  obtain ⟨N, hN⟩ : ∃ N : Nat, N = 1 + m := ⟨_, rfl⟩
  have hN1 : 1 ≤ N := by omega
  have hN8 : N ≤ 8 := by omega
  have hw : IntKind.i64.wrap (1 + (m : Int)) = (N : Int) := by
    unfold IntKind.wrap
    simp [IntKind.bits, IntKind.signed]
    omega
  have hw2 : 1 + (m : Int) = (N : Int) := by omega
  clear hN hm
  go_enter Try.func3, Try.ntmps3
  go_wp2_with fail
  refine Calls.mono (new_sep (sep_nil w) hN1 hN8) ?_
  rintro e w1 ⟨p0, rfl, g0, V0, s1⟩
  have S1 := hid s1
  clear s1
  generalize hr : w.heap.size = r at *
  have HR := hid hr
  clear hr
  go_wp2_with fail
  refine Calls.mono (rnew_sep S1.out hN1 hN8) ?_
  rintro e w2 ⟨k, rfl, s2⟩
  have S2 := hid s2.third.third
  clear s2 S1
  go_wp2_with fail
  go_loopw [5, 9] (fun s5 s9 wr => ∃ (i : Nat) (L : St) (D : Dl) (p g : Nat) (V : List Sv) (u : Value), i ≤ 100 ∧ s5 = ptr p ∧ s9 = .int .i64 i ∧ Rel N L D ∧ Sep w r wr [bxT N p g V L, blk k (objR N u), lstT u D]) (fun _ s9 _ => 100 - (intOf s9).toNat)
  case atStart => exact ⟨0, _, [], p0, g0, V0, _, by omega, rfl, rfl, rel_new N, S2.out⟩
  case round =>
    clear S2
    obtain ⟨i, L, D, p, g, V, u, hi, rfl, rfl, hRel0, s1⟩ := hrel
    by_cases hgo : i < X.length ∧ i < 100
    · obtain ⟨hlt, h100⟩ := hgo
      obtain ⟨-, b, o, rfl, d0, d1, d2, d3, d4⟩ := Ops.at (SeeK.below HX.out s1.low (by rw [HR.out]; exact Nat.le_refl _)) (List.getElem?_eq_getElem hlt)
      generalize X[i] = x at *
      obtain ⟨xk, xf, xt, xh, xa⟩ := x
      simp only at d0 d1 d2 d3 d4
      generalize hn : X.length = n at *
      have hltz : (i : Int) < (n : Int) := by omega
      have h100z : (i : Int) < 100 := by omega
      have HG0 := hid s1.goodB
      have HR0 := hid hRel0
      have HLen := hid (hRel0.few s1.goodB)
      have s5 := (s1.box (objO ⟨xk, xf, xt, xh, xa⟩)).perm ((List.perm_append_comm (l₁ := [blk wr.heap.size (objO ⟨xk, xf, xt, xh, xa⟩)]) (l₂ := [bxT N p g V L, blk k (objR N u), lstT u D])))
      obtain ⟨o0, o1, o2, o3, o4⟩ := s5.opAt (q := wr.heap.size) (x := ⟨xk, xf, xt, xh, xa⟩) (by simp)
      simp only [objO] at o0 o1 o2 o3 o4
      have H5 : Hid (Sep w r (wr.alloc (.cells #[.int .i64 xk, .int .i64 xf, .int .i64 xt, .int .i64 xh, .int .i64 xa] 31)) [bxT N p g V L, blk k (objR N u), lstT u D, blk wr.heap.size (objO ⟨xk, xf, xt, xh, xa⟩)]) := s5
      clear s1 s5 hRel0
      go_upto_block 2 with fail
      go_cut [5, 11, 12, 13, 14, 15, 16, 17] from 62 to 177 (fun s5 s11 s12 _ _ _ _ _ wx => ∃ (M : St) (D2 : Dl) (p2 g2 : Nat) (V2 : List Sv) (u2 : Value) (E : Int), s5 = ptr p2 ∧ s11 = .int .i64 E ∧ s12 = .int .i64 E ∧ Rel N M D2 ∧ Sep w r wx [bxT N p2 g2 V2 M, blk k (objR N u2), lstT u2 D2, blk wr.heap.size (objO ⟨xk, xf, xt, xh, xa⟩)])
      case first =>
        by_cases hk0 : xk = 0
        · have hq0 : (xk == 0) = true := by simpa using hk0
          clear hk0
          as_aux_lemma =>
            go_wp2_with fail
            refine Calls.mono (send_sep H5.out xf xt xh xa) ?_
            rintro e w6 ⟨rfl, V6, s6⟩
            clear o0 o1 o2 o3 o4
            generalize hz0 : wr.heap.size = q at *
            clear hz0
            obtain ⟨o0, o1, o2, o3, o4⟩ := s6.opAt (q := q) (x := ⟨xk, xf, xt, xh, xa⟩) (by simp)
            simp only at o0 o1 o2 o3 o4
            have HS := hid (rsend_sep s6.third (by have := HLen.out; omega) xf xt xh xa)
            have HRel := hid (rsend_rel HR0.out HG0.out xf xt xh xa)
            rw [HRel.out.1] at HS
            have HRel := hid HRel.out.2
            clear s6 H5
            obtain ⟨E, hE⟩ : ∃ E, sendE N L xf xt = E := ⟨_, rfl⟩
            rw [hE] at HS ⊢
            clear hE
            go_wp2_with fail
            refine Calls.mono HS.out ?_
            rintro e w7 ⟨rfl, u7, s7⟩
            have H7 := hid s7.third.third
            clear s7 HS
            clear o0 o1 o2 o3 o4
            go_wp2_with fail
            go_meet
            exact ⟨_, _, _, _, _, _, _, rfl, rfl, rfl, HRel.out, H7.out⟩
        · have hq0 : (xk == 0) = false := by simpa using hk0
          clear hk0
          by_cases hk1 : xk = 1
          · have hq1 : (xk == 1) = true := by simpa using hk1
            clear hk1
            as_aux_lemma =>
              go_wp2_with fail
              refine Calls.mono (all_sep H5.out xf xh xa) ?_
              rintro e w6 ⟨rfl, V6, s6⟩
              clear o0 o1 o2 o3 o4
              generalize hz0 : wr.heap.size = q at *
              clear hz0
              obtain ⟨o0, o1, o2, o3, o4⟩ := s6.opAt (q := q) (x := ⟨xk, xf, xt, xh, xa⟩) (by simp)
              simp only at o0 o1 o2 o3 o4
              have HS := hid (rall_sep s6.third hN8 (by have := HLen.out; omega) xf xh xa)
              have HRel := hid (rall_rel HR0.out HG0.out xf xh xa)
              rw [HRel.out.1] at HS
              have HRel := hid HRel.out.2
              clear s6 H5
              obtain ⟨E, hE⟩ : ∃ E, allE N L xf = E := ⟨_, rfl⟩
              rw [hE] at HS ⊢
              clear hE
              go_wp2_with fail
              refine Calls.mono HS.out ?_
              rintro e w7 ⟨rfl, u7, s7⟩
              have H7 := hid s7.third.third
              clear s7 HS
              clear o0 o1 o2 o3 o4
              go_wp2_with fail
              go_meet
              exact ⟨_, _, _, _, _, _, _, rfl, rfl, rfl, HRel.out, H7.out⟩
          · have hq1 : (xk == 1) = false := by simpa using hk1
            clear hk1
            by_cases hk2 : xk = 2
            · have hq2 : (xk == 2) = true := by simpa using hk2
              clear hk2
              as_aux_lemma =>
                obtain ⟨β, hβ⟩ : ∃ β, takeB L xt = β := ⟨_, rfl⟩
                obtain ⟨mm, hmm⟩ : ∃ mm, takeM L xt = mm := ⟨_, rfl⟩
                obtain ⟨m1, m2, m3⟩ := mm
                have HM := hid (And.intro hmm hβ)
                clear hβ hmm
                go_wp2_with fail
                refine Calls.mono (take_is H5.out xt HM.out.1 HM.out.2 rfl) ?_
                rintro e w6 ⟨rfl, V6, s6⟩
                clear o0 o1 o2 o3 o4
                generalize hz0 : wr.heap.size = q at *
                clear hz0
                have s7 := (s6.third.box (objM ⟨m1, m2, m3⟩)).third
                obtain ⟨o0, o1, o2, o3, o4⟩ := s7.opAt (q := q) (x := ⟨xk, xf, xt, xh, xa⟩) (by simp)
                simp only at o0 o1 o2 o3 o4
                have hRel := rtake_rel HR0.out HG0.out xt
                have hS := rtake_sep s7 (by have := HLen.out; omega) xt
                rw [hRel.1, hRel.2.1, HM.out.1, HM.out.2] at hS
                simp only at hS
                have HS := hid hS
                have HRel := hid hRel.2.2
                clear s6 H5 hRel hS
                unfold objM at o0 o1 o2 o3 o4 HS
                go_wp2_with fail
                refine Calls.mono HS.out ?_
                rintro e w7 ⟨rfl, u7, s8⟩
                have s9 := s8.box (objM ⟨m1, m2, m3⟩)
                obtain ⟨y0, y1, y2⟩ := cellsM (x := ⟨m1, m2, m3⟩) (s9.each (blk w6.heap.size (objM ⟨m1, m2, m3⟩)) (.tail _ (.tail _ (.tail _ (.head _))))).1
                simp only at y0 y1 y2
                have H7 : Hid (Sep w r _ [bxT N p g V6 (takeS L xt), blk k (objR N u7), lstT u7 (takeD D xt), blk q (objO ⟨xk, xf, xt, xh, xa⟩)]) := (s9.sub (.cons _ (.cons_cons _ (.cons_cons _ (.cons _ (.cons_cons _ (.cons_cons _ (.refl _)))))))).third.third
                clear s7 s8 s9 HS
                unfold objM at y0 y1 y2 H7
                have he := fun W => eq_mail W m1 m2 m3 m1 m2 m3
                have hmm2 : mlB ⟨m1, m2, m3⟩ ⟨m1, m2, m3⟩ = true := mlB_self _
                rw [hmm2] at he
                have hbb : (β != β) = false := by simp
                have hbb2 : (β == β) = true := by simp
                clear o0 o1 o2 o3 o4
                go_wp2_with fail
                go_meet
                exact ⟨_, _, _, _, _, _, 0, rfl, rfl, rfl, HRel.out, H7.out⟩
            · have hq2 : (xk == 2) = false := by simpa using hk2
              clear hk2
              by_cases hk3 : xk = 3
              · have hq3 : (xk == 3) = true := by simpa using hk3
                clear hk3
                as_aux_lemma =>
                  go_wp2_with fail
                  refine Calls.mono (copy_sep H5.out) ?_
                  rintro e w6 ⟨p6, rfl, g6, V6, s6⟩
                  clear o0 o1 o2 o3 o4
                  generalize hz0 : wr.heap.size = q at *
                  clear hz0
                  obtain ⟨o0, o1, o2, o3, o4⟩ := s6.opAt (q := q) (x := ⟨xk, xf, xt, xh, xa⟩) (by simp)
                  simp only at o0 o1 o2 o3 o4
                  have H6 := hid s6.swap
                  clear s6 H5
                  go_wp2_with fail
                  refine Calls.mono (all_sep H6.out 0 99 99) ?_
                  rintro e w7 ⟨rfl, V7, s7⟩
                  clear o0 o1 o2 o3 o4
                  obtain ⟨o0, o1, o2, o3, o4⟩ := s7.opAt (q := q) (x := ⟨xk, xf, xt, xh, xa⟩) (by simp)
                  simp only at o0 o1 o2 o3 o4
                  have H8 := hid s7
                  clear s7 H6
                  generalize allE N L 0 = E1 at *
                  go_wp2_with fail
                  refine Calls.mono (take_sep H8.out xt) ?_
                  rintro e w8 ⟨rfl, V8, s8⟩
                  have H7 := hid s8.drop
                  have HRel := HR0
                  clear s8 H8
                  generalize takeB (allS N L 0 99 99) xt = β at *
                  generalize takeM (allS N L 0 99 99) xt = mm at *
                  clear o0 o1 o2 o3 o4
                  go_wp2_with fail
                  go_meet
                  exact ⟨_, _, _, _, _, _, _, rfl, rfl, rfl, HRel.out, H7.out⟩
              · have hq3 : (xk == 3) = false := by simpa using hk3
                clear hk3
                as_aux_lemma =>
                  have H7 := H5
                  have HRel := HR0
                  go_wp2_with fail
                  go_meet
                  exact ⟨_, _, _, _, _, _, 0, rfl, rfl, rfl, HRel.out, H7.out⟩
      case rest =>
        as_aux_lemma =>
          clear H5 o0 o1 o2 o3 o4
          obtain ⟨M, D2, p2, g2, V2, u2, E, rfl, rfl, rfl, hRel, s7⟩ := hcut
          generalize hz0 : wr.heap.size = q at *
          clear hz0
          obtain ⟨o0, o1, o2, o3, o4⟩ := s7.opAt (q := q) (x := ⟨xk, xf, xt, xh, xa⟩) (by simp)
          simp only at o0 o1 o2 o3 o4
          have hGood := s7.goodB
          have hlen := hRel.few hGood
          obtain ⟨b, hb⟩ : ∃ b, boxL M xt = b := ⟨_, rfl⟩
          have hbD : boxD D2 xt = b := (hRel.boxL hGood xt).symm.trans hb
          obtain ⟨m, hm⟩ : ∃ m, b.length = m := ⟨_, rfl⟩
          have hm5 : m ≤ 512 := by
            have := boxD_le D2 xt
            rw [hbD, hm] at this
            omega
          obtain ⟨z, hz⟩ : ∃ z, owedN xf M = z := ⟨_, rfl⟩
          have hzD : ofD xf D2 = z := (hRel.owed hGood xf).symm.trans hz
          have HB0 := hid (And.intro hb hm)
          have H7 := hid s7
          have HRel := hid hRel
          clear s7 hRel hGood
          go_wp2_with fail
          refine Calls.mono (box_is H7.out xt HB0.out.1 HB0.out.2) ?_
          rintro e wA ⟨aA, cA, rfl, sA⟩
          have sB : Sep w r wA (bxT N p2 g2 V2 M :: blk k (objR N u2) :: lstT u2 D2 :: lstM (.slice aA m cA) b :: blk q (objO ⟨xk, xf, xt, xh, xa⟩) :: []) := sA.perm (.cons _ ((List.Perm.swap _ _ _).trans (.cons _ (List.Perm.swap _ _ _))))
          clear o0 o1 o2 o3 o4
          have HB := hid sB
          have HC : Hid (∀ W, Sep w r W (bxT N p2 g2 V2 M :: blk k (objR N u2) :: lstT u2 D2 :: lstM (.slice aA m cA) b :: blk q (objO ⟨xk, xf, xt, xh, xa⟩) :: []) → W.cell? ⟨q, 1, none⟩ = some (.int .i64 xf) ∧ W.cell? ⟨q, 2, none⟩ = some (.int .i64 xt)) := fun W h => by
            obtain ⟨-, e1, e2, -, -⟩ := h.opAt (q := q) (x := ⟨xk, xf, xt, xh, xa⟩) (by simp)
            exact ⟨e1, e2⟩
          have K1 : Hid (∀ W, Sep w r W (bxT N p2 g2 V2 M :: blk k (objR N u2) :: lstT u2 D2 :: lstM (.slice aA m cA) b :: blk q (objO ⟨xk, xf, xt, xh, xa⟩) :: []) → Calls Try.prog 20 #[ptr k, .int .i64 xt] W fun e w' => ∃ ao cap, e = .returned (.slice ao m cap) ∧ Sep w r w' (lstM (.slice ao m cap) b :: (bxT N p2 g2 V2 M :: blk k (objR N u2) :: lstT u2 D2 :: lstM (.slice aA m cA) b :: blk q (objO ⟨xk, xf, xt, xh, xa⟩) :: []))) := fun W h =>
            (rbox_new h.drop (by omega) xt).mono fun e w' ⟨v, he, k⟩ => by
              rw [hbD] at k
              obtain ⟨ao, cap, rfl⟩ := k.listIs (E := elM) (v := v) (A := b) (by simp)
              rw [hm] at he k
              exact ⟨ao, cap, he, h.join k⟩
          have K2 : Hid (∀ W ao cap, Sep w r W (lstM (.slice ao m cap) b :: (bxT N p2 g2 V2 M :: blk k (objR N u2) :: lstT u2 D2 :: lstM (.slice aA m cA) b :: blk q (objO ⟨xk, xf, xt, xh, xa⟩) :: [])) → Calls Try.prog 19 #[.slice aA m cA, .slice ao m cap] W fun e w' => e = .returned (.bool true) ∧ Sep w r w' (lstM (.slice ao m cap) b :: (bxT N p2 g2 V2 M :: blk k (objR N u2) :: lstT u2 D2 :: lstM (.slice aA m cA) b :: blk q (objO ⟨xk, xf, xt, xh, xa⟩) :: []))) := fun W ao cap h =>
            same_is h (.tail _ (.tail _ (.tail _ (.tail _ (.head _))))) (.head _) (by omega) rfl
          have K3 : Hid (∀ W ao cap, Sep w r W (lstM (.slice ao m cap) b :: (bxT N p2 g2 V2 M :: blk k (objR N u2) :: lstT u2 D2 :: lstM (.slice aA m cA) b :: blk q (objO ⟨xk, xf, xt, xh, xa⟩) :: [])) → Calls Try.prog 21 #[ptr p2, .int .i64 xf] W fun e w' => e = .returned (.int .i64 (z : Int)) ∧ Sep w r w' (lstM (.slice ao m cap) b :: (bxT N p2 g2 V2 M :: blk k (objR N u2) :: lstT u2 D2 :: lstM (.slice aA m cA) b :: blk q (objO ⟨xk, xf, xt, xh, xa⟩) :: []))) := fun W ao cap h =>
            (owed_new h.drop xf).mono fun e w' ⟨he, k⟩ => by
              rw [hz] at he
              exact ⟨he, h.below k⟩
          have K4 : Hid (∀ W ao cap, Sep w r W (lstM (.slice ao m cap) b :: (bxT N p2 g2 V2 M :: blk k (objR N u2) :: lstT u2 D2 :: lstM (.slice aA m cA) b :: blk q (objO ⟨xk, xf, xt, xh, xa⟩) :: [])) → Calls Try.prog 22 #[ptr k, .int .i64 xf] W fun e w' => e = .returned (.int .i64 (z : Int)) ∧ Sep w r w' (lstM (.slice ao m cap) b :: (bxT N p2 g2 V2 M :: blk k (objR N u2) :: lstT u2 D2 :: lstM (.slice aA m cA) b :: blk q (objO ⟨xk, xf, xt, xh, xa⟩) :: []))) := fun W ao cap h =>
            (rowed_new h.drop.drop (by omega) xf).mono fun e w' ⟨he, k⟩ => by
              rw [hzD] at he
              subst k
              exact ⟨he, h⟩
          have hS : wA.drew.cell? ⟨q, 1, none⟩ = some (.int .i64 xf) ∧ wA.drew.cell? ⟨q, 2, none⟩ = some (.int .i64 xt) := HC.out _ HB.out.drew
          have hE0 : (E != E) = false := by simp
          have hz0 : ((z : Int) != (z : Int)) = false := by simp
          clear sA sB hb hbD hz hzD H7 hlen
          go_wp2_with fail
          (try simp only [List.append_eq, List.cons_append, List.nil_append])
          go_region_held3 (fun W => W.cell? ⟨q, 1, none⟩ = some (.int .i64 xf) ∧ W.cell? ⟨q, 2, none⟩ = some (.int .i64 xt)) ((first | with_reducible assumption | with_reducible exact hS))
            (first
              | (go_at_call 20; (with_reducible refine Calls.mono (K1.out _ HB.out.drew) ?_); rintro e u1 ⟨a1, k1, rfl, j1⟩; have t1 : u1.cell? ⟨q, 1, none⟩ = some (.int .i64 xf) ∧ u1.cell? ⟨q, 2, none⟩ = some (.int .i64 xt) := HC.out _ j1.drop; have J1 := hid j1; clear j1 HB)
              | (go_at_call 19; (with_reducible refine Calls.mono (K2.out _ a1 k1 J1.out) ?_); rintro e x2 ⟨rfl, j2⟩; have t2 : x2.cell? ⟨q, 1, none⟩ = some (.int .i64 xf) ∧ x2.cell? ⟨q, 2, none⟩ = some (.int .i64 xt) := HC.out _ j2.drop; have J2 := hid j2; clear j2 J1)
              | (go_at_call 21; (with_reducible refine Calls.mono (K3.out _ a1 k1 J2.out) ?_); rintro e x3 ⟨rfl, j3⟩; have t3 : x3.cell? ⟨q, 1, none⟩ = some (.int .i64 xf) ∧ x3.cell? ⟨q, 2, none⟩ = some (.int .i64 xt) := HC.out _ j3.drop; have J3 := hid j3; clear j3 J2)
              | (go_at_call 22; (with_reducible refine Calls.mono (K4.out _ a1 k1 J3.out) ?_); rintro e x4 ⟨rfl, j4⟩; have t4 : x4.cell? ⟨q, 1, none⟩ = some (.int .i64 xf) ∧ x4.cell? ⟨q, 2, none⟩ = some (.int .i64 xt) := HC.out _ j4.drop; have J4 := hid j4; clear j4 J3))
          clear hS t1 t2 t3 t4
          have s8 := Sep.anyM J4.out.drop.fourth
          rw [HB0.out.2] at s8
          have H8 := hid s8
          clear s8 J4 K1 K2 K3 K4 HC
          go_wp2_with fail
          go_loopw [19] (fun s19 wx => ∃ j : Nat, j ≤ m ∧ s19 = .int .i64 j ∧ Sep w r wx (anyM (.slice aA m cA) m :: bxT N p2 g2 V2 M :: blk k (objR N u2) :: lstT u2 D2 :: blk q (objO ⟨xk, xf, xt, xh, xa⟩) :: [])) (fun s19 _ => m - (intOf s19).toNat)
          case atStart => exact ⟨0, Nat.zero_le _, rfl, H8.out⟩
          case round =>
            clear H8
            obtain ⟨j, hj, rfl, s1⟩ := hrel
            by_cases hjl : j < m
            · obtain ⟨g5, rfl, ⟨y, hy⟩, hf, hset⟩ := s1.overM hjl
              have S2 := hid (hset 77)
              have hjz : (j : Int) < (m : Int) := by omega
              clear s1 hset
              go_wp2
              go_round
              case rel => exact ⟨j + 1, by omega, by go_num, S2.out⟩
              case measure => simp [intOf]; omega
            · have hjz : ¬ ((j : Int) < (m : Int)) := by omega
              have S3 := hid (s1.drop.sub (.cons_cons _ (.cons_cons _ (.cons_cons _ (.cons _ (.refl _))))))
              clear s1
              go_wp2
              go_roundw
              case rel => exact ⟨i + 1, M, D2, p2, g2, V2, u2, by omega, rfl, by go_num, HRel.out, S3.out⟩
              case measure => simp [intOf]; omega
    · have hex : (¬ ((i : Int) < (X.length : Int))) ∨ ((i : Int) < (X.length : Int) ∧ ¬ ((i : Int) < 100)) := by omega
      have S1 := hid s1
      clear hgo s1 hRel0
      generalize hn : X.length = nX at *
      rcases hex with h | ⟨h, h2⟩
      all_goals
        go_wp2_with (go_at_call 23; refine Calls.mono (fixed_sep S1.out) ?_; rintro e wf ⟨rfl, sf⟩; have SF := hid sf; clear sf S1)
        go_ret
        exact ⟨rfl, by rw [HR.out]; exact SF.out.low⟩
open Go.ChangeShapes Go.WideShapes Go.ChangeAt Go.RowKit Go.Joins

/-! ### From the walk to the statement -/
set_option maxRecDepth 100000 in
theorem lifted (os : Os) (started : os.Started) (H : Type) (enc : TypeId × Value → H) :
    ReturnsInHanded {} Try.checked os 3 .any (Rows.mailboxDoesSpec.pre6 enc Try.prog Try.f3 Rows.mailboxDoesRow.domain false) (Rows.mailboxDoesSpec.post enc Try.prog Try.f3 false true false false) := by
  refine returnsInHanded_of_change (C := Try.checked) ownK started (by kernel_rfl) Try.func3
    (ChangeSpec.witness6 (enc := enc) (C := Try.checked) false ⟨#[], #[.int .i64 0, .slice none 0 0], []⟩ 8 (by kernel_rfl) (by kernel_rfl) (by kernel_rfl) (by kernel_rfl)) ?_
  intro W base args ds gs before hval0 hW hcnd _
  have hval : ∀ (j : Nat) t v, Try.f3.params[j]? = some t → args[j]? = some v → Value.okWide Try.prog W .any base t v := hval0
  have hW' := hW
  obtain ⟨p, q, hA0, hV, rfl, hfz, hnd⟩ := hW
  have hA : DataW.TrodAll enc Try.prog W 0 (fun _ => true) true Try.f3.params.toList args.toList ds p := hA0
  rw [Try.params3] at hA hval
  obtain ⟨v0, vs0, d0, ds0, p0, q0, hargs, rfl, rfl, h0, r0⟩ := trodAll_cons hA
  obtain ⟨v1, vs1, d1, ds1, p1, q1, rfl, rfl, rfl, h1, r1⟩ := trodAll_cons r0
  obtain ⟨rfl, rfl, rfl⟩ := trodAll_nil r1
  obtain rfl : args = #[v0, v1] := by cases args; simp_all
  obtain ⟨rfl, rfl⟩ := trodVars_none hV
  have k0 := h0
  have lt0 : ∀ x ∈ p0, x.block < W.heap.size := by obtain ⟨m, hm⟩ := k0; exact DataW.trod_lt m _ _ _ hm
  obtain ⟨a0, rfl, _, _, w0⟩ := open_int Try.underlying3 (hval 0 3 v0 rfl rfl) h0
  have k1 := h1
  have lt1 : ∀ x ∈ p1, x.block < W.heap.size := by obtain ⟨m, hm⟩ := k1; exact DataW.trod_lt m _ _ _ hm
  obtain ⟨a1, l1, c1, rfl, t1, s1⟩ := open_ops (hval 1 22 v1 rfl rfl) h1
  clear hA0 hval0
  refine (walk a0 a1 l1 c1 W (bounds_i64 w0) t1 s1).mono fun e W' ⟨he, bel⟩ => ?_
  subst he
  exact ⟨_, rfl, _, _, _, [], _, [], hW', trodAll_mk1 (shut_bool Try.underlying4 _), (trodAll_cons_mk (Below.trod laidOut (by kernel_rfl) (of_decide_eq_true (by kernel_rfl)) k0 bel lt0) (trodAll_cons_mk (Below.trod laidOut (by kernel_rfl) (of_decide_eq_true (by kernel_rfl)) k1 bel lt1) trodAll_mk0)), rfl, bel.frame _, fun h => by cases h⟩
theorem over : Rows.mailboxDoesRow.holds Try.pinned (OpenSpec.ofChange Rows.mailboxDoesSpec) :=
  OpenClaim.holds_of_wide 3 Try.f3 rfl rfl rfl rfl rfl rfl rfl ⟨rfl, rfl, rfl, rfl, rfl⟩ rfl rfl rfl rfl rfl (by kernel_rfl) Try.func3 (by kernel_rfl)
    (of_decide_eq_true (by kernel_rfl)) (by unfold Func.isWrapper; first | (rw [if_pos (by decide +kernel)]; kernel_rfl) | (rw [if_neg (by decide +kernel)]; exact ⟨rfl, rfl⟩))
    (fun os started H enc _ => lifted os started H enc)
end Go.Proofs.Ytpapjdmnhgnpfaa.mailboxDoes
namespace Go.Proofs.Ytpapjdmnhgnpfaa
/-- THE STATEMENT. -/
theorem mailboxDoes_said : Rows.MailboxDoesSaid := mailboxDoes.over
#print axioms mailboxDoes_said
end Go.Proofs.Ytpapjdmnhgnpfaa
