/-
  What Take of the document's own boxes answers, and leaves, among things that lie apart; no condition but that few messages are there.
-/
import Derived.Test.YtpapjdmnhgnpfaaMBRef
namespace Go.Proofs.Ytpapjdmnhgnpfaa
open Go.RowKit Go.Deep Go.Shelf
theorem Row.headAt {α : Type} {E : El α} {w : World} {L : List α} (ok : El.Ok E) {g cap n : Nat} (h : Row E w (.slice (some ⟨g, 0, none⟩) n cap) L) (d : Nat) (j : Nat) (u : Value) (hj : (flatK E.enc (L.take d))[j]? = some u) : w.cell? ((⟨g, 0, none⟩ : Addr).add j) = some u := by
  rw [flatK_take ok.len] at hj
  have hl := (List.getElem?_eq_some_iff.1 hj).1
  rw [List.length_take] at hl
  rw [List.getElem?_take_of_lt (by omega)] at hj
  exact World.ownsRow.cells h (g := g) rfl j u hj
def rtM (D : Dl) (c : Int) : Ml := ((D[firstK D c]?).map Tl.m).getD ml0
def rtB (D : Dl) (c : Int) : Bool := decide (firstK D c < D.length)
section
variable {w0 w w' : World} {r k n : Nat} {D : Dl} {R : List Th} {u : Value}
set_option maxHeartbeats 8000000 in
set_option maxRecDepth 100000 in
theorem rtake_sep (s : Sep w0 r w (blk k (objR n u) :: lstT u D :: R)) (hl : D.length ≤ 1000) (c : Int) :
    Calls Try.prog 16 #[ptr k, .int .i64 c] w fun e w' => e = .returned (.tuple #[.agg #[.int .i64 (rtM D c).f, .int .i64 (rtM D c).k, .int .i64 (rtM D c).a], .bool (rtB D c)]) ∧ ∃ u', Sep w0 r w' (blk k (objR n u') :: lstT u' (takeD D c) :: R) := by
  have s1 := s.box (objM ml0)
  obtain ⟨ao, cap, rfl, hcap, hc63, -, -⟩ := Row.slice (show Row elT w u D from s.drop.head)
  obtain ⟨-, c1, -⟩ := s1.drop.cellsR
  have S1 := hid s1
  obtain ⟨N, hN⟩ : ∃ N, D.length = N := ⟨_, rfl⟩
  rw [hN] at S1 hl c1 hcap
  have HN := hid hN
  clear s s1 hN
  go_enter Try.func16, Try.ntmps16
  go_wp2_with fail
  unfold objM ml0 at c1 S1
  generalize hq : w.heap.size = q at *
  generalize hw1 : w.alloc (.cells #[.int .i64 0, .int .i64 0, .int .i64 0] 35) = w1 at *
  clear hw1
  go_loopw [6] (fun s6 wr => ∃ j : Nat, j ≤ N ∧ s6 = .int .i64 j ∧ wr = w1 ∧ Hid (∀ (i : Nat) y, i < j → D[i]? = some y → (y.t == c) = false)) (fun s6 _ => N - (intOf s6).toNat)
  case atStart => exact ⟨0, Nat.zero_le _, rfl, rfl, fun i y hi => by omega⟩
  case round =>
    obtain ⟨j, hj, rfl, rfl, HJ⟩ := hrel
    by_cases hlt : j < N
    · have hltz : (j : Int) < (N : Int) := by omega
      have hx := List.getElem?_eq_getElem (l := D) (i := j) (by have := HN.out; omega)
      generalize D[j]'(by have := HN.out; omega) = x at hx
      have row : Row elT wr (.slice ao N cap) D := S1.out.drop.drop.head
      obtain ⟨_, _, ev, -, -, hg, -⟩ := row.slice
      simp only [Value.slice.injEq] at ev
      obtain ⟨rfl, -, rfl⟩ := ev
      obtain ⟨g, rfl⟩ := hg j (by have := HN.out; omega)
      obtain ⟨x0, x1, x2, x3⟩ := rowT_at row hx
      by_cases e : x.t = c
      · have e1 : (x.t == c) = true := by simpa using e
        have hfi := first_is HJ.out hx e1
        have HX : Hid (rtM D c = x.m ∧ rtB D c = true ∧ takeD D c = D.take j ++ D.drop (j + 1)) := by
          refine ⟨?_, ?_, ?_⟩
          · unfold rtM
            rw [hfi, hx]
            rfl
          · unfold rtB
            rw [hfi, HN.out]
            simpa using hlt
          · unfold takeD
            rw [hfi, List.eraseIdx_eq_take_drop_succ]
        have s2 := S1.out.box (objM x.m)
        have s3 := Sep.made (E := elT) s2
        have e9 : (wr.alloc (objM x.m)).heap.size = wr.heap.size + 1 := by simp
        rw [e9] at s3
        have row3 : Row elT ((wr.alloc (objM x.m)).alloc (.cells #[] elT.e)) (.slice (some ⟨g, 0, none⟩) N cap) D := (s3.each (lstT (.slice (some ⟨g, 0, none⟩) N cap) D) (by simp)).1
        have hlt1 : (D.take j).length = j := by rw [List.length_take]; have := HN.out; omega
        obtain ⟨v4, w4, r4, s4⟩ := s3.ontoAt okT (B := D.take j) ⟨g, 0, none⟩ cap j hlt1 (Row.headAt okT row3 j) 52 (by rw [hlt1]; simp; omega)
        rw [List.nil_append] at s4
        obtain ⟨a4, k4, rfl⟩ := s4.listIs (E := elT) (v := v4) (A := D.take j) (by simp)
        have row4 : Row elT w4 (.slice (some ⟨g, 0, none⟩) N cap) D := (s4.each (lstT (.slice (some ⟨g, 0, none⟩) N cap) D) (by simp)).1
        obtain ⟨ad, had, hsee⟩ : ∃ ad : Addr, (if cap = j + 1 then some (⟨g, 0, none⟩ : Addr) else some ⟨g, (j + 1) * 4, none⟩) = some ad ∧ ∀ i u, (flatK elT.enc (D.drop (j + 1)))[i]? = some u → w4.cell? (ad.add i) = some u := by
          by_cases hc : cap = j + 1
          · refine ⟨⟨g, 0, none⟩, by simp [hc], fun i u hi => ?_⟩
            have : D.drop (j + 1) = [] := List.drop_of_length_le (by rw [HN.out]; omega)
            rw [this] at hi
            simp [flatK] at hi
          · exact ⟨⟨g, (j + 1) * 4, none⟩, by simp [hc], Row.tailAt okT row4 (j + 1)⟩
        have hld : (D.drop (j + 1)).length = N - (j + 1) := by rw [List.length_drop, HN.out]
        obtain ⟨v5, w5, r5, s5⟩ := s4.ontoAt okT (B := D.drop (j + 1)) ad (cap - (j + 1)) (N - (j + 1)) hld hsee 52 (by rw [hlt1, hld]; omega)
        rw [← HX.out.2.2] at s5
        obtain ⟨a5, k5, rfl⟩ := s5.listIs (E := elT) (v := v5) (A := takeD D c) (by simp)
        rw [hlt1] at r4 r5
        have P5 : Sep w0 r w5 (blk k (objR n (.slice (some ⟨g, 0, none⟩) N cap)) :: lstT (.slice a5 (takeD D c).length k5) (takeD D c) :: blk wr.heap.size (objM x.m) :: blk q (objM ml0) :: lstT (.slice (some ⟨g, 0, none⟩) N cap) D :: R) := s5.perm (by
          refine (List.Perm.cons _ (List.Perm.cons _ (List.Perm.swap _ _ _))).trans ?_
          refine (List.Perm.cons _ (List.Perm.swap _ _ _)).trans ?_
          exact List.Perm.swap _ _ _)
        obtain ⟨-, c5, f5⟩ := P5.cellsR
        have c2a : ((wr.alloc (objM x.m)).alloc (.cells #[] elT.e)).cell? ⟨k, 1, none⟩ = some (.slice (some ⟨g, 0, none⟩) N cap) := cell_al (cell_al c1 _) _
        have P4 : Sep w0 r w4 (blk k (objR n (.slice (some ⟨g, 0, none⟩) N cap)) :: lstT (.slice a4 (D.take j).length k4) (D.take j) :: blk wr.heap.size (objM x.m) :: blk q (objM ml0) :: lstT (.slice (some ⟨g, 0, none⟩) N cap) D :: R) := s4.perm (by
          refine (List.Perm.cons _ (List.Perm.cons _ (List.Perm.swap _ _ _))).trans ?_
          refine (List.Perm.cons _ (List.Perm.swap _ _ _)).trans ?_
          exact List.Perm.swap _ _ _)
        obtain ⟨-, c4, -⟩ := P4.cellsR
        have s6 := P5.putR (v' := .slice a5 (takeD D c).length k5)
        generalize hw6 : w5.setCell ⟨k, 1, none⟩ (.slice a5 (takeD D c).length k5) = w6 at *
        obtain ⟨y0, y1, y2⟩ := cellsM (x := x.m) (s6.each (blk wr.heap.size (objM x.m)) (by simp)).1
        obtain ⟨z0, z1, z2⟩ := cellsM (x := ml0) (s6.each (blk q (objM ml0)) (by simp)).1
        have zf := fun i => frozenM (x := ml0) (s6.each (blk q (objM ml0)) (by simp)).1 i
        have s7 : Sep w0 r w6 (blk q (objM ml0) :: blk k (objR n (.slice a5 (takeD D c).length k5)) :: lstT (.slice a5 (takeD D c).length k5) (takeD D c) :: R) := (s6.sub2 (.cons_cons _ (.cons_cons _ (.cons _ (.cons_cons _ (.cons _ (.refl _))))))).third.third
        have S8 := hid ((s7.putM x.m).drop)
        simp only [elT] at r4 r5 c2a
        unfold objM at r4 c2a
        simp only [ml0] at z0 z1 z2
        have R4 := hid r4
        have R5 := hid r5
        have HW6 := hid hw6
        have hkz : (j : Int) ≤ (N : Int) := by omega
        have hkz1 : (j : Int) + 1 ≤ (N : Int) := by omega
        have hkz2 : (j : Int) + 1 ≤ (cap : Int) := by omega
        have hkz3 : (j : Int) ≤ (cap : Int) := by omega
        have hk1 : j + 1 ≤ cap := by omega
        have hk2 : j ≤ cap := by omega
        have hw1 : IntKind.i64.wrap ((j : Int) + 1) = (j : Int) + 1 := by
          unfold IntKind.wrap
          simp [IntKind.bits, IntKind.signed]
          omega
        have htn : ((j : Int) + 1).toNat = j + 1 := by omega
        clear e9 s2 s3 s4 s5 s6 s7 P5 P4 r4 r5 row row3 row4 hsee hld hlt1 hx hg hfi e HJ hw6 S1
        generalize (takeD D c).length = m5 at *
        go_wp2_with (first
          | (at_builtin; refine wpList_append_run rfl _ _ _ _ rfl _ _ _ _ rfl rfl R4.out ?_; clear R4)
          | (at_builtin; refine wpList_append_run rfl _ _ _ _ rfl _ _ _ _ rfl rfl R5.out ?_; clear R5)
          | (rw [HW6.out]; clear HW6))
        refine bodyPost_ret (v := .tuple #[.agg #[.int .i64 x.m.f, .int .i64 x.m.k, .int .i64 x.m.a], .bool true]) ?_ rfl ⟨by rw [HX.out.1, HX.out.2.1], _, S8.out⟩
        simp [results, Try.f16, go_sem, z0, z1, z2]
      · have e1 : (x.t == c) = false := by simpa using e
        have HX := hid hx
        clear e row hx hg
        go_wp2
        go_roundw
        case rel => exact ⟨j + 1, by omega, by go_num, by trivial, fun i y hi hy => by
          by_cases h : i = j
          · subst h
            have := HX.out
            rw [hy] at this
            cases this
            exact e1
          · exact HJ.out i y (by omega) hy⟩
        case measure => simp [intOf]; omega
    · obtain rfl : j = N := by omega
      have hltz : ¬ (j : Int) < (j : Int) := by omega
      have hno := first_no (D := D) (c := c) fun i y hy => HJ.out i y (by have := (List.getElem?_eq_some_iff.1 hy).1; have := HN.out; omega) hy
      have HX : Hid (rtM D c = ml0 ∧ rtB D c = false ∧ takeD D c = D) := by
        refine ⟨?_, ?_, ?_⟩
        · unfold rtM
          rw [List.getElem?_eq_none hno]
          rfl
        · unfold rtB
          simpa using hno
        · unfold takeD
          exact List.eraseIdx_of_length_le hno
      obtain ⟨z0, z1, z2⟩ := cellsM (x := ml0) S1.out.head
      have zf := fun i => frozenM (x := ml0) S1.out.head i
      have S8 := hid ((Sep.putM (x := ml0) ml0 S1.out).drop)
      simp only [ml0] at z0 z1 z2 S8
      clear HJ hno S1
      go_wp2
      refine bodyPost_ret (v := .tuple #[.agg #[.int .i64 0, .int .i64 0, .int .i64 0], .bool false]) ?_ rfl ⟨by rw [HX.out.1, HX.out.2.1]; rfl, _, by rw [HX.out.2.2]; exact S8.out⟩
      simp [results, Try.f16, go_sem, z0, z1, z2]
end
end Go.Proofs.Ytpapjdmnhgnpfaa
