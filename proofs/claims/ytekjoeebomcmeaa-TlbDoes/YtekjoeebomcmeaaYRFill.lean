/-
  What the document's own Fill leaves, among things that lie apart; no condition.
-/
import Derived.Test.YtekjoeebomcmeaaYRef
import Derived.Test.YtekjoeebomcmeaaGOnto
namespace Go.Proofs.Ytekjoeebomcmeaa
open Go.RowKit Go.Deep Go.Shelf
section
variable {w0 w w' : World} {r p n : Nat} {v : Value} {S : St} {R : List Th}
set_option maxHeartbeats 8000000 in
set_option maxRecDepth 100000 in
theorem rfill_had (s : Sep w0 r w (tbT kR n p v S :: R)) (x : Lr) (hb : S.any (isK x.s x.p) = true) :
    Calls Try.prog 12 #[ptr p, encL x] w fun e w' => e = .returned (.tuple #[]) ∧ ∃ v', Sep w0 r w' (tbT kR n p v' (fillS n S x) :: R) := by
  have HFS : Hid (fillS n S x = lessS (isK x.s x.p) S ++ [x]) := by show fillS n S x = _; unfold fillS roomS; rw [if_pos hb]
  have S1 := hid (s.box (objL x))
  have HGF := hid (s.good.fill x)
  rw [HFS.out] at HGF
  have HD := hid (rdrop_sep S1.out.swap x.s x.p)
  rw [hb] at HD
  obtain ⟨g0, g1, g2, g3⟩ := newL w x
  clear s hb
  simp only [encL, objL] at *
  go_enter Try.func12, Try.ntmps12
  go_wp2_with fail
  generalize hz : w.heap.size = z at *
  clear hz
  generalize w.alloc (.cells #[.int .i64 x.s, .int .i64 x.p, .int .i64 x.f, .int .i64 x.r] 33) = w1 at *
  refine Calls.mono HD.out ?_
  rintro e w2 ⟨rfl, v2, s2⟩
  clear g0 g1 g2 g3 HD S1
  have c2 := s2.cellR
  have rm := s2.roomR
  have S2 := hid s2.swap
  clear s2
  go_wp2_with fail
  go_quiet (fail)
  have S3 := hid (S2.out.drewN nq)
  generalize w2.drewN nq = w3 at *
  clear c2 rm S2
  have s4 := S3.out.drew
  obtain ⟨a5, c5, w5, r5, d5, f5, s5⟩ := s4.drop.moreL okR x HGF.out
  have e8 : w3.drew.heap.size = w3.heap.size := rfl
  rw [e8] at r5
  have R5 := hid r5
  have c3 := S3.out.drop.cellR
  have c3a := cell_al c3 (.cells #[.int .i64 x.s, .int .i64 x.p, .int .i64 x.f, .int .i64 x.r] 33)
  obtain ⟨g0, g1, g2, g3⟩ := cellsL (x := x) S3.out.head
  have S5 := hid s5
  obtain ⟨av, cv, rfl, -⟩ := S3.out.drop.sliceP
  simp only [kR] at d5 f5
  generalize hTl : (lessS (isK x.s x.p) S).length = nT at *
  generalize hw5 : w5.setCell ⟨p, kR.j, none⟩ (.slice a5 (nT + 1) c5) = w6 at *
  have hw6 : w5.setCell ⟨p, 0, none⟩ (.slice a5 (nT + 1) c5) = w6 := hw5
  clear s4 s5 r5 e8 HGF hw5
  go_wp2_with fail
  go_region_law (refine step_append_run rfl (.tmp 39) (.tmp 41) 42 42 rfl (.slice av nT cv) (.slice (some ⟨w3.heap.size, 0, none⟩) 1 1) _ _ (by simp [Act.eval]) (by simp [Act.eval]) R5.out ?_)
  all_goals
    (try rw [hw6])
    clear hw6
    go_wp2
    exact bodyPost_end (v := .tuple #[]) (by simp [results, Try.results12, go_sem]) rfl ⟨rfl, _, by rw [HFS.out]; exact S5.out⟩
set_option maxHeartbeats 8000000 in
set_option maxRecDepth 100000 in
theorem rfill_room (s : Sep w0 r w (tbT kR n p v S :: R)) (x : Lr) (hb : S.any (isK x.s x.p) = false) (hn : S.length < n) :
    Calls Try.prog 12 #[ptr p, encL x] w fun e w' => e = .returned (.tuple #[]) ∧ ∃ v', Sep w0 r w' (tbT kR n p v' (fillS n S x) :: R) := by
  have HFS : Hid (fillS n S x = S ++ [x]) := by show fillS n S x = _; unfold fillS roomS; rw [if_neg (by rw [hb]; simp), if_neg (by omega)]
  have HLS := hid (less_none hb)
  have S1 := hid (s.box (objL x))
  have HGF := hid (s.good.fill x)
  rw [HFS.out] at HGF
  have HD := hid (rdrop_sep S1.out.swap x.s x.p)
  rw [hb] at HD
  obtain ⟨g0, g1, g2, g3⟩ := newL w x
  clear s hb
  simp only [encL, objL] at *
  go_enter Try.func12, Try.ntmps12
  go_wp2_with fail
  generalize hz : w.heap.size = z at *
  clear hz
  generalize w.alloc (.cells #[.int .i64 x.s, .int .i64 x.p, .int .i64 x.f, .int .i64 x.r] 33) = w1 at *
  refine Calls.mono HD.out ?_
  rintro e w2 ⟨rfl, v2, s2⟩
  clear g0 g1 g2 g3 HD S1
  rw [HLS.out] at s2
  obtain ⟨a2, k2, rfl, -⟩ := s2.sliceP
  have c2 := s2.cellR
  have rm := s2.roomR
  have hne : ((S.length : Int) == (n : Int)) = false := beq_eq_false_iff_ne.2 (by omega)
  have S2 := hid s2.swap
  clear s2 hn
  generalize hSl : S.length = sn at *
  have HSl := hid hSl
  clear hSl
  go_wp2_with fail
  go_quiet (fail)
  have s3 := S2.out.drewN nq
  rw [← HSl.out] at s3
  have S3 := hid s3
  generalize w2.drewN nq = w3 at *
  clear c2 rm S2 s3 HSl hne
  have s4 := S3.out.drew
  obtain ⟨a5, c5, w5, r5, d5, f5, s5⟩ := s4.drop.moreL okR x HGF.out
  have e8 : w3.drew.heap.size = w3.heap.size := rfl
  rw [e8] at r5
  have R5 := hid r5
  have c3 := S3.out.drop.cellR
  have c3a := cell_al c3 (.cells #[.int .i64 x.s, .int .i64 x.p, .int .i64 x.f, .int .i64 x.r] 33)
  obtain ⟨g0, g1, g2, g3⟩ := cellsL (x := x) S3.out.head
  have S5 := hid s5
  simp only [kR] at d5 f5
  generalize hTl : (S).length = nT at *
  generalize hw5 : w5.setCell ⟨p, kR.j, none⟩ (.slice a5 (nT + 1) c5) = w6 at *
  have hw6 : w5.setCell ⟨p, 0, none⟩ (.slice a5 (nT + 1) c5) = w6 := hw5
  clear s4 s5 r5 e8 HGF hw5
  go_wp2_with fail
  go_region_law (refine step_append_run rfl (.tmp 39) (.tmp 41) 42 42 rfl (.slice a2 nT k2) (.slice (some ⟨w3.heap.size, 0, none⟩) 1 1) _ _ (by simp [Act.eval]) (by simp [Act.eval]) R5.out ?_)
  all_goals
    (try rw [hw6])
    clear hw6
    go_wp2
    exact bodyPost_end (v := .tuple #[]) (by simp [results, Try.results12, go_sem]) rfl ⟨rfl, _, by rw [HFS.out]; exact S5.out⟩
set_option maxHeartbeats 8000000 in
set_option maxRecDepth 100000 in
theorem rfill_full (s : Sep w0 r w (tbT kR n p v S :: R)) (x : Lr) {y : Lr} {T : St} (hS : S = y :: T) (hb : S.any (isK x.s x.p) = false) (hn : n ≤ S.length) :
    Calls Try.prog 12 #[ptr p, encL x] w fun e w' => e = .returned (.tuple #[]) ∧ ∃ v', Sep w0 r w' (tbT kR n p v' (fillS n S x) :: R) := by
  have HFS : Hid (fillS n S x = T ++ [x]) := by show fillS n S x = _; unfold fillS roomS; rw [if_neg (by rw [hb]; simp), if_pos hn, hS, List.tail_cons]
  have HLS := hid (less_none hb)
  have HST := hid hS
  have hnl : S.length = n := Nat.le_antisymm s.good.le hn
  have HGT : Hid (Good n T) := by have := s.good; rw [hS] at this; exact this.tail
  have S1 := hid (s.box (objL x))
  have HGF := hid (s.good.fill x)
  rw [HFS.out] at HGF
  have HD := hid (rdrop_sep S1.out.swap x.s x.p)
  rw [hb] at HD
  obtain ⟨g0, g1, g2, g3⟩ := newL w x
  clear s hb
  simp only [encL, objL] at *
  go_enter Try.func12, Try.ntmps12
  go_wp2_with fail
  generalize hz : w.heap.size = z at *
  clear hz
  generalize w.alloc (.cells #[.int .i64 x.s, .int .i64 x.p, .int .i64 x.f, .int .i64 x.r] 33) = w1 at *
  refine Calls.mono HD.out ?_
  rintro e w2 ⟨rfl, v2, s2⟩
  clear g0 g1 g2 g3 HD S1
  rw [HLS.out] at s2
  obtain ⟨a2, k2, rfl, -⟩ := s2.sliceP
  have c2 := s2.cellR
  have rm := s2.roomR
  have S2 := hid s2.swap
  clear s2 hn
  have HN := hid hnl
  rw [hnl] at c2
  rw [hnl] at S2
  clear hnl hS
  have heq : ((n : Int) == (n : Int)) = true := by simp
  go_wp2_with fail
  go_quiet (fail)
  have s3 := S2.out.drewN nq
  generalize w2.drewN nq = w3 at *
  clear c2 rm S2
  have row : RowL w3 (.slice a2 n k2) S := s3.drop.rowP
  have hT1 : T.length = n - 1 := by have := HN.out; rw [HST.out] at this; simp at this; omega
  have hn1 : 1 ≤ n := HGT.out.pos
  obtain ⟨g, ea, hkn⟩ : ∃ g, a2 = some (⟨g, 0, none⟩ : Addr) ∧ n ≤ k2 := by
    rcases row.2 with ⟨e, h0⟩ | ⟨g, cap', cur, e, _, _, h1, _⟩
    · cases e
      omega
    · cases e
      exact ⟨g, rfl, by have := HN.out; omega⟩
  subst ea
  have c2 := s3.drop.cellR
  have fz := s3.drop.frozenP 0
  have s4 := Sep.made (E := elL) s3
  have row4 : RowL (w3.alloc (.cells #[] elL.e)) (.slice (some ⟨g, 0, none⟩) n k2) S := s4.drop.drop.rowP
  obtain ⟨ad, had, hsee⟩ : ∃ ad : Addr, (if k2 = 1 then some (⟨g, 0, none⟩ : Addr) else some ⟨g, 4, none⟩) = some ad ∧ ∀ j u, (flatK elL.enc T)[j]? = some u → (w3.alloc (.cells #[] elL.e)).cell? (ad.add j) = some u := by
    by_cases hc : k2 = 1
    · refine ⟨⟨g, 0, none⟩, by simp [hc], fun j u hj => ?_⟩
      have : T = [] := List.length_eq_zero_iff.1 (by omega)
      rw [this] at hj
      simp [flatK] at hj
    · refine ⟨⟨g, 4, none⟩, by simp [hc], fun j u hj => ?_⟩
      have := Row.tailAt okL row4 1 j u (by rw [HST.out, List.drop_one, List.tail_cons]; exact hj)
      exact this
  obtain ⟨v5, w5, r5, s5⟩ := s4.ontoAt okL ad (k2 - 1) (n - 1) hT1 hsee 42 (by have := HGT.out.few; simp; omega)
  rw [List.nil_append] at s5
  obtain ⟨a7, k7, rfl⟩ := s5.listIs (E := elL) (v := v5) (A := T) (by simp)
  have s6 := (s5.perm (.cons _ (.swap _ _ _))).hang okR HGT.out
  simp only [elL] at r5
  have R5 := hid r5
  have hkz : (1 : Int) ≤ (n : Int) := by omega
  have hkz2 : (1 : Int) ≤ (k2 : Int) := by omega
  have hk1 : 1 ≤ k2 := by omega
  have d2 : w5.cell? ⟨p, 0, none⟩ = some (.slice (some ⟨g, 0, none⟩) n k2) := (s5.perm (.cons _ (.swap _ _ _))).drop.cellR
  have f2 := (s5.perm (.cons _ (.swap _ _ _))).drop.frozenP 0
  have c2a := cell_al c2 (.cells #[] 33)
  obtain ⟨w7, hw7⟩ : ∃ w7, w5.setCell ⟨p, 0, none⟩ (.slice a7 T.length k7) = w7 := ⟨_, rfl⟩
  have hw7' : w5.setCell ⟨p, kR.j, none⟩ (.slice a7 T.length k7) = w7 := hw7
  rw [hw7'] at s6
  have S7 := hid s6.swap
  have E7 := hid hw7
  clear s3 s4 s5 s6 r5 row row4 hsee hT1 hw7 hw7'
  generalize hTl : T.length = tn at *
  have HTl := hid hTl
  clear hTl
  go_wp2_with (first | (at_builtin; refine wpList_append_run rfl _ _ _ _ rfl _ _ _ _ rfl rfl R5.out ?_; clear R5) | (rw [E7.out]; clear E7))
  rw [← HTl.out] at S7
  clear c2 fz had hkz hkz2 hk1 d2 f2 c2a hkn hn1
  have s4 := S7.out.drew
  obtain ⟨a5, c5, w5, r5, d5, f5, s5⟩ := s4.drop.moreL okR x HGF.out
  have e8 : w7.drew.heap.size = w7.heap.size := rfl
  rw [e8] at r5
  have R5 := hid r5
  have c3 := S7.out.drop.cellR
  have c3a := cell_al c3 (.cells #[.int .i64 x.s, .int .i64 x.p, .int .i64 x.f, .int .i64 x.r] 33)
  obtain ⟨g0, g1, g2, g3⟩ := cellsL (x := x) S7.out.head
  have S5 := hid s5
  simp only [kR] at d5 f5
  generalize hTl : (T).length = nT at *
  generalize hw5 : w5.setCell ⟨p, kR.j, none⟩ (.slice a5 (nT + 1) c5) = w6 at *
  have hw6 : w5.setCell ⟨p, 0, none⟩ (.slice a5 (nT + 1) c5) = w6 := hw5
  clear s4 s5 r5 e8 HGF hw5
  go_wp2_with fail
  go_region_law (refine step_append_run rfl (.tmp 39) (.tmp 41) 42 42 rfl (.slice a7 nT k7) (.slice (some ⟨w7.heap.size, 0, none⟩) 1 1) _ _ (by simp [Act.eval]) (by simp [Act.eval]) R5.out ?_)
  all_goals
    (try rw [hw6])
    clear hw6
    go_wp2
    exact bodyPost_end (v := .tuple #[]) (by simp [results, Try.results12, go_sem]) rfl ⟨rfl, _, by rw [HFS.out]; exact S5.out⟩
theorem rfill_sep (s : Sep w0 r w (tbT kR n p v S :: R)) (x : Lr) :
    Calls Try.prog 12 #[ptr p, encL x] w fun e w' => e = .returned (.tuple #[]) ∧ ∃ v', Sep w0 r w' (tbT kR n p v' (fillS n S x) :: R) := by
  cases hb : S.any (isK x.s x.p) with
  | true => exact rfill_had s x hb
  | false =>
    rcases Nat.lt_or_ge S.length n with hn | hn
    · exact rfill_room s x hb hn
    · rcases hS : S with _ | ⟨y, T⟩
      · have := s.good.pos
        rw [hS] at hn
        simp at hn
        omega
      · rw [← hS]
        exact rfill_full s x hS hb hn
end
end Go.Proofs.Ytekjoeebomcmeaa
