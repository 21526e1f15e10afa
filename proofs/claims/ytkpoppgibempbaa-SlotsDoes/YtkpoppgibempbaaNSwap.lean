/-
  What Swap of package slots answers and leaves; no condition of ours.
-/
import Derived.Test.YtkpoppgibempbaaNMove
import Derived.Deep.Cut
import Derived.Deep.CutRange
namespace Go.Proofs.Ytkpoppgibempbaa
open Go.RowKit Go.Deep Go.MapKept Go.Maps
set_option linter.unusedSectionVars false
variable [dCp : DecidableEq Cp] [dLim : ∀ k, Decidable (Lim k)] [dBad : ∀ k, Decidable (Bad k)] [dFit : ∀ g z, Decidable (Fit g z)] [dFine : ∀ c, Decidable (Fine c)] [dMint : ∀ c v, Decidable (MintR c v)] [dWho : ∀ x y, Decidable (Whose x y)] [dSl : DecidableEq Sl] [dLt : ∀ a b, Decidable (ltS a b)]

/-- What the exchange reads stays. -/
theorem x_drew {W : World} {p m r : Nat} {s t : Sl} (h : W.cell? ⟨p, 1, none⟩ = some (.map (some m)) ∧ W.cell? ⟨r, 0, none⟩ = some (.int .i64 s.n) ∧ W.cell? ⟨r, 1, none⟩ = some (.int .i64 s.i) ∧ W.cell? ⟨r + 1, 0, none⟩ = some (.int .i64 t.n) ∧ W.cell? ⟨r + 1, 1, none⟩ = some (.int .i64 t.i)) : W.drew.cell? ⟨p, 1, none⟩ = some (.map (some m)) ∧ W.drew.cell? ⟨r, 0, none⟩ = some (.int .i64 s.n) ∧ W.drew.cell? ⟨r, 1, none⟩ = some (.int .i64 s.i) ∧ W.drew.cell? ⟨r + 1, 0, none⟩ = some (.int .i64 t.n) ∧ W.drew.cell? ⟨r + 1, 1, none⟩ = some (.int .i64 t.i) := h
theorem x_alloc {W : World} {p m r : Nat} {s t : Sl} (h : W.cell? ⟨p, 1, none⟩ = some (.map (some m)) ∧ W.cell? ⟨r, 0, none⟩ = some (.int .i64 s.n) ∧ W.cell? ⟨r, 1, none⟩ = some (.int .i64 s.i) ∧ W.cell? ⟨r + 1, 0, none⟩ = some (.int .i64 t.n) ∧ W.cell? ⟨r + 1, 1, none⟩ = some (.int .i64 t.i)) (o : Obj) : (W.alloc o).cell? ⟨p, 1, none⟩ = some (.map (some m)) ∧ (W.alloc o).cell? ⟨r, 0, none⟩ = some (.int .i64 s.n) ∧ (W.alloc o).cell? ⟨r, 1, none⟩ = some (.int .i64 s.i) ∧ (W.alloc o).cell? ⟨r + 1, 0, none⟩ = some (.int .i64 t.n) ∧ (W.alloc o).cell? ⟨r + 1, 1, none⟩ = some (.int .i64 t.i) :=
  ⟨cell_al h.1 o, cell_al h.2.1 o, cell_al h.2.2.1 o, cell_al h.2.2.2.1 o, cell_al h.2.2.2.2 o⟩
/-- Behind the exchange's reads: two blocks of the call's own hold c and d. -/
def Two (w : World) (p r : Nat) (F : Nat → Prop) (S : St) (s t : Sl) (c d : Cp) (q q' : Nat) (W : World) : Prop := Nds W p F S ∧ AtS W r s ∧ AtS W (r + 1) t ∧ AtC W q c ∧ AtC W q' d ∧ Below r w W ∧ r + 1 < q ∧ r + 1 < q'
theorem two_one {w w4 : World} {p r : Nat} {F : Nat → Prop} {S : St} {s t : Sl} (h : Nds w4 p F S) (a : AtS w4 r s) (b : AtS w4 (r + 1) t) (B : Below r w w4) (c d : Cp) : Two w p r F S s t c d w4.heap.size (w4.heap.size + 1) ((w4.alloc (objC c)).alloc (objC d)).drew := by
  obtain ⟨x1, x2, x3, x4⟩ := box2 w4 (objC c) (objC d)
  have bb : Below w4.heap.size w4 ((w4.alloc (objC c)).alloc (objC d)).drew := x4.drew
  have := b.lt
  exact ⟨h.below bb, a.below bb, b.below bb, x1, x2, Below.then B bb (by omega), by omega, by omega⟩
theorem two_other {w w4 : World} {p r : Nat} {F : Nat → Prop} {S : St} {s t : Sl} (h : Nds w4 p F S) (a : AtS w4 r s) (b : AtS w4 (r + 1) t) (B : Below r w w4) (c d : Cp) : Two w p r F S s t c d (w4.heap.size + 1) w4.heap.size ((w4.alloc (objC d)).alloc (objC c)).drew := by
  obtain ⟨x1, x2, x3, x4⟩ := box2 w4 (objC d) (objC c)
  have bb : Below w4.heap.size w4 ((w4.alloc (objC d)).alloc (objC c)).drew := x4.drew
  have := b.lt
  exact ⟨h.below bb, a.below bb, b.below bb, x2, x1, Below.then B bb (by omega), by omega, by omega⟩
set_option maxHeartbeats 1000000 in
theorem swap_any (p : Nat) (F : Nat → Prop) (S : St) (s t : Sl) (w : World) (h : Nds w p F S) (hs : s.Fits) (ht : t.Fits) :
    Calls Try.prog 26 #[.pointer (some ⟨p, 0, none⟩), encS s, encS t] w fun e w' => e = .returned (.int .i64 (swapE S s t)) ∧ Leaves w p F (swapS S s t) w' := by
  have HS : Hid (s.Fits ∧ t.Fits) := ⟨hs, ht⟩
  have H : Hid (Nds w p F S) := h
  obtain ⟨x1, x2, x3, x4⟩ := box2 w (objS s) (objS t)
  have HE : Hid (swapE S s t = (if (atS S s).isSome ∧ (atS S t).isSome then 0 else 50) ∧ swapS S s t = if swapE S s t = 0 then setS (setS S s (getC S t)) t (getC S s) else S) := ⟨rfl, rfl⟩
  generalize swapE S s t = me at *
  generalize swapS S s t = ms at *
  simp only [encS, objS] at *
  go_enter Try.func26, Try.ntmps26
  go_wp2_with fail
  refine (there_any p F S s _ (H.out.below x4)).mono ?_
  rintro e w3 ⟨rfl, b3⟩
  clear h hs ht
  have a1 : AtS w3 w.heap.size s := (b3.block _ (by rw [x3]; omega)).trans x1
  have a2 : AtS w3 (w.heap.size + 1) t := (b3.block _ (by rw [x3]; omega)).trans x2
  have B : Hid (Below w.heap.size w w3) := Below.then x4 b3 x4.size
  clear x1 x2 x3 x4 b3
  have A1 : Hid (AtS w3 w.heap.size s) := a1
  have A2 : Hid (AtS w3 (w.heap.size + 1) t) := a2
  obtain ⟨s0, s1⟩ := a1.cells
  obtain ⟨z0, z1⟩ := a2.cells
  clear a1 a2
  generalize hr0 : w.heap.size = r at *
  have HR : Hid (w.heap.size = r) := hr0
  clear hr0
  cases hq : atS S s with
  | none =>
    rw [hq] at HE
    obtain ⟨e1, e2⟩ := HE.out
    obtain rfl : me = 50 := by rw [e1]; simp
    obtain rfl : ms = S := e2.trans (if_neg (show ¬ (50 : Int) = 0 by decide))
    clear e1 e2 HE
    go_wp2
    go_ret
    exact ⟨rfl, Leaves.same H.out (by rw [HR.out]; exact B.out)⟩
  | some c =>
    have HQ : Hid (atS S s = some c) := hq
    rw [hq] at HE
    clear hq
    go_wp2_with fail
    refine (there_any p F S t _ (H.out.below (by rw [HR.out]; exact B.out))).mono ?_
    rintro e w4 ⟨rfl, b4⟩
    have a1 := A1.out.below b4
    have a2 := A2.out.below b4
    have B4 : Hid (Below r w w4) := Below.then B.out b4 (by have := B.out.size; have := HR.out; omega)
    clear s0 s1 z0 z1 A1 A2 B b4
    have A1 : Hid (AtS w4 r s) := a1
    have A2 : Hid (AtS w4 (r + 1) t) := a2
    obtain ⟨s0, s1⟩ := a1.cells
    obtain ⟨z0, z1⟩ := a2.cells
    clear a1 a2
    cases hq : atS S t with
    | none =>
      rw [hq] at HE
      obtain ⟨e1, e2⟩ := HE.out
      obtain rfl : me = 50 := by rw [e1]; simp
      obtain rfl : ms = S := e2.trans (if_neg (show ¬ (50 : Int) = 0 by decide))
      clear e1 e2 HE
      go_wp2
      go_ret
      exact ⟨rfl, Leaves.same H.out (by rw [HR.out]; exact B4.out)⟩
    | some d =>
      have HT : Hid (atS S t = some d) := hq
      rw [hq] at HE
      clear hq
      obtain ⟨e1, e2⟩ := HE.out
      obtain rfl : me = 0 := by rw [e1]; simp
      have gc : getC S s = c := by unfold getC; rw [HQ.out]; rfl
      have gd : getC S t = d := by unfold getC; rw [HT.out]; rfl
      obtain rfl : ms = setS (setS S s d) t c := by rw [e2, if_pos rfl, gc, gd]
      clear e1 e2 HE gc gd
      obtain ⟨m, v, h4⟩ : Nds w4 p F S := H.out.below (by rw [HR.out]; exact B4.out)
      have hl1 : Sem.run Try.prog _ w4.drew = _ := (h4.map.of_block (w' := w4.drew) rfl).look HS.out.1 false
      have hl2 : ∀ o, Sem.run Try.prog _ (w4.alloc o).drew = _ := fun o => (h4.map.of_block (w' := (w4.alloc o).drew) (blk_alloc_lt _ _ _ h4.map.lt)).look HS.out.1 false
      have hl3 : ∀ o o', Sem.run Try.prog _ ((w4.alloc o).alloc o').drew = _ := fun o o' => ((h4.map.of_block (w' := w4.alloc o) (blk_alloc_lt _ _ _ h4.map.lt)).of_block (w' := ((w4.alloc o).alloc o').drew) (blk_alloc_lt _ _ _ (by have := h4.map.lt; simp; omega))).look HS.out.1 false
      have hk1 : Sem.run Try.prog _ w4.drew = _ := (h4.map.of_block (w' := w4.drew) rfl).look HS.out.2 false
      have hk2 : ∀ o, Sem.run Try.prog _ (w4.alloc o).drew = _ := fun o => (h4.map.of_block (w' := (w4.alloc o).drew) (blk_alloc_lt _ _ _ h4.map.lt)).look HS.out.2 false
      have hk3 : ∀ o o', Sem.run Try.prog _ ((w4.alloc o).alloc o').drew = _ := fun o o' => ((h4.map.of_block (w' := w4.alloc o) (blk_alloc_lt _ _ _ h4.map.lt)).of_block (w' := ((w4.alloc o).alloc o').drew) (blk_alloc_lt _ _ _ (by have := h4.map.lt; simp; omega))).look HS.out.2 false
      rw [hold_get h4.ok HQ.out] at hl1 hl2 hl3
      rw [hold_get h4.ok HT.out] at hk1 hk2 hk3
      obtain ⟨c0, c1⟩ := h4.cells
      have T1 : Hid (Two w p r F S s t c d w4.heap.size (w4.heap.size + 1) ((w4.alloc (objC c)).alloc (objC d)).drew) := two_one ⟨m, v, h4⟩ A1.out A2.out B4.out c d
      have T2 : Hid (Two w p r F S s t c d (w4.heap.size + 1) w4.heap.size ((w4.alloc (objC d)).alloc (objC c)).drew) := two_other ⟨m, v, h4⟩ A1.out A2.out B4.out c d
      have hS : w4.cell? ⟨p, 1, none⟩ = some (.map (some m)) ∧ w4.cell? ⟨r, 0, none⟩ = some (.int .i64 s.n) ∧ w4.cell? ⟨r, 1, none⟩ = some (.int .i64 s.i) ∧ w4.cell? ⟨r + 1, 0, none⟩ = some (.int .i64 t.n) ∧ w4.cell? ⟨r + 1, 1, none⟩ = some (.int .i64 t.i) := ⟨c1, s0, s1, z0, z1⟩
      clear h4 c0 c1 s0 s1 z0 z1 A1 A2 B4
      simp only [encS, encC, objC] at hl1 hl2 hl3 hk1 hk2 hk3 T1 T2
      go_wp2
      go_cut [7, 8] from 19 to 30 (fun x y wx => ∃ q q', x = .pointer (some ⟨q, 0, none⟩) ∧ y = .pointer (some ⟨q', 0, none⟩) ∧ Two w p r F S s t c d q q' wx)
      case first =>
        go_region_held3 (fun W => W.cell? ⟨p, 1, none⟩ = some (.map (some m)) ∧ W.cell? ⟨r, 0, none⟩ = some (.int .i64 s.n) ∧ W.cell? ⟨r, 1, none⟩ = some (.int .i64 s.i) ∧ W.cell? ⟨r + 1, 0, none⟩ = some (.int .i64 t.n) ∧ W.cell? ⟨r + 1, 1, none⟩ = some (.int .i64 t.i)) ((first | assumption | with_reducible exact x_drew hS | with_reducible exact x_drew (x_alloc hS _) | with_reducible exact x_drew (x_alloc (x_alloc hS _) _))) (fail)
        all_goals go_wp2_with fail
        all_goals go_meet
        all_goals first | exact ⟨_, _, rfl, rfl, T1.out⟩ | exact ⟨_, _, rfl, rfl, T2.out⟩
      case rest =>
        obtain ⟨q, q', rfl, rfl, h5⟩ := hcut
        clear T1 T2 hS hl1 hl2 hl3 hk1 hk2 hk3
        have H5 : Hid (Two w p r F S s t c d q q' _) := h5
        obtain ⟨h5n, b1, b2, d1, d2, B5, L1, L2⟩ := h5
        obtain ⟨s0, s1⟩ := b1.cells
        obtain ⟨y0, y1, y2, y3, y4, y5⟩ := d2.cells
        clear h5n b1 b2 d1 d2 B5 L1 L2
        go_wp2_with fail
        refine (set_any p F S s c d _ H5.out.1 HS.out.1 HQ.out (H5.out.1.ok.at HT.out).1 (H5.out.1.ok.at HT.out).2).mono ?_
        rintro e w6 ⟨rfl, l6⟩
        have hlt : ∀ x, F x → x < r := fun x hx => by have := H.out.lt x hx; have := HR.out; omega
        have b2 : AtS w6 (r + 1) t := (l6.2.block _ H5.out.2.2.1.lt fun hf => by have := hlt _ hf; omega).trans H5.out.2.2.1
        have d1 : AtC w6 q c := (l6.2.block _ H5.out.2.2.2.1.lt fun hf => by have := hlt _ hf; have := H5.out.2.2.2.2.2.2.1; omega).trans H5.out.2.2.2.1
        clear s0 s1 y0 y1 y2 y3 y4 y5
        obtain ⟨s0, s1⟩ := b2.cells
        obtain ⟨y0, y1, y2, y3, y4, y5⟩ := d1.cells
        have hat : ∃ x, atS (setS S s d) t = some x := by
          rw [atS_set HQ.out]
          split
          · exact ⟨_, rfl⟩
          · exact ⟨_, HT.out⟩
        obtain ⟨x, hat⟩ := hat
        have HA : Hid (atS (setS S s d) t = some x) := hat
        have L6 : Hid (Leaves _ p F (setS S s d) w6) := l6
        clear l6 hat b2 d1 hlt
        go_wp2_with fail
        refine (set_any p F (setS S s d) t x c _ L6.out.1 HS.out.2 HA.out (H5.out.1.ok.at HQ.out).1 (H5.out.1.ok.at HQ.out).2).mono ?_
        rintro e w7 ⟨rfl, l7⟩
        have L7 : Hid (Leaves w p F (setS (setS S s d) t c) w7) := Leaves.behind (by rw [HR.out]; exact H5.out.2.2.2.2.2.1) (L6.out.trans l7)
        clear l7 s0 s1 y0 y1 y2 y3 y4 y5
        go_wp2
        go_ret
        exact ⟨rfl, L7.out⟩
end Go.Proofs.Ytkpoppgibempbaa
