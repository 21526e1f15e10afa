/-
  What Move of package slots answers and leaves; no condition of ours.
-/
import Derived.Test.YtkpoppgibempbaaNSet
namespace Go.Proofs.Ytkpoppgibempbaa
open Go.RowKit Go.Deep Go.MapKept Go.Maps
set_option linter.unusedSectionVars false
variable [dCp : DecidableEq Cp] [dLim : ∀ k, Decidable (Lim k)] [dBad : ∀ k, Decidable (Bad k)] [dFit : ∀ g z, Decidable (Fit g z)] [dFine : ∀ c, Decidable (Fine c)] [dMint : ∀ c v, Decidable (MintR c v)] [dWho : ∀ x y, Decidable (Whose x y)] [dSl : DecidableEq Sl] [dLt : ∀ a b, Decidable (ltS a b)]

set_option maxHeartbeats 1000000 in
theorem move_any (p : Nat) (F : Nat → Prop) (S : St) (s t : Sl) (w : World) (h : Nds w p F S) (hs : s.Fits) (ht : t.Fits) :
    Calls Try.prog 25 #[.pointer (some ⟨p, 0, none⟩), encS s, encS t] w fun e w' => e = .returned (.int .i64 (moveE S s t)) ∧ Leaves w p F (moveS S s t) w' := by
  have HS : Hid (s.Fits ∧ t.Fits) := ⟨hs, ht⟩
  have H : Hid (Nds w p F S) := h
  obtain ⟨x1, x2, x3, x4⟩ := box2 w (objS s) (objS t)
  have HE : Hid (moveE S s t = (match atS S s, atS S t with | some c, some d => if c.k = 0 then 52 else if d.k = 0 then 0 else 51 | _, _ => 50) ∧ moveS S s t = if moveE S s t = 0 then setS (setS S t (getC S s)) s no else S) := ⟨rfl, rfl⟩
  generalize moveE S s t = me at *
  generalize moveS S s t = ms at *
  simp only [encS, objS] at *
  go_enter Try.func25, Try.ntmps25
  go_wp2_with fail
  refine (there_any p F S s _ (H.out.below x4)).mono ?_
  rintro e w3 ⟨rfl, b3⟩
  clear h hs ht
  have a1 : AtS w3 w.heap.size s := (b3.block _ (by rw [x3]; omega)).trans x1
  have a2 : AtS w3 (w.heap.size + 1) t := (b3.block _ (by rw [x3]; omega)).trans x2
  have B : Hid (Below w.heap.size w w3) := Below.then x4 b3 x4.size
  clear x1 x2 x3 x4 b3
  have A1 : Hid (AtS w3 w.heap.size s) := a1
  have A2 : Hid (AtS w3 (w.heap.size + 1) t) := a2
  obtain ⟨s0, s1⟩ := a1.cells
  obtain ⟨z0, z1⟩ := a2.cells
  clear a1 a2
  generalize hr0 : w.heap.size = r at *
  have HR : Hid (w.heap.size = r) := hr0
  clear hr0
  cases hq : atS S s with
  | none =>
    rw [hq] at HE
    obtain ⟨e1, e2⟩ := HE.out
    obtain rfl : me = 50 := e1
    obtain rfl : ms = S := e2.trans (if_neg (show ¬ (50 : Int) = 0 by decide))
    clear e2 HE
    go_wp2
    go_ret
    exact ⟨rfl, Leaves.same H.out (by rw [HR.out]; exact B.out)⟩
  | some c =>
    have HQ : Hid (atS S s = some c) := hq
    rw [hq] at HE
    clear hq
    go_wp2_with fail
    refine (there_any p F S t _ (H.out.below (by rw [HR.out]; exact B.out))).mono ?_
    rintro e w4 ⟨rfl, b4⟩
    have a1 := A1.out.below b4
    have a2 := A2.out.below b4
    have B4 : Hid (Below r w w4) := Below.then B.out b4 (by have := B.out.size; have := HR.out; omega)
    clear s0 s1 z0 z1 A1 A2 B b4
    have A1 : Hid (AtS w4 r s) := a1
    have A2 : Hid (AtS w4 (r + 1) t) := a2
    obtain ⟨s0, s1⟩ := a1.cells
    obtain ⟨z0, z1⟩ := a2.cells
    clear a1 a2
    cases hq : atS S t with
    | none =>
      rw [hq] at HE
      obtain ⟨e1, e2⟩ := HE.out
      obtain rfl : me = 50 := e1
      obtain rfl : ms = S := e2.trans (if_neg (show ¬ (50 : Int) = 0 by decide))
      clear e2 HE
      go_wp2
      go_ret
      exact ⟨rfl, Leaves.same H.out (by rw [HR.out]; exact B4.out)⟩
    | some d =>
      have HT : Hid (atS S t = some d) := hq
      rw [hq] at HE
      clear hq
      go_wp2_with fail
      refine (free_any p F S s _ (H.out.below (by rw [HR.out]; exact B4.out)) HS.out.1).mono ?_
      rintro e w5 ⟨rfl, b5⟩
      have a1 := A1.out.below b5
      have a2 := A2.out.below b5
      have B5 : Hid (Below r w w5) := Below.then B4.out b5 (by have := B4.out.size; have := HR.out; omega)
      clear s0 s1 z0 z1 A1 A2 B4 b5
      have A1 : Hid (AtS w5 r s) := a1
      have A2 : Hid (AtS w5 (r + 1) t) := a2
      obtain ⟨s0, s1⟩ := a1.cells
      obtain ⟨z0, z1⟩ := a2.cells
      clear a1 a2
      rw [hold_some HQ.out]
      by_cases hc : c.k = 0
      · have hdd : (!decide (c.k ≠ 0)) = true := by simp [hc]
        rw [hdd]
        obtain ⟨e1, e2⟩ := HE.out
        simp only [hc, if_true] at e1
        subst e1
        obtain rfl : ms = S := e2.trans (if_neg (show ¬ (52 : Int) = 0 by decide))
        clear e2 HE hdd hc
        go_wp2
        go_ret
        exact ⟨rfl, Leaves.same H.out (by rw [HR.out]; exact B5.out)⟩
      · have hdd : (!decide (c.k ≠ 0)) = false := by simp [hc]
        rw [hdd]
        have HC : Hid (¬ c.k = 0) := hc
        clear hdd hc
        go_wp2_with fail
        refine (free_any p F S t _ (H.out.below (by rw [HR.out]; exact B5.out)) HS.out.2).mono ?_
        rintro e w6 ⟨rfl, b6⟩
        have a1 := A1.out.below b6
        have a2 := A2.out.below b6
        have B6 : Hid (Below r w w6) := Below.then B5.out b6 (by have := B5.out.size; have := HR.out; omega)
        clear s0 s1 z0 z1 A1 A2 B5 b6
        obtain ⟨s0, s1⟩ := a1.cells
        obtain ⟨z0, z1⟩ := a2.cells
        rw [hold_some HT.out]
        by_cases hd : d.k = 0
        · have hdd : decide (d.k ≠ 0) = false := by simp [hd]
          rw [hdd]
          obtain ⟨e1, e2⟩ := HE.out
          simp only [HC.out, hd, if_true, if_false] at e1
          subst e1
          have gc : getC S s = c := by unfold getC; rw [HQ.out]; rfl
          obtain rfl : ms = setS (setS S t c) s no := by rw [e2, if_pos rfl, gc]
          clear e2 HE hdd hd gc
          obtain ⟨m, v, h6⟩ : Nds w6 p F S := H.out.below (by rw [HR.out]; exact B6.out)
          have hl1 : Sem.run Try.prog _ w6.drew = _ := (h6.map.of_block (w' := w6.drew) rfl).look HS.out.1 false
          rw [hold_get h6.ok HQ.out] at hl1
          obtain ⟨c0, c1⟩ := h6.cells
          obtain ⟨w7, hrun, k1, k2, k3⟩ := (h6.map.of_block (w' := w6.drew) rfl).store HS.out.2 c
          have g := drew_grown k2
          have h7 : PN w7 p m v F (setS S t c) := h6.put HT.out (h6.ok.at HQ.out).1 HC.out g k1
          have hm : m < r := by have := H.out.lt m h6.fm; have := HR.out; omega
          have d1 : AtS w7 r s := (grown_block g a1.lt (by omega)).trans a1
          obtain ⟨s0', s1'⟩ := d1.cells
          have hat : ∃ x, atS (setS S t c) s = some x := by
            rw [atS_set HT.out]
            split
            · exact ⟨_, rfl⟩
            · exact ⟨_, HQ.out⟩
          obtain ⟨x, hat⟩ := hat
          obtain ⟨c0', c1'⟩ := h7.cells
          obtain ⟨w8, hrun2, k4, k5, k6⟩ := (h7.map.of_block (w' := w7.drew) rfl).drop HS.out.1 0
          have g2 := drew_grown k5
          have K : Hid (Leaves w p F (setS (setS S t c) s no) w8) :=
            Leaves.behind (by rw [HR.out]; exact B6.out) (Leaves.trans ⟨⟨m, v, h7⟩, map_turn h6 g⟩ ⟨⟨m, v, h7.del hat g2 k4⟩, map_turn h7 g2⟩)
          clear k1 k2 k3 k4 k5 k6 h6 h7 g g2 a1 a2 d1 hat hm
          simp only [encS, encC] at *
          go_wp2
          go_region
          go_wp2
          go_region
          go_wp2
          go_ret
          exact ⟨rfl, K.out⟩
        · have hdd : decide (d.k ≠ 0) = true := by simp [hd]
          rw [hdd]
          obtain ⟨e1, e2⟩ := HE.out
          simp only [HC.out, hd, if_false] at e1
          subst e1
          obtain rfl : ms = S := e2.trans (if_neg (show ¬ (51 : Int) = 0 by decide))
          clear e2 HE hdd hd a1 a2
          go_wp2
          go_ret
          exact ⟨rfl, Leaves.same H.out (by rw [HR.out]; exact B6.out)⟩
end Go.Proofs.Ytkpoppgibempbaa
