/-
  What Next and Line of package ready answer and leave; no condition but that the queue is small, and, of Next, that the table of widths lies as the program laid it.
-/
import Derived.Test.YtchamgecalfmpaaDoorQQueue
namespace Go.Proofs.YtchamgecalfmpaaDoor
open Go.RowKit Go.Deep Go.Shelf

theorem occ_fun (S : St) : (fun p => decide (0 < (lineN S p).length)) = occ S := funext fun p => (occ_line S p).symm
theorem lineI_cases (S : St) (p : Int) : (∃ P : Nat, p = P ∧ P < 256 ∧ lineI S p = lineN S P) ∨ (¬ (0 ≤ p ∧ p < 256) ∧ lineI S p = []) := by
  by_cases h : 0 ≤ p ∧ p < 256
  · obtain ⟨P, rfl⟩ := Int.eq_ofNat_of_zero_le h.1
    exact .inl ⟨P, rfl, by omega, by simp [lineI, h]⟩
  · exact .inr ⟨h, by simp [lineI, h]⟩
set_option maxHeartbeats 1000000 in
theorem line_any (q : Nat) (F : Nat → Prop) (S : St) (p : Int) (w : World) (h : QuH q F S w) (hl : S.length ≤ 1000) :
    Calls Tryd.prog 57 #[.pointer (some ⟨q, 0, none⟩), .int .i64 p] w fun e w' => ∃ v, e = .returned v ∧ RowI w' v (lineI S p) ∧ Below w.heap.size w w' ∧ (∀ k, v.ownBlock = some k → w.heap.size ≤ k) := by
  obtain ⟨b, vs, h, good, hF⟩ := h
  rcases lineI_cases S p with ⟨P, rfl, hP, e⟩ | ⟨hp, e⟩ <;> rw [e]
  · have HT := hid (told_any q b vs _ _ P w h hP (Nat.le_trans (line_len S P) hl))
    clear h good hF e
    go_enter Tryd.func57, Tryd.ntmps57
    go_wp2_with (first | (go_at_call 76; refine Calls.mono (numberedQ_yes _ _ (by omega) (by omega)) ?_; rintro e w' ⟨rfl, rfl⟩) | (go_at_call 60; refine Calls.mono HT.out ?_; rintro e w2 ⟨v, rfl, r1, r2, r3, _⟩))
    go_ret
    exact ⟨_, rfl, r1, r2, r3⟩
  · have H0 : Hid (¬ (0 ≤ p ∧ p < 256)) := hp
    clear h good hF hp e
    go_enter Tryd.func57, Tryd.ntmps57
    go_wp2_with (go_at_call 76; refine Calls.mono (numberedQ_no _ _ H0.out) ?_; rintro e w' ⟨rfl, rfl⟩)
    go_ret
    exact ⟨_, rfl, rowI_nil _, Below.refl _ _, fun k hk => by simp [Value.ownBlock] at hk⟩
set_option maxHeartbeats 1000000 in
theorem next_any (q : Nat) (F : Nat → Prop) (S : St) (w : World) (ht : Tab w) (h : QuH q F S w) :
    Calls Tryd.prog 40 #[.pointer (some ⟨q, 0, none⟩)] w fun e w' => e = .returned (.tuple #[.int .i64 (nextN S), .bool (nextB S)]) ∧ Below w.heap.size w w' := by
  obtain ⟨b, vs, h, good, hF⟩ := h
  have HT := hid (taken_any q b vs _ _ w h)
  rw [occ_fun] at HT
  have HP := hid (fun u (b1 : Below w.heap.size w u) => top_any (wd (occ S) 256 0) (wd (occ S) 256 1) (wd (occ S) 256 2) (wd (occ S) 256 3) u (ht.below b1) (wd_word _ _ _) (wd_word _ _ _) (wd_word _ _ _) (wd_word _ _ _))
  rw [top_wd] at HP
  have HQ : Hid (QuP q b vs (lineN S) (whF S) w) := h
  have HG : Hid (Good S) := good
  unfold wdAll at HT
  have hts : topTo (occ S) 256 = topS S := rfl
  rw [hts] at HP
  clear h ht hF hts
  rcases next_cases good with ⟨_, e1, _, e2, e3, _⟩ | ⟨x, L, hx, e1, _, e2, e3, _, e4, _⟩ <;> rw [e2, e3] <;> rw [e1] at HP
  · clear e1 e2 e3 good
    generalize wd (occ S) 256 0 = x0 at *
    generalize wd (occ S) 256 1 = x1 at *
    generalize wd (occ S) 256 2 = x2 at *
    generalize wd (occ S) 256 3 = x3 at *
    go_enter Tryd.func40, Tryd.ntmps40
    go_wp2_with (first | (go_at_call 69; refine Calls.mono HT.out ?_; rintro e w1 ⟨rfl, b1⟩; have B1 := hid b1; clear b1) | (go_at_call 68; refine Calls.mono (HP.out _ B1.out) ?_; rintro e w2 ⟨rfl, b2⟩; have B2 := hid b2; clear b2))
    go_ret2
    exact ⟨rfl, Below.then B1.out B2.out B1.out.size⟩
  · have HX : Hid (x.p < 256 ∧ lineN S x.p = x.n :: L) := ⟨(good.fit x hx).1, e4⟩
    clear e1 e2 e3 e4 good hx
    generalize wd (occ S) 256 0 = x0 at *
    generalize wd (occ S) 256 1 = x1 at *
    generalize wd (occ S) 256 2 = x2 at *
    generalize wd (occ S) 256 3 = x3 at *
    have hneg : ¬ ((x.p : Int) < 0) := by omega
    go_enter Tryd.func40, Tryd.ntmps40
    go_wp2_with (first | (go_at_call 69; refine Calls.mono HT.out ?_; rintro e w1 ⟨rfl, b1⟩; have B1 := hid b1; clear b1) | (go_at_call 68; refine Calls.mono (HP.out _ B1.out) ?_; rintro e w2 ⟨rfl, b2⟩; have B2 := hid (Below.then B1.out b2 B1.out.size); clear b2) | (go_at_call 70; refine Calls.mono (first_any q b vs (lineN S) (whF S) x.p x.n L _ (HQ.out.below B2.out) HX.out.1 HX.out.2) ?_; rintro e w3 ⟨rfl, rfl⟩))
    go_ret2
    exact ⟨rfl, B2.out⟩
theorem Sep.tabs {w : World} (ht : Tab w) : ∀ u, Below w.heap.size w u → Tab u := fun _ b => ht.below b
end Go.Proofs.YtchamgecalfmpaaDoor
