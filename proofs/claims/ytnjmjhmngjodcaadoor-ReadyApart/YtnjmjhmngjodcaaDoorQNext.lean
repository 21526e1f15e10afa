/-
  What Next, Turn, Where and Line of package ready answer and leave; no condition but that the queue is small, and, of Next and Turn, that the table of widths lies as the program laid it.
-/
import Derived.Test.YtnjmjhmngjodcaaDoorQQueue
namespace Go.Proofs.YtnjmjhmngjodcaaDoor
open Go.RowKit Go.Deep Go.Shelf

theorem occ_fun (S : St) : (fun p => decide (0 < (lineN S p).length)) = occ S := funext fun p => (occ_line S p).symm
theorem where_any (q : Nat) (F : Nat → Prop) (S : St) (n : Int) (w : World) (h : QuH q F S w) (hn : I64 n) :
    Calls Tryd.prog 19 #[.pointer (some ⟨q, 0, none⟩), .int .i64 n] w fun e w' => e = .returned (.tuple #[.int .i64 (whI S n), .bool (whB S n)]) ∧ w' = w := by
  obtain ⟨b, vs, h, good, hF⟩ := h
  have hc := h.cellM
  have hlk := h.map.look hn true
  unfold whI whB
  clear h good hF
  generalize (whF S n).getD 0 = a at *
  generalize (whF S n).isSome = z at *
  go_enter Tryd.func19, Tryd.ntmps19
  go_wp2
  go_ret2
  exact ⟨rfl, rfl⟩
theorem lineI_cases (S : St) (p : Int) : (∃ P : Nat, p = P ∧ P < 256 ∧ lineI S p = lineN S P) ∨ (¬ (0 ≤ p ∧ p < 256) ∧ lineI S p = []) := by
  by_cases h : 0 ≤ p ∧ p < 256
  · obtain ⟨P, rfl⟩ := Int.eq_ofNat_of_zero_le h.1
    exact .inl ⟨P, rfl, by omega, by simp [lineI, h]⟩
  · exact .inr ⟨h, by simp [lineI, h]⟩
set_option maxHeartbeats 1000000 in
theorem line_any (q : Nat) (F : Nat → Prop) (S : St) (p : Int) (w : World) (h : QuH q F S w) (hl : S.length ≤ 1000) :
    Calls Tryd.prog 21 #[.pointer (some ⟨q, 0, none⟩), .int .i64 p] w fun e w' => ∃ v, e = .returned v ∧ RowI w' v (lineI S p) ∧ Below w.heap.size w w' ∧ (∀ k, v.ownBlock = some k → w.heap.size ≤ k) := by
  obtain ⟨b, vs, h, good, hF⟩ := h
  rcases lineI_cases S p with ⟨P, rfl, hP, e⟩ | ⟨hp, e⟩ <;> rw [e]
  · have HT := hid (told_any q b vs _ _ P w h hP (Nat.le_trans (line_len S P) hl))
    clear h good hF e
    go_enter Tryd.func21, Tryd.ntmps21
    go_wp2_with (first | (go_at_call 27; refine Calls.mono (numberedQ_yes _ _ (by omega) (by omega)) ?_; rintro e w' ⟨rfl, rfl⟩) | (go_at_call 30; refine Calls.mono HT.out ?_; rintro e w2 ⟨v, rfl, r1, r2, r3, _⟩))
    go_ret
    exact ⟨_, rfl, r1, r2, r3⟩
  · have H0 : Hid (¬ (0 ≤ p ∧ p < 256)) := hp
    clear h good hF hp e
    go_enter Tryd.func21, Tryd.ntmps21
    go_wp2_with (go_at_call 27; refine Calls.mono (numberedQ_no _ _ H0.out) ?_; rintro e w' ⟨rfl, rfl⟩)
    go_ret
    exact ⟨_, rfl, rowI_nil _, Below.refl _ _, fun k hk => by simp [Value.ownBlock] at hk⟩
set_option maxHeartbeats 1000000 in
theorem next_any (q : Nat) (F : Nat → Prop) (S : St) (w : World) (ht : Tab w) (h : QuH q F S w) :
    Calls Tryd.prog 17 #[.pointer (some ⟨q, 0, none⟩)] w fun e w' => e = .returned (.tuple #[.int .i64 (nextN S), .bool (nextB S)]) ∧ Below w.heap.size w w' := by
  obtain ⟨b, vs, h, good, hF⟩ := h
  have HT := hid (taken_any q b vs _ _ w h)
  rw [occ_fun] at HT
  have HP := hid (fun u (b1 : Below w.heap.size w u) => top_any (wd (occ S) 256 0) (wd (occ S) 256 1) (wd (occ S) 256 2) (wd (occ S) 256 3) u (ht.below b1) (wd_word _ _ _) (wd_word _ _ _) (wd_word _ _ _) (wd_word _ _ _))
  rw [top_wd] at HP
  have HQ : Hid (QuP q b vs (lineN S) (whF S) w) := h
  have HG : Hid (Good S) := good
  unfold wdAll at HT
  have hts : topTo (occ S) 256 = topS S := rfl
  rw [hts] at HP
  clear h ht hF hts
  rcases next_cases good with ⟨_, e1, _, e2, e3, _⟩ | ⟨x, L, hx, e1, _, e2, e3, _, e4, _⟩ <;> rw [e2, e3] <;> rw [e1] at HP
  · clear e1 e2 e3 good
    generalize wd (occ S) 256 0 = x0 at *
    generalize wd (occ S) 256 1 = x1 at *
    generalize wd (occ S) 256 2 = x2 at *
    generalize wd (occ S) 256 3 = x3 at *
    go_enter Tryd.func17, Tryd.ntmps17
    go_wp2_with (first | (go_at_call 32; refine Calls.mono HT.out ?_; rintro e w1 ⟨rfl, b1⟩; have B1 := hid b1; clear b1) | (go_at_call 31; refine Calls.mono (HP.out _ B1.out) ?_; rintro e w2 ⟨rfl, b2⟩; have B2 := hid b2; clear b2))
    go_ret2
    exact ⟨rfl, Below.then B1.out B2.out B1.out.size⟩
  · have HX : Hid (x.p < 256 ∧ lineN S x.p = x.n :: L) := ⟨(good.fit x hx).1, e4⟩
    clear e1 e2 e3 e4 good hx
    generalize wd (occ S) 256 0 = x0 at *
    generalize wd (occ S) 256 1 = x1 at *
    generalize wd (occ S) 256 2 = x2 at *
    generalize wd (occ S) 256 3 = x3 at *
    have hneg : ¬ ((x.p : Int) < 0) := by omega
    go_enter Tryd.func17, Tryd.ntmps17
    go_wp2_with (first | (go_at_call 32; refine Calls.mono HT.out ?_; rintro e w1 ⟨rfl, b1⟩; have B1 := hid b1; clear b1) | (go_at_call 31; refine Calls.mono (HP.out _ B1.out) ?_; rintro e w2 ⟨rfl, b2⟩; have B2 := hid (Below.then B1.out b2 B1.out.size); clear b2) | (go_at_call 33; refine Calls.mono (first_any q b vs (lineN S) (whF S) x.p x.n L _ (HQ.out.below B2.out) HX.out.1 HX.out.2) ?_; rintro e w3 ⟨rfl, rfl⟩))
    go_ret2
    exact ⟨rfl, B2.out⟩
set_option maxHeartbeats 2000000 in
theorem turn_any (q : Nat) (F : Nat → Prop) (S : St) (w : World) (ht : Tab w) (h : QuH q F S w) (hl : S.length ≤ 1000) :
    Calls Tryd.prog 14 #[.pointer (some ⟨q, 0, none⟩)] w fun e w' => e = .returned (.bool (nextB S)) ∧ Goes w q F (turnS S) w' := by
  have HN := hid (next_any q F S w ht h)
  have HQ : Hid (QuH q F S w) := h
  have good := h.good
  clear h ht
  rcases next_cases good with ⟨_, _, _, e2, e3, e5⟩ | ⟨x, L, hx, _, _, e2, e3, e5, e4, _⟩ <;> rw [e3, e5] <;> rw [e2, e3] at HN
  · clear e2 e3 e5 good
    go_enter Tryd.func14, Tryd.ntmps14
    go_wp2_with (go_at_call 17; refine Calls.mono HN.out ?_; rintro e w1 ⟨rfl, b1⟩; have B1 := hid b1; clear b1)
    go_ret
    exact ⟨rfl, Goes.same HQ.out B1.out⟩
  · have HG : Hid (Good S ∧ x ∈ S ∧ lineN S x.p = x.n :: L ∧ whF S x.n = some (x.p : Int) ∧ turnS S = takeS S x.n ++ [x]) := ⟨good, hx, e4, whF_of good hx, e5⟩
    clear e2 e3 e5 e4 good hx
    go_enter Tryd.func14, Tryd.ntmps14
    go_wp2_with fail
    refine Calls.mono HN.out ?_
    rintro e w1 ⟨rfl, b1⟩
    obtain ⟨good, hx, e4, e6, e5⟩ := HG.out
    obtain ⟨b, vs, h, _, hF⟩ := HQ.out.below b1
    have hc := h.cellM
    have hlk := h.map.look (good.fit x hx).2 false
    rw [e6] at hlk
    simp only [Option.getD_some] at hlk
    have hp := (good.fit x hx).1
    have hlen : (lineN S x.p).length ≤ 1000 := Nat.le_trans (line_len S x.p) hl
    have HE := hid (leave_any q b vs (lineN S) _ x.p x.n 0 w1 h hp hlen (by rw [e4]; rfl) (fun j hj => by omega))
    have HR := hid (fun vs' u (hu : QuP q b vs' (updN (lineN S) x.p ((lineN S x.p).eraseIdx 0)) (whF S) u) => enter_any q b vs' _ _ x.p x.n u hu hp (by rw [updN_at, List.length_eraseIdx]; split <;> omega))
    have B1 := hid b1
    have HF : Hid (∀ x, F x ↔ fpQ q b vs x) := hF
    clear h b1 hF hlen e4 e5 e6 good hx
    go_wp2_with (first | (go_at_call 29; refine Calls.mono HE.out ?_; rintro e w2 ⟨rfl, vs2, h2, t2, o2⟩) | (go_at_call 28; refine Calls.mono (HR.out _ _ h2) ?_; rintro e w3 ⟨rfl, vs3, h3, t3, o3⟩))
    go_ret
    obtain ⟨good, hx, e4, e6, e5⟩ := HG.out
    have tt : Turn (fpQ q b vs) w1 w3 := t2.trans t3 o2
    have oo : Out (fpQ q b vs) (fpQ q b vs3) w1 := fun y hy => (o3 y hy).elim (fun h5 => o2 y h5) fun h5 => .inr (Nat.le_trans t2.size h5)
    refine ⟨rfl, goes_of HF.out ⟨vs3, h3, ⟨tt.os.trans B1.out.os, tt.tape.trans B1.out.tape, tt.output.trans B1.out.output, Nat.le_trans B1.out.size tt.size, fun y hy hn => (tt.block y (Nat.lt_of_lt_of_le hy B1.out.size) hn).trans (B1.out.block y hy)⟩, fun y hy => (oo y hy).imp id fun h5 => Nat.le_trans B1.out.size h5⟩ (by rw [← e5]; exact good_turn good) (fun j hj => ?_) (fun m => ?_)⟩
    · rw [line_add]
      unfold updN
      by_cases e : j = x.p
      · rw [if_pos e, if_pos e, e, line_take_at good (i := 0) (by rw [e4]; rfl)]
        simp
      · rw [if_neg e, if_neg e, if_neg e, line_take_other good hx e]
    · rw [← e5, whF_turn good]
end Go.Proofs.YtnjmjhmngjodcaaDoor
