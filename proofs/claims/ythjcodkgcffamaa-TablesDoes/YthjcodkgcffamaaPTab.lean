/-
  What Table and Drop of package tables answer, and leave; no condition.
-/
import Derived.Test.YthjcodkgcffamaaPPut
namespace Go.Proofs.Ythjcodkgcffamaa
open Go.RowKit Go.Deep Go.Shelf

section
variable {w0 w : World} {r p : Nat} {m : Nat → Option Nat} {S : Sp} {R : List Th}
/-- What a call leaves: the space holds T, in blocks that were its own, or new. -/
def Goes (w : World) (p : Nat) (m : Nat → Option Nat) (T : Sp) (w' : World) : Prop := ∃ m', SpP p m' T w' ∧ Turn (fpS p m) w w' ∧ Out (fpS p m) (fpS p m') w
theorem Goes.same (h : SpP p m S w) {w' : World} (b : Below w.heap.size w w') : Goes w p m S w' := ⟨m, h.below b, Turn.of b _, Out.refl _ _⟩
theorem Goes.drew {T : Sp} {w' : World} (h : Goes w p m T w') : Goes w p m T w'.drew := by
  obtain ⟨m', a, b, c⟩ := h
  exact ⟨m', a.below ((Below.refl _ _).drew), b.drew, c⟩
theorem two_goes (h : SpP p m S w) {k : Nat} (hk : k < 64) {u : World} (b : Below w.heap.size w u) {mo : Option Nat} {T : Sp} (hn : ∀ b, mo = some b → w.heap.size ≤ b ∧ b < u.heap.size) (hm : MapAt u mo (atPl T.f k)) (his : mo.isSome = hasB T k) (ht : ∀ j : Nat, j ≠ k → T.t j = S.t j) (hf : ∀ (j : Nat) n, j ≠ k → atPl T.f j n = atPl S.f j n) (g : Good T) :
    Goes w p m T ((u.setCell ⟨p, k, none⟩ (.map mo)).setCell ⟨p, 64 + k, none⟩ (.int .i64 (hasN T k))) := by
  have hp := h.lt
  refine ⟨updN m k mo, h.put hk (w' := (u.setCell ⟨p, k, none⟩ (.map mo)).setCell ⟨p, 64 + k, none⟩ (.int .i64 (hasN T k))) (fun C hC => setBlock (setBlock ((b.block p hp).trans hC) _) _) (fun x hx hne => ?_) (fun b hb => (hn b hb).1) ?_ his ht hf g, ?_, ?_⟩
  · exact (blk_setCell_other _ _ _ _ hne).trans ((blk_setCell_other _ _ _ _ hne).trans (b.block x hx))
  · refine hm.keep fun q hq => ?_
    have hne : q ≠ p := by have := hn q hq; omega
    exact (blk_setCell_other _ _ _ _ hne).trans (blk_setCell_other _ _ _ _ hne)
  · exact ((Turn.of b (fpS p m)).trans (Turn.setCell (fpS p m) u _ _ (.inl rfl)) fun x hx => .inl hx).trans (Turn.setCell (fpS p m) _ _ _ (.inl rfl)) fun x hx => .inl hx
  · rintro x (rfl | ⟨i, hi, hx⟩)
    · exact .inl (.inl rfl)
    · by_cases e : i = k
      · rw [e, updN_at] at hx
        exact .inr (hn x hx).1
      · rw [updN_ne _ _ e] at hx
        exact .inl (.inr ⟨i, hi, hx⟩)
theorem tab_goes (h : SpP p m S w) {k : Nat} (hk : k < 64) (n : Int) (hf : S.t k = none) (g : Good ⟨upd S.t k (some n), S.f⟩) :
    Goes w p m ⟨upd S.t k (some n), S.f⟩ (((w.alloc (.map #[] 0)).setCell ⟨p, k, none⟩ (.map (some w.heap.size))).setCell ⟨p, 64 + k, none⟩ (.int .i64 n)) := by
  have e : hasN ⟨upd S.t k (some n), S.f⟩ k = n := by simp [hasN, upd]
  have h1 := two_goes h hk (u := w.alloc (.map #[] 0)) (below_new _ _) (mo := some w.heap.size) (T := ⟨upd S.t k (some n), S.f⟩) (fun b hb => by cases hb; exact ⟨Nat.le_refl _, by simp⟩)
    (.inr ⟨_, rfl, (MapIs.new w).congr fun x => by
      unfold atPl
      split
      · rename_i hx
        exact h.good.nothing (by rw [hx]; exact hf)
      · rfl⟩) (by simp [hasB, upd]) (fun j hj => by simp only [upd]; rw [if_neg (by omega)]) (fun _ _ _ => rfl) g
  rw [e] at h1
  exact h1
theorem drp_goes (h : SpP p m S w) {k : Nat} (hk : k < 64) {u : World} (b : Below w.heap.size w u) (g : Good ⟨upd S.t k none, outP S.f k⟩) :
    Goes w p m ⟨upd S.t k none, outP S.f k⟩ ((u.setCell ⟨p, k, none⟩ (.map none)).setCell ⟨p, 64 + k, none⟩ (.int .i64 0)) := by
  have e : hasN ⟨upd S.t k none, outP S.f k⟩ k = 0 := by simp [hasN, upd]
  have h1 := two_goes h hk b (mo := none) (T := ⟨upd S.t k none, outP S.f k⟩) (fun b hb => by cases hb)
    (.inl ⟨rfl, fun x => by
      show atPl (outP S.f k) k x = none
      unfold atPl outP
      split <;> rfl⟩) (by simp [hasB, upd]) (fun j hj => by simp only [upd]; rw [if_neg (by omega)]) (fun j x hj => by
      show atPl (outP S.f k) j x = atPl S.f j x
      unfold atPl outP
      split
      · rename_i hx
        rw [if_neg (by omega)]
      · rfl) g
  rw [e] at h1
  exact h1
set_option maxRecDepth 100000 in
set_option maxHeartbeats 4000000 in
theorem table_p (h : SpP p m S w) (i n : Int) : Calls Try.prog 10 #[ptr p, .int .i64 i, .int .i64 n] w fun e w' => e = .returned (.int .i64 (tabE S i n)) ∧ Goes w p m (tabS S i n) w' := by
  have HS := hid h
  by_cases hp : i < 0 ∨ 64 ≤ i
  · have hE : tabE S i n = 1 := by unfold tabE; rw [if_pos (by omega)]
    have hS : tabS S i n = S := by unfold tabS; rw [hE]; rfl
    rw [hE, hS]
    have HP := hid (isPlace_no i w hp)
    clear h hE hS hp
    go_enter Try.func10, Try.ntmps10
    go_wp2_with (go_at_call 32; refine Calls.mono HP.out ?_; rintro e w' ⟨rfl, rfl⟩)
    go_ret
    exact ⟨rfl, Goes.same HS.out (Below.refl _ _)⟩
  · have HP := hid (isPlace_yes i w (by omega) (by omega))
    by_cases hn : n < 0
    · have hE : tabE S i n = 1 := by unfold tabE; rw [if_pos (by omega)]
      have hS : tabS S i n = S := by unfold tabS; rw [hE]; rfl
      rw [hE, hS]
      clear h hE hS hp
      go_enter Try.func10, Try.ntmps10
      go_wp2_with (go_at_call 32; refine Calls.mono HP.out ?_; rintro e w' ⟨rfl, rfl⟩)
      go_ret
      exact ⟨rfl, Goes.same HS.out (Below.refl _ _)⟩
    · obtain ⟨k, rfl⟩ := Int.eq_ofNat_of_zero_le (show 0 ≤ i by omega)
      have hk : k < 64 := by omega
      have hkz : (k : Int) < 64 := by omega
      have hc := h.cell hk
      have hcN := h.cellN hk
      have fz := h.frozen
      have his := h.is k hk
      have HA := hid (anywhere_p h n)
      have hE : tabE S k n = if (m k).isSome = true ∨ anyT S n = true then 140 else 0 := by
        unfold tabE
        rw [if_neg (by omega)]
        unfold hasB at his
        rw [← his]
      have HG := hid (good_tab h.good k n)
      cases hm : m k with
      | some b =>
        rw [hm] at hc hE
        have hE' : tabE S k n = 140 := by rw [hE, if_pos (.inl rfl)]
        have hS : tabS S k n = S := by unfold tabS; rw [hE']; rfl
        rw [hE', hS]
        have hq := fun w => map_not_is w b
        clear h hE hE' hS hp HA HG his hcN hm
        go_enter Try.func10, Try.ntmps10
        go_wp2_with (go_at_call 32; refine Calls.mono HP.out ?_; rintro e w' ⟨rfl, rfl⟩)
        go_ret
        exact ⟨rfl, Goes.same HS.out (Below.refl _ _)⟩
      | none =>
        rw [hm] at hc hE
        have hq := map_not_nil
        cases ha : anyT S n with
        | true =>
          rw [ha] at HA
          have hE' : tabE S k n = 140 := by rw [hE, if_pos (.inr ha)]
          have hS : tabS S k n = S := by unfold tabS; rw [hE']; rfl
          rw [hE', hS]
          clear h hE hE' hS hp HG his hcN hm
          go_enter Try.func10, Try.ntmps10
          go_wp2_with (first | (go_at_call 32; refine Calls.mono HP.out ?_; rintro e w' ⟨rfl, rfl⟩) | (go_at_call 33; refine Calls.mono HA.out ?_; rintro e w' ⟨rfl, rfl⟩))
          go_ret
          exact ⟨rfl, Goes.same HS.out (Below.refl _ _)⟩
        | false =>
          rw [ha] at HA
          have hE' : tabE S k n = 0 := by rw [hE, if_neg (by rw [ha]; simp)]
          have hS : tabS S k n = ⟨upd S.t k (some n), S.f⟩ := by unfold tabS; rw [if_pos hE']
          have HF := hid (tabE_ok hE').2.2.2.1
          rw [hE', hS]
          rw [hS] at HG
          have hmm := @run_makeMap Try.prog
          clear h hE hE' hS hp his hm
          go_enter Try.func10, Try.ntmps10
          go_wp2_with (first | (go_at_call 32; refine Calls.mono HP.out ?_; rintro e w' ⟨rfl, rfl⟩) | (go_at_call 33; refine Calls.mono HA.out ?_; rintro e w' ⟨rfl, rfl⟩))
          have d0 := cell_al hc (.map #[] 0)
          have d1 := cell_al hcN (.map #[] 0)
          have fa : ∀ j, (w'.alloc (.map #[] 0)).frozen? ⟨p, j, none⟩ = false := fun j => ((below_new w' (.map #[] 0)).frozen (p := ⟨p, j, none⟩) HS.out.lt).trans (fz j)
          have HK := hid (tab_goes HS.out hk n HF.out HG.out).drew
          go_region
          go_wp2
          go_ret
          exact ⟨rfl, HK.out⟩
theorem table_sep (s : Sep w0 r w (spT p m S :: R)) (i n : Int) : Calls Try.prog 10 #[ptr p, .int .i64 i, .int .i64 n] w fun e w' => e = .returned (.int .i64 (tabE S i n)) ∧ ∃ m', Sep w0 r w' (spT p m' (tabS S i n) :: R) := by
  refine Calls.mono (table_p s.head i n) ?_
  rintro e w' ⟨rfl, m', h, k, o⟩
  exact ⟨rfl, m', SpP.sep s h k o⟩
def drpL (S : Sp) (i : Int) : List La := if drpE S i = 0 then plP S.f i.toNat else []
set_option maxRecDepth 100000 in
set_option maxHeartbeats 4000000 in
theorem drop_sep (s : Sep w0 r w (spT p m S :: R)) (i : Int) : Calls Try.prog 12 #[ptr p, .int .i64 i] w fun e w' => ∃ v m', e = .returned (.tuple #[v, .int .i64 (drpE S i)]) ∧ Sep w0 r w' (spT p m' (drpS S i) :: lstL v (drpL S i) :: R) := by
  have HS := hid s
  have h : SpP p m S w := s.head
  clear s
  by_cases hp : i < 0 ∨ 64 ≤ i
  · have hE : drpE S i = 1 := by unfold drpE; rw [if_pos hp]
    have hS : drpS S i = S := by unfold drpS; rw [hE]; rfl
    have hL : drpL S i = [] := by unfold drpL; rw [hE]; rfl
    rw [hE, hS, hL]
    have HP := hid (isPlace_no i w hp)
    clear h hE hS hp hL
    go_enter Try.func12, Try.ntmps12
    go_wp2_with (go_at_call 32; refine Calls.mono HP.out ?_; rintro e w' ⟨rfl, rfl⟩)
    go_ret2
    exact ⟨_, _, rfl, HS.out.nil.swap⟩
  · have HP := hid (isPlace_yes i w (by omega) (by omega))
    obtain ⟨k, rfl⟩ := Int.eq_ofNat_of_zero_le (show 0 ≤ i by omega)
    have hk : k < 64 := by omega
    have hkz : (k : Int) < 64 := by omega
    have hc := h.cell hk
    have hcN := h.cellN hk
    have fz := h.frozen
    have his := h.is k hk
    have hE : drpE S k = if (m k).isSome = true then 0 else 141 := by
      unfold drpE
      rw [if_neg (by omega)]
      unfold hasB at his
      rw [← his]
    have HG := hid (good_drp h.good k)
    cases hm : m k with
    | none =>
      rw [hm] at hc hE
      simp only [Option.isSome_none, Bool.false_eq_true, if_false] at hE
      have hS : drpS S k = S := by unfold drpS; rw [hE]; rfl
      have hL : drpL S k = [] := by unfold drpL; rw [hE]; rfl
      rw [hE, hS, hL]
      have hq := map_nil
      clear h hE hS hL hp HG his hcN hm
      go_enter Try.func12, Try.ntmps12
      go_wp2_with (go_at_call 32; refine Calls.mono HP.out ?_; rintro e w' ⟨rfl, rfl⟩)
      go_ret2
      exact ⟨_, _, rfl, HS.out.nil.swap⟩
    | some b =>
      rw [hm] at hc hE
      simp only [Option.isSome_some, if_true] at hE
      have hS : drpS S k = ⟨upd S.t k none, outP S.f k⟩ := by unfold drpS; rw [if_pos hE]
      have hL : drpL S k = plP S.f k := by unfold drpL; rw [if_pos hE]; rfl
      rw [hE, hS, hL]
      rw [hS] at HG
      have hq := fun w => map_is w b
      have hma := h.maps k hk
      rw [hm] at hma
      have HL := hid (laid_any (some b) S k w hma h.in64)
      have HH := hid h
      clear h hE hS hL hp his hm hma
      go_enter Try.func12, Try.ntmps12
      go_wp2_with (first | (go_at_call 32; refine Calls.mono HP.out ?_; rintro e w' ⟨rfl, rfl⟩) | (go_at_call 34; refine Calls.mono HL.out ?_; rintro e u ⟨v, rfl, su⟩))
      have e0 : u.cell? ⟨p, k, none⟩ = some (.map (some b)) := (su.low.cell (p := ⟨p, k, none⟩) HH.out.lt).trans hc
      have e1 : u.cell? ⟨p, 64 + k, none⟩ = some (.int .i64 (hasN S k)) := (su.low.cell (p := ⟨p, 64 + k, none⟩) HH.out.lt).trans hcN
      have fa : ∀ j, u.frozen? ⟨p, j, none⟩ = false := fun j => (su.low.frozen (p := ⟨p, j, none⟩) HH.out.lt).trans (fz j)
      have SU := hid su
      clear su
      go_region
      go_wp2
      go_ret2
      obtain ⟨m', a1, a2, a3⟩ := drp_goes (HH.out.below SU.out.low) hk (Below.refl _ u) HG.out
      exact ⟨v, m', rfl, (SpP.sep (HS.out.join SU.out).swap a1 a2 a3).drew⟩
end
end Go.Proofs.Ythjcodkgcffamaa
