/-
  What enter, leave, told and taken of a queue's lines leave and answer; no condition but that lines are short.
-/
import Derived.Test.YtchamgecalfmpaaDoorQLines
namespace Go.Proofs.YtchamgecalfmpaaDoor
open Go.RowKit Go.Deep Go.Shelf

theorem cell_block {w w' : World} {q : Nat} (h : w'.heap[q]? = w.heap[q]?) (j : Nat) : w'.cell? ⟨q, j, none⟩ = w.cell? ⟨q, j, none⟩ := by simp [World.cell?, h]
theorem frozen_block {w w' : World} {q : Nat} (h : w'.heap[q]? = w.heap[q]?) (j : Nat) : w'.frozen? ⟨q, j, none⟩ = w.frozen? ⟨q, j, none⟩ := by simp [World.frozen?, h]
theorem QuP.drew {q b : Nat} {vs : Nat → Value} {M : Nat → List Int} {f : Int → Option Int} {w : World} (h : QuP q b vs M f w) : QuP q b vs M f w.drew := h.below ((Below.refl _ _).drew)
def objI (n : Int) : Obj := .cells #[.int .i64 n] 3
set_option maxHeartbeats 4000000 in
theorem enter_any (q b : Nat) (vs : Nat → Value) (M : Nat → List Int) (f : Int → Option Int) (p : Nat) (n : Int) (w : World) (h : QuP q b vs M f w) (hp : p < 256) (hl : (M p).length ≤ 1000) :
    Calls Tryd.prog 81 #[.pointer (some ⟨q, 0, none⟩), .int .i64 p, .int .i64 n] w fun e w' => e = .returned (.tuple #[]) ∧ GoesP w q b vs (updN M p (M p ++ [n])) f w' := by
  have hc := h.cell hp
  have h1 : RowI (w.drew.alloc (objI n)) (vs p) (M p) := ((h.rows p hp).below ((Below.refl _ _).drew)).below (below_new _ _)
  obtain ⟨v', w', r1, r2, r3, r4⟩ := append_one (w.drew.alloc (objI n)) 50 (vs p) (M p) n w.heap.size h1 (by have := blk_alloc_new w.drew (objI n); simp only [World.cell?]; rw [show w.heap.size = w.drew.heap.size from rfl, this]; rfl) (by omega)
  have g5' := (World.grownBy_alloc w.drew (objI n) _).trans r3
  have g5 : w.grownBy w' (vs p).ownBlock := ⟨g5'.os, g5'.tape, g5'.output, g5'.size, g5'.block⟩
  have hq : w'.heap[q]? = w.heap[q]? := g5.block q h.lt fun e => (h.ne p hp).1 e.symm
  have hc' : w'.cell? ⟨q, p, none⟩ = some (vs p) := by rw [cell_block hq]; exact hc
  have hf' : w'.frozen? ⟨q, p, none⟩ = false := by rw [frozen_block hq]; exact h.frozen p
  have HK : Hid (GoesP w q b vs (updN M p (M p ++ [n])) f (w'.setCell ⟨q, p, none⟩ v')) :=
    ⟨_, h.hang hp r2 g5 (r4.imp id fun e => ⟨_, e, by simp⟩)⟩
  obtain ⟨ao, cap, ev, _⟩ := r2.slice
  subst ev
  have HRun : Hid _ := r1
  have hca := cell_al hc (objI n)
  unfold objI at HRun hca
  clear h1 r1 r2 r3 r4 g5 g5' hq h hl
  generalize vs p = v at *
  generalize (M p ++ [n]).length = k at *
  have hpz : (p : Int) < 256 := by omega
  go_enter Tryd.func81, Tryd.ntmps81
  go_region_law (refine step_append_run rfl (.tmp 12) (.tmp 14) 50 50 rfl v (.slice (some ⟨w.heap.size, 0, none⟩) 1 1) _ _ (by simp [Act.eval]) (by simp [Act.eval]) HRun.out ?_)
  all_goals exact bodyPost_end (v := .tuple #[]) (by simp [results, Tryd.results81, go_sem]) rfl ⟨rfl, HK.out⟩
set_option maxHeartbeats 4000000 in
theorem leave_any (q b : Nat) (vs : Nat → Value) (M : Nat → List Int) (f : Int → Option Int) (p : Nat) (n : Int) (i : Nat) (w : World) (h : QuP q b vs M f w) (hp : p < 256) (hl : (M p).length ≤ 1000) (hi : (M p)[i]? = some n) (ha : ∀ j, j < i → (M p)[j]? ≠ some n) :
    Calls Tryd.prog 78 #[.pointer (some ⟨q, 0, none⟩), .int .i64 p, .int .i64 n] w fun e w' => e = .returned (.tuple #[]) ∧ GoesP w q b vs (updN M p ((M p).eraseIdx i)) f w' := by
  have hil := (List.getElem?_eq_some_iff.1 hi).1
  have hc := h.cell hp
  have hr := h.rows p hp
  obtain ⟨ao, cap, ev, _, _, hg, _⟩ := hr.slice
  obtain ⟨g, rfl⟩ := hg 0 (by omega)
  rw [ev] at hr hc
  have HI : Hid _ := index_any g cap (M p) i n w hr hi ha hl
  have HD : Hid _ := fun u (hu : RowI u _ _) => delete_any g cap (M p) i u hu hil hl
  have HR : Hid (RowI w (.slice (some ⟨g, 0, none⟩) (M p).length cap) (M p)) := hr
  have HQ : Hid (QuP q b vs M f w) := h
  have HV : Hid (vs p = _) := ev
  have hw1 : IntKind.i64.wrap ((i : Int) + 1) = (i : Int) + 1 := by rw [IntKind.wrap_i64]; omega
  clear h hi ha hr ev hg
  generalize hm : (M p).length = m at *
  have hpz : (p : Int) < 256 := by omega
  go_enter Tryd.func78, Tryd.ntmps78
  go_wp2_with (go_at_call 77; refine Calls.mono HI.out ?_; rintro e w' ⟨rfl, rfl⟩)
  go_region_with (go_at_call 84; refine Calls.mono (HD.out _ (RowI.below HR.out ((Below.refl _ _).drew))) ?_; rintro e w2 ⟨rfl, r2, g2⟩; have hq : w2.heap[q]? = w'.heap[q]? := g2.block q HQ.out.lt (fun e => (HQ.out.ne p hp).1 (by rw [HV.out]; exact e.symm)); have hc2 : w2.cell? ⟨q, p, none⟩ = some (.slice (some ⟨g, 0, none⟩) m cap) := (by rw [cell_block hq]; exact hc); have hf2 : w2.frozen? ⟨q, p, none⟩ = false := (by rw [frozen_block hq]; exact HQ.out.frozen p); have HK : Hid (GoesP w' q b vs (updN M p ((M p).eraseIdx i)) f (w2.setCell ⟨q, p, none⟩ (.slice (some ⟨g, 0, none⟩) (m - 1) cap))) := ⟨_, HQ.out.hang hp r2 (by rw [HV.out]; exact ⟨g2.os, g2.tape, g2.output, g2.size, g2.block⟩) (.inl (by rw [HV.out]; rfl))⟩; clear r2 g2 hq)
  exact bodyPost_end (v := .tuple #[]) (by simp [results, Tryd.results78, go_sem]) rfl ⟨rfl, HK.out⟩
set_option maxHeartbeats 4000000 in
theorem told_any (q b : Nat) (vs : Nat → Value) (M : Nat → List Int) (f : Int → Option Int) (p : Nat) (w : World) (h : QuP q b vs M f w) (hp : p < 256) (hl : (M p).length ≤ 1000) :
    Calls Tryd.prog 60 #[.pointer (some ⟨q, 0, none⟩), .int .i64 p] w fun e w' => ∃ v, e = .returned v ∧ RowI w' v (M p) ∧ Below w.heap.size w w' ∧ (∀ k, v.ownBlock = some k → w.heap.size ≤ k) ∧ (v = .slice none 0 0 → M p = []) := by
  have hc := h.cell hp
  obtain ⟨v', w', r1, r2, r3, r4, r5⟩ := append_row w 50 (.slice none 0 0) (vs p) [] (M p) (rowI_nil w) (h.rows p hp) (by simp; omega)
  have HK : Hid (RowI w' v' (M p) ∧ Below w.heap.size w w' ∧ (∀ k, v'.ownBlock = some k → w.heap.size ≤ k) ∧ (v' = .slice none 0 0 → M p = [])) := by
    refine ⟨r2, ⟨r3.os, r3.tape, r3.output, r3.size, fun k hk => r3.block k hk (by simp [Value.ownBlock])⟩, fun k hk => ?_, r5⟩
    rcases r4 with e | e
    · rw [e] at hk
      simp [Value.ownBlock] at hk
    · rw [e] at hk
      cases hk
      exact Nat.le_refl _
  obtain ⟨ao, cap, ev, _⟩ := r2.slice
  subst ev
  have HRun : Hid _ := r1
  clear r1 r2 r3 r4 r5 h hl
  generalize vs p = v at *
  generalize hm : ([] ++ M p).length = m at *
  have hpz : (p : Int) < 256 := by omega
  go_enter Tryd.func60, Tryd.ntmps60
  go_wp2_with (at_builtin; refine wpList_append_run rfl _ _ _ _ rfl _ _ _ _ rfl rfl HRun.out ?_)
  go_ret
  exact ⟨_, rfl, HK.out⟩
end Go.Proofs.YtchamgecalfmpaaDoor
