/-
  What Add and Take of package tree answer and leave; no condition but that the tree is small.
-/
import Derived.Test.YthfoeppcageneaaTCalls
namespace Go.Proofs.Ythfoeppcageneaa
set_option linter.unusedSectionVars false
variable [DecidableEq Sl]
open Go.RowKit Go.Deep Go.Shelf

set_option maxHeartbeats 4000000 in
theorem add_any (p : Nat) (v : Value) (S : St) (a s : Sl) (w : World) (h : TrH p v S w) (hl : S.length ≤ 1000) :
    Calls Try.prog 24 #[.pointer (some ⟨p, 0, none⟩), encS a, encS s] w fun e w' => e = .returned (.int .i64 (addE S a s)) ∧ Goes w p v (addS S a s) w' := by
  obtain ⟨x1, x2, x3, x4⟩ := box2 w (objS a) (objS s)
  have H : Hid (TrH p v S w) := h
  have HL : Hid (S.length ≤ 1000) := hl
  have HE : Hid (addE S a s = (if hasB S a then if hasB S s then 70 else 0 else 71) ∧ addS S a s = if hasB S a ∧ ¬ hasB S s then putN S (pl S a + 1) ⟨s, dep S (pl S a) + 1⟩ else S) := ⟨rfl, rfl⟩
  generalize addE S a s = me at *
  generalize addS S a s = ms at *
  obtain ⟨s0, s1⟩ := AtS.cells (show AtS _ _ a from x1)
  clear h hl
  have HP := place_any p v S a _ (H.out.below x4) HL.out
  have hI : Hid _ := HP
  have HX : Hid (plI S a = if hasB S a then ((pl S a : Nat) : Int) else -1) := rfl
  generalize plI S a = z at *
  clear HP
  simp only [encS, objS] at *
  go_enter Try.func24, Try.ntmps24
  cases ha : hasB S a with
  | false =>
    rw [ha] at HE hI
    obtain ⟨rfl, e2⟩ := HE.out
    rw [if_neg (by simp)] at e2
    subst e2
    go_wp2_with (go_at_call 26; refine Calls.mono hI.out ?_; rintro e w' ⟨rfl, b2⟩)
    go_ret
    exact ⟨rfl, Goes.same H.out (Below.then x4 b2 x4.size)⟩
  | true =>
    rw [ha] at HE HX hI
    obtain rfl : z = ((pl S a : Nat) : Int) := HX.out
    go_wp2_with fail
    refine Calls.mono hI.out ?_
    rintro e w3 ⟨rfl, b3⟩
    have B3 : Hid (Below w.heap.size w w3) := Below.then x4 b3 x4.size
    have a2 : AtS w3 (w.heap.size + 1) s := (b3.block _ (by rw [x3]; omega)).trans x2
    have A2 : Hid (AtS w3 (w.heap.size + 1) s) := a2
    have HP := has_any p v S s w3 (H.out.below B3.out) HL.out
    clear hI s0 s1 x1 x2 x3 x4 b3
    have hI : Hid _ := HP
    obtain ⟨s0, s1⟩ := a2.cells
    clear HP a2
    simp only [encS] at *
    cases hb : hasB S s with
    | true =>
      rw [hb] at HE hI
      obtain ⟨rfl, e2⟩ := HE.out
      rw [if_neg (by simp)] at e2
      subst e2
      go_wp2_with (go_at_call 29; refine Calls.mono hI.out ?_; rintro e w' ⟨rfl, b2⟩)
      go_ret
      exact ⟨rfl, Goes.same H.out (Below.then B3.out b2 B3.out.size)⟩
    | false =>
      rw [hb] at HE hI
      obtain ⟨rfl, e2⟩ := HE.out
      rw [if_pos (by simp)] at e2
      go_wp2_with fail
      refine Calls.mono hI.out ?_
      rintro e w4 ⟨rfl, b4⟩
      have B4 : Below w.heap.size w w4 := Below.then B3.out b4 B3.out.size
      obtain ⟨t0, t1⟩ := (A2.out.below b4).cells
      have h4 := H.out.below B4
      obtain ⟨hp1, hp2⟩ := pl_slt ha
      obtain ⟨ao, cap, rfl, -, -, hg⟩ := h4.row.slice
      obtain ⟨g, rfl⟩ := hg _ hp1
      obtain ⟨-, -, d2⟩ := h4.row.cells hp1
      have c0 := h4.cell
      have hb0 : 0 ≤ dep S (pl S a) ∧ dep S (pl S a) ≤ 1000 := by
        have := H.out.good.pos _ hp1
        have := H.out.good.le _ hp1
        have := HL.out
        omega
      have HI : Hid (Calls Try.prog 37 #[.slice (some ⟨g, 0, none⟩) S.length cap, .int .i64 (((pl S a : Nat) : Int) + 1), .slice (some ⟨w4.heap.size, 0, none⟩) 1 1] (w4.drew.alloc (.cells #[.int .i64 s.n, .int .i64 s.i, .int .i64 (dep S (pl S a) + 1)] 53)) fun e w' =>
          ∃ ao' n' cap', e = .returned (.slice ao' n' cap') ∧ w'.cell? ⟨p, 0, none⟩ = some (.slice (some ⟨g, 0, none⟩) S.length cap) ∧ w'.frozen? ⟨p, 0, none⟩ = false ∧ Goes w p (.slice (some ⟨g, 0, none⟩) S.length cap) ms (w'.setCell ⟨p, 0, none⟩ (.slice ao' n' cap'))) := by
        have b5 : Below w4.heap.size w4 (w4.drew.alloc (objE ⟨s, dep S (pl S a) + 1⟩)) := (Below.refl _ w4).drew.alloc (Nat.le_refl _) _
        have h5 := h4.below b5
        refine Calls.mono (insert_any (.slice (some ⟨g, 0, none⟩) S.length cap) S (pl S a + 1) ⟨s, dep S (pl S a) + 1⟩ w4.heap.size (w4.drew.alloc (objE ⟨s, dep S (pl S a) + 1⟩)) h5.row (AtE.new w4.drew _) (fun e => by have := h4.row.lt e; omega) (by omega) HL.out) ?_
        rintro e w' ⟨v', rfl, r1, r2, r3⟩
        obtain ⟨ao', cap', rfl, -, -, -⟩ := r1.slice
        have h6 : w'.heap[p]? = some (.cells #[.slice (some ⟨g, 0, none⟩) S.length cap] 50 (0, 0)) := (r2.block p h5.lt fun e => h5.ne e.symm).trans h5.head
        refine ⟨ao', _, cap', rfl, by simp [World.cell?, h6], by simp [World.frozen?, h6], ?_⟩
        rw [e2]
        exact Goes.from (Below.then B4 b5 B4.size) (h5.hang r1 r2 r3 (H.out.good.put hb hp1))
      have hw1 : IntKind.i64.wrap (((pl S a : Nat) : Int) + 1) = ((pl S a : Nat) : Int) + 1 := by rw [IntKind.wrap_i64]; have := HL.out; omega
      have hw2 : IntKind.i64.wrap (dep S (pl S a) + 1) = dep S (pl S a) + 1 := by rw [IntKind.wrap_i64]; omega
      have hp3 : ((pl S a : Nat) : Int) < (S.length : Int) := by omega
      have c0' := fun o => cell_al c0 o
      clear hI s0 s1 B3 A2 b4 B4 h4 hp2 ha hb HE HX H HL hg e2 hb0
      generalize pl S a = i at *
      generalize dep S i = di at *
      generalize w.heap.size = r at *
      go_wp2
      go_region_with (go_at_call 37; refine Calls.mono HI.out ?_; rintro e w5 ⟨ao', n', cap', rfl, c5, f5, gg⟩)
      all_goals go_wp2
      all_goals go_ret
      all_goals exact ⟨rfl, gg⟩
end Go.Proofs.Ythfoeppcageneaa
