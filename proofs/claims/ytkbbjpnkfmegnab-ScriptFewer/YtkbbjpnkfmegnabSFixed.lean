/-
  The law's own function fixed: calls whose answers the document fixes; no condition of ours.
-/
import Derived.Test.YtkbbjpnkfmegnabSPrint
namespace Go.Proofs.Ytkbbjpnkfmegnab
open Go.RowKit Go.Deep
theorem parse_at (s : ByteArray) (l : List Int) (c : Int) (hs : s = strOfNums l) (hb : Bytes8 l) (hl : l.length ≤ 1000000) (w : World) :
    Calls Try.prog 7 #[.string s, .int .i64 c] w fun e w' => ∃ ao cap, e = .returned (.slice ao (pick c (items l)).length cap) ∧ ToldI w' ao (pick c (items l)) ∧ (ao = none → cap = 0) ∧ Below w.heap.size w w' := by
  subst hs
  refine (parse_any l c hb hl w).mono ?_
  rintro e w' ⟨v, rfl, ho, hB⟩
  have ho' := ho
  obtain ⟨ao, cap, rfl, ht, _, _⟩ := ho.told
  refine ⟨ao, cap, rfl, ht, ?_, hB⟩
  rintro rfl
  obtain ⟨_, ⟨e, _⟩ | ⟨g, cp, cur, e, _⟩⟩ := ho'
  · simp only [Value.slice.injEq] at e
    exact e.2.2
  · simp at e
theorem print_at (ao : Option Addr) (n cap : Nat) (L : List It) (c : Int) (hn : n = L.length) (hl : L.length ≤ 100000) (w : World) (hT : ToldI w ao L) :
    Calls Try.prog 4 #[.slice ao n cap, .int .i64 c] w fun e w' => e = .returned (.string (strOfNums (flat (pick c L)))) ∧ Below w.heap.size w w' := by
  subst hn
  exact print_any ao cap L c hl w hT
theorem same_at (p q : Option Addr) (L : List It) (n m cp cq : Nat) (w : World) (hn : n = L.length) (hm : m = L.length) (hp : ToldI w p L) (hq : ToldI w q L) (hl : L.length ≤ 1000000) :
    Calls Try.prog 6 #[.slice p n cp, .slice q m cq] w fun e w' => e = .returned (.bool true) ∧ Below w.heap.size w w' := by
  subst hn hm
  exact (same_yes p q L cp cq w hp hq hl).mono fun e w' ⟨h1, _, h2⟩ => ⟨h1, h2⟩
/-- Items just laid in a block of their own. -/
theorem told_new (w : World) (L : List It) : ToldI (w.alloc (.cells (cellsI L).toArray 24)) (some ⟨w.heap.size, 0, none⟩) L := by
  refine .inr ⟨_, 0, rfl, by simp, fun j x hj => ?_⟩
  have h := blk_alloc_new w (.cells (cellsI L).toArray 24 (0, 0))
  obtain ⟨d0, d1, d2, d3⟩ := cellsI_get L j x hj
  refine ⟨?_, ?_, ?_, ?_⟩ <;> simp only [World.cell?, h, Nat.zero_add] <;> simpa using by assumption
theorem fixed_any (w : World) : Calls Try.prog 8 #[] w fun e w' => e = .returned (.bool true) ∧ Below w.heap.size w w' := by
  go_enter Try.func8, Try.ntmps8
  go_wp2_with fail
  refine (parse_at _ [1, 0, 5, 6, 9, 0, 0, 0, 1, 2, 0, 0, 0] 2 rfl (by intro x hx; simp at hx; omega) (by decide) w).mono ?_
  rintro e w1 ⟨ao, cap, rfl, t1, _, b1⟩
  have e1 : pick 2 (items [1, 0, 5, 6, 9, 0, 0, 0, 1, 2, 0, 0, 0]) = [⟨1, 0, 5, 6⟩] := by kernel_rfl
  rw [e1] at t1 ⊢
  have t2 := told_new w1 [⟨1, 0, 5, 6⟩]
  have t1' := t1.below (below_new w1 (.cells (cellsI [⟨1, 0, 5, 6⟩]).toArray 24))
  have b2 := b1.trans ((below_new w1 (.cells (cellsI [⟨1, 0, 5, 6⟩]).toArray 24)).mono b1.size)
  simp only [cellsI, fourI, List.flatMap_cons, List.flatMap_nil, List.cons_append, List.nil_append] at t2 t1' b2
  clear t1
  go_wp2_with fail
  refine (same_at _ _ [⟨1, 0, 5, 6⟩] 1 1 _ _ _ rfl rfl t1' t2 (by decide)).mono ?_
  rintro e w2 ⟨rfl, b3⟩
  have b4 := b2.trans (b3.mono b2.size)
  clear t1' t2 b2 b3 b1
  have t5 := told_new w2 [⟨1, 0, 5, 6⟩, ⟨9, 0, 0, 0⟩]
  have b5 := b4.trans ((below_new w2 (.cells (cellsI [⟨1, 0, 5, 6⟩, ⟨9, 0, 0, 0⟩]).toArray 24)).mono b4.size)
  simp only [cellsI, fourI, List.flatMap_cons, List.flatMap_nil, List.cons_append, List.nil_append] at t5 b5
  clear b4
  go_wp2_with fail
  refine (print_at _ 2 _ [⟨1, 0, 5, 6⟩, ⟨9, 0, 0, 0⟩] 2 rfl (by decide) _ t5).mono ?_
  rintro e w3 ⟨rfl, b6⟩
  have b7 := b5.trans (b6.mono b5.size)
  clear t5 b5 b6
  have e2 : strOfNums (flat (pick 2 [⟨1, 0, 5, 6⟩, ⟨9, 0, 0, 0⟩])) = ⟨#[1, 0, 5, 6]⟩ := by
    rw [show pick 2 [(⟨1, 0, 5, 6⟩ : It), ⟨9, 0, 0, 0⟩] = [⟨1, 0, 5, 6⟩] by kernel_rfl]; rfl
  rw [e2]
  go_wp2_with fail
  refine (right_any ⟨0, 1, 0, 0⟩ 2 w3).mono ?_
  rintro e w4 ⟨rfl, rfl⟩
  have b8 := b7.trans ((below_new w3 (objI ⟨0, 1, 0, 0⟩)).mono b7.size)
  rw [show rightB 2 ⟨0, 1, 0, 0⟩ = true by decide]
  clear b7
  generalize w3.alloc (objI ⟨0, 1, 0, 0⟩) = w4 at *
  go_wp2_with fail
  refine (right_any ⟨0, 2, 0, 0⟩ 2 w4).mono ?_
  rintro e w5 ⟨rfl, rfl⟩
  have b9 := b8.trans ((below_new w4 (objI ⟨0, 2, 0, 0⟩)).mono b8.size)
  rw [show rightB 2 ⟨0, 2, 0, 0⟩ = false by decide]
  generalize w4.alloc (objI ⟨0, 2, 0, 0⟩) = w5 at *
  go_wp2
  go_ret
  exact ⟨rfl, b9⟩
end Go.Proofs.Ytkbbjpnkfmegnab
