/-
  Slots appended to a list of the call's own; no condition but that it is short.
-/
import Derived.Test.YthfoeppcageneaaTLaw2
import Derived.Laws.AppendOwnNone
namespace Go.Proofs.Ythfoeppcageneaa
set_option linter.unusedSectionVars false
variable [DecidableEq Sl]
open Go.RowKit Go.Deep Go.Shelf
section
variable {w0 : World} {r : Nat} {w : World} {v : Value} {A : List Sl} {R : List Th}
theorem app1_sep (ty : TypeId) (x : Sl) (h : Sep w0 r w (lstS v A :: R)) (hl : A.length ≤ 1000) :
    ∃ v' w', (Builtin.append_ #[26, 26] ty #[v, .slice (some ⟨w.heap.size, 0, none⟩) 1 1]).run Try.prog (w.alloc (objS x)) = .ok v' w' ∧ Sep w0 r w' (lstS v' (A ++ [x]) :: R) := by
  obtain ⟨v', w', r1, r2, r3, r4⟩ := append_slot 0 w ty v A x h.head (by omega) (Nat.zero_le _)
  refine ⟨v', w', r1, h.turn (t' := lstS v' (A ++ [x])) r2 (Turn.grown r3 fun k hk => .inl hk) fun y hy => ?_⟩
  rcases r4 with e | e
  · exact .inl (e.symm.trans hy)
  · right
    have : v'.ownBlock = some y := hy
    rw [e] at this
    cases this
    omega
theorem appN_sep (ty : TypeId) {ao : Option Addr} {cap : Nat} {U : List Sl} (h : Sep w0 r w (lstS v A :: R)) (hm : lstS (.slice ao U.length cap) U ∈ R) (hl : A.length ≤ 1000) (hu : U.length ≤ 1000) :
    ∃ v' w', (Builtin.append_ #[26, 26] ty #[v, .slice ao U.length cap]).run Try.prog w = .ok v' w' ∧ Sep w0 r w' (lstS v' (A ++ U) :: R) := by
  obtain ⟨i, hi, hz⟩ := Option.map_eq_some_iff.1 infoS
  simp only [Prod.mk.injEq] at hz
  have hU : RowS w (.slice ao U.length cap) U := (h.each _ (List.mem_cons_of_mem _ hm)).1
  have hA : RowS w v A := h.head
  rcases hU.2 with ⟨e, h0⟩ | ⟨g, cap', cur, e, _, hg, _⟩
  · rw [e]
    have hn : U = [] := List.length_eq_zero_iff.1 h0
    have hrun := run_append_owned_none (P := Try.prog) (w := w) 0 26 ty 31 i 2 Try.underlying26 hi v A.length (flatK cS A) hA
    refine ⟨v, w, hrun, ?_⟩
    rw [hn, List.append_nil]
    exact h
  · cases e
    obtain ⟨v', w', r1, r2, r3, _, r5⟩ := run_append_own_at (P := Try.prog) w 0 26 ty 31 i _ 2 16 Try.underlying26 hi hz.1 hz.2.1 hz.2.2 rfl (by decide) v A.length (flatK cS A) hA ⟨g, 0, none⟩ U.length cap (flatK cS U) (flatK_len cS_len U)
      (World.ownsRow.cells hU rfl) (flatK_one cS_one _) (by unfold maxLen; omega) (by omega) (by omega)
    refine ⟨v', w', r1, h.turn (t' := lstS v' (A ++ U)) ?_ (Turn.grown r3 fun k hk => .inl hk) fun y hy => ?_⟩
    · show RowS w' v' (A ++ U)
      unfold RowS
      rw [List.length_append, flatK_app]
      exact r2
    · rcases r5 with e | e
      · exact .inl (e.symm.trans hy)
      · right
        have : v'.ownBlock = some y := hy
        rw [e] at this
        cases this
        exact Nat.le_refl _
theorem Sep.sliceAt (h : Sep w0 r w (lstS v A :: R)) : ∃ ao cap, v = .slice ao A.length cap := by
  obtain ⟨ao, cap, e, _⟩ := RowS.slice (h.head)
  exact ⟨ao, cap, e⟩
/-- A new empty list. -/
theorem Sep.empty {t : Th} (h : Sep w0 r w (t :: R)) : Sep w0 r (w.alloc (.cells #[] 31)) (t :: lstS (.slice (some ⟨w.heap.size, 0, none⟩) 0 0) [] :: R) :=
  h.told (u := lstS (.slice (some ⟨w.heap.size, 0, none⟩) 0 0) []) (World.ownsRow_made w #[] 0 (Nat.zero_le _) (by unfold maxLen; omega) rfl) (below_new _ _) fun x hx => by
    have : w.heap.size = x := by simpa [lstS, Value.ownBlock] using hx
    omega
end
end Go.Proofs.Ythfoeppcageneaa
