/-
  What the library's Clone makes of a row of entries; no condition but that the row is short.
-/
import Derived.Test.YthfoeppcageneaaTRowD
namespace Go.Proofs.Ythfoeppcageneaa
set_option linter.unusedSectionVars false
variable [DecidableEq Sl]
open Go.RowKit Go.Deep Go.Shelf

theorem clone_any (v : Value) (S : St) (w : World) (h : RowE w v S) (hl : S.length ≤ 1000) :
    Calls Try.prog 25 #[v] w fun e w' => ∃ v', e = .returned v' ∧ RowE w' v' S ∧ (∀ k, v'.ownBlock = some k → w.heap.size ≤ k) ∧ Below w.heap.size w w' := by
  have q22 : ∀ (w : World) (a : Option Addr) (n c n' c' : Nat), (binOp .eql 48 (.slice a n c) (.slice none n' c')).run Try.prog w = .ok (.bool a.isNone) w := fun w a n c n' c' => Lib.run_eql_slice_nil w _ _ a n c n' c' Try.underlying48
  have h' := h
  obtain ⟨h0, ⟨rfl, hn0⟩ | ⟨g, cap, cur, rfl, hb, hg, h1, h2, h3, h4⟩⟩ := h'
  · have HK : Hid (RowE w (.slice none 0 0) S) := h
    clear h h0 hn0
    go_enter Try.func25, Try.ntmps25
    go_wp2
    go_ret
    exact ⟨_, rfl, HK.out, fun k hk => by simp [Value.ownBlock] at hk, Below.refl _ _⟩
  · obtain ⟨i, hi, hz⟩ := Option.map_eq_some_iff.1 infoE
    simp only [Prod.mk.injEq] at hz
    have hgl : g < w.heap.size := (Array.getElem?_eq_some_iff.1 hg).1
    have hb1 := below_new w (.cells #[] 53)
    obtain ⟨v', w', r1, r2, r3, _, r5⟩ := run_append_own_at (P := Try.prog) (w.alloc (.cells #[] 53)) w.heap.size 48 48 53 i _ 3 24 Try.underlying48 hi hz.1 hz.2.1 hz.2.2 rfl (by decide) (.slice (some ⟨w.heap.size, 0, none⟩) 0 0) 0 [] (World.ownsRow_made w #[] 0 (Nat.le_refl _) (by unfold maxLen; omega) rfl) ⟨g, 0, none⟩ S.length cap (flatK cE S) (flatK_len cE_len S)
      (fun j u hj => by
        have := World.ownsRow.cells h (g := g) rfl j u hj
        rw [add_none] at this ⊢
        rw [hb1.cell (p := ⟨g, 0 + j, none⟩) hgl]
        exact this) (flatK_one cE_one _) (by unfold maxLen; omega) (by omega) (by simp)
    have HK : Hid (RowE w' v' S ∧ (∀ k, v'.ownBlock = some k → w.heap.size ≤ k) ∧ Below w.heap.size w w') := by
      refine ⟨?_, fun k hk => (World.ownsRow.lt r2 k hk).1, hb1.grown r3 (by simp) fun k hk => by cases hk; exact Nat.le_refl _⟩
      have := own_low r2
      rw [Nat.zero_add, List.nil_append] at this
      exact this
    have hRun : Hid _ := r1
    clear r1 r2 r3 r5 h hi hz hg h0 h1 h2 h3 h4 hb1 hgl hb
    generalize S.length = n at *
    go_enter Try.func25, Try.ntmps25
    go_wp2_with (at_builtin; refine wpList_append_run rfl _ _ _ _ rfl _ _ _ _ rfl rfl hRun.out ?_)
    go_ret
    exact ⟨_, rfl, HK.out⟩
end Go.Proofs.Ythfoeppcageneaa
