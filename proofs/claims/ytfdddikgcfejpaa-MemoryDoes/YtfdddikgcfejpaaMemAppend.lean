/-
  append of words onto a list that the call made itself; no condition of ours.
-/
import Derived.Test.YtfdddikgcfejpaaMemLaw
namespace Go.Proofs.Ytfdddikgcfejpaa
open Go.RowKit Go.Deep
/-- The slice value v, of the call's own making from block B on, holds the words A. -/
def Own (B : Nat) (w : World) (v : Value) (A : List Int) : Prop := w.ownsRow B 30 1 v A.length (cells64 A)
theorem own_new (B : Nat) (w : World) (hB : B ≤ w.heap.size) : Own B (w.alloc (.cells #[] 30)) (.slice (some ⟨w.heap.size, 0, none⟩) 0 0) [] :=
  World.ownsRow_made w #[] 0 hB (by simp) rfl
theorem Own.told {B : Nat} {w : World} {v : Value} {A : List Int} (h : Own B w v A) : ∃ ao cap, v = .slice ao A.length cap ∧ Told w ao A ∧ ∀ x, ao = some x → B ≤ x.block := by
  obtain ⟨_, ⟨rfl, h0⟩ | ⟨g, cap, cur, rfl, hg, hh, hn, hc, hs, ht⟩⟩ := h
  · obtain rfl : A = [] := List.eq_nil_of_length_eq_zero h0
    exact ⟨none, 0, rfl, .inl rfl, fun x hx => by cases hx⟩
  · refine ⟨some ⟨g, 0, none⟩, cap, rfl, .inr ⟨g, 0, rfl, (Array.getElem?_eq_some_iff.1 hh).1, fun j hj => ?_⟩, fun x hx => by cases hx; exact hg⟩
    have e := cells64_get A j hj
    rw [← ht, List.getElem?_take, if_pos (by omega)] at e
    simpa [World.cell?, hh] using e
theorem Own.block {B : Nat} {w : World} {v : Value} {A : List Int} (h : Own B w v A) : ∀ k, v.ownBlock = some k → B ≤ k := fun k hk => (World.ownsRow.lt h k hk).1
theorem append_words (B : Nat) (w : World) (ty : TypeId) (v : Value) (A cs : List Int) (ad : Addr) (cap : Nat) (hown : Own B w v A) (ht : Told w (some ad) cs) (hl : A.length + cs.length ≤ 1000000) (hB : B ≤ w.heap.size) :
    ∃ v' w', (Builtin.append_ #[36, 36] ty #[v, .slice (some ad) cs.length cap]).run Try.prog w = .ok v' w' ∧ Own B w' v' (A ++ cs) ∧ w.grownBy w' v.ownBlock := by
  obtain ⟨i, hi, hz⟩ := Option.map_eq_some_iff.1 info64
  simp only [Prod.mk.injEq] at hz
  obtain ⟨v', w', h1, h2, h3, _⟩ := run_append_own (P := Try.prog) w B 36 ty 30 i (.int .u64 0) 1 8 Try.underlying36 hi hz.1 hz.2.1 hz.2.2 rfl (by decide) v A.length (cells64 A) hown ad cs.length cap (cells64 cs) (by simp [cells64])
    (fun j u hju => by
      have hj : j < cs.length := by have := (List.getElem?_eq_some_iff.1 hju).1; rwa [cells64_len] at this
      rcases ht with rfl | ⟨b, q, e, _, hc⟩
      · simp at hj
      · cases e
        rw [cells64_get cs j hj] at hju
        rw [show (⟨b, q, none⟩ : Addr).add j = ⟨b, q + j, none⟩ by unfold Addr.add; split <;> simp_all, hc j hj]
        exact hju) (cells64_one cs) (by unfold maxLen; omega) (by omega) hB
  refine ⟨v', w', h1, ?_, h3⟩
  unfold Own
  rw [List.length_append, show cells64 (A ++ cs) = cells64 A ++ cells64 cs by simp [cells64]]
  exact h2
/-- append as a law for the walk, where its run is known. -/
theorem wpList_append_words {w : World} {ops : Array Oper} {rest : List Oper} {o : Oper} {a : Act} {Q : Exit → Act → World → Prop} (hgd : o.guard = none) (s x : Operand)
    (ho : o.op = .call { callee := .builtin .append, args := #[s, x], argTypes := #[36, 36] }) (v y v' : Value) (w' : World) (hs : a.eval s = v) (hx : a.eval x = y)
    (hrun : (Builtin.append_ #[36, 36] o.type #[v, y]).run Try.prog w = .ok v' w') (h : wpList Try.prog ops Q rest (a.put o.dst v') w') : wpList Try.prog ops Q (o :: rest) a w := by
  refine wpList_plain hgd fun K hK => ?_
  unfold Oper.wp
  simp [execOp, ho, resolve, invoke, builtin, hs, hx, hrun, Result.andThen]
  exact hK _ _ h
end Go.Proofs.Ytfdddikgcfejpaa
