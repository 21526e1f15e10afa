/-
  Where both sides begin; a copy, and what becomes of the nodes that were copied; a list of one's own that is written; no condition of ours.
-/
import Derived.Test.YtkpoppgibempbaaNBoth
import Derived.Test.YtkpoppgibempbaaNCopy
namespace Go.Proofs.Ytkpoppgibempbaa
open Go.RowKit Go.Deep Go.MapKept Go.Maps
set_option linter.unusedSectionVars false
variable [dCp : DecidableEq Cp] [dLim : ∀ k, Decidable (Lim k)] [dBad : ∀ k, Decidable (Bad k)] [dFit : ∀ g z, Decidable (Fit g z)] [dFine : ∀ c, Decidable (Fine c)] [dMint : ∀ c v, Decidable (MintR c v)] [dWho : ∀ x y, Decidable (Whose x y)] [dSl : DecidableEq Sl] [dLt : ∀ a b, Decidable (ltS a b)] [iSl : Inhabited Sl] [iCp : Inhabited Cp]

theorem bo_start {w w1 : World} {q : Nat} {F : Nat → Prop} (nn : Nds w1 q F []) (oo : ∀ x, F x → w.heap.size ≤ x) (bb : Below w.heap.size w w1) {r : Nat} (hr : w.heap.size = r) : Bo w r (w1.alloc (.cells #[.slice none 0 0] 28)) q F w1.heap.size (fun x => x = w1.heap.size) [] [] [] [] := by
  have h1 : Has w r w1 q F [] [] [] := Has.started nn bb oo hr
  have h2 := h1.below (below_new w1 (.cells #[.slice none 0 0] 28))
  refine ⟨h2, ⟨.slice none 0 0, [], ?_⟩, fun x hx => (by subst hx; exact h1.size), fun x hx e => (by have := h1.nds.lt x hx; omega), fun b hb => (by cases hb), fun b hb => (by cases hb)⟩
  exact {
    head := blk_alloc_new _ _
    row := World.ownsRow_nil _ _ _ _
    each := fun j l hj => by simp at hj
    apart := fun i j b m m' h => by simp at h
    fp := rfl
    fv := fun k hk => by simp [Value.ownBlock] at hk
    lt := fun x hx => by subst hx; simp
    ok := okay_nil }
structure OldN (w : World) (r p : Nat) (F F' F2 : Nat → Prop) (L : List (Nat × Obj)) (So : St) : Prop where
  nds : Nds w p F So
  own : ∀ x, F x → r ≤ x
  ap : ∀ x, F x → ¬ F' x ∧ ¬ F2 x ∧ ∀ b ∈ L, b.1 ≠ x
section
variable {w0 : World} {r : Nat} {w w' : World} {p q : Nat} {F F' : Nat → Prop} {p2 : Nat} {F2 : Nat → Prop} {S T So So' : St} {L : List (Nat × Obj)}
theorem old_step (h : Bo w0 r w q F' p2 F2 S T L []) (o : OldN w r p F F' F2 L So) (l : LeavesF w p F So' w') : ∃ F3, Bo w0 r w' q F' p2 F2 S T L [] ∧ OldN w' r p F3 F' F2 L So' := by
  obtain ⟨F3, n, t, out⟩ := l
  refine ⟨F3, ⟨?_, h.rds.turn t fun x h2 h1 => (o.ap x h1).2.1 h2, h.own2, h.ap, h.apL, fun b hb => (by cases hb)⟩, ⟨n, fun x hx => (out x hx).elim (o.own x) fun hx => Nat.le_trans h.has.size hx, fun x hx => ?_⟩⟩
  · exact {
      nds := h.has.nds.turn t fun x h2 h1 => (o.ap x h1).1 h2
      low := t.below h.has.low o.own h.has.size
      own := h.has.own
      size := Nat.le_trans h.has.size t.size
      blk := fun b hb => by
        obtain ⟨h1, h2⟩ := h.has.blk b hb
        exact ⟨(t.block _ (Array.getElem?_eq_some_iff.1 h1).1 fun hf => (o.ap _ hf).2.2 b hb rfl).trans h1, h2⟩
      row := fun b hb => by cases hb }
  · rcases out x hx with hx | hx
    · exact o.ap x hx
    · refine ⟨fun e => ?_, fun e => ?_, fun b hb e => ?_⟩
      · have := h.has.nds.lt x e; omega
      · have := h.rds.lt x e; omega
      · have := (Array.getElem?_eq_some_iff.1 (h.has.blk b hb).1).1; omega
theorem old_copy (h : Bo w0 r w p F p2 F2 S T L []) (n : Nds w' q F' S) (hF : ∀ x, F' x → w.heap.size ≤ x) (b : Below w.heap.size w w') : Bo w0 r w' q F' p2 F2 S T L [] ∧ OldN w' r p F F' F2 L S := by
  have k := h.below b
  refine ⟨⟨?_, k.rds, k.own2, fun x hx e => ?_, k.apL, fun b hb => (by cases hb)⟩, ⟨k.has.nds, k.has.own, fun x hx => ⟨fun e => ?_, h.ap x hx, fun b hb e => (h.has.blk b hb).2 (e ▸ hx)⟩⟩⟩
  · exact {
      nds := n
      low := k.has.low
      own := fun x hx => Nat.le_trans h.has.size (hF x hx)
      size := k.has.size
      blk := fun b hb => ⟨(k.has.blk b hb).1, fun e => by
        have := (Array.getElem?_eq_some_iff.1 (h.has.blk b hb).1).1
        have := hF _ e
        omega⟩
      row := fun b hb => by cases hb }
  · have := h.rds.lt x e
    have := hF x hx
    omega
  · have := h.has.nds.lt x hx
    have := hF x e
    omega
/-- A list that was told is written: it is its owner's. -/
theorem Bo.writes {g : Nat} {M : List (Value × List (Sl × Cp))} (h : Bo w0 r w p F p2 F2 S T L M) (hr : r ≤ g) (hF : ¬ F g) (h2 : ¬ F2 g) (hL : ∀ b ∈ L, b.1 ≠ g) (j : Nat) (v : Value) : Bo w0 r (w.setCell ⟨g, j, none⟩ v) p F p2 F2 S T L [] := by
  have t : Turn (fun x => x = g) w (w.setCell ⟨g, j, none⟩ v) := Turn.setCell _ w ⟨g, j, none⟩ v rfl
  refine ⟨?_, h.rds.turn t fun x hx e => h2 (e ▸ hx), h.own2, h.ap, h.apL, fun b hb => by cases hb⟩
  exact {
    nds := h.has.nds.turn t fun x hx e => hF (e ▸ hx)
    low := t.below h.has.low (fun x hx => by subst hx; exact hr) h.has.size
    own := h.has.own
    size := Nat.le_trans h.has.size t.size
    blk := fun b hb => by
      obtain ⟨h1, k2⟩ := h.has.blk b hb
      exact ⟨(t.block _ (Array.getElem?_eq_some_iff.1 h1).1 fun e => hL b hb e).trans h1, k2⟩
    row := fun b hb => by cases hb }
end
end Go.Proofs.Ytkpoppgibempbaa
