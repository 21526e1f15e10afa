/-
  A cut inside a region: the ways through its first operations meet in a relation of frame and world; no condition of ours.
-/
import Derived.Test.YtkpoppgibempbaaNCheck
import Derived.Deep.Cut
namespace Go.Proofs.Ytkpoppgibempbaa
open Go.RowKit Go.Deep
set_option linter.unusedSectionVars false
variable [dCp : DecidableEq Cp] [dLim : ∀ k, Decidable (Lim k)] [dBad : ∀ k, Decidable (Bad k)] [dFit : ∀ g z, Decidable (Fit g z)] [dFine : ∀ c, Decidable (Fine c)] [dMint : ∀ c v, Decidable (MintR c v)] [dWho : ∀ x y, Decidable (Whose x y)]

/-- It goes on, and then R. -/
def onlyQ (R : Act → World → Prop) : Exit → Act → World → Prop
  | .normal => R
  | _ => fun _ _ => False
section
variable {P : Program} {ops : Array Oper} {Q Q' : Exit → Act → World → Prop} {K K' : Act → World → Prop}
theorem upon_more {o : Oper} {a : Act} {r : Result Next} (hK : ∀ a w, K a w → K' a w) (hQ : ∀ e a w, e ≠ .normal → Q e a w → Q' e a w) (h : o.upon P a K Q r) : o.upon P a K' Q' r := by
  unfold Oper.upon at h ⊢
  split at h
  · exact hK _ _ h
  · exact hK _ _ h
  · exact hK _ _ h
  · refine h.mono ?_
    intro e w' he
    cases e with
    | returned v => exact hK _ _ he
    | panicked c => exact hQ _ _ _ (by intro h; cases h) he
    | outgrown => exact he.imp fun a h => h.imp fun w h => hQ _ _ _ (by intro h; cases h) h
  · exact h.mono fun v w' h => hK _ _ h
  · exact hQ _ _ _ (by intro h; cases h) h
  · exact h.elim
theorem onlyQ_other {R : Act → World → Prop} (e : Exit) (a : Act) (w : World) (h : e ≠ .normal) (hq : onlyQ R e a w) : Q e a w := by
  cases e <;> first | exact absurd rfl h | exact hq.elim
theorem wpList_join (R : Act → World → Prop) (B : List Oper) (h2 : ∀ a' w', R a' w' → wpList P ops Q B a' w') : ∀ (A : List Oper) (a : Act) (w : World), wpList P ops (onlyQ R) A a w → wpList P ops Q (A ++ B) a w
  | [], a, w, h => h2 a w h
  | o :: A, a, w, h => by
    simp only [List.cons_append]
    unfold wpList at h ⊢
    split at h
    · rename_i hw
      rw [if_pos hw]
      rcases h with h | ⟨h, a', w', hl⟩
      · exact .inl (upon_more (fun a w => wpList_join R B h2 A a w) onlyQ_other h)
      · exact hl.elim
    · rename_i hw
      rw [if_neg hw]
      exact wpList_join R B h2 A _ _ h
theorem wpList_cut (n : Nat) (R : Act → World → Prop) {l : List Oper} {a : Act} {w : World} (h1 : wpList P ops (onlyQ R) (l.take n) a w) (h2 : ∀ a' w', R a' w' → wpList P ops Q (l.drop n) a' w') : wpList P ops Q l a w := by
  have := wpList_join R (l.drop n) h2 (l.take n) a w h1
  rwa [List.take_append_drop] at this
theorem wp_region_cut (n : Nat) (R : Act → World → Prop) {id : Nat} {l : List Oper} {a : Act} {w : World} (h1 : wpList P l.toArray (onlyQ R) (l.take n) a w) (h2 : ∀ a' w', R a' w' → wpList P l.toArray Q (l.drop n) a' w') : (Code.region id l.toArray false).wp P Q a w :=
  wp_region_lit (wpList_cut n R h1 h2)
theorem met {t : Array Value} {f : (Nat → Value) → Array Value} (h : t = f (fun i => t.getD i undef)) : ∃ x : Nat → Value, ({ tmps := t, defers := [] } : Act) = { tmps := f x, defers := [] } := ⟨_, congrArg (fun t => ({ tmps := t, defers := [] } : Act)) h⟩
end
end Go.Proofs.Ytkpoppgibempbaa
