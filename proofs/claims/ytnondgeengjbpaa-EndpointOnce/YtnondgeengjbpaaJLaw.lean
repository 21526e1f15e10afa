/-
  What the laws of endpoint share: the fixed calls among things apart, a region that draws its order and lays new blocks alone; no condition of ours.
-/
import Derived.Test.YtnondgeengjbpaaJFixed
import Derived.Test.YtnondgeengjbpaaJSay
namespace Go.Proofs.Ytnondgeengjbpaa
open Go.RowKit Go.Deep Go.Shelf

theorem fixed_sep {w0 w : World} {r : Nat} {R : List Th} (h : Sep w0 r w R) : Calls Try.prog 22 #[] w fun e w' => e = .returned (.bool true) ∧ Sep w0 r w' R :=
  (fixed_any w).mono fun _ _ ⟨he, b⟩ => ⟨he, h.below b⟩
/-- A world in which all blocks of w are as they were. -/
structure Grw (w : World) where
  val : World
  bel : Below w.heap.size w val
theorem wp_region_grw {id : Nat} {Q : Exit → Act → World → Prop} {a : Act} {w : World} {l : List Oper} (hm : Try.prog.follows .mixedOrders = true) (hB : Region.lexB .any l.toArray = true)
    (h : wpQuiet Try.prog l.toArray (fun w' => ∃ p : Grw w, w' = p.val) (fun a' => ∀ w', (∃ p : Grw w, w' = p.val) → Q .normal a' w') l a) : (Code.region id l.toArray true).wp Try.prog Q a w :=
  wp_region_quiet (C := fun w' => ∃ p : Grw w, w' = p.val) hm hB ⟨⟨{ w with drawn := w.drawn + 1 }, ⟨rfl, rfl, rfl, Nat.le_refl _, fun _ _ => rfl⟩⟩, rfl⟩ (by simpa using h)
theorem grw_of {f : FuncId} {args : Array Value} {w : World} {p : Grw w} {v : Value} (h : Calls Try.prog f args p.val fun e w' => e = .returned v ∧ Below p.val.heap.size p.val w') :
    Calls Try.prog f args p.val fun e w'' => e = .returned v ∧ ∃ p' : Grw w, w'' = p'.val :=
  h.mono fun _ w' ⟨he, hb⟩ => ⟨he, ⟨w', p.bel.trans (hb.mono p.bel.size)⟩, rfl⟩
theorem Grw.cell {w : World} (p : Grw w) {a : Addr} {v : Value} (hb : a.block < w.heap.size) (h : w.cell? a = some v) : p.val.cell? a = some v := (p.bel.cell (p := a) hb).trans h
abbrev grw0 (w : World) : Inhabited (Grw w) := ⟨⟨w, Below.refl _ _⟩⟩
section
variable {w0 w : World} {r : Nat} {R : List Th}
theorem Sep.grw (h : Sep w0 r w R) (p : Grw w) : Sep w0 r p.val R := h.below p.bel
theorem fixed_grw {p : Grw w} : Calls Try.prog 22 #[] p.val fun e w'' => e = .returned (.bool true) ∧ ∃ p' : Grw w, w'' = p'.val := grw_of (fixed_any p.val)
end
end Go.Proofs.Ytnondgeengjbpaa
