/-
  A region that draws its order, whose operations only read and whose calls lay new blocks alone, walked once; no condition of ours.
-/
import Derived.Test.YtpapjdmnhgnpfaaGRow
import Derived.BigQuiet
namespace Go.Proofs.Ytpapjdmnhgnpfaa
open Go.RowKit Go.Deep
/-- A world in which all blocks of w are as they were. -/
structure Grw (w : World) where
  val : World
  bel : Below w.heap.size w val
theorem wp_region_grw {id : Nat} {Q : Exit → Act → World → Prop} {a : Act} {w : World} {l : List Oper} (hm : Try.prog.follows .mixedOrders = true) (hB : Region.lexB .any l.toArray = true)
    (h : wpQuiet Try.prog l.toArray (fun w' => ∃ p : Grw w, w' = p.val) (fun a' => ∀ w', (∃ p : Grw w, w' = p.val) → Q .normal a' w') l a) : (Code.region id l.toArray true).wp Try.prog Q a w :=
  wp_region_quiet (C := fun w' => ∃ p : Grw w, w' = p.val) hm hB ⟨⟨{ w with drawn := w.drawn + 1 }, ⟨rfl, rfl, rfl, Nat.le_refl _, fun _ _ => rfl⟩⟩, rfl⟩ (by simpa using h)
theorem grw_of {f : FuncId} {args : Array Value} {w : World} {p : Grw w} {v : Value} (h : Calls Try.prog f args p.val fun e w' => e = .returned v ∧ Below p.val.heap.size p.val w') :
    Calls Try.prog f args p.val fun e w'' => e = .returned v ∧ ∃ p' : Grw w, w'' = p'.val :=
  h.mono fun _ w' ⟨he, hb⟩ => ⟨he, ⟨w', p.bel.trans (hb.mono p.bel.size)⟩, rfl⟩
theorem grw_same {f : FuncId} {args : Array Value} {w : World} {p : Grw w} {v : Value} (h : Calls Try.prog f args p.val fun e w' => e = .returned v ∧ w' = p.val) :
    Calls Try.prog f args p.val fun e w'' => e = .returned v ∧ ∃ p' : Grw w, w'' = p'.val :=
  h.mono fun _ _ ⟨he, hb⟩ => ⟨he, p, hb⟩
theorem grw_drew {f : FuncId} {args : Array Value} {w : World} {p : Grw w} {v : Value} (h : Calls Try.prog f args p.val fun e w' => e = .returned v ∧ ∃ m, w' = p.val.drewN m) :
    Calls Try.prog f args p.val fun e w'' => e = .returned v ∧ ∃ p' : Grw w, w'' = p'.val :=
  h.mono fun _ _ ⟨he, m, hb⟩ => ⟨he, ⟨p.val.drewN m, below_drewN p.bel m⟩, hb⟩
theorem Grw.cell {w : World} (p : Grw w) {a : Addr} {v : Value} (hb : a.block < w.heap.size) (h : w.cell? a = some v) : p.val.cell? a = some v := (p.bel.cell (p := a) hb).trans h
abbrev grw0 (w : World) : Inhabited (Grw w) := ⟨⟨w, Below.refl _ _⟩⟩
section
variable {w0 w : World} {r : Nat} {R : List Th}
theorem Sep.grw (h : Sep w0 r w R) (p : Grw w) : Sep w0 r p.val R := h.below p.bel
end
end Go.Proofs.Ytpapjdmnhgnpfaa
