/-
  What stays in memory while calls make more of it: the cells that were there, and the table of widths; no condition of ours.
-/
import Derived.Test.YtpmlhdmncbpodaaDoorFixed
namespace Go.Proofs.YtpmlhdmncbpodaaDoor
open Go.RowKit
/-- The table lies there, and nothing that was there when the law began has turned. -/
structure Ok (w u : World) : Prop where
  tab : Tab u
  bel : Below w.heap.size w u
theorem Ok.keep {w v u : World} (h : Ok w v) (hb : Below v.heap.size v u) : Ok w u := ⟨h.tab.below hb, h.bel.trans (hb.mono h.bel.size)⟩
theorem Ok.drew {w v : World} (h : Ok w v) : Ok w v.drew := h.keep ((Below.refl _ _).drew)
theorem keepCell {v u : World} (hb : Below v.heap.size v u) {a : Addr} {x : Value} (h : v.cell? a = some x) : u.cell? a = some x := by
  rw [hb.cell (World.block_lt_of_cell? v a h)]
  exact h
theorem cells_new (v : World) (x0 x1 x2 x3 : Value) (t : TypeId) :
    (v.alloc (Obj.cells #[x0, x1, x2, x3] t)).cell? ⟨v.heap.size, 0, none⟩ = some x0 ∧ (v.alloc (Obj.cells #[x0, x1, x2, x3] t)).cell? ⟨v.heap.size, 1, none⟩ = some x1 ∧
    (v.alloc (Obj.cells #[x0, x1, x2, x3] t)).cell? ⟨v.heap.size, 2, none⟩ = some x2 ∧ (v.alloc (Obj.cells #[x0, x1, x2, x3] t)).cell? ⟨v.heap.size, 3, none⟩ = some x3 := by
  refine ⟨?_, ?_, ?_, ?_⟩ <;> simp
theorem below_new (v : World) (o : Obj) : Below v.heap.size v (v.alloc o) := (Below.refl _ _).alloc (Nat.le_refl _) _
end Go.Proofs.YtpmlhdmncbpodaaDoor
