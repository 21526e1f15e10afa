/-
  How untyped memory, the table of sizes and a list of words lie in the world; when two of them are equal to the program; no condition of ours.
-/
import Derived.Test.YtkelblkegpmlpabDoorUFields
import Derived.Test.YtkelblkegpmlpabDoorMemBase
import Derived.Laws.StructEq
import Derived.Below
namespace Go.Proofs.YtkelblkegpmlpabDoor
open Go.RowKit Go.Deep
open Classical

def encU (u : Un) : Value := .agg #[.int .u64 u.base, .int .i64 u.bits, .int .u64 u.used]
def objU (u : Un) : Obj := .cells #[.int .u64 u.base, .int .i64 u.bits, .int .u64 u.used] 24
theorem below_new (w : World) (o : Obj) : Below w.heap.size w (w.alloc o) := (Below.refl _ _).alloc (Nat.le_refl _) _
theorem Below.then {B : Nat} {a b c : World} (h : Below B a b) (k : Below b.heap.size b c) (hB : B ≤ b.heap.size) : Below B a c := h.trans (k.mono hB)
theorem two_new (w : World) (o o' : Obj) : Below w.heap.size w ((w.alloc o).alloc o') := ((Below.refl _ _).alloc (Nat.le_refl _) _).alloc (by simp) _
/-- Block q is the memory u. -/
def AtU (w : World) (q : Nat) (u : Un) : Prop := w.heap[q]? = some (objU u)
theorem AtU.lt {w : World} {q : Nat} {u : Un} (h : AtU w q u) : q < w.heap.size := (Array.getElem?_eq_some_iff.1 h).1
theorem AtU.new (w : World) (u : Un) : AtU (w.alloc (objU u)) w.heap.size u := blk_alloc_new _ _
theorem AtU.of_block {w w' : World} {q : Nat} {u : Un} (h : AtU w q u) (e : w'.heap[q]? = w.heap[q]?) : AtU w' q u := e.trans h
theorem AtU.below {w w' : World} {q : Nat} {u : Un} (h : AtU w q u) (b : Below w.heap.size w w') : AtU w' q u := (b.block _ h.lt).trans h
theorem AtU.cells {w : World} {q : Nat} {u : Un} (h : AtU w q u) : w.cell? ⟨q, 0, none⟩ = some (.int .u64 u.base) ∧ w.cell? ⟨q, 1, none⟩ = some (.int .i64 u.bits) ∧ w.cell? ⟨q, 2, none⟩ = some (.int .u64 u.used) := by
  unfold AtU objU at h
  refine ⟨?_, ?_, ?_⟩ <;> simp [World.cell?, h]
theorem AtU.frozen {w : World} {q : Nat} {u : Un} (h : AtU w q u) (j : Nat) : w.frozen? ⟨q, j, none⟩ = false := by
  unfold AtU objU at h
  simp [World.frozen?, h]

/-! ### The table -/
def tabL : List Int := [0, 0, 0, 0, 4, 20, 2, 1, 8, 5, 0, 0, 2, 0, 0, 2, 0, 0, 6, 0, 0, 6, 0, 0, 6, 0, 0, 0, 0, 0]
/-- The sizes lie as the program laid them. -/
structure Tab (w : World) : Prop where
  size : 1 ≤ w.heap.size
  cell : ∀ i, i < 30 → w.cell? ⟨0, i, none⟩ = some (.int .i64 (tabL.getD i 0))
theorem Tab.below {w w' : World} {B : Nat} (h : Tab w) (b : Below B w w') (hB : 1 ≤ B) : Tab w' :=
  ⟨Nat.le_trans h.size b.size, fun i hi => (b.cell (p := ⟨0, i, none⟩) (show 0 < B by omega)).trans (h.cell i hi)⟩
theorem Tab.grow {w w' : World} (h : Tab w) (b : Below w.heap.size w w') : Tab w' := h.below b h.size

/-! ### Equal to the program -/
theorem eq_un (w : World) (a c : Un) :
    (Op.equalIn 10000 24 (.agg #[.int .u64 a.base, .int .i64 a.bits, .int .u64 a.used]) (.agg #[.int .u64 c.base, .int .i64 c.bits, .int .u64 c.used])).run Tryd.prog w
      = .ok (decide (a = c)) w := by
  have u3 := Tryd.underlying3
  have u4 := Tryd.underlying22
  have a3 := Tryd.isAgg3
  have a4 := Tryd.isAgg22
  have z3 := Tryd.sizeOf3
  have z4 := Tryd.sizeOf22
  have hS : Tryd.prog.underlying 24 = some (.struct (Tryd.prog.fieldsOf 24)) := by kernel_rfl
  have hp : Tryd.prog.stoodInHeld 24 = false := by kernel_rfl
  rw [show (10000 : Nat) = 9999 + 1 from rfl, run_equalIn_agg w 9999 24 _ _ hS hp]
  simp only [Program.fieldsOf, Tryd.underlying24]
  go_simp
  obtain ⟨k, o, r⟩ := a
  obtain ⟨k', o', r'⟩ := c
  by_cases h1 : k = k' <;> by_cases h2 : o = o' <;> by_cases h3 : r = r' <;> simp [h1, h2, h3]
theorem eq_ext (w : World) (a b c : Int) :
    (Op.equalIn 10000 44 (.agg #[.int .i64 a, .int .i64 b, .int .i64 c]) (.agg #[.int .i64 0, .int .i64 0, .int .i64 0])).run Tryd.prog w
      = .ok (decide (a = 0 ∧ b = 0 ∧ c = 0)) w := by
  have u3 := Tryd.underlying3
  have a3 := Tryd.isAgg3
  have z3 := Tryd.sizeOf3
  have hS : Tryd.prog.underlying 44 = some (.struct (Tryd.prog.fieldsOf 44)) := by kernel_rfl
  have hp : Tryd.prog.stoodInHeld 44 = false := by kernel_rfl
  rw [show (10000 : Nat) = 9999 + 1 from rfl, run_equalIn_agg w 9999 44 _ _ hS hp]
  simp only [Program.fieldsOf, Tryd.underlying44]
  go_simp
  by_cases h1 : a = 0 <;> by_cases h2 : b = 0 <;> by_cases h3 : c = 0 <;> simp [h1, h2, h3]

/-! ### A list of words of the call's own -/
theorem info64 : (Tryd.prog.info? 22).map (fun i => (i.zero, i.size, i.bytes)) = some (some (.int .u64 0), 1, 8) := by kernel_rfl
/-- The slice value v, of the call's own making from block B on, holds the words A. -/
def Own (B : Nat) (w : World) (v : Value) (A : List Int) : Prop := w.ownsRow B 22 1 v A.length (cells64 A)
theorem own_new (B : Nat) (w : World) (hB : B ≤ w.heap.size) : Own B (w.alloc (.cells #[] 22)) (.slice (some ⟨w.heap.size, 0, none⟩) 0 0) [] :=
  World.ownsRow_made w #[] 0 hB (by simp) rfl
theorem Own.told {B : Nat} {w : World} {v : Value} {A : List Int} (h : Own B w v A) : ∃ ao cap, v = .slice ao A.length cap ∧ Told w ao A ∧ ∀ x, ao = some x → B ≤ x.block := by
  obtain ⟨_, ⟨rfl, h0⟩ | ⟨g, cap, cur, rfl, hg, hh, hn, hc, hs, ht⟩⟩ := h
  · obtain rfl : A = [] := List.eq_nil_of_length_eq_zero h0
    exact ⟨none, 0, rfl, .inl rfl, fun x hx => by cases hx⟩
  · refine ⟨some ⟨g, 0, none⟩, cap, rfl, .inr ⟨g, 0, rfl, (Array.getElem?_eq_some_iff.1 hh).1, fun j hj => ?_⟩, fun x hx => by cases hx; exact hg⟩
    have e := cells64_get A j hj
    rw [← ht, List.getElem?_take, if_pos (by omega)] at e
    simpa [World.cell?, hh] using e
theorem append_words (B : Nat) (w : World) (ty : TypeId) (v : Value) (A cs : List Int) (ad : Addr) (cap : Nat) (hown : Own B w v A) (ht : Told w (some ad) cs) (hl : A.length + cs.length ≤ 1000000) (hB : B ≤ w.heap.size) :
    ∃ v' w', (Builtin.append_ #[27, 27] ty #[v, .slice (some ad) cs.length cap]).run Tryd.prog w = .ok v' w' ∧ Own B w' v' (A ++ cs) ∧ w.grownBy w' v.ownBlock := by
  obtain ⟨i, hi, hz⟩ := Option.map_eq_some_iff.1 info64
  simp only [Prod.mk.injEq] at hz
  obtain ⟨v', w', h1, h2, h3, _⟩ := run_append_own (P := Tryd.prog) w B 27 ty 22 i (.int .u64 0) 1 8 Tryd.underlying27 hi hz.1 hz.2.1 hz.2.2 rfl (by decide) v A.length (cells64 A) hown ad cs.length cap (cells64 cs) (by simp [cells64])
    (fun j u hju => by
      have hj : j < cs.length := by have := (List.getElem?_eq_some_iff.1 hju).1; rwa [cells64_len] at this
      rcases ht with rfl | ⟨b, q, e, _, hc⟩
      · simp at hj
      · cases e
        rw [cells64_get cs j hj] at hju
        rw [show (⟨b, q, none⟩ : Addr).add j = ⟨b, q + j, none⟩ by unfold Addr.add; split <;> simp_all, hc j hj]
        exact hju) (cells64_one cs) (by unfold maxLen; omega) (by omega) hB
  refine ⟨v', w', h1, ?_, h3⟩
  unfold Own
  rw [List.length_append, show cells64 (A ++ cs) = cells64 A ++ cells64 cs by simp [cells64]]
  exact h2
/-- append as a law for the walk, where its run is known. -/
theorem wpList_append_words {w : World} {ops : Array Oper} {rest : List Oper} {o : Oper} {a : Act} {Q : Exit → Act → World → Prop} (hgd : o.guard = none) (s x : Operand)
    (ho : o.op = .call { callee := .builtin .append, args := #[s, x], argTypes := #[27, 27] }) (v y v' : Value) (w' : World) (hs : a.eval s = v) (hx : a.eval x = y)
    (hrun : (Builtin.append_ #[27, 27] o.type #[v, y]).run Tryd.prog w = .ok v' w') (h : wpList Tryd.prog ops Q rest (a.put o.dst v') w') : wpList Tryd.prog ops Q (o :: rest) a w := by
  refine wpList_plain hgd fun K hK => ?_
  unfold Oper.wp
  simp [execOp, ho, resolve, invoke, builtin, hs, hx, hrun, Result.andThen]
  exact hK _ _ h
end Go.Proofs.YtkelblkegpmlpabDoor
