/-
  What the comparison handed to slices.SortFunc answers, for every two; no condition of ours.
-/
import Derived.Test.YtkpoppgibempbaaNMap
import Derived.Sort.Grow
import Derived.Sort.Statements
namespace Go.Proofs.Ytkpoppgibempbaa
open Go.RowKit Go.Deep Go.Sort
set_option linter.unusedSectionVars false
variable [dCp : DecidableEq Cp] [dLim : ∀ k, Decidable (Lim k)] [dBad : ∀ k, Decidable (Bad k)] [dFit : ∀ g z, Decidable (Fit g z)] [dFine : ∀ c, Decidable (Fine c)] [dMint : ∀ c v, Decidable (MintR c v)] [dWho : ∀ x y, Decidable (Whose x y)] [dSl : DecidableEq Sl] [dLt : ∀ a b, Decidable (ltS a b)]

/-! ### The library's cmp -/
def cmpI (x y : Int) : Int := if x < y then -1 else if y < x then 1 else 0
theorem nan_any (x : Int) (w : World) : Calls Try.prog 52 #[.int .i64 x] w fun e w' => e = .returned (.bool false) ∧ w' = w := by
  go_enter Try.func52, Try.ntmps52
  have h : (x != x) = false := by simp
  go_wp2
  go_ret
  exact ⟨by simp, rfl⟩
theorem compare_any (x y : Int) (w : World) : Calls Try.prog 44 #[.int .i64 x, .int .i64 y] w fun e w' => e = .returned (.int .i64 (cmpI x y)) ∧ w' = w := by
  go_enter Try.func44, Try.ntmps44
  go_wp2_with (go_at_call 52; refine (nan_any _ _).mono ?_; rintro e w' ⟨rfl, rfl⟩)
  all_goals go_ret
  all_goals exact ⟨by unfold cmpI; simp_all; try omega, rfl⟩
def orI (x y : Int) : Int := if x = 0 then y else x
theorem or_any (x y : Int) (b : Nat) (w : World) (h0 : w.cell? ⟨b, 0, none⟩ = some (.int .i64 x)) (h1 : w.cell? ⟨b, 1, none⟩ = some (.int .i64 y)) : Calls Try.prog 43 #[.slice (some ⟨b, 0, none⟩) 2 2] w fun e w' => e = .returned (.int .i64 (orI x y)) ∧ w' = w := by
  go_enter Try.func43, Try.ntmps43
  go_wp2
  refine wp_loop_rounds 3 ?_
  rw [rounds_succ]
  go_wp2
  · go_ret
    exact ⟨by unfold orI; simp_all, rfl⟩
  · rw [rounds_succ]
    go_wp2
    · go_ret
      exact ⟨by unfold orI; simp_all, rfl⟩
    · rw [rounds_succ]
      go_wp2
      go_ret
      exact ⟨by unfold orI; simp_all, rfl⟩
theorem or_new (x y : Int) (w : World) : Calls Try.prog 43 #[.slice (some ⟨w.heap.size, 0, none⟩) 2 2] (w.alloc (.cells #[.int .i64 x, .int .i64 y] 3)).drew fun e w' => e = .returned (.int .i64 (orI x y)) ∧ w' = (w.alloc (.cells #[.int .i64 x, .int .i64 y] 3)).drew := by
  have h : (w.alloc (.cells #[.int .i64 x, .int .i64 y] 3)).drew.heap[w.heap.size]? = _ := blk_alloc_new w (.cells #[.int .i64 x, .int .i64 y] 3)
  refine or_any x y _ _ ?_ ?_ <;> (unfold World.cell?; rw [h]; rfl)

/-! ### Two that are held -/
def encH (x : Sl × Cp) : List Value := [.int .i64 x.1.n, .int .i64 x.1.i, .int .i64 x.2.k, .int .i64 x.2.o, .int .i64 x.2.r, .int .u64 x.2.b, .int .u64 x.2.g, .int .i64 x.2.z]
def objH (x : Sl × Cp) : Obj := .cells (encH x).toArray 50
def cmpH (x y : Sl × Cp) : Int := orI (cmpI x.1.n y.1.n) (cmpI x.1.i y.1.i)
theorem cmpH_lt (x y : Sl × Cp) : cmpH x y < 0 ↔ ltS x.1 y.1 := by
  unfold cmpH orI cmpI ltS
  repeat' split
  all_goals omega
theorem wide_cells {w : World} {q : Nat} {x : Sl × Cp} (h : w.heap[q]? = some (objH x)) : w.cell? ⟨q, 0, none⟩ = some (.int .i64 x.1.n) ∧ w.cell? ⟨q, 1, none⟩ = some (.int .i64 x.1.i) := by
  unfold objH encH at h
  constructor <;> simp [World.cell?, h]
def Grown (w W : World) : Prop := ∃ q os, W = grow (w.drewN q) os
theorem Grown.drew {w W : World} (h : Grown w W) : Grown w W.drew := by
  obtain ⟨q, os, rfl⟩ := h
  exact ⟨q + 1, os, rfl⟩
theorem Grown.alloc {w W : World} (h : Grown w W) (o : Obj) : Grown w (W.alloc o) := by
  obtain ⟨q, os, rfl⟩ := h
  exact ⟨q, os ++ #[o], by rw [alloc_eq_grow, grow_grow]⟩
theorem c_drew {w W : World} {r : Nat} {a b c d : Int} (h : W.cell? ⟨r, 0, none⟩ = some (.int .i64 a) ∧ W.cell? ⟨r, 1, none⟩ = some (.int .i64 b) ∧ W.cell? ⟨r + 1, 0, none⟩ = some (.int .i64 c) ∧ W.cell? ⟨r + 1, 1, none⟩ = some (.int .i64 d) ∧ Grown w W) :
    W.drew.cell? ⟨r, 0, none⟩ = some (.int .i64 a) ∧ W.drew.cell? ⟨r, 1, none⟩ = some (.int .i64 b) ∧ W.drew.cell? ⟨r + 1, 0, none⟩ = some (.int .i64 c) ∧ W.drew.cell? ⟨r + 1, 1, none⟩ = some (.int .i64 d) ∧ Grown w W.drew :=
  ⟨h.1, h.2.1, h.2.2.1, h.2.2.2.1, h.2.2.2.2.drew⟩
theorem c_alloc {w W : World} {r : Nat} {a b c d : Int} (h : W.cell? ⟨r, 0, none⟩ = some (.int .i64 a) ∧ W.cell? ⟨r, 1, none⟩ = some (.int .i64 b) ∧ W.cell? ⟨r + 1, 0, none⟩ = some (.int .i64 c) ∧ W.cell? ⟨r + 1, 1, none⟩ = some (.int .i64 d) ∧ Grown w W) (o : Obj) :
    (W.alloc o).cell? ⟨r, 0, none⟩ = some (.int .i64 a) ∧ (W.alloc o).cell? ⟨r, 1, none⟩ = some (.int .i64 b) ∧ (W.alloc o).cell? ⟨r + 1, 0, none⟩ = some (.int .i64 c) ∧ (W.alloc o).cell? ⟨r + 1, 1, none⟩ = some (.int .i64 d) ∧ Grown w (W.alloc o) :=
  ⟨Lib.cell?_alloc_some _ h.1, Lib.cell?_alloc_some _ h.2.1, Lib.cell?_alloc_some _ h.2.2.1, Lib.cell?_alloc_some _ h.2.2.2.1, h.2.2.2.2.alloc o⟩
set_option maxHeartbeats 1000000 in
theorem closure_any (x y : Sl × Cp) (w : World) : Calls Try.prog 42 #[.agg (encH x).toArray, .agg (encH y).toArray] w fun e w' => e = .returned (.int .i64 (cmpH x y)) ∧ Grown w w' := by
  have HC : Hid (cmpH x y = orI (cmpI x.1.n y.1.n) (cmpI x.1.i y.1.i)) := rfl
  generalize cmpH x y = ch at *
  have x1 : ((w.alloc (objH x)).alloc (objH y)).heap[w.heap.size]? = some (objH x) := by
    rw [blk_alloc_lt _ _ _ (by simp)]
    exact blk_alloc_new _ _
  have x2 : ((w.alloc (objH x)).alloc (objH y)).heap[w.heap.size + 1]? = some (objH y) := by
    have := blk_alloc_new (w.alloc (objH x)) (objH y)
    simpa using this
  obtain ⟨c0, c1⟩ := wide_cells x1
  obtain ⟨d0, d1⟩ := wide_cells x2
  have hS : ((w.alloc (objH x)).alloc (objH y)).cell? ⟨w.heap.size, 0, none⟩ = some (.int .i64 x.1.n) ∧ ((w.alloc (objH x)).alloc (objH y)).cell? ⟨w.heap.size, 1, none⟩ = some (.int .i64 x.1.i) ∧ ((w.alloc (objH x)).alloc (objH y)).cell? ⟨w.heap.size + 1, 0, none⟩ = some (.int .i64 y.1.n) ∧ ((w.alloc (objH x)).alloc (objH y)).cell? ⟨w.heap.size + 1, 1, none⟩ = some (.int .i64 y.1.i) ∧ Grown w ((w.alloc (objH x)).alloc (objH y)) :=
    ⟨c0, c1, d0, d1, Grown.alloc (Grown.alloc ⟨0, #[], by rw [grow_empty]; rfl⟩ _) _⟩
  clear x1 x2 c0 c1 d0 d1
  simp only [encH, objH] at *
  go_enter Try.func42, Try.ntmps42
  go_wp2
  generalize (w.alloc (Obj.cells _ _)).alloc (Obj.cells _ _) = w2 at *
  generalize w.heap.size = r at *
  go_region_held3 (fun W => W.cell? ⟨r, 0, none⟩ = some (.int .i64 x.1.n) ∧ W.cell? ⟨r, 1, none⟩ = some (.int .i64 x.1.i) ∧ W.cell? ⟨r + 1, 0, none⟩ = some (.int .i64 y.1.n) ∧ W.cell? ⟨r + 1, 1, none⟩ = some (.int .i64 y.1.i) ∧ Grown w W) ((first | assumption | with_reducible exact c_drew hS | with_reducible exact c_drew (c_alloc hS _)))
    (first | (go_at_call 44; refine (compare_any _ _ _).mono ?_; rintro e w' ⟨rfl, rfl⟩) | (go_at_call 43; refine (or_new _ _ _).mono ?_; rintro e w' ⟨rfl, rfl⟩))
  rename_i hH
  have hG := hH.2.2.2.2
  clear hH hS
  go_wp2
  go_ret
  exact ⟨by rw [HC.out]; rfl, hG⟩
end Go.Proofs.Ytkpoppgibempbaa
