/-
  What Get of package slots answers; no condition of ours.
-/
import Derived.Test.YtkpoppgibempbaaNThere
namespace Go.Proofs.Ytkpoppgibempbaa
open Go.RowKit Go.Deep Go.MapKept Go.Maps
set_option linter.unusedSectionVars false
variable [dCp : DecidableEq Cp] [dLim : ∀ k, Decidable (Lim k)] [dBad : ∀ k, Decidable (Bad k)] [dFit : ∀ g z, Decidable (Fit g z)] [dFine : ∀ c, Decidable (Fine c)] [dMint : ∀ c v, Decidable (MintR c v)] [dWho : ∀ x y, Decidable (Whose x y)] [dSl : DecidableEq Sl] [dLt : ∀ a b, Decidable (ltS a b)]

theorem box2 (w : World) (o o' : Obj) : ((w.alloc o).alloc o').heap[w.heap.size]? = some o ∧ ((w.alloc o).alloc o').heap[w.heap.size + 1]? = some o' ∧ ((w.alloc o).alloc o').heap.size = w.heap.size + 2 ∧ Below w.heap.size w ((w.alloc o).alloc o') := by
  refine ⟨?_, ?_, by simp, two_new w o o'⟩
  · rw [blk_alloc_lt _ _ _ (by simp)]
    exact blk_alloc_new _ _
  · have := blk_alloc_new (w.alloc o) o'
    simpa using this
theorem hold_get {S : St} (ok : Okay S) {s : Sl} {c : Cp} (h : atS S s = some c) : (holdS S s).getD no = c := by
  unfold holdS
  rw [h]
  by_cases hk : c.k = 0
  · have e := (ok.at h).2 hk
    subst e
    rfl
  · simp [hk]
/-- Six stores into a block of the call's own leave all older ones. -/
theorem six_sets {B q : Nat} {w u : World} (h : Below B w u) (hq : B ≤ q) (a b c d e f : Value) :
    Below B w ((((((u.setCell ⟨q, 0, none⟩ a).setCell ⟨q, 1, none⟩ b).setCell ⟨q, 2, none⟩ c).setCell ⟨q, 3, none⟩ d).setCell ⟨q, 4, none⟩ e).setCell ⟨q, 5, none⟩ f) :=
  (((((h.setCell (p := ⟨q, 0, none⟩) hq a).setCell (p := ⟨q, 1, none⟩) hq b).setCell (p := ⟨q, 2, none⟩) hq c).setCell (p := ⟨q, 3, none⟩) hq d).setCell (p := ⟨q, 4, none⟩) hq e).setCell (p := ⟨q, 5, none⟩) hq f
theorem get_any (p : Nat) (F : Nat → Prop) (S : St) (s : Sl) (w : World) (h : Nds w p F S) (hs : s.Fits) :
    Calls Try.prog 16 #[.pointer (some ⟨p, 0, none⟩), encS s] w fun e w' => e = .returned (.tuple #[encC (getC S s), .int .i64 (getE S s)]) ∧ Below w.heap.size w w' := by
  have HS : Hid s.Fits := hs
  have H : Hid (Nds w p F S) := h
  obtain ⟨x1, x2, x3, x4⟩ := box2 w (objS s) (objC no)
  have tc := fun W hW => there_any p F S s W hW
  have hc : Hid (getC S s = (atS S s).getD no ∧ getE S s = if (atS S s).isSome then 0 else 50) := ⟨rfl, rfl⟩
  generalize hg : getC S s = gc at *
  generalize he : getE S s = ge at *
  clear hg he
  simp only [encS, objS, objC, encC, no] at *
  go_enter Try.func16, Try.ntmps16
  go_wp2_with fail
  refine (tc _ (H.out.below x4)).mono ?_
  rintro e w3 ⟨rfl, b3⟩
  clear tc h hs
  have a1 : AtS w3 w.heap.size s := (b3.block _ (by rw [x3]; omega)).trans x1
  have a2 : AtC w3 (w.heap.size + 1) no := (b3.block _ (by rw [x3]; omega)).trans x2
  have B : Hid (Below w.heap.size w w3) := Below.then x4 b3 x4.size
  have H3 : Hid (Nds w3 p F S) := (H.out.below x4).below b3
  clear x1 x2 x3 x4 b3 H
  obtain ⟨s0, s1⟩ := a1.cells
  obtain ⟨z0, z1, z2, z3, z4, z5⟩ := a2.cells
  have zf := a2.frozen
  clear a1 a2
  generalize hr0 : w.heap.size = r at *
  have HR : Hid (w.heap.size = r) := hr0
  clear hr0
  simp only [no] at *
  cases hq : atS S s with
  | none =>
    rw [hq] at hc
    obtain ⟨rfl, rfl⟩ := hc.out
    go_wp2
    refine bodyPost_ret (v := .tuple #[encC no, .int .i64 50]) ?_ rfl ⟨rfl, ?_⟩
    · simp [results, Try.f16, go_sem, encC, no, z0, z1, z2, z3, z4, z5]
    · rw [HR.out]; exact six_sets B.out (by omega) _ _ _ _ _ _
  | some c =>
    obtain ⟨m, v, h3⟩ := H3.out
    rw [hq] at hc
    have hl1 : Sem.run Try.prog _ w3.drew = _ := (h3.map.of_block (w' := w3.drew) rfl).look HS.out false
    rw [hold_get h3.ok hq] at hl1
    obtain ⟨c0, c1⟩ := h3.cells
    clear h3
    simp only [encS, encC] at *
    go_wp2
    go_region
    go_wp2
    obtain ⟨rfl, rfl⟩ := hc.out
    refine bodyPost_ret (v := .tuple #[encC gc, .int .i64 0]) ?_ rfl ⟨rfl, ?_⟩
    · simp [results, Try.f16, go_sem, encC, z0, z1, z2, z3, z4, z5]
    · rw [HR.out]; exact (six_sets B.out (by omega) _ _ _ _ _ _).drew
end Go.Proofs.Ytkpoppgibempbaa
