/-
  What there, free and Get of package slots answer; no condition of ours.
-/
import Derived.Test.YtkpoppgibempbaaNNode
namespace Go.Proofs.Ytkpoppgibempbaa
open Go.RowKit Go.Deep Go.MapKept Go.Maps
set_option linter.unusedSectionVars false
variable [dCp : DecidableEq Cp] [dLim : ∀ k, Decidable (Lim k)] [dBad : ∀ k, Decidable (Bad k)] [dFit : ∀ g z, Decidable (Fit g z)] [dFine : ∀ c, Decidable (Fine c)] [dMint : ∀ c v, Decidable (MintR c v)] [dWho : ∀ x y, Decidable (Whose x y)] [dSl : DecidableEq Sl] [dLt : ∀ a b, Decidable (ltS a b)]

def objS (s : Sl) : Obj := .cells #[.int .i64 s.n, .int .i64 s.i] 30
/-- Block q is the slot s. -/
def AtS (w : World) (q : Nat) (s : Sl) : Prop := w.heap[q]? = some (objS s)
theorem AtS.lt {w : World} {q : Nat} {s : Sl} (h : AtS w q s) : q < w.heap.size := (Array.getElem?_eq_some_iff.1 h).1
theorem AtS.new (w : World) (s : Sl) : AtS (w.alloc (objS s)) w.heap.size s := blk_alloc_new _ _
theorem AtS.below {w w' : World} {q : Nat} {s : Sl} (h : AtS w q s) (u : Below w.heap.size w w') : AtS w' q s := (u.block _ h.lt).trans h
theorem AtS.cells {w : World} {q : Nat} {s : Sl} (h : AtS w q s) : w.cell? ⟨q, 0, none⟩ = some (.int .i64 s.n) ∧ w.cell? ⟨q, 1, none⟩ = some (.int .i64 s.i) := by
  unfold AtS objS at h
  constructor <;> simp [World.cell?, h]
theorem at_iff (S : St) (s : Sl) : (atS S s).isSome = true ↔ nodeS S s.n ≠ [] ∧ 0 ≤ s.i ∧ s.i < (nodeS S s.n).length := by
  unfold atS nodeS
  by_cases hn : 0 ≤ s.n
  · by_cases hi : 0 ≤ s.i
    · simp only [hn, hi, and_self, if_true, true_and]
      generalize S.getD s.n.toNat [] = l
      constructor
      · intro h
        have h1 : s.i.toNat < l.length := by simpa using h
        refine ⟨fun e => by rw [e] at h1; simp at h1, by omega⟩
      · rintro ⟨_, h1⟩
        have : s.i.toNat < l.length := by omega
        simpa using this
    · simp [hn, hi]
  · simp [hn]
theorem below_drewN {B : Nat} {a w : World} (h : Below B a w) (n : Nat) : Below B a (w.drewN n) := ⟨h.os, h.tape, h.output, h.size, h.block⟩
theorem cell_al {w : World} {a : Addr} {v : Value} (h : w.cell? a = some v) (o : Obj) : (w.alloc o).cell? a = some v := Lib.cell?_alloc_some _ h
theorem there_no (p : Nat) (F : Nat → Prop) (S : St) (s : Sl) (w : World) (h : Nds w p F S) (hb : sizeB S s.n = false) :
    Calls Try.prog 30 #[.pointer (some ⟨p, 0, none⟩), encS s] w fun e w' => e = .returned (.bool false) ∧ Below w.heap.size w w' := by
  have b1 := below_new w (objS s)
  have h1 := h.below b1
  have a1 := AtS.new w s
  have sc := fun W hW => size_any p F S s.n W hW
  rw [hb] at sc
  simp only [encS, objS] at *
  go_enter Try.func30, Try.ntmps30
  go_wp2_with (go_at_call 18; refine (sc _ h1).mono ?_; rintro e w' ⟨rfl, rfl⟩)
  have B : Hid (Below w.heap.size w (w.alloc (.cells #[.int .i64 s.n, .int .i64 s.i] 30))) := b1
  obtain ⟨c0, c1⟩ := a1.cells
  clear a1 b1 h1 sc h
  generalize w.alloc (.cells #[.int .i64 s.n, .int .i64 s.i] 30) = w1 at *
  generalize hr0 : w.heap.size = r at *
  have HR : Hid (w.heap.size = r) := hr0
  clear hr0
  go_quiet (fail)
  go_wp2
  go_ret
  exact ⟨rfl, by rw [HR.out]; exact below_drewN B.out _⟩
theorem there_low (p : Nat) (F : Nat → Prop) (S : St) (s : Sl) (w : World) (h : Nds w p F S) (hb : sizeB S s.n = true) (hi : s.i < 0) :
    Calls Try.prog 30 #[.pointer (some ⟨p, 0, none⟩), encS s] w fun e w' => e = .returned (.bool false) ∧ Below w.heap.size w w' := by
  have b1 := below_new w (objS s)
  have h1 := h.below b1
  have a1 := AtS.new w s
  have sc := fun W hW => size_any p F S s.n W hW
  rw [hb] at sc
  simp only [encS, objS] at *
  go_enter Try.func30, Try.ntmps30
  go_wp2_with (go_at_call 18; refine (sc _ h1).mono ?_; rintro e w' ⟨rfl, rfl⟩)
  have B : Hid (Below w.heap.size w (w.alloc (.cells #[.int .i64 s.n, .int .i64 s.i] 30))) := b1
  obtain ⟨c0, c1⟩ := a1.cells
  clear a1 b1 h1 sc h
  generalize w.alloc (.cells #[.int .i64 s.n, .int .i64 s.i] 30) = w1 at *
  generalize hr0 : w.heap.size = r at *
  have HR : Hid (w.heap.size = r) := hr0
  clear hr0
  have hd : decide (0 ≤ s.i) = false := by simp; omega
  go_quiet (fail)
  go_wp2
  go_ret
  exact ⟨rfl, by rw [HR.out]; exact below_drewN B.out _⟩
theorem there_in (p : Nat) (F : Nat → Prop) (S : St) (s : Sl) (b : Nat) (w : World) (h : Nds w p F S) (hb : sizeB S s.n = true) (hn : sizeN S s.n = (b : Nat)) (h8 : b ≤ 8) (hi : 0 ≤ s.i) :
    Calls Try.prog 30 #[.pointer (some ⟨p, 0, none⟩), encS s] w fun e w' => e = .returned (.bool (decide (s.i < ((2 ^ b : Nat) : Int)))) ∧ Below w.heap.size w w' := by
  have b1 := below_new w (objS s)
  have h1 := h.below b1
  have a1 := AtS.new w s
  have sc := fun W hW => size_any p F S s.n W hW
  rw [hb, hn] at sc
  have so := fun W => slotsOf_any b W h8
  generalize 2 ^ b = t at *
  simp only [encS, objS] at *
  go_enter Try.func30, Try.ntmps30
  go_wp2_with (go_at_call 18; refine (sc _ h1).mono ?_; rintro e w' ⟨rfl, rfl⟩)
  have B : Hid (Below w.heap.size w (w.alloc (.cells #[.int .i64 s.n, .int .i64 s.i] 30))) := b1
  obtain ⟨c0, c1⟩ := a1.cells
  clear a1 b1 h1 sc h hb hn
  generalize w.alloc (.cells #[.int .i64 s.n, .int .i64 s.i] 30) = w1 at *
  generalize hr0 : w.heap.size = r at *
  have HR : Hid (w.heap.size = r) := hr0
  clear hr0
  go_quiet ((go_at_call 45; refine Calls.quiet_of_same (so _)))
  go_wp2
  go_ret
  exact ⟨rfl, by rw [HR.out]; exact below_drewN B.out _⟩
theorem there_any (p : Nat) (F : Nat → Prop) (S : St) (s : Sl) (w : World) (h : Nds w p F S) :
    Calls Try.prog 30 #[.pointer (some ⟨p, 0, none⟩), encS s] w fun e w' => e = .returned (.bool (atS S s).isSome) ∧ Below w.heap.size w w' := by
  by_cases ho : 0 ≤ s.n ∧ s.n < S.length
  · have hj : s.n.toNat < S.length := by omega
    have hnn : nodeS S s.n = S.getD s.n.toNat [] := by unfold nodeS; rw [if_pos ho.1]
    rcases h.ok.bits (node_mem hj) with ⟨e1, e2⟩ | ⟨e1, e2, e3, e4⟩
    · have hb : sizeB S s.n = false := by unfold sizeB; rw [hnn, e1]; rfl
      refine (there_no p F S s w h hb).mono ?_
      rintro e w' ⟨rfl, b⟩
      refine ⟨ret_bool ?_, b⟩
      rw [at_iff, hnn, e1]
      simp
    · have hb : sizeB S s.n = true := by
        unfold sizeB
        rw [hnn]
        cases hS : S.getD s.n.toNat [] with
        | nil => exact absurd hS e1
        | cons => rfl
      by_cases hi : 0 ≤ s.i
      · refine (there_in p F S s (bitsL (S.getD s.n.toNat [])) w h hb (by unfold sizeN; rw [hnn, if_neg e1]) e3 hi).mono ?_
        rintro e w' ⟨rfl, b⟩
        refine ⟨ret_bool ?_, b⟩
        rw [at_iff, hnn, ← e4]
        simp only [decide_eq_true_eq]
        exact ⟨fun h => ⟨e1, hi, h⟩, fun h => h.2.2⟩
      · refine (there_low p F S s w h hb (by omega)).mono ?_
        rintro e w' ⟨rfl, b⟩
        refine ⟨ret_bool ?_, b⟩
        rw [at_iff]
        simp [hi]
  · have hnn := nodeS_out S s.n ho
    have hb : sizeB S s.n = false := by unfold sizeB; rw [hnn]; rfl
    refine (there_no p F S s w h hb).mono ?_
    rintro e w' ⟨rfl, b⟩
    refine ⟨ret_bool ?_, b⟩
    rw [at_iff, hnn]
    simp
theorem free_any (p : Nat) (F : Nat → Prop) (S : St) (s : Sl) (w : World) (h : Nds w p F S) (hs : s.Fits) :
    Calls Try.prog 32 #[.pointer (some ⟨p, 0, none⟩), encS s] w fun e w' => e = .returned (.bool (!(holdS S s).isSome)) ∧ Below w.heap.size w w' := by
  obtain ⟨m, v, h⟩ := h
  have b1 := below_new w (objS s)
  have h1 := h.below b1
  have a1 := AtS.new w s
  have hl1 : Sem.run Try.prog _ (w.alloc (objS s)).drew = _ := (h1.map.of_block (w' := (w.alloc (objS s)).drew) rfl).look hs true
  have hl2 : ∀ o, Sem.run Try.prog _ ((w.alloc (objS s)).alloc o).drew = _ := fun o => (h1.map.of_block (w' := ((w.alloc (objS s)).alloc o).drew) (blk_alloc_lt _ _ _ h1.map.lt)).look hs true
  obtain ⟨c0, c1⟩ := h1.cells
  obtain ⟨s0, s1⟩ := a1.cells
  have c1' := cell_al c1
  have s0' := cell_al s0
  have s1' := cell_al s1
  have B : Hid (Below w.heap.size w (w.alloc (objS s))) := b1
  have Z : Hid (w.heap.size ≤ (w.alloc (objS s)).heap.size) := (by simp : _ ≤ _)
  generalize (holdS S s).isSome = q at *
  generalize (holdS S s).getD no = c at *
  simp only [encS, encC, objS, if_true] at *
  go_enter Try.func32, Try.ntmps32
  go_wp2
  clear a1 b1 h1 h
  generalize w.alloc (.cells #[.int .i64 s.n, .int .i64 s.i] 30) = w1 at *
  generalize hr0 : w.heap.size = r at *
  have HR : Hid (w.heap.size = r) := hr0
  clear hr0
  go_region
  all_goals go_wp2
  all_goals go_ret
  all_goals exact ⟨rfl, by rw [HR.out]; exact below_drewN ((B.out).alloc Z.out _) 1⟩
end Go.Proofs.Ytkpoppgibempbaa
