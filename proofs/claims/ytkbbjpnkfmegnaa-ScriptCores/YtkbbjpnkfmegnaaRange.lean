/-
  A range over a function whose rounds all go on: the contract of an iterator that lays blocks of its own (another loop's record among them), and the law of the loop over it; no condition of ours.
-/
import Derived.Test.YtkbbjpnkfmegnaaRows
import Derived.RangeFuncNested
import Derived.RangeFuncBound
import Derived.RangeFuncCalls
import Derived.RangeFuncLeaves
import Derived.RangeFuncBox
import Derived.WalkKit
import Derived.OwnWalkIn
import Derived.TacticsInMore
import Derived.LoopNIn
import Derived.LoopIn
import Derived.Laws.AppendOwnNone
import Derived.Lib.SliceRun
import Derived.Deep.OwnRows
import Derived.Deep.QuietTactic
import Derived.BigQuiet
import Derived.Deep.RegionWith
import Derived.Maps.AppendAt
namespace Go.Proofs.Ytkbbjpnkfmegnaa
open Go.RowKit Go.Deep
/-- Of the blocks those from lo up to hi alone may have turned. -/
structure Turns (lo hi : Nat) (A B : World) : Prop where
  os : B.os = A.os
  tape : B.tape = A.tape
  output : B.output = A.output
  size : A.heap.size ≤ B.heap.size
  block : ∀ k, k < A.heap.size → (k < lo ∨ hi ≤ k) → B.heap[k]? = A.heap[k]?
theorem Turns.refl (lo hi : Nat) (A : World) : Turns lo hi A A := ⟨rfl, rfl, rfl, Nat.le_refl _, fun _ _ _ => rfl⟩
theorem Turns.trans {lo hi : Nat} {A B C : World} (h : Turns lo hi A B) (k : Turns lo hi B C) : Turns lo hi A C :=
  ⟨k.os.trans h.os, k.tape.trans h.tape, k.output.trans h.output, Nat.le_trans h.size k.size, fun i hi' hc => (k.block i (Nat.lt_of_lt_of_le hi' h.size) hc).trans (h.block i hi' hc)⟩
theorem Turns.wider {lo hi lo' hi' : Nat} {A B : World} (h : Turns lo hi A B) (h1 : lo' ≤ lo) (h2 : hi ≤ hi') : Turns lo' hi' A B :=
  ⟨h.os, h.tape, h.output, h.size, fun k hk hc => h.block k hk (by omega)⟩
theorem Turns.putObj {lo hi l : Nat} (A : World) (o : Obj) (h1 : lo ≤ l) (h2 : l < hi) : Turns lo hi A (A.putObj l o) :=
  ⟨rfl, rfl, rfl, by simp, fun k _ hc => World.putObj_heap_other (by omega)⟩
theorem Turns.alloc (lo hi : Nat) (A : World) (o : Obj) : Turns lo hi A (A.alloc o) :=
  ⟨rfl, rfl, rfl, by simp, fun k hk _ => Below.heap_alloc A o k hk⟩
/-- The blocks from lo up to hi are as they were; none is gone. -/
structure Still (lo hi : Nat) (A B : World) : Prop where
  size : A.heap.size ≤ B.heap.size
  block : ∀ r, lo ≤ r → r < hi → B.heap[r]? = A.heap[r]?
theorem Still.refl (lo hi : Nat) (A : World) : Still lo hi A A := ⟨Nat.le_refl _, fun _ _ _ => rfl⟩
theorem Still.trans {lo hi : Nat} {A B C : World} (h : Still lo hi A B) (k : Still lo hi B C) : Still lo hi A C := ⟨Nat.le_trans h.size k.size, fun r h1 h2 => (k.block r h1 h2).trans (h.block r h1 h2)⟩
theorem Still.heap {lo hi : Nat} {A B : World} (h : B.heap = A.heap) : Still lo hi A B := ⟨by rw [h]; exact Nat.le_refl _, fun r _ _ => by rw [h]⟩
theorem Still.of_below {lo hi : Nat} {A B : World} (h : Below A.heap.size A B) (hh : hi ≤ A.heap.size) : Still lo hi A B := ⟨h.size, fun r _ h2 => h.block r (by omega)⟩

/-- The function g, with what it has captured, calls yield at each of xs in order, and lays k blocks of its own ahead of that; whatever it needs of the world the caller keeps. -/
def Gives {α : Type} (P : Program) (g : Nat) (lb : Array Value) (xs : List α) (enc : α → Value) (k : Nat) (Need : World → Prop) : Prop :=
  ∀ (l : Nat) (J : List α → World → Prop) (W : World),
    (∀ pre A B, J pre A → Turns W.heap.size (W.heap.size + k) A B → J pre B) →
    (∀ pre A, J pre A → Need A) →
    (∀ pre x rest A, xs = pre ++ x :: rest → W.heap.size + k ≤ A.heap.size → J pre A → YieldAt Fence.wide 0 P l #[enc x] A fun e B => e = .returned (.bool true) ∧ J (pre ++ [x]) B ∧ Still W.heap.size (W.heap.size + k) A B) →
    J [] W →
    CallsIn Fence.wide 0 P g (#[.func (.yield l) #[] #[]] ++ lb) W fun e B => (∃ v, e = .returned v) ∧ J xs B

/-- How the body of a round ends: it goes on. -/
def goesOn (R : World → Prop) : Exit → Act → World → Prop
  | .normal, _, B => R B
  | _, _, _ => False

variable {P : Program}
theorem range_gives {α : Type} {g : Operand} {ps : Array Tmp} {assign body : Code} {Q : Exit → Act → World → Prop} {a : Act} {w : World}
    {gf : Nat} {lb : Array Value} (hg : a.eval g = .func (.func gf) #[] lb) (eg : ∀ args w, (callFunc gf args).run P w = .ok (.enter gf args) w)
    {xs : List α} {enc : α → Value} {k : Nat} {Need : World → Prop} (hseq : Gives P gf lb xs enc k Need) (hps : ps.size = 1)
    (I : List α → World → Prop) (hI : ∀ pre A B, I pre A → Turns w.heap.size (w.heap.size + (k + 2)) A B → I pre B) (hN : ∀ pre A, I pre A → Need A) (h0 : I [] w)
    (Ax : α → Act → World → Prop) (hAx : ∀ x a' A B, Ax x a' A → Turns w.heap.size (w.heap.size + (k + 2)) A B → Ax x a' B)
    (hassign : ∀ (l : Nat) (pre : List α) (x : α) (rest : List α) (A : World) (K : Act → World → Prop), xs = pre ++ x :: rest → w.heap.size + (k + 2) ≤ A.heap.size → I pre A →
      (∀ a' B, Still w.heap.size (w.heap.size + (k + 2)) A B → I pre B → Ax x a' B → K a' B) →
      assign.wpIn (Fence.wide.inRound l) 0 P (Exit.then K (fun _ _ _ => False)) { tmps := (ps.zip #[enc x]).foldl (fun t (p, v) => t.setIfInBounds p v) a.tmps, defers := [] } A)
    (hbody : ∀ (l : Nat) (pre : List α) (x : α) (rest : List α) (a' : Act) (A : World), xs = pre ++ x :: rest → w.heap.size + (k + 2) ≤ A.heap.size → I pre A → Ax x a' A →
      body.wpIn (Fence.wide.inRound l) 0 P (goesOn fun B => Still w.heap.size (w.heap.size + (k + 2)) A B ∧ I (pre ++ [x]) B) a' A)
    (hdone : ∀ (A : World), I xs A → A.heap[w.heap.size]? = some (.deferred (some [])) → Q .normal { a with defers := { target := .collected w.heap.size, args := #[] } :: a.defers } A) :
    (Code.rangeFunc g ps assign body).wpIn Fence.wide 0 P Q a w := by
  refine wpIn_rangeFunc ?_
  intro fn hfn
  show ∃ (l : Nat) (mark : List Deferred) (w₁ : World) (d : Deferred) (w₁' : World) (f : FuncId) (args : Array Value) (w₂ : World),
      (Instr.enterLoop fn a.tmps ps assign body none).run P w = .ok (l, mark) w₁ ∧ _
  obtain ⟨rec, hrec⟩ : ∃ rec : LoopState → Option Code → Loop, rec = fun st pe => { state := st, pending := pe, fn, tmps := a.tmps, params := ps, assign, body, defers := w.heap.size } := ⟨_, rfl⟩
  obtain ⟨W1, hW1⟩ : ∃ W1, (w.alloc (.deferred (some []))).alloc (.loop (rec .ready none)) = W1 := ⟨_, rfl⟩
  have hL1 : W1.heap[w.heap.size + 1]? = some (.loop (rec .ready none)) := by
    rw [← hW1]; have := World.alloc_heap_new (w.alloc (.deferred (some []))) (.loop (rec .ready none)); rwa [World.size_alloc] at this
  have hK1 : W1.heap[w.heap.size]? = some (.deferred (some [])) := by
    rw [← hW1]; exact (Below.heap_alloc _ _ _ (by simp)).trans (World.alloc_heap_new w _)
  have hI1 : I [] W1 := by rw [← hW1]; exact hI _ _ _ (hI _ _ _ h0 (Turns.alloc _ _ _ _)) (Turns.alloc _ _ _ _)
  have hs1 : W1.heap.size = w.heap.size + 2 := by rw [← hW1]; simp
  refine ⟨w.heap.size + 1, [{ target := .collected w.heap.size, args := #[] }], W1, { target := .fn (.func gf) lb, args := #[.func (.yield (w.heap.size + 1)) #[] #[]] }, W1, gf,
    #[.func (.yield (w.heap.size + 1)) #[] #[]] ++ lb, W1, ?_, ?_, ?_, ?_, (fun h => by cases h), ?_⟩
  · rw [← hW1, hrec]; exact run_enterLoop_outer _ _ _ _ _
  · simp only [resolve, hg]
    simp [go_sem]
  · intro f' _; trivial
  · simp [invoke, go_sem, eg]
  · refine (hseq (w.heap.size + 1)
      (fun pre W => I pre W ∧ W.heap[w.heap.size + 1]? = some (.loop (rec .ready none)) ∧ W.heap[w.heap.size]? = some (.deferred (some [])))
      W1 ?_ (fun pre A h => hN pre A h.1) ?_ ⟨hI1, hL1, hK1⟩).mono ?_
    · rintro pre A B ⟨hi, hl, hk⟩ ht
      have hlt : w.heap.size + 1 < A.heap.size := (Array.getElem?_eq_some_iff.1 hl).1
      rw [hs1] at ht
      exact ⟨hI _ _ _ hi (ht.wider (by omega) (by omega)), (ht.block _ hlt (by omega)).trans hl, (ht.block _ (by omega) (by omega)).trans hk⟩
    · rintro pre x rest W hx hlen ⟨hi, hl, hk⟩
      rw [hs1] at hlen ⊢
      have hlt : w.heap.size + 1 < W.heap.size := (Array.getElem?_eq_some_iff.1 hl).1
      have hy := run_yield (P := P) (args := #[enc x]) hl (by rw [hrec]; simp [hps])
      rw [hrec] at hy
      refine ⟨fn, _, assign, body, hy, roundIn_of_wpIn hfn (hassign _ pre x rest W _ hx (by omega) hi ?_)⟩
      clear hy
      intro a' Wa hst hia hax
      have hsz := hst.size
      have hl2 : Wa.heap[w.heap.size + 1]? = some (.loop (rec .ready none)) := (hst.block _ (by omega) (by omega)).trans hl
      have hk2 : Wa.heap[w.heap.size]? = some (.deferred (some [])) := (hst.block _ (by omega) (by omega)).trans hk
      have hlt2 : w.heap.size + 1 < Wa.heap.size := (Array.getElem?_eq_some_iff.1 hl2).1
      refine ⟨_, run_beginRound hl2 (by rw [hrec]), ?_⟩
      have tb := Turns.putObj (lo := w.heap.size) (hi := w.heap.size + (k + 2)) (l := w.heap.size + 1) Wa (.loop { rec .ready none with state := .busy }) (by omega) (by omega)
      have hl3 : (Wa.putObj (w.heap.size + 1) (.loop { rec .ready none with state := .busy })).heap[w.heap.size + 1]? = some (.loop { rec .ready none with state := .busy }) := World.putObj_heap_same hlt2
      have hk3 : (Wa.putObj (w.heap.size + 1) (.loop { rec .ready none with state := .busy })).heap[w.heap.size]? = some (.deferred (some [])) := (World.putObj_heap_other (by omega)).trans hk2
      refine wpIn_mono (hbody _ pre x rest a' _ hx (by simp; omega) (hI _ _ _ hia tb) (hAx _ _ _ _ hax tb)) ?_
      rintro e a3 W3 hp
      cases e with
      | normal =>
        obtain ⟨hs3, hi3⟩ := hp
        have hl4 := (hs3.block _ (by omega) (by omega)).trans hl3
        have hk4 := (hs3.block _ (by omega) (by omega)).trans hk3
        have he := run_endRound (P := P) none hl4
        refine ⟨_, _, he, rfl, ⟨?_, ?_, ?_⟩, ?_⟩
        · exact hI _ _ _ hi3 (Turns.putObj _ _ (by omega) (by omega))
        · rw [World.putObj_heap_same (Array.getElem?_eq_some_iff.1 hl4).1, hrec]; rfl
        · exact (World.putObj_heap_other (by omega)).trans hk4
        · refine ⟨?_, ?_⟩
          · have := hs3.size; simp at this ⊢; omega
          · intro r hr1 hr2
            rw [World.putObj_heap_other (by omega), hs3.block r (by omega) (by omega), World.putObj_heap_other (by omega), hst.block r (by omega) (by omega)]
      | ret => exact hp.elim
      | exit id => exact hp.elim
      | goto t => exact hp.elim
      | panic ch => exact hp.elim
      | outgrown => exact hp.elim
    · rintro e W2 ⟨⟨v, rfl⟩, hi, hl, hk⟩
      refine ⟨none, _, by have := run_endLoop (P := P) hl (by rw [hrec]; simp); rw [hrec] at this; exact this, hdone _ (hI _ _ _ hi (Turns.putObj _ _ (by omega) (by omega))) ((World.putObj_heap_other (by omega)).trans hk)⟩
end Go.Proofs.Ytkbbjpnkfmegnaa
