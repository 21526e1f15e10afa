/-
  How a lock lies in memory: a struct of ten cells: how many cores, who entered last, and of each core who stands right ahead; no condition of ours.
-/
import Derived.Test.YtgokacdljnemgaaGRow
import Derived.Test.YtgokacdljnemgaaGInts
import Derived.Test.YtgokacdljnemgaaZMath
namespace Go.Proofs.Ytgokacdljnemgaa
open Go.RowKit Go.Deep Go.Shelf
theorem nodup_rev {L : St} (h : L.Nodup) : L.reverse.Nodup := List.pairwise_reverse.2 (h.imp fun k e => k e.symm)
/-- These cells are a lock of n cores with the line L. -/
structure LkIs (n : Nat) (L : St) (C : Array Value) (t : Int) (a : Int → Int) : Prop where
  size : C.size = 10
  c0 : C[0]? = some (.int .i64 (n : Int))
  c1 : C[1]? = some (.int .i64 t)
  ca : ∀ k : Nat, k < 8 → C[2 + k]? = some (.int .i64 (a (k : Int)))
  chain : Chain a t L.reverse
  good : Good n L
abbrev objK (C : Array Value) : Obj := .cells C 50 (0, 0)
def LkH (n p : Nat) (L : St) (w : World) : Prop := ∃ C t a, w.heap[p]? = some (objK C) ∧ LkIs n L C t a
def lkT (n p : Nat) (L : St) : Th where
  F := fun x => x = p
  H := LkH n p L
  lt := fun w h x hx => by
    obtain ⟨C, t, a, h1, _⟩ := h
    subst hx
    exact (Array.getElem?_eq_some_iff.1 h1).1
  keep := fun _ _ ⟨C, t, a, h1, h2⟩ k => ⟨C, t, a, (k p rfl).trans h1, h2⟩
section
variable {w0 w w' : World} {r p n : Nat} {L : St} {R : List Th} {C : Array Value} {t : Int} {a : Int → Int}
theorem cellK (h : w.heap[p]? = some (objK C)) {j : Nat} {v : Value} (hj : C[j]? = some v) : w.cell? ⟨p, j, none⟩ = some v := by
  simp [World.cell?, h, hj]
theorem frozenK (h : w.heap[p]? = some (objK C)) (j : Nat) : w.frozen? ⟨p, j, none⟩ = false := by
  simp [World.frozen?, h]
theorem Sep.lk (h : Sep w0 r w (lkT n p L :: R)) : ∃ C t a, w.heap[p]? = some (objK C) ∧ LkIs n L C t a := h.head
theorem Sep.goodK (h : Sep w0 r w (lkT n p L :: R)) : Good n L := by
  obtain ⟨C, t, a, _, h2⟩ := h.head
  exact h2.good
/-- A cell is written over. -/
theorem Sep.putK {L' : St} {j : Nat} {v : Value} {t' : Int} {a' : Int → Int} (h : Sep w0 r w (lkT n p L :: R)) (hC : w.heap[p]? = some (objK C)) (k : LkIs n L' (C.set! j v) t' a') : Sep w0 r (w.setCell ⟨p, j, none⟩ v) (lkT n p L' :: R) :=
  h.turn (t' := lkT n p L') ⟨_, t', a', setBlock hC v, k⟩ (Turn.setCell _ _ _ _ rfl) fun _ hx => .inl hx
theorem Sep.putK2 {L' : St} {j j' : Nat} {v v' : Value} {t' : Int} {a' : Int → Int} (h : Sep w0 r w (lkT n p L :: R)) (hC : w.heap[p]? = some (objK C)) (k : LkIs n L' ((C.set! j v).set! j' v') t' a') : Sep w0 r ((w.setCell ⟨p, j, none⟩ v).setCell ⟨p, j', none⟩ v') (lkT n p L' :: R) :=
  h.turn (t' := lkT n p L') ⟨_, t', a', setBlock (setBlock hC v) v', k⟩ ((Turn.setCell (lkT n p L).F w ⟨p, j, none⟩ v rfl).trans (Turn.setCell (lkT n p L).F _ ⟨p, j', none⟩ v' rfl) fun _ hx => .inl hx) fun _ hx => .inl hx
theorem set_same {C : Array Value} {j : Nat} {v : Value} (h : j < C.size) : (C.set! j v)[j]? = some v := by
  simp [h]
theorem set_other {C : Array Value} {i j : Nat} {v : Value} (h : i ≠ j) : (C.set! j v)[i]? = C[i]? := by
  rw [Array.set!_eq_setIfInBounds, Array.getElem?_setIfInBounds, if_neg (fun e => h e.symm)]
/-- Who enters. -/
theorem LkIs.enter (h : LkIs n L C t a) {c : Nat} (hc : (c : Int) < n) (hn : (c : Int) ∉ L) : LkIs n (L ++ [(c : Int)]) ((C.set! (2 + c) (.int .i64 t)).set! 1 (.int .i64 (c : Int))) (c : Int) (upd a (c : Int) t) := by
  have hs := h.size
  have htop := h.good.top
  refine ⟨by simpa using hs, ?_, ?_, fun k hk => ?_, ?_, ?_⟩
  · rw [set_other (by omega), set_other (by omega)]
    exact h.c0
  · exact set_same (by simp; omega)
  · rw [set_other (by omega)]
    by_cases e : k = c
    · subst e
      rw [set_same (by omega)]
      simp [upd]
    · rw [set_other (by omega), h.ca k hk]
      have : ¬ ((k : Int) = (c : Int)) := by omega
      simp [upd, this]
  · rw [List.reverse_append]
    refine ⟨rfl, ?_⟩
    have e : upd a (c : Int) t (c : Int) = t := if_pos rfl
    rw [e]
    exact h.chain.upd fun hm => hn (List.mem_reverse.1 hm)
  · exact h.good.enter (has_iff.2 ⟨by omega, hc⟩) (by
      cases e : inB L (c : Int)
      · rfl
      · exact absurd (in_iff.1 e) hn)
/-- The last one leaves. -/
theorem LkIs.alone {c : Int} (h : LkIs n [c] C t a) : LkIs n [] (C.set! 1 (.int .i64 (-1))) (-1) a := by
  have hs := h.size
  refine ⟨by simpa using hs, ?_, set_same (by omega), fun k hk => ?_, rfl, h.good.tail⟩
  · rw [set_other (by omega)]
    exact h.c0
  · rw [set_other (by omega)]
    exact h.ca k hk
/-- The first one leaves, the second one is y. -/
theorem LkIs.leave {c : Int} {y : Nat} {T : St} (h : LkIs n (c :: (y : Int) :: T) C t a) : LkIs n ((y : Int) :: T) (C.set! (2 + y) (.int .i64 (-1))) t (upd a (y : Int) (-1)) := by
  have hs := h.size
  have htop := h.good.top
  have hy := h.good.all (y : Int) (by simp)
  refine ⟨by simpa using hs, ?_, ?_, fun k hk => ?_, ?_, h.good.tail⟩
  · rw [set_other (by omega)]
    exact h.c0
  · rw [set_other (by omega)]
    exact h.c1
  · by_cases e : k = y
    · subst e
      rw [set_same (by omega)]
      simp [upd]
    · rw [set_other (by omega), h.ca k hk]
      have : ¬ ((k : Int) = (y : Int)) := by omega
      simp [upd, this]
  · have e1 : (c :: (y : Int) :: T).reverse = T.reverse ++ [(y : Int), c] := by simp
    have e2 : ((y : Int) :: T).reverse = T.reverse ++ [(y : Int)] := by simp
    have h1 := h.chain
    rw [e1] at h1
    rw [e2]
    refine h1.last ?_
    rw [← e1]
    exact nodup_rev h.good.one
end
end Go.Proofs.Ytgokacdljnemgaa
