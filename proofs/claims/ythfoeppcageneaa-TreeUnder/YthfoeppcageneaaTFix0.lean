/-
  What fixed of the statements holds while it calls package tree: a tree and four slots; each call's contract in these words; no condition of ours.
-/
import Derived.Test.YthfoeppcageneaaTSep
namespace Go.Proofs.Ythfoeppcageneaa
set_option linter.unusedSectionVars false
variable [DecidableEq Sl]
open Go.RowKit Go.Deep Go.Shelf

def fA : Sl := ⟨0, 1⟩
def fB : Sl := ⟨0, 2⟩
def fC : Sl := ⟨0, 3⟩
def fD : Sl := ⟨0, 4⟩
/-- A tree S at p, and four slots in blocks of their own. -/
def Fx (w : World) (r p q q1 q2 q3 : Nat) (R : List Th) (S : St) (W : World) : Prop := ∃ v, Sep w r W (trT p v S :: blk q (objS fA) :: blk q1 (objS fB) :: blk q2 (objS fC) :: blk q3 (objS fD) :: R)
section
variable {w : World} {r p q q1 q2 q3 : Nat} {R : List Th} {S : St} {W W' : World}
theorem Fx.below (h : Fx w r p q q1 q2 q3 R S W) (b : Below W.heap.size W W') : Fx w r p q q1 q2 q3 R S W' := by
  obtain ⟨v, h⟩ := h
  exact ⟨v, h.below b⟩
theorem Fx.low (h : Fx w r p q q1 q2 q3 R S W) : Below r w W := by
  obtain ⟨v, h⟩ := h
  exact h.low
theorem Fx.slot {x : Nat} {s : Sl} (h : Fx w r p q q1 q2 q3 R S W) (hm : blk x (objS s) ∈ blk q (objS fA) :: blk q1 (objS fB) :: blk q2 (objS fC) :: blk q3 (objS fD) :: R) : W.cell? ⟨x, 0, none⟩ = some (.int .i64 s.n) ∧ W.cell? ⟨x, 1, none⟩ = some (.int .i64 s.i) := by
  obtain ⟨v, h⟩ := h
  exact AtS.cells (h.each _ (List.mem_cons_of_mem _ hm)).1
theorem Fx.cells (h : Fx w r p q q1 q2 q3 R S W) : W.cell? ⟨q, 0, none⟩ = some (.int .i64 0) ∧ W.cell? ⟨q, 1, none⟩ = some (.int .i64 1) ∧ W.cell? ⟨q1, 0, none⟩ = some (.int .i64 0) ∧ W.cell? ⟨q1, 1, none⟩ = some (.int .i64 2) ∧ W.cell? ⟨q2, 0, none⟩ = some (.int .i64 0) ∧ W.cell? ⟨q2, 1, none⟩ = some (.int .i64 3) ∧ W.cell? ⟨q3, 0, none⟩ = some (.int .i64 0) ∧ W.cell? ⟨q3, 1, none⟩ = some (.int .i64 4) :=
  ⟨(h.slot (s := fA) (by simp)).1, (h.slot (s := fA) (by simp)).2, (h.slot (s := fB) (by simp)).1, (h.slot (s := fB) (by simp)).2, (h.slot (s := fC) (by simp)).1, (h.slot (s := fC) (by simp)).2, (h.slot (s := fD) (by simp)).1, (h.slot (s := fD) (by simp)).2⟩
theorem fx_root (s : Sl) (E : Int) (T : St) (h : Fx w r p q q1 q2 q3 R S W) (hE : rootE S s = E) (hT : rootS S s = T) (hl : S.length ≤ 1000) :
    Calls Try.prog 12 #[.pointer (some ⟨p, 0, none⟩), .agg #[.int .i64 s.n, .int .i64 s.i]] W fun e W' => e = .returned (.int .i64 E) ∧ Fx w r p q q1 q2 q3 R T W' := by
  subst hE hT
  obtain ⟨v, h⟩ := h
  exact (root_sep s h hl).mono fun _ _ ⟨he, g⟩ => ⟨he, g⟩
theorem fx_add (a s : Sl) (E : Int) (T : St) (h : Fx w r p q q1 q2 q3 R S W) (hE : addE S a s = E) (hT : addS S a s = T) (hl : S.length ≤ 1000) :
    Calls Try.prog 24 #[.pointer (some ⟨p, 0, none⟩), .agg #[.int .i64 a.n, .int .i64 a.i], .agg #[.int .i64 s.n, .int .i64 s.i]] W fun e W' => e = .returned (.int .i64 E) ∧ Fx w r p q q1 q2 q3 R T W' := by
  subst hE hT
  obtain ⟨v, h⟩ := h
  exact (add_sep a s h hl).mono fun _ _ ⟨he, g⟩ => ⟨he, g⟩
theorem fx_take (s : Sl) (E : Int) (T : St) (h : Fx w r p q q1 q2 q3 R S W) (hE : takeE S s = E) (hT : takeS S s = T) (hl : S.length ≤ 1000) :
    Calls Try.prog 11 #[.pointer (some ⟨p, 0, none⟩), .agg #[.int .i64 s.n, .int .i64 s.i]] W fun e W' => e = .returned (.int .i64 E) ∧ Fx w r p q q1 q2 q3 R T W' := by
  subst hE hT
  obtain ⟨v, h⟩ := h
  exact (take_sep s h hl).mono fun _ _ ⟨he, g⟩ => ⟨he, g⟩
theorem fx_move (a s : Sl) (E : Int) (T : St) (h : Fx w r p q q1 q2 q3 R S W) (hE : moveE S a s = E) (hT : moveS S a s = T) (hl : S.length ≤ 1000) :
    Calls Try.prog 23 #[.pointer (some ⟨p, 0, none⟩), .agg #[.int .i64 a.n, .int .i64 a.i], .agg #[.int .i64 s.n, .int .i64 s.i]] W fun e W' => e = .returned (.int .i64 E) ∧ Fx w r p q q1 q2 q3 R T W' := by
  subst hE hT
  obtain ⟨v, h⟩ := h
  exact (move_sep a s h hl).mono fun _ _ ⟨he, g⟩ => ⟨he, g⟩
theorem fx_parent (s t : Sl) (b : Bool) (h : Fx w r p q q1 q2 q3 R S W) (hE : parS S s = t) (hT : parB S s = b) (hl : S.length ≤ 1000) :
    Calls Try.prog 16 #[.pointer (some ⟨p, 0, none⟩), .agg #[.int .i64 s.n, .int .i64 s.i]] W fun e W' => e = .returned (.tuple #[.agg #[.int .i64 t.n, .int .i64 t.i], .bool b]) ∧ Below W.heap.size W W' := by
  subst hE hT
  obtain ⟨v, h⟩ := h
  exact parent_any p v S s W h.head hl
theorem fx_under (s : Sl) (A : List Sl) (h : Fx w r p q q1 q2 q3 R S W) (hA : underS S s = A) (hl : S.length ≤ 1000) :
    Calls Try.prog 15 #[.pointer (some ⟨p, 0, none⟩), .agg #[.int .i64 s.n, .int .i64 s.i]] W fun e W' => ∃ ao cap, e = .returned (.slice ao A.length cap) ∧ SeeS W' ao A ∧ Below W.heap.size W W' := by
  subst hA
  obtain ⟨v, h⟩ := h
  refine (underS_any p v S s W h.head hl).mono fun _ _ ⟨u, he, o, b⟩ => ?_
  obtain ⟨ao, cap, rfl⟩ := o.slice
  exact ⟨ao, cap, he, o.row.see, b⟩
theorem fx_all (A : List Sl) (h : Fx w r p q q1 q2 q3 R S W) (hA : allS S = A) (hl : S.length ≤ 1000) :
    Calls Try.prog 14 #[.pointer (some ⟨p, 0, none⟩)] W fun e W' => ∃ ao cap, e = .returned (.slice ao A.length cap) ∧ SeeS W' ao A ∧ Below W.heap.size W W' := by
  subst hA
  obtain ⟨v, h⟩ := h
  refine (all_any p v S W h.head hl).mono fun _ _ ⟨u, he, o, b⟩ => ?_
  obtain ⟨ao, cap, rfl⟩ := o.slice
  exact ⟨ao, cap, he, o.row.see, b⟩
theorem Fx.box (h : Fx w r p q q1 q2 q3 R S W) (o : Obj) : Fx w r p q q1 q2 q3 (blk W.heap.size o :: R) S (W.alloc o) := by
  obtain ⟨v, h⟩ := h
  refine ⟨v, (h.box o).perm ?_⟩
  exact List.perm_middle (l₁ := [trT p v S, blk q (objS fA), blk q1 (objS fB), blk q2 (objS fC), blk q3 (objS fD)]) (l₂ := R) (a := blk W.heap.size o) |>.symm
/-- A list that is written out in the call. -/
theorem see_lit {x : Nat} {A : List Sl} (h : W.heap[x]? = some (.cells (flatK cS A).toArray 31)) : SeeS W (some ⟨x, 0, none⟩) A := fun j s hj => by
  have e := fun i hi => flatK_get cS_len hj (j := i) hi
  have e0 := e 0 (by omega)
  have e1 := e 1 (by omega)
  refine ⟨x, rfl, (Array.getElem?_eq_some_iff.1 h).1, ?_, ?_⟩
  · simp only [World.cell?, h, List.getElem?_toArray]
    exact e0
  · simp only [World.cell?, h, List.getElem?_toArray]
    exact e1
end
def S1 : St := [⟨fA, 0⟩]
def S2 : St := [⟨fA, 0⟩, ⟨fB, 1⟩]
def S3 : St := [⟨fA, 0⟩, ⟨fC, 1⟩, ⟨fB, 1⟩]
def S4 : St := [⟨fA, 0⟩, ⟨fC, 1⟩, ⟨fB, 1⟩, ⟨fD, 2⟩]
def S5 : St := [⟨fA, 0⟩, ⟨fC, 1⟩, ⟨fD, 1⟩]
def S6 : St := [⟨fA, 0⟩, ⟨fB, 1⟩, ⟨fD, 1⟩]
set_option linter.unusedSimpArgs false in
theorem fx1 : rootE [] fA = 0 ∧ rootS [] fA = S1 := by simp [rootE, rootS, addE, addS, takeE, takeS, moveE, moveS, allS, underS, parS, parB, parO, parN, lastD, hasB, pl, isP, isE, atE, dep, slt, underN, putN, less, lessN, takeN, no, fA, fB, fC, fD, S1, S2, S3, S4, S5, S6, List.findIdx_cons, List.eraseIdx]
set_option linter.unusedSimpArgs false in
theorem fx2 : addE S1 fA fB = 0 ∧ addS S1 fA fB = S2 := by simp [rootE, rootS, addE, addS, takeE, takeS, moveE, moveS, allS, underS, parS, parB, parO, parN, lastD, hasB, pl, isP, isE, atE, dep, slt, underN, putN, less, lessN, takeN, no, fA, fB, fC, fD, S1, S2, S3, S4, S5, S6, List.findIdx_cons, List.eraseIdx]
set_option linter.unusedSimpArgs false in
theorem fx3 : addE S2 fA fC = 0 ∧ addS S2 fA fC = S3 := by simp [rootE, rootS, addE, addS, takeE, takeS, moveE, moveS, allS, underS, parS, parB, parO, parN, lastD, hasB, pl, isP, isE, atE, dep, slt, underN, putN, less, lessN, takeN, no, fA, fB, fC, fD, S1, S2, S3, S4, S5, S6, List.findIdx_cons, List.eraseIdx]
set_option linter.unusedSimpArgs false in
theorem fx4 : addE S3 fB fD = 0 ∧ addS S3 fB fD = S4 := by simp [rootE, rootS, addE, addS, takeE, takeS, moveE, moveS, allS, underS, parS, parB, parO, parN, lastD, hasB, pl, isP, isE, atE, dep, slt, underN, putN, less, lessN, takeN, no, fA, fB, fC, fD, S1, S2, S3, S4, S5, S6, List.findIdx_cons, List.eraseIdx]
set_option linter.unusedSimpArgs false in
theorem fx5 : addE S4 ⟨0, 9⟩ fD = 71 ∧ addS S4 ⟨0, 9⟩ fD = S4 := by simp [rootE, rootS, addE, addS, takeE, takeS, moveE, moveS, allS, underS, parS, parB, parO, parN, lastD, hasB, pl, isP, isE, atE, dep, slt, underN, putN, less, lessN, takeN, no, fA, fB, fC, fD, S1, S2, S3, S4, S5, S6, List.findIdx_cons, List.eraseIdx]
set_option linter.unusedSimpArgs false in
theorem fx6 : addE S4 fA fD = 70 ∧ addS S4 fA fD = S4 := by simp [rootE, rootS, addE, addS, takeE, takeS, moveE, moveS, allS, underS, parS, parB, parO, parN, lastD, hasB, pl, isP, isE, atE, dep, slt, underN, putN, less, lessN, takeN, no, fA, fB, fC, fD, S1, S2, S3, S4, S5, S6, List.findIdx_cons, List.eraseIdx]
set_option linter.unusedSimpArgs false in
theorem fx7 : allS S4 = [fA, fC, fB, fD] ∧ underS S4 fB = [fD] := by simp [rootE, rootS, addE, addS, takeE, takeS, moveE, moveS, allS, underS, parS, parB, parO, parN, lastD, hasB, pl, isP, isE, atE, dep, slt, underN, putN, less, lessN, takeN, no, fA, fB, fC, fD, S1, S2, S3, S4, S5, S6, List.findIdx_cons, List.eraseIdx]
set_option linter.unusedSimpArgs false in
theorem fx8 : takeE S4 fB = 0 ∧ takeS S4 fB = S5 := by simp [rootE, rootS, addE, addS, takeE, takeS, moveE, moveS, allS, underS, parS, parB, parO, parN, lastD, hasB, pl, isP, isE, atE, dep, slt, underN, putN, less, lessN, takeN, no, fA, fB, fC, fD, S1, S2, S3, S4, S5, S6, List.findIdx_cons, List.eraseIdx]
set_option linter.unusedSimpArgs false in
theorem fx9 : parS S5 fD = fA ∧ parB S5 fD = true ∧ parS S5 fA = no ∧ parB S5 fA = false := by simp [rootE, rootS, addE, addS, takeE, takeS, moveE, moveS, allS, underS, parS, parB, parO, parN, lastD, hasB, pl, isP, isE, atE, dep, slt, underN, putN, less, lessN, takeN, no, fA, fB, fC, fD, S1, S2, S3, S4, S5, S6, List.findIdx_cons, List.eraseIdx]
set_option linter.unusedSimpArgs false in
theorem fx10 : underS S5 fA = [fC, fD] := by simp [rootE, rootS, addE, addS, takeE, takeS, moveE, moveS, allS, underS, parS, parB, parO, parN, lastD, hasB, pl, isP, isE, atE, dep, slt, underN, putN, less, lessN, takeN, no, fA, fB, fC, fD, S1, S2, S3, S4, S5, S6, List.findIdx_cons, List.eraseIdx]
set_option linter.unusedSimpArgs false in
theorem fx11 : takeE S5 fB = 71 ∧ takeS S5 fB = S5 := by simp [rootE, rootS, addE, addS, takeE, takeS, moveE, moveS, allS, underS, parS, parB, parO, parN, lastD, hasB, pl, isP, isE, atE, dep, slt, underN, putN, less, lessN, takeN, no, fA, fB, fC, fD, S1, S2, S3, S4, S5, S6, List.findIdx_cons, List.eraseIdx]
set_option linter.unusedSimpArgs false in
theorem fx12 : moveE S5 fC fD = 70 ∧ moveS S5 fC fD = S5 := by simp [rootE, rootS, addE, addS, takeE, takeS, moveE, moveS, allS, underS, parS, parB, parO, parN, lastD, hasB, pl, isP, isE, atE, dep, slt, underN, putN, less, lessN, takeN, no, fA, fB, fC, fD, S1, S2, S3, S4, S5, S6, List.findIdx_cons, List.eraseIdx]
set_option linter.unusedSimpArgs false in
theorem fx13 : moveE S5 fC fB = 0 ∧ moveS S5 fC fB = S6 := by simp [rootE, rootS, addE, addS, takeE, takeS, moveE, moveS, allS, underS, parS, parB, parO, parN, lastD, hasB, pl, isP, isE, atE, dep, slt, underN, putN, less, lessN, takeN, no, fA, fB, fC, fD, S1, S2, S3, S4, S5, S6, List.findIdx_cons, List.eraseIdx]
section
variable {w : World} {r p q q1 q2 q3 : Nat} {R : List Th} {W : World}
theorem fc1 (h : Fx w r p q q1 q2 q3 R [] W) : Calls Try.prog 12 #[.pointer (some ⟨p, 0, none⟩), .agg #[.int .i64 0, .int .i64 1]] W fun e W' => e = .returned (.int .i64 0) ∧ Fx w r p q q1 q2 q3 R S1 W' := fx_root fA 0 S1 h fx1.1 fx1.2 (by decide)
theorem fc2 (h : Fx w r p q q1 q2 q3 R S1 W) : Calls Try.prog 24 #[.pointer (some ⟨p, 0, none⟩), .agg #[.int .i64 0, .int .i64 1], .agg #[.int .i64 0, .int .i64 2]] W fun e W' => e = .returned (.int .i64 0) ∧ Fx w r p q q1 q2 q3 R S2 W' := fx_add fA fB 0 S2 h fx2.1 fx2.2 (by decide)
theorem fc3 (h : Fx w r p q q1 q2 q3 R S2 W) : Calls Try.prog 24 #[.pointer (some ⟨p, 0, none⟩), .agg #[.int .i64 0, .int .i64 1], .agg #[.int .i64 0, .int .i64 3]] W fun e W' => e = .returned (.int .i64 0) ∧ Fx w r p q q1 q2 q3 R S3 W' := fx_add fA fC 0 S3 h fx3.1 fx3.2 (by decide)
theorem fc4 (h : Fx w r p q q1 q2 q3 R S3 W) : Calls Try.prog 24 #[.pointer (some ⟨p, 0, none⟩), .agg #[.int .i64 0, .int .i64 2], .agg #[.int .i64 0, .int .i64 4]] W fun e W' => e = .returned (.int .i64 0) ∧ Fx w r p q q1 q2 q3 R S4 W' := fx_add fB fD 0 S4 h fx4.1 fx4.2 (by decide)
theorem fc5 (h : Fx w r p q q1 q2 q3 R S4 W) : Calls Try.prog 24 #[.pointer (some ⟨p, 0, none⟩), .agg #[.int .i64 0, .int .i64 9], .agg #[.int .i64 0, .int .i64 4]] W fun e W' => e = .returned (.int .i64 71) ∧ Fx w r p q q1 q2 q3 R S4 W' := fx_add ⟨0, 9⟩ fD 71 S4 h fx5.1 fx5.2 (by decide)
theorem fc6 (h : Fx w r p q q1 q2 q3 R S4 W) : Calls Try.prog 24 #[.pointer (some ⟨p, 0, none⟩), .agg #[.int .i64 0, .int .i64 1], .agg #[.int .i64 0, .int .i64 4]] W fun e W' => e = .returned (.int .i64 70) ∧ Fx w r p q q1 q2 q3 R S4 W' := fx_add fA fD 70 S4 h fx6.1 fx6.2 (by decide)
theorem fc8 (h : Fx w r p q q1 q2 q3 R S4 W) : Calls Try.prog 11 #[.pointer (some ⟨p, 0, none⟩), .agg #[.int .i64 0, .int .i64 2]] W fun e W' => e = .returned (.int .i64 0) ∧ Fx w r p q q1 q2 q3 R S5 W' := fx_take fB 0 S5 h fx8.1 fx8.2 (by decide)
theorem fc11 (h : Fx w r p q q1 q2 q3 R S5 W) : Calls Try.prog 11 #[.pointer (some ⟨p, 0, none⟩), .agg #[.int .i64 0, .int .i64 2]] W fun e W' => e = .returned (.int .i64 71) ∧ Fx w r p q q1 q2 q3 R S5 W' := fx_take fB 71 S5 h fx11.1 fx11.2 (by decide)
theorem fc12 (h : Fx w r p q q1 q2 q3 R S5 W) : Calls Try.prog 23 #[.pointer (some ⟨p, 0, none⟩), .agg #[.int .i64 0, .int .i64 3], .agg #[.int .i64 0, .int .i64 4]] W fun e W' => e = .returned (.int .i64 70) ∧ Fx w r p q q1 q2 q3 R S5 W' := fx_move fC fD 70 S5 h fx12.1 fx12.2 (by decide)
theorem fc13 (h : Fx w r p q q1 q2 q3 R S5 W) : Calls Try.prog 23 #[.pointer (some ⟨p, 0, none⟩), .agg #[.int .i64 0, .int .i64 3], .agg #[.int .i64 0, .int .i64 2]] W fun e W' => e = .returned (.int .i64 0) ∧ Fx w r p q q1 q2 q3 R S6 W' := fx_move fC fB 0 S6 h fx13.1 fx13.2 (by decide)
theorem fc7a (h : Fx w r p q q1 q2 q3 R S4 W) : Calls Try.prog 14 #[.pointer (some ⟨p, 0, none⟩)] W fun e W' => ∃ ao cap, e = .returned (.slice ao 4 cap) ∧ SeeS W' ao [fA, fC, fB, fD] ∧ Below W.heap.size W W' := fx_all _ h fx7.1 (by decide)
theorem fc7b (h : Fx w r p q q1 q2 q3 R S4 W) : Calls Try.prog 15 #[.pointer (some ⟨p, 0, none⟩), .agg #[.int .i64 0, .int .i64 2]] W fun e W' => ∃ ao cap, e = .returned (.slice ao 1 cap) ∧ SeeS W' ao [fD] ∧ Below W.heap.size W W' := fx_under fB _ h fx7.2 (by decide)
theorem fc10 (h : Fx w r p q q1 q2 q3 R S5 W) : Calls Try.prog 15 #[.pointer (some ⟨p, 0, none⟩), .agg #[.int .i64 0, .int .i64 1]] W fun e W' => ∃ ao cap, e = .returned (.slice ao 2 cap) ∧ SeeS W' ao [fC, fD] ∧ Below W.heap.size W W' := fx_under fA _ h fx10 (by decide)
theorem fc9a (h : Fx w r p q q1 q2 q3 R S5 W) : Calls Try.prog 16 #[.pointer (some ⟨p, 0, none⟩), .agg #[.int .i64 0, .int .i64 4]] W fun e W' => e = .returned (.tuple #[.agg #[.int .i64 0, .int .i64 1], .bool true]) ∧ Below W.heap.size W W' := fx_parent fD fA true h fx9.1 fx9.2.1 (by decide)
theorem fc9b (h : Fx w r p q q1 q2 q3 R S5 W) : Calls Try.prog 16 #[.pointer (some ⟨p, 0, none⟩), .agg #[.int .i64 0, .int .i64 1]] W fun e W' => e = .returned (.tuple #[.agg #[.int .i64 0, .int .i64 0], .bool false]) ∧ Below W.heap.size W W' := fx_parent fA no false h fx9.2.2.1 fx9.2.2.2 (by decide)
end

/-! ### Lists that are written out -/
theorem see4 {W : World} {x : Nat} (h : W.heap[x]? = some (.cells #[.int .i64 0, .int .i64 1, .int .i64 0, .int .i64 3, .int .i64 0, .int .i64 2, .int .i64 0, .int .i64 4] 31)) : SeeS W (some ⟨x, 0, none⟩) [fA, fC, fB, fD] := see_lit h
theorem see1 {W : World} {x : Nat} (h : W.heap[x]? = some (.cells #[.int .i64 0, .int .i64 4] 31)) : SeeS W (some ⟨x, 0, none⟩) [fD] := see_lit h
theorem see2 {W : World} {x : Nat} (h : W.heap[x]? = some (.cells #[.int .i64 0, .int .i64 3, .int .i64 0, .int .i64 4] 31)) : SeeS W (some ⟨x, 0, none⟩) [fC, fD] := see_lit h
theorem same_yes (n : Nat) (A : List Sl) (ao bo : Option Addr) (cap cap' : Nat) (W : World) (h : SeeS W ao A) (k : SeeS W bo A) (hn : A.length = n) (hl : n ≤ 1000) :
    Calls Try.prog 18 #[.slice ao n cap, .slice bo n cap'] W fun e w' => e = .returned (.bool true) ∧ Below W.heap.size W w' := by
  subst hn
  refine (same_any ao bo cap cap' A A W h k hl).mono fun e w' ⟨he, b⟩ => ⟨?_, b⟩
  rw [he]
  simp [sameB]
theorem same1 {ao bo : Option Addr} {cap cap' : Nat} {W : World} (h : SeeS W ao [fD]) (k : SeeS W bo [fD]) : Calls Try.prog 18 #[.slice ao 1 cap, .slice bo 1 cap'] W fun e w' => e = .returned (.bool true) ∧ Below W.heap.size W w' := same_yes 1 [fD] ao bo cap cap' W h k rfl (by decide)
theorem same2 {ao bo : Option Addr} {cap cap' : Nat} {W : World} (h : SeeS W ao [fC, fD]) (k : SeeS W bo [fC, fD]) : Calls Try.prog 18 #[.slice ao 2 cap, .slice bo 2 cap'] W fun e w' => e = .returned (.bool true) ∧ Below W.heap.size W w' := same_yes 2 [fC, fD] ao bo cap cap' W h k rfl (by decide)
theorem same4 {ao bo : Option Addr} {cap cap' : Nat} {W : World} (h : SeeS W ao [fA, fC, fB, fD]) (k : SeeS W bo [fA, fC, fB, fD]) : Calls Try.prog 18 #[.slice ao 4 cap, .slice bo 4 cap'] W fun e w' => e = .returned (.bool true) ∧ Below W.heap.size W w' := same_yes 4 [fA, fC, fB, fD] ao bo cap cap' W h k rfl (by decide)
theorem s1a {ao : Option Addr} {cap : Nat} {W : World} (h : SeeS W ao [fD]) : Calls Try.prog 18 #[.slice ao 1 cap, .slice (some ⟨W.heap.size, 0, none⟩) 1 1] (W.alloc (.cells #[.int .i64 0, .int .i64 4] 31)) fun e w' => e = .returned (.bool true) ∧ Below (W.alloc (.cells #[.int .i64 0, .int .i64 4] 31)).heap.size (W.alloc (.cells #[.int .i64 0, .int .i64 4] 31)) w' := same1 (h.below (below_new _ _)) (see1 (blk_alloc_new _ _))
theorem s1b {ao : Option Addr} {cap : Nat} {W W' : World} (b : Below (W.alloc (.cells #[.int .i64 0, .int .i64 4] 31)).drew.heap.size (W.alloc (.cells #[.int .i64 0, .int .i64 4] 31)).drew W') (h : SeeS W' ao [fD]) : Calls Try.prog 18 #[.slice ao 1 cap, .slice (some ⟨W.heap.size, 0, none⟩) 1 1] W' fun e w' => e = .returned (.bool true) ∧ Below W'.heap.size W' w' := same1 h ((show SeeS (W.alloc (.cells #[.int .i64 0, .int .i64 4] 31)).drew _ _ from see1 (blk_alloc_new W _)).below b)
theorem s1c {ao : Option Addr} {cap : Nat} {W W' : World} (b : Below (W.alloc (.cells #[.int .i64 0, .int .i64 4] 31)).heap.size (W.alloc (.cells #[.int .i64 0, .int .i64 4] 31)) W') (h : SeeS W' ao [fD]) : Calls Try.prog 18 #[.slice ao 1 cap, .slice (some ⟨W.heap.size, 0, none⟩) 1 1] W' fun e w' => e = .returned (.bool true) ∧ Below W'.heap.size W' w' := same1 h ((see1 (blk_alloc_new W _)).below b)
theorem s2a {ao : Option Addr} {cap : Nat} {W : World} (h : SeeS W ao [fC, fD]) : Calls Try.prog 18 #[.slice ao 2 cap, .slice (some ⟨W.heap.size, 0, none⟩) 2 2] (W.alloc (.cells #[.int .i64 0, .int .i64 3, .int .i64 0, .int .i64 4] 31)) fun e w' => e = .returned (.bool true) ∧ Below (W.alloc (.cells #[.int .i64 0, .int .i64 3, .int .i64 0, .int .i64 4] 31)).heap.size (W.alloc (.cells #[.int .i64 0, .int .i64 3, .int .i64 0, .int .i64 4] 31)) w' := same2 (h.below (below_new _ _)) (see2 (blk_alloc_new _ _))
theorem s2b {ao : Option Addr} {cap : Nat} {W W' : World} (b : Below (W.alloc (.cells #[.int .i64 0, .int .i64 3, .int .i64 0, .int .i64 4] 31)).drew.heap.size (W.alloc (.cells #[.int .i64 0, .int .i64 3, .int .i64 0, .int .i64 4] 31)).drew W') (h : SeeS W' ao [fC, fD]) : Calls Try.prog 18 #[.slice ao 2 cap, .slice (some ⟨W.heap.size, 0, none⟩) 2 2] W' fun e w' => e = .returned (.bool true) ∧ Below W'.heap.size W' w' := same2 h ((show SeeS (W.alloc (.cells #[.int .i64 0, .int .i64 3, .int .i64 0, .int .i64 4] 31)).drew _ _ from see2 (blk_alloc_new W _)).below b)
theorem s2c {ao : Option Addr} {cap : Nat} {W W' : World} (b : Below (W.alloc (.cells #[.int .i64 0, .int .i64 3, .int .i64 0, .int .i64 4] 31)).heap.size (W.alloc (.cells #[.int .i64 0, .int .i64 3, .int .i64 0, .int .i64 4] 31)) W') (h : SeeS W' ao [fC, fD]) : Calls Try.prog 18 #[.slice ao 2 cap, .slice (some ⟨W.heap.size, 0, none⟩) 2 2] W' fun e w' => e = .returned (.bool true) ∧ Below W'.heap.size W' w' := same2 h ((see2 (blk_alloc_new W _)).below b)
theorem s4a {ao : Option Addr} {cap : Nat} {W : World} (h : SeeS W ao [fA, fC, fB, fD]) : Calls Try.prog 18 #[.slice ao 4 cap, .slice (some ⟨W.heap.size, 0, none⟩) 4 4] (W.alloc (.cells #[.int .i64 0, .int .i64 1, .int .i64 0, .int .i64 3, .int .i64 0, .int .i64 2, .int .i64 0, .int .i64 4] 31)) fun e w' => e = .returned (.bool true) ∧ Below (W.alloc (.cells #[.int .i64 0, .int .i64 1, .int .i64 0, .int .i64 3, .int .i64 0, .int .i64 2, .int .i64 0, .int .i64 4] 31)).heap.size (W.alloc (.cells #[.int .i64 0, .int .i64 1, .int .i64 0, .int .i64 3, .int .i64 0, .int .i64 2, .int .i64 0, .int .i64 4] 31)) w' := same4 (h.below (below_new _ _)) (see4 (blk_alloc_new _ _))
theorem s4b {ao : Option Addr} {cap : Nat} {W W' : World} (b : Below (W.alloc (.cells #[.int .i64 0, .int .i64 1, .int .i64 0, .int .i64 3, .int .i64 0, .int .i64 2, .int .i64 0, .int .i64 4] 31)).drew.heap.size (W.alloc (.cells #[.int .i64 0, .int .i64 1, .int .i64 0, .int .i64 3, .int .i64 0, .int .i64 2, .int .i64 0, .int .i64 4] 31)).drew W') (h : SeeS W' ao [fA, fC, fB, fD]) : Calls Try.prog 18 #[.slice ao 4 cap, .slice (some ⟨W.heap.size, 0, none⟩) 4 4] W' fun e w' => e = .returned (.bool true) ∧ Below W'.heap.size W' w' := same4 h ((show SeeS (W.alloc (.cells #[.int .i64 0, .int .i64 1, .int .i64 0, .int .i64 3, .int .i64 0, .int .i64 2, .int .i64 0, .int .i64 4] 31)).drew _ _ from see4 (blk_alloc_new W _)).below b)
theorem s4c {ao : Option Addr} {cap : Nat} {W W' : World} (b : Below (W.alloc (.cells #[.int .i64 0, .int .i64 1, .int .i64 0, .int .i64 3, .int .i64 0, .int .i64 2, .int .i64 0, .int .i64 4] 31)).heap.size (W.alloc (.cells #[.int .i64 0, .int .i64 1, .int .i64 0, .int .i64 3, .int .i64 0, .int .i64 2, .int .i64 0, .int .i64 4] 31)) W') (h : SeeS W' ao [fA, fC, fB, fD]) : Calls Try.prog 18 #[.slice ao 4 cap, .slice (some ⟨W.heap.size, 0, none⟩) 4 4] W' fun e w' => e = .returned (.bool true) ∧ Below W'.heap.size W' w' := same4 h ((see4 (blk_alloc_new W _)).below b)
section
variable {w : World} {r p q q1 q2 q3 : Nat} {R : List Th} {S : St} {W W' : World}
theorem nine (h : Fx w r p q q1 q2 q3 R S W) : W.cell? ⟨q, 0, none⟩ = some (.int .i64 0) ∧ W.cell? ⟨q, 1, none⟩ = some (.int .i64 1) ∧ W.cell? ⟨q1, 0, none⟩ = some (.int .i64 0) ∧ W.cell? ⟨q1, 1, none⟩ = some (.int .i64 2) ∧ W.cell? ⟨q2, 0, none⟩ = some (.int .i64 0) ∧ W.cell? ⟨q2, 1, none⟩ = some (.int .i64 3) ∧ W.cell? ⟨q3, 0, none⟩ = some (.int .i64 0) ∧ W.cell? ⟨q3, 1, none⟩ = some (.int .i64 4) ∧ Fx w r p q q1 q2 q3 R S W := by
  obtain ⟨h0, h1, h2, h3, h4, h5, h6, h7⟩ := h.cells
  exact ⟨h0, h1, h2, h3, h4, h5, h6, h7, h⟩
theorem nine_fx (h : W.cell? ⟨q, 0, none⟩ = some (.int .i64 0) ∧ W.cell? ⟨q, 1, none⟩ = some (.int .i64 1) ∧ W.cell? ⟨q1, 0, none⟩ = some (.int .i64 0) ∧ W.cell? ⟨q1, 1, none⟩ = some (.int .i64 2) ∧ W.cell? ⟨q2, 0, none⟩ = some (.int .i64 0) ∧ W.cell? ⟨q2, 1, none⟩ = some (.int .i64 3) ∧ W.cell? ⟨q3, 0, none⟩ = some (.int .i64 0) ∧ W.cell? ⟨q3, 1, none⟩ = some (.int .i64 4) ∧ Fx w r p q q1 q2 q3 R S W) : Fx w r p q q1 q2 q3 R S W := h.2.2.2.2.2.2.2.2
theorem nine_next (h : W.cell? ⟨q, 0, none⟩ = some (.int .i64 0) ∧ W.cell? ⟨q, 1, none⟩ = some (.int .i64 1) ∧ W.cell? ⟨q1, 0, none⟩ = some (.int .i64 0) ∧ W.cell? ⟨q1, 1, none⟩ = some (.int .i64 2) ∧ W.cell? ⟨q2, 0, none⟩ = some (.int .i64 0) ∧ W.cell? ⟨q2, 1, none⟩ = some (.int .i64 3) ∧ W.cell? ⟨q3, 0, none⟩ = some (.int .i64 0) ∧ W.cell? ⟨q3, 1, none⟩ = some (.int .i64 4) ∧ Fx w r p q q1 q2 q3 R S W) (b : Below W.heap.size W W') : W'.cell? ⟨q, 0, none⟩ = some (.int .i64 0) ∧ W'.cell? ⟨q, 1, none⟩ = some (.int .i64 1) ∧ W'.cell? ⟨q1, 0, none⟩ = some (.int .i64 0) ∧ W'.cell? ⟨q1, 1, none⟩ = some (.int .i64 2) ∧ W'.cell? ⟨q2, 0, none⟩ = some (.int .i64 0) ∧ W'.cell? ⟨q2, 1, none⟩ = some (.int .i64 3) ∧ W'.cell? ⟨q3, 0, none⟩ = some (.int .i64 0) ∧ W'.cell? ⟨q3, 1, none⟩ = some (.int .i64 4) ∧ Fx w r p q q1 q2 q3 R S W' := nine ((nine_fx h).below b)
end
theorem ten {w : World} {r p q q1 q2 q3 qp : Nat} {S : St} {W : World} (h : Fx w r p q q1 q2 q3 [blk qp (objS fA)] S W) : W.cell? ⟨q, 0, none⟩ = some (.int .i64 0) ∧ W.cell? ⟨q, 1, none⟩ = some (.int .i64 1) ∧ W.cell? ⟨q1, 0, none⟩ = some (.int .i64 0) ∧ W.cell? ⟨q1, 1, none⟩ = some (.int .i64 2) ∧ W.cell? ⟨q2, 0, none⟩ = some (.int .i64 0) ∧ W.cell? ⟨q2, 1, none⟩ = some (.int .i64 3) ∧ W.cell? ⟨q3, 0, none⟩ = some (.int .i64 0) ∧ W.cell? ⟨q3, 1, none⟩ = some (.int .i64 4) ∧ W.cell? ⟨qp, 0, none⟩ = some (.int .i64 0) ∧ W.cell? ⟨qp, 1, none⟩ = some (.int .i64 1) := by
  obtain ⟨h0, h1, h2, h3, h4, h5, h6, h7⟩ := h.cells
  obtain ⟨h8, h9⟩ := h.slot (x := qp) (s := fA) (by simp)
  exact ⟨h0, h1, h2, h3, h4, h5, h6, h7, h8, h9⟩
theorem bthen {u b c : World} (h : Below u.heap.size u b) (k : Below b.heap.size b c) : Below u.heap.size u c := Below.then h k h.size
end Go.Proofs.Ythfoeppcageneaa
