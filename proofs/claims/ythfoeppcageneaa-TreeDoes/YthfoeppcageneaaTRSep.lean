/-
  Each call of the document's own tree while other things lie beside it; what same of the statements answers; no condition but that the tree is small.
-/
import Derived.Test.YthfoeppcageneaaTRUnder
import Derived.Test.YthfoeppcageneaaTLaid
namespace Go.Proofs.Ythfoeppcageneaa
set_option linter.unusedSectionVars false
variable [DecidableEq Sl]
open Go.RowKit Go.Deep Go.Shelf
section
variable {w0 : World} {r : Nat} {w w' : World} {p : Nat} {a b : Value} {S T : St} {R : List Th}
theorem Sep.goesT (h : Sep w0 r w (rtT p a b S :: R)) (g : GoesT w p a b T w') : ∃ a' b', Sep w0 r w' (rtT p a' b' T :: R) := by
  obtain ⟨a', b', h1, h2, h3⟩ := g
  exact ⟨a', b', h.turn (t' := rtT p a' b' T) h1 h2 h3⟩
theorem rroot_sep (s : Sl) (h : Sep w0 r w (rtT p a b S :: R)) (hl : S.length ≤ 1000) :
    Calls Try.prog 30 #[.pointer (some ⟨p, 0, none⟩), encS s] w fun e w' => e = .returned (.int .i64 (rootE S s)) ∧ ∃ a' b', Sep w0 r w' (rtT p a' b' (rootS S s) :: R) :=
  (rroot_any p a b S s w h.head hl).mono fun _ _ ⟨he, g⟩ => ⟨he, h.goesT g⟩
theorem radd_sep (a1 s : Sl) (h : Sep w0 r w (rtT p a b S :: R)) (hl : S.length ≤ 1000) :
    Calls Try.prog 31 #[.pointer (some ⟨p, 0, none⟩), encS a1, encS s] w fun e w' => e = .returned (.int .i64 (addE S a1 s)) ∧ ∃ a' b', Sep w0 r w' (rtT p a' b' (addS S a1 s) :: R) :=
  (radd_any p a b S a1 s w h.head hl).mono fun _ _ ⟨he, g⟩ => ⟨he, h.goesT g⟩
theorem rtake_sep (s : Sl) (h : Sep w0 r w (rtT p a b S :: R)) (hl : S.length ≤ 1000) :
    Calls Try.prog 32 #[.pointer (some ⟨p, 0, none⟩), encS s] w fun e w' => e = .returned (.int .i64 (takeE S s)) ∧ ∃ a' b', Sep w0 r w' (rtT p a' b' (takeS S s) :: R) :=
  (rtake_any p a b S s w h.head hl).mono fun _ _ ⟨he, g⟩ => ⟨he, h.goesT g⟩
theorem rmove_sep (a1 s : Sl) (h : Sep w0 r w (rtT p a b S :: R)) (hl : S.length ≤ 1000) :
    Calls Try.prog 33 #[.pointer (some ⟨p, 0, none⟩), encS a1, encS s] w fun e w' => e = .returned (.int .i64 (moveE S a1 s)) ∧ ∃ a' b', Sep w0 r w' (rtT p a' b' (moveS S a1 s) :: R) :=
  (rmove_any p a b S a1 s w h.head hl).mono fun _ _ ⟨he, g⟩ => ⟨he, h.goesT g⟩
theorem rparent_sep (s : Sl) (h : Sep w0 r w (rtT p a b S :: R)) (hl : S.length ≤ 1000) :
    Calls Try.prog 17 #[.pointer (some ⟨p, 0, none⟩), encS s] w fun e w' => e = .returned (.tuple #[encS (parS S s), .bool (parB S s)]) ∧ Sep w0 r w' (rtT p a b S :: R) :=
  (rparent_any p a b S s w h.head hl).mono fun _ _ ⟨he, k⟩ => ⟨he, h.below k⟩
theorem runder_sep (s : Sl) (h : Sep w0 r w (rtT p a b S :: R)) (hl : S.length ≤ 1000) :
    Calls Try.prog 19 #[.pointer (some ⟨p, 0, none⟩), encS s] w fun e w' => ∃ ao cap, e = .returned (.slice ao (underS S s).length cap) ∧ Sep w0 r w' (rtT p a b S :: lstS (.slice ao (underS S s).length cap) (underS S s) :: R) :=
  (runder_any p a b S s w h.head hl).mono fun _ _ ⟨u, he, o, k⟩ => by
    obtain ⟨ao, cap, rfl⟩ := o.slice
    exact ⟨ao, cap, he, h.told (u := lstS (.slice ao (underS S s).length cap) (underS S s)) o.row k o.new⟩
end
def encOp (x : Oc) : Value := .agg #[.int .i64 x.k, .int .i64 x.a.n, .int .i64 x.a.i, .int .i64 x.b.n, .int .i64 x.b.i]
/-- What one call of a script makes of the tree. -/
def stepS (S : St) (x : Oc) : St := if x.k == 0 then rootS S x.a else if x.k == 1 then addS S x.a x.b else if x.k == 2 then takeS S x.a else if x.k == 3 then moveS S x.a x.b else S
theorem stepS_len (S : St) (x : Oc) : (stepS S x).length ≤ S.length + 1 := by
  unfold stepS
  have := rootS_len S x.a
  have := addS_len S x.a x.b
  have := takeS_len S x.a
  have := moveS_len S x.a x.b
  repeat' split
  all_goals omega
section
variable {w0 : World} {r : Nat} {w : World} {p k : Nat} {v a b : Value} {S : St} {R : List Th}
set_option maxHeartbeats 4000000 in
theorem does_sep (x : Oc) (h : Sep w0 r w (trT p v S :: rtT k a b S :: R)) (hl : S.length ≤ 1000) :
    Calls Try.prog 13 #[.pointer (some ⟨p, 0, none⟩), .pointer (some ⟨k, 0, none⟩), encOp x] w fun e w' => e = .returned (.bool true) ∧ ∃ v' a' b', Sep w0 r w' (trT p v' (stepS S x) :: rtT k a' b' (stepS S x) :: R) := by
  have h2 : Hid (Sep w0 r (w.alloc (objO x)) (trT p v S :: blk w.heap.size (objO x) :: rtT k a b S :: R)) := (h.box (objO x)).swap
  obtain ⟨d0, d1, d2, d3, d4⟩ := op_cells (blk_alloc_new w (objO x))
  have HL : Hid (S.length ≤ 1000) := hl
  have HS : Hid (stepS S x = if x.k == 0 then rootS S x.a else if x.k == 1 then addS S x.a x.b else if x.k == 2 then takeS S x.a else if x.k == 3 then moveS S x.a x.b else S) := rfl
  generalize stepS S x = T at *
  clear h hl
  simp only [objO, encOp] at d0 d1 d2 d3 d4 ⊢
  go_enter Try.func13, Try.ntmps13
  by_cases q0 : x.k = 0
  · have e0 : (x.k == 0) = true := by simp [q0]
    have HT : Hid (T = rootS S x.a) := by have := HS.out; simp only [e0, if_true] at this; exact this
    have HC : Hid _ := root_sep x.a h2.out HL.out
    clear HS q0 h2
    simp only [encS, objO] at HC
    go_wp2_with fail
    refine Calls.mono HC.out ?_
    rintro e w2 ⟨rfl, v2, g⟩
    obtain ⟨f0, f1, f2, f3, f4⟩ := op_cells (x := x) (g.each _ (List.mem_cons_of_mem _ (List.mem_cons_self ..))).1
    have HD : Hid _ := rroot_sep x.a g.third.third HL.out
    clear g HC d0 d1 d2 d3 d4
    simp only [encS] at HD
    go_wp2_with fail
    refine Calls.mono HD.out ?_
    rintro e w3 ⟨rfl, a3, b3, g3⟩
    have G3 : Hid _ := g3
    clear g3
    go_wp2
    go_ret
    exact ⟨by simp, _, _, _, by rw [HT.out]; exact G3.out.third.drop2⟩
  · have e0 : (x.k == 0) = false := by simp [q0]
    by_cases q1 : x.k = 1
    · have e1 : (x.k == 1) = true := by simp [q1]
      have HT : Hid (T = addS S x.a x.b) := by have := HS.out; simp only [e0, e1, if_true, Bool.false_eq_true, if_false] at this; exact this
      have HC : Hid _ := add_sep x.a x.b h2.out HL.out
      clear HS q0 q1 h2
      simp only [encS, objO] at HC
      go_wp2_with fail
      refine Calls.mono HC.out ?_
      rintro e w2 ⟨rfl, v2, g⟩
      obtain ⟨f0, f1, f2, f3, f4⟩ := op_cells (x := x) (g.each _ (List.mem_cons_of_mem _ (List.mem_cons_self ..))).1
      have HD : Hid _ := radd_sep x.a x.b g.third.third HL.out
      clear g HC d0 d1 d2 d3 d4
      simp only [encS] at HD
      go_wp2_with fail
      refine Calls.mono HD.out ?_
      rintro e w3 ⟨rfl, a3, b3, g3⟩
      have G3 : Hid _ := g3
      clear g3
      go_wp2
      go_ret
      exact ⟨by simp, _, _, _, by rw [HT.out]; exact G3.out.third.drop2⟩
    · have e1 : (x.k == 1) = false := by simp [q1]
      by_cases q2 : x.k = 2
      · have e2 : (x.k == 2) = true := by simp [q2]
        have HT : Hid (T = takeS S x.a) := by have := HS.out; simp only [e0, e1, e2, if_true, Bool.false_eq_true, if_false] at this; exact this
        have HC : Hid _ := take_sep x.a h2.out HL.out
        clear HS q0 q1 q2 h2
        simp only [encS, objO] at HC
        go_wp2_with fail
        refine Calls.mono HC.out ?_
        rintro e w2 ⟨rfl, v2, g⟩
        obtain ⟨f0, f1, f2, f3, f4⟩ := op_cells (x := x) (g.each _ (List.mem_cons_of_mem _ (List.mem_cons_self ..))).1
        have HD : Hid _ := rtake_sep x.a g.third.third HL.out
        clear g HC d0 d1 d2 d3 d4
        simp only [encS] at HD
        go_wp2_with fail
        refine Calls.mono HD.out ?_
        rintro e w3 ⟨rfl, a3, b3, g3⟩
        have G3 : Hid _ := g3
        clear g3
        go_wp2
        go_ret
        exact ⟨by simp, _, _, _, by rw [HT.out]; exact G3.out.third.drop2⟩
      · have e2 : (x.k == 2) = false := by simp [q2]
        by_cases q3 : x.k = 3
        · have e3 : (x.k == 3) = true := by simp [q3]
          have HT : Hid (T = moveS S x.a x.b) := by have := HS.out; simp only [e0, e1, e2, e3, if_true, Bool.false_eq_true, if_false] at this; exact this
          have HC : Hid _ := move_sep x.a x.b h2.out HL.out
          clear HS q0 q1 q2 q3 h2
          simp only [encS, objO] at HC
          go_wp2_with fail
          refine Calls.mono HC.out ?_
          rintro e w2 ⟨rfl, v2, g⟩
          obtain ⟨f0, f1, f2, f3, f4⟩ := op_cells (x := x) (g.each _ (List.mem_cons_of_mem _ (List.mem_cons_self ..))).1
          have HD : Hid _ := rmove_sep x.a x.b g.third.third HL.out
          clear g HC d0 d1 d2 d3 d4
          simp only [encS] at HD
          go_wp2_with fail
          refine Calls.mono HD.out ?_
          rintro e w3 ⟨rfl, a3, b3, g3⟩
          have G3 : Hid _ := g3
          clear g3
          go_wp2
          go_ret
          exact ⟨by simp, _, _, _, by rw [HT.out]; exact G3.out.third.drop2⟩
        · have e3 : (x.k == 3) = false := by simp [q3]
          have HT : Hid (T = S) := by have := HS.out; simp only [e0, e1, e2, e3, Bool.false_eq_true, if_false] at this; exact this
          clear HS q0 q1 q2 q3
          go_wp2
          go_ret
          exact ⟨rfl, _, _, _, by rw [HT.out]; exact h2.out.drop2⟩
end
end Go.Proofs.Ythfoeppcageneaa
