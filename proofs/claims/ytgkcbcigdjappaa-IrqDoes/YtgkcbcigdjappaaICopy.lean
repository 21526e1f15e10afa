/-
  What the library's Clone does to a row of lines, and what Copy of package irq answers, and leaves; no condition but that lines are few.
-/
import Derived.Test.YtgkcbcigdjappaaIMeth
namespace Go.Proofs.Ytgkcbcigdjappaa
open Go.RowKit Go.Deep Go.Shelf
theorem clone_any (v : Value) (L : List Ln) (w : World) (h : Row elP w v L) (hl : L.length ≤ 1000) :
    Calls Try.prog 26 #[v] w fun e w' => ∃ v', e = .returned v' ∧ Sep w w.heap.size w' [lst elP v' L] := by
  have q22 : ∀ (w : World) (a : Option Addr) (n c n' c' : Nat), (binOp .eql 50 (.slice a n c) (.slice none n' c')).run Try.prog w = .ok (.bool a.isNone) w := fun w a n c n' c' => Lib.run_eql_slice_nil w _ _ a n c n' c' Try.underlying50
  obtain ⟨ao, cap, rfl, -, -, -, hn⟩ := h.slice
  cases ao with
  | none =>
    obtain rfl := hn rfl
    have HK := hid ((sep_nil w).nil (E := elP))
    clear h hn
    simp only [List.length_nil] at *
    go_enter Try.func26, Try.ntmps26
    go_wp2
    go_ret
    exact ⟨_, rfl, HK.out⟩
  | some a =>
    obtain ⟨v', w', r1, s1⟩ := ((sep_nil w).made (E := elP)).onto okP (h.below (below_new w _)) 50 (by simp; omega)
    have HK := hid s1
    simp only [elP] at r1
    have hRun := hid r1
    clear r1 s1 h hn
    generalize L.length = n at *
    go_enter Try.func26, Try.ntmps26
    go_wp2_with (at_builtin; refine wpList_append_run rfl _ _ _ _ rfl _ _ _ _ rfl rfl hRun.out ?_)
    go_ret
    exact ⟨_, rfl, HK.out⟩
section
variable {w0 w : World} {r p : Nat} {v : Value} {S : List Ln} {R : List Th}
theorem copy_sep (s : Sep w0 r w (lnT p v S :: R)) (hl : S.length ≤ 1000) :
    Calls Try.prog 19 #[ptr p] w fun e w' => ∃ p' v', e = .returned (ptr p') ∧ Sep w0 r w' (lnT p' v' S :: lnT p v S :: R) := by
  have c0 := s.cellH
  have HC := hid (clone_any v S w (HoH.row s.head) hl)
  obtain ⟨ao, cap, rfl, -⟩ := s.sliceH
  have S1 := hid s
  clear s
  generalize hN : S.length = n at *
  go_enter Try.func19, Try.ntmps19
  go_wp2_with fail
  refine Calls.mono HC.out ?_
  rintro e w1 ⟨v1, rfl, s1⟩
  obtain ⟨a1, k1, rfl⟩ := s1.listIs (E := elP) (v := v1) (A := S) (by simp)
  have S2 := hid (Sep.ho 52 (S1.out.join s1))
  clear s1 S1 HC c0
  rw [hN] at *
  go_wp2
  go_ret
  exact ⟨_, _, rfl, S2.out⟩
end
end Go.Proofs.Ytgkcbcigdjappaa
