/-
  What Copy of package endpoint answers: another endpoint in the same state, in new blocks; no condition but that few wait.
-/
import Derived.Test.YtddeiglcbnemfaaJMeth
namespace Go.Proofs.Ytddeiglcbnemfaa
open Go.RowKit Go.Deep Go.Shelf
section
variable {w0 w : World} {r p : Nat} {v : Value} {S : St} {R : List Th}
theorem clone_any (v : Value) (S : St) (w : World) (h : RowW w v S) (hl : S.length ≤ 1000) :
    Calls Try.prog 24 #[v] w fun e w' => ∃ v', e = .returned v' ∧ Sep w w.heap.size w' [lstW v' S] := by
  have q22 : ∀ (w : World) (a : Option Addr) (n c n' c' : Nat), (binOp .eql 49 (.slice a n c) (.slice none n' c')).run Try.prog w = .ok (.bool a.isNone) w := fun w a n c n' c' => Lib.run_eql_slice_nil w _ _ a n c n' c' Try.underlying49
  obtain ⟨ao, cap, rfl, -, -, -, hn⟩ := h.slice
  cases ao with
  | none =>
    obtain rfl := hn rfl
    have HK := hid ((sep_nil w).nil (E := elW))
    clear h hn
    simp only [List.length_nil] at *
    go_enter Try.func24, Try.ntmps24
    go_wp2
    go_ret
    exact ⟨_, rfl, HK.out⟩
  | some a =>
    obtain ⟨v', w', r1, s1⟩ := ((sep_nil w).made (E := elW)).onto okW (h.below (below_new w _)) 49 (by simp; omega)
    have HK := hid s1
    simp only [elW] at r1
    have hRun := hid r1
    clear r1 s1 h hn
    generalize S.length = n at *
    go_enter Try.func24, Try.ntmps24
    go_wp2_with (at_builtin; refine wpList_append_run rfl _ _ _ _ rfl _ _ _ _ rfl rfl hRun.out ?_)
    go_ret
    exact ⟨_, rfl, HK.out⟩
theorem copy_sep (s : Sep w0 r w (epT p v S :: R)) (hl : S.length ≤ 1000) :
    Calls Try.prog 14 #[ptr p] w fun e w' => ∃ p' v', e = .returned (ptr p') ∧ Sep w0 r w' (epT p' v' S :: epT p v S :: R) := by
  have c0 := s.cellP
  obtain ⟨ao, cap, rfl, -⟩ := s.sliceP
  have S1 := hid s
  have HC := hid (clone_any _ S w (EpH.row s.head) hl)
  clear s
  generalize S.length = n at *
  go_enter Try.func14, Try.ntmps14
  go_wp2_with fail
  refine Calls.mono HC.out ?_
  rintro e w1 ⟨v1, rfl, s1⟩
  obtain ⟨a1, c1, rfl⟩ := s1.listIs (E := elW) (v := v1) (A := S) (by simp)
  have S2 := hid (Sep.ep (S1.out.join s1) S1.out.good)
  clear s1 S1 HC
  generalize S.length = n at *
  go_wp2
  go_ret
  exact ⟨_, _, rfl, S2.out⟩
end
end Go.Proofs.Ytddeiglcbnemfaa
