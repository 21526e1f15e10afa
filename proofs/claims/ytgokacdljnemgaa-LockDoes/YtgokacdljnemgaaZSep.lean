/-
  The calls of package lock, each with what it answers and leaves written out; no condition.
-/
import Derived.Test.YtgokacdljnemgaaZTell
namespace Go.Proofs.Ytgokacdljnemgaa
open Go.RowKit Go.Deep Go.Shelf
section
variable {w0 w w' : World} {r p n : Nat} {L T : St} {R : List Th}
theorem enter_is (s : Sep w0 r w (lkT n p L :: R)) (c : Int) {e0 : Int} (h1 : enterE n L c = e0) (h2 : enterS n L c = T) :
    Calls Try.prog 11 #[ptr p, .int .i64 c] w fun e w' => e = .returned (.int .i64 e0) ∧ Sep w0 r w' (lkT n p T :: R) := by
  subst h1 h2
  exact enter_sep s c
theorem probe_is (s : Sep w0 r w (lkT n p L :: R)) (c : Int) {q : Bool} {e0 : Int} (h1 : probeB n L c = q) (h2 : probeE n L c = e0) :
    Calls Try.prog 13 #[ptr p, .int .i64 c] w fun e w' => e = .returned (.tuple #[.bool q, .int .i64 e0]) ∧ Sep w0 r w' (lkT n p L :: R) := by
  subst h1 h2
  exact probe_sep s c
theorem leave_is (s : Sep w0 r w (lkT n p L :: R)) (c : Int) {e0 : Int} (h1 : leaveE n L c = e0) (h2 : leaveS n L c = T) :
    Calls Try.prog 15 #[ptr p, .int .i64 c] w fun e w' => e = .returned (.int .i64 e0) ∧ Sep w0 r w' (lkT n p T :: R) := by
  subst h1 h2
  exact leave_sep s c
theorem holder_is (s : Sep w0 r w (lkT n p L :: R)) {x : Int} {q : Bool} (h1 : holdN L = x) (h2 : holdB L = q) :
    Calls Try.prog 18 #[ptr p] w fun e w' => e = .returned (.tuple #[.int .i64 x, .bool q]) ∧ Sep w0 r w' (lkT n p L :: R) := by
  subst h1 h2
  exact holder_sep s
theorem ahead_is (s : Sep w0 r w (lkT n p L :: R)) (c : Int) {z : Int} (h : aheadI L c = z) :
    Calls Try.prog 22 #[ptr p, .int .i64 c] w fun e w' => e = .returned (.int .i64 z) ∧ Sep w0 r w' (lkT n p L :: R) := by
  subst h
  exact ahead_sep s c
theorem line_is (s : Sep w0 r w (lkT n p L :: R)) {m : Nat} (h : L.length = m) :
    Calls Try.prog 20 #[ptr p] w fun e w' => ∃ a c, e = .returned (.slice a m c) ∧ Sep w0 r w' (lkT n p L :: lstI (.slice a m c) L :: R) := by
  subst h
  exact line_sep s
end
end Go.Proofs.Ytgokacdljnemgaa
