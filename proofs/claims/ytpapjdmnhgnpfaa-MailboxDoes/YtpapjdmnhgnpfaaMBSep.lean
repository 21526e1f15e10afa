/-
  The calls of package mailbox, each with what it answers and leaves written out; no condition.
-/
import Derived.Test.YtpapjdmnhgnpfaaMBTake
import Derived.Test.YtpapjdmnhgnpfaaMBOwed
import Derived.Test.YtpapjdmnhgnpfaaMBCopy
import Derived.Test.YtpapjdmnhgnpfaaMBEq
namespace Go.Proofs.Ytpapjdmnhgnpfaa
open Go.RowKit Go.Deep Go.Shelf
section
variable {w0 w w' : World} {r p g n : Nat} {V : List Sv} {L T : St} {R : List Th}
theorem send_is (s : Sep w0 r w (bxT n p g V L :: R)) (f t k a : Int) {e0 : Int} (h1 : sendE n L f t = e0) (h2 : sendS n L f t k a = T) :
    Calls Try.prog 11 #[ptr p, .int .i64 f, .int .i64 t, .int .i64 k, .int .i64 a] w fun e w' => e = .returned (.int .i64 e0) ∧ ∃ V', Sep w0 r w' (bxT n p g V' T :: R) := by
  subst h1 h2
  exact send_sep s f t k a
theorem all_is (s : Sep w0 r w (bxT n p g V L :: R)) (f k a : Int) {e0 : Int} (h1 : allE n L f = e0) (h2 : allS n L f k a = T) :
    Calls Try.prog 13 #[ptr p, .int .i64 f, .int .i64 k, .int .i64 a] w fun e w' => e = .returned (.int .i64 e0) ∧ ∃ V', Sep w0 r w' (bxT n p g V' T :: R) := by
  subst h1 h2
  exact all_sep s f k a
theorem take_is (s : Sep w0 r w (bxT n p g V L :: R)) (c : Int) {x : Ml} {q : Bool} (h1 : takeM L c = x) (h2 : takeB L c = q) (h3 : takeS L c = T) :
    Calls Try.prog 15 #[ptr p, .int .i64 c] w fun e w' => e = .returned (.tuple #[.agg #[.int .i64 x.f, .int .i64 x.k, .int .i64 x.a], .bool q]) ∧ ∃ V', Sep w0 r w' (bxT n p g V' T :: R) := by
  subst h1 h2 h3
  exact take_sep s c
theorem owed_is (s : Sep w0 r w (bxT n p g V L :: R)) (c : Int) {z : Nat} (h : owedN c L = z) :
    Calls Try.prog 21 #[ptr p, .int .i64 c] w fun e w' => e = .returned (.int .i64 (z : Int)) ∧ Sep w0 r w' (bxT n p g V L :: R) := by
  subst h
  exact owed_sep s c
theorem box_is (s : Sep w0 r w (bxT n p g V L :: R)) (c : Int) {b : Bx} {m : Nat} (h : boxL L c = b) (hm : b.length = m) :
    Calls Try.prog 18 #[ptr p, .int .i64 c] w fun e w' => ∃ ao cap, e = .returned (.slice ao m cap) ∧ Sep w0 r w' (bxT n p g V L :: lstM (.slice ao m cap) b :: R) := by
  subst h hm
  refine (box_sep s c).mono fun e w' ⟨v, he, k⟩ => ?_
  obtain ⟨ao, cap, rfl⟩ := k.listIs (E := elM) (v := v) (A := boxL L c) (by simp)
  exact ⟨ao, cap, he, k⟩
end
end Go.Proofs.Ytpapjdmnhgnpfaa
