/-
  The calls of package tlb, each with what it answers and leaves written out; no condition.
-/
import Derived.Test.YtekjoeebomcmeaaYFull
import Derived.Test.YtekjoeebomcmeaaYEq
namespace Go.Proofs.Ytekjoeebomcmeaa
open Go.RowKit Go.Deep Go.Shelf
section
variable {w0 w w' : World} {r p n : Nat} {v : Value} {S T : St} {R : List Th}
theorem fill_is (s : Sep w0 r w (tbT kP n p v S :: R)) (x : Lr) (h : fillS n S x = T) :
    Calls Try.prog 11 #[ptr p, encL x] w fun e w' => e = .returned (.tuple #[]) ∧ ∃ v', Sep w0 r w' (tbT kP n p v' T :: R) := by
  subst h
  exact fill_sep s x
theorem look_is (s : Sep w0 r w (tbT kP n p v S :: R)) (a b : Int) {f t : Int} {q : Bool} (h1 : lookF S a b = f) (h2 : lookR S a b = t) (h3 : lookB S a b = q) :
    Calls Try.prog 20 #[ptr p, .int .i64 a, .int .i64 b] w fun e w' => e = .returned (.tuple #[.agg #[.int .i64 f, .int .i64 t], .bool q]) ∧ Sep w0 r w' (tbT kP n p v S :: R) := by
  subst h1 h2 h3
  exact look_sep s a b
theorem drop_is (s : Sep w0 r w (tbT kP n p v S :: R)) (a b : Int) {q : Bool} (h1 : S.any (isK a b) = q) (h2 : lessS (isK a b) S = T) :
    Calls Try.prog 13 #[ptr p, .int .i64 a, .int .i64 b] w fun e w' => e = .returned (.bool q) ∧ ∃ v', Sep w0 r w' (tbT kP n p v' T :: R) := by
  subst h1 h2
  exact (drop_sep s a b).mono fun _ _ ⟨v', he, h⟩ => ⟨he, v', h⟩
theorem space_is (s : Sep w0 r w (tbT kP n p v S :: R)) (a : Int) {k : Nat} (h1 : lessN (isS a) S = k) (h2 : lessS (isS a) S = T) :
    Calls Try.prog 15 #[ptr p, .int .i64 a] w fun e w' => e = .returned (.int .i64 (k : Int)) ∧ ∃ v', Sep w0 r w' (tbT kP n p v' T :: R) := by
  subst h1 h2
  exact (space_sep s a).mono fun _ _ ⟨v', he, h⟩ => ⟨he, v', h⟩
theorem frame_is (s : Sep w0 r w (tbT kP n p v S :: R)) (a : Int) {k : Nat} (h1 : lessN (isF a) S = k) (h2 : lessS (isF a) S = T) :
    Calls Try.prog 17 #[ptr p, .int .i64 a] w fun e w' => e = .returned (.int .i64 (k : Int)) ∧ ∃ v', Sep w0 r w' (tbT kP n p v' T :: R) := by
  subst h1 h2
  exact (frame_sep s a).mono fun _ _ ⟨v', he, h⟩ => ⟨he, v', h⟩
theorem lines_is (s : Sep w0 r w (tbT kP n p v S :: R)) {k : Nat} (h : S.length = k) :
    Calls Try.prog 22 #[ptr p] w fun e w' => ∃ a c, e = .returned (.slice a k c) ∧ Sep w0 r w' (tbT kP n p v S :: lstL (.slice a k c) S :: R) := by
  subst h
  exact lines_sep s
end
end Go.Proofs.Ytekjoeebomcmeaa
