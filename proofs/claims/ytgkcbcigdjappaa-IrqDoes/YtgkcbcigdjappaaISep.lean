/-
  The calls of package irq among things that lie apart, what they answer behind letters; no condition but that lines are few.
-/
import Derived.Test.YtgkcbcigdjappaaIMeth
namespace Go.Proofs.Ytgkcbcigdjappaa
open Go.RowKit Go.Deep Go.Shelf
section
variable {w0 w : World} {r p : Nat} {v : Value} {S T : List Ln} {R : List Th}
theorem bind_is (s : Sep w0 r w (lnT p v S :: R)) (n a g : Int) {E : Int} (hE : bindE S n a = E) (hT : bindS S n a g = T) : Calls Try.prog 11 #[ptr p, .int .i64 n, .int .i64 a, .int .u64 g] w fun e w' => e = .returned (.int .i64 E) ∧ Sep w0 r w' (lnT p v T :: R) := by
  subst hE hT
  exact bind_sep s n a g
theorem free_is (s : Sep w0 r w (lnT p v S :: R)) (n : Int) {E : Int} (hE : freeE S n = E) (hT : freeS S n = T) : Calls Try.prog 13 #[ptr p, .int .i64 n] w fun e w' => e = .returned (.int .i64 E) ∧ Sep w0 r w' (lnT p v T :: R) := by
  subst hE hT
  exact free_sep s n
theorem raise_is (s : Sep w0 r w (lnT p v S :: R)) (n : Int) {a g : Int} {q : Bool} {E : Int} (ha : telA isO S n = a) (hg : telG isO S n = g) (hq : telB isO S n = q) (hE : telE S n = E) (hT : telS raiseX S n = T) : Calls Try.prog 15 #[ptr p, .int .i64 n] w fun e w' => e = .returned (.tuple #[.int .i64 a, .int .u64 g, .bool q, .int .i64 E]) ∧ Sep w0 r w' (lnT p v T :: R) := by
  subst ha hg hq hE hT
  exact raise_sep s n
theorem ack_is (s : Sep w0 r w (lnT p v S :: R)) (n : Int) {a g : Int} {q : Bool} {E : Int} (ha : telA isM S n = a) (hg : telG isM S n = g) (hq : telB isM S n = q) (hE : telE S n = E) (hT : telS ackX S n = T) : Calls Try.prog 17 #[ptr p, .int .i64 n] w fun e w' => e = .returned (.tuple #[.int .i64 a, .int .u64 g, .bool q, .int .i64 E]) ∧ Sep w0 r w' (lnT p v T :: R) := by
  subst ha hg hq hE hT
  exact ack_sep s n
theorem open_is (s : Sep w0 r w (lnT p v S :: R)) (n : Int) {o m : Bool} (ho : telB isO S n = o) (hm : telB isM S n = m) : Calls Try.prog 20 #[ptr p, .int .i64 n] w fun e w' => e = .returned (.tuple #[.bool o, .bool m]) ∧ Sep w0 r w' (lnT p v S :: R) := by
  subst ho hm
  exact open_sep s n
end
end Go.Proofs.Ytgkcbcigdjappaa
