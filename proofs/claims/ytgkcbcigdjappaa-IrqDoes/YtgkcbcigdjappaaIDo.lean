/-
  The document's own calls among things that lie apart, what they answer behind letters; no condition.
-/
import Derived.Test.YtgkcbcigdjappaaIRMeth
import Derived.Test.YtgkcbcigdjappaaICopy
import Derived.Test.YtgkcbcigdjappaaILaw
namespace Go.Proofs.Ytgkcbcigdjappaa
open Go.RowKit Go.Deep Go.Shelf
section
variable {w0 w : World} {r p : Nat} {v : Value} {S T : List Ln} {R : List Th}
theorem rbind_is (s : Sep w0 r w (rfT p v S :: R)) (n a g : Int) {E : Int} (hE : bindE S n a = E) (hT : bindS S n a g = T) : Calls Try.prog 12 #[ptr p, .int .i64 n, .int .i64 a, .int .u64 g] w fun e w' => e = .returned (.int .i64 E) ∧ Sep w0 r w' (rfT p v T :: R) := by
  subst hE hT
  exact rbind_sep s n a g
theorem rfree_is (s : Sep w0 r w (rfT p v S :: R)) (n : Int) {E : Int} (hE : freeE S n = E) (hT : freeS S n = T) : Calls Try.prog 14 #[ptr p, .int .i64 n] w fun e w' => e = .returned (.int .i64 E) ∧ Sep w0 r w' (rfT p v T :: R) := by
  subst hE hT
  exact rfree_sep s n
theorem rraise_is (s : Sep w0 r w (rfT p v S :: R)) (n : Int) {a g : Int} {q : Bool} {E : Int} (ha : telA isO S n = a) (hg : telG isO S n = g) (hq : telB isO S n = q) (hE : telE S n = E) (hT : telS raiseX S n = T) : Calls Try.prog 16 #[ptr p, .int .i64 n] w fun e w' => e = .returned (.tuple #[.int .i64 a, .int .u64 g, .bool q, .int .i64 E]) ∧ Sep w0 r w' (rfT p v T :: R) := by
  subst ha hg hq hE hT
  exact rraise_sep s n
theorem rack_is (s : Sep w0 r w (rfT p v S :: R)) (n : Int) {a g : Int} {q : Bool} {E : Int} (ha : telA isM S n = a) (hg : telG isM S n = g) (hq : telB isM S n = q) (hE : telE S n = E) (hT : telS ackX S n = T) : Calls Try.prog 18 #[ptr p, .int .i64 n] w fun e w' => e = .returned (.tuple #[.int .i64 a, .int .u64 g, .bool q, .int .i64 E]) ∧ Sep w0 r w' (rfT p v T :: R) := by
  subst ha hg hq hE hT
  exact rack_sep s n
theorem ropen_is (s : Sep w0 r w (rfT p v S :: R)) (n : Int) {o m : Bool} (ho : telB isO S n = o) (hm : telB isM S n = m) : Calls Try.prog 21 #[ptr p, .int .i64 n] w fun e w' => e = .returned (.tuple #[.bool o, .bool m]) ∧ Sep w0 r w' (rfT p v S :: R) := by
  subst ho hm
  exact ropen_sep s n
end
end Go.Proofs.Ytgkcbcigdjappaa
