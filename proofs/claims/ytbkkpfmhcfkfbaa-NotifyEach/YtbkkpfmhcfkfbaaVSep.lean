/-
  The calls of package notify among things that lie apart, what they answer behind letters; no condition but that few wait, and that a badge is a word.
-/
import Derived.Test.YtbkkpfmhcfkfbaaVAct
import Derived.Test.YtbkkpfmhcfkfbaaJNums
namespace Go.Proofs.Ytbkkpfmhcfkfbaa
open Go.RowKit Go.Deep Go.Shelf
section
variable {w0 w : World} {r p : Nat} {v : Value} {S : Ns} {R : List Th}
theorem signal_is (s : Sep w0 r w (ntT p v S :: R)) (g : Int) (hg : U64 g) (hl : S.l.length ≤ 1000) {a x : Int} {q : Bool} {T : Ns} (ha : sigN S = a) (hx : sigW S g = x) (hq : sigB S = q) (hT : sigS S g = T) :
    Calls Try.prog 10 #[ptr p, .int .u64 g] w fun e w' => e = .returned (.tuple #[.int .i64 a, .int .u64 x, .bool q]) ∧ ∃ v', Sep w0 r w' (ntT p v' T :: R) := by
  subst ha hx hq hT
  exact signal_sep s g hg hl
theorem wait_is (s : Sep w0 r w (ntT p v S :: R)) (n : Int) (z : Bool) (hl : S.l.length ≤ 1000) {x e0 : Int} {q : Bool} {T : Ns} (hx : waitW S n = x) (hq : waitB S n = q) (he : waitE S n = e0) (hT : waitS S n z = T) :
    Calls Try.prog 12 #[ptr p, .int .i64 n, .bool z] w fun e w' => e = .returned (.tuple #[.int .u64 x, .bool q, .int .i64 e0]) ∧ ∃ v', Sep w0 r w' (ntT p v' T :: R) := by
  subst hx hq he hT
  exact wait_sep s n z hl
theorem cancel_is (s : Sep w0 r w (ntT p v S :: R)) (n : Int) (hl : S.l.length ≤ 1000) {q : Bool} {T : Ns} (hq : thB S n = q) (hT : canS S n = T) :
    Calls Try.prog 14 #[ptr p, .int .i64 n] w fun e w' => e = .returned (.bool q) ∧ ∃ v', Sep w0 r w' (ntT p v' T :: R) := by
  subst hq hT
  exact cancel_sep s n hl
theorem word_is (s : Sep w0 r w (ntT p v S :: R)) {x : Int} {q : Bool} (hx : S.w = x) (hq : S.b = q) :
    Calls Try.prog 17 #[ptr p] w fun e w' => e = .returned (.tuple #[.int .u64 x, .bool q]) ∧ Sep w0 r w' (ntT p v S :: R) := by
  subst hx hq
  exact (word_any p v S w s.head).mono fun _ _ ⟨he, b⟩ => ⟨he, s.below b⟩
theorem waits_is (s : Sep w0 r w (ntT p v S :: R)) (hl : S.l.length ≤ 1000) {L : List Int} (hL : S.l = L) :
    Calls Try.prog 19 #[ptr p] w fun e w' => ∃ ao cap, e = .returned (.slice ao L.length cap) ∧ Sep w0 r w' (ntT p v S :: lstI (.slice ao L.length cap) L :: R) := by
  subst hL
  exact waits_sep s hl
end
end Go.Proofs.Ytbkkpfmhcfkfbaa
