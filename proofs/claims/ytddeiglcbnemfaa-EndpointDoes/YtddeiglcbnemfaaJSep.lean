/-
  The calls of package endpoint among things that lie apart, what they answer behind letters; no condition but that few wait.
-/
import Derived.Test.YtddeiglcbnemfaaJSend
import Derived.Test.YtddeiglcbnemfaaJEq
import Derived.Test.YtddeiglcbnemfaaJNums
namespace Go.Proofs.Ytddeiglcbnemfaa
open Go.RowKit Go.Deep Go.Shelf
section
variable {w0 w : World} {r p : Nat} {v : Value} {S : St} {R : List Th}
theorem send_is (s : Sep w0 r w (epT p v S :: R)) (n : Int) (m : Ms) (z : Bool) (hl : S.length ≤ 1000) {x : Mt} {e0 : Int} {T : St} (hx : sendM S n m = x) (he : sendE S n = e0) (hT : sendS S n m z = T) :
    Calls Try.prog 5 #[ptr p, .int .i64 n, .agg #[.int .i64 m.l, .int .u64 m.a, .int .u64 m.b, .int .u64 m.c, .int .u64 m.d, .int .u64 m.g, .bool m.q], .bool z] w fun e w' => e = .returned (.tuple #[.agg #[.bool x.i, .int .i64 x.f, .int .i64 x.t, .int .i64 x.m.l, .int .u64 x.m.a, .int .u64 x.m.b, .int .u64 x.m.c, .int .u64 x.m.d, .int .u64 x.m.g, .bool x.m.q], .int .i64 e0]) ∧ ∃ v', Sep w0 r w' (epT p v' T :: R) := by
  subst hx he hT
  exact send_sep s n m z hl
theorem recv_is (s : Sep w0 r w (epT p v S :: R)) (n : Int) (z : Bool) (hl : S.length ≤ 1000) {x : Mt} {e0 : Int} {T : St} (hx : recvM S n = x) (he : sendE S n = e0) (hT : recvS S n z = T) :
    Calls Try.prog 7 #[ptr p, .int .i64 n, .bool z] w fun e w' => e = .returned (.tuple #[.agg #[.bool x.i, .int .i64 x.f, .int .i64 x.t, .int .i64 x.m.l, .int .u64 x.m.a, .int .u64 x.m.b, .int .u64 x.m.c, .int .u64 x.m.d, .int .u64 x.m.g, .bool x.m.q], .int .i64 e0]) ∧ ∃ v', Sep w0 r w' (epT p v' T :: R) := by
  subst hx he hT
  exact recv_sep s n z hl
theorem cancel_is' (s : Sep w0 r w (epT p v S :: R)) (n : Int) (hl : S.length ≤ 1000) {b : Bool} {T : St} (hb : thB S n = b) (hT : outS (isW n) S = T) :
    Calls Try.prog 9 #[ptr p, .int .i64 n] w fun e w' => e = .returned (.bool b) ∧ ∃ v', Sep w0 r w' (epT p v' T :: R) := by
  subst hb hT
  exact cancel_sep s n hl
theorem badge_is (s : Sep w0 r w (epT p v S :: R)) (n : Int) (hl : S.length ≤ 1000) {L : List Int} {T : St} (hL : outN (isG n) S = L) (hT : outS (isG n) S = T) :
    Calls Try.prog 11 #[ptr p, .int .u64 n] w fun e w' => ∃ ao cap v', e = .returned (.slice ao L.length cap) ∧ Sep w0 r w' (epT p v' T :: lstI (.slice ao L.length cap) L :: R) := by
  subst hL hT
  exact badge_sep s n hl
theorem waits_is (s : Sep w0 r w (epT p v S :: R)) (hl : S.length ≤ 1000) {L : List Int} {b : Bool} (hL : waitsN S = L) (hb : hasB S true = b) :
    Calls Try.prog 15 #[ptr p] w fun e w' => ∃ ao cap, e = .returned (.tuple #[.slice ao L.length cap, .bool b]) ∧ Sep w0 r w' (epT p v S :: lstI (.slice ao L.length cap) L :: R) := by
  subst hL hb
  exact waits_sep s hl
end
end Go.Proofs.Ytddeiglcbnemfaa
