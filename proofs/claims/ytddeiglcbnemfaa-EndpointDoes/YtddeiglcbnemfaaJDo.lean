/-
  The document's calls beside the program's, over one state; things in another order; no condition but that few wait.
-/
import Derived.Test.YtddeiglcbnemfaaJLaw
import Derived.Test.YtddeiglcbnemfaaJCopy
import Derived.Test.YtddeiglcbnemfaaJRSend
import Derived.Test.YtddeiglcbnemfaaJRRecv
import Derived.Test.YtddeiglcbnemfaaJBridge
namespace Go.Proofs.Ytddeiglcbnemfaa
open Go.RowKit Go.Deep Go.Shelf
section
variable {w0 w : World} {r : Nat} {R : List Th} {a b c d e f g : Th}
theorem Sep.last1 (h : Sep w0 r w (a :: R)) : Sep w0 r w (R ++ [a]) := h.perm (List.perm_append_comm (l₁ := [a]) (l₂ := R))
theorem Sep.front1 (h : Sep w0 r w (R ++ [a])) : Sep w0 r w (a :: R) := h.perm (List.perm_append_comm (l₁ := R) (l₂ := [a]))
theorem Sep.pull4 (h : Sep w0 r w (a :: b :: c :: d :: e :: R)) : Sep w0 r w (e :: a :: b :: c :: d :: R) := h.perm (List.perm_middle (l₁ := [a, b, c, d]) (a := e) (l₂ := R))
theorem Sep.push4 (h : Sep w0 r w (e :: a :: b :: c :: d :: R)) : Sep w0 r w (a :: b :: c :: d :: e :: R) := h.perm (List.perm_middle (l₁ := [a, b, c, d]) (a := e) (l₂ := R)).symm
theorem Sep.pull5 (h : Sep w0 r w (a :: b :: c :: d :: e :: f :: R)) : Sep w0 r w (f :: a :: b :: c :: d :: e :: R) := h.perm (List.perm_middle (l₁ := [a, b, c, d, e]) (a := f) (l₂ := R))
theorem Sep.push5 (h : Sep w0 r w (f :: a :: b :: c :: d :: e :: R)) : Sep w0 r w (a :: b :: c :: d :: e :: f :: R) := h.perm (List.perm_middle (l₁ := [a, b, c, d, e]) (a := f) (l₂ := R)).symm
theorem Sep.rot34 (h : Sep w0 r w (a :: b :: c :: d :: e :: f :: g :: R)) : Sep w0 r w (d :: e :: f :: g :: a :: b :: c :: R) := by
  have h1 := List.Perm.append_right R (List.perm_append_comm (l₁ := [a, b, c]) (l₂ := [d, e, f, g]))
  exact h.perm h1
end
section
variable {w0 w : World} {r k : Nat} {a b : Value} {S : St} {R : List Th}
theorem rsend_is (s : Sep w0 r w (blk k (objR a b) :: lstS a (sd S) :: lstI b (rc S) :: R)) (gd : Good S) (n : Int) (m : Ms) (z : Bool) (hl : S.length ≤ 1000) {x : Mt} {e0 : Int} {T : St} (hx : sendM S n m = x) (he : sendE S n = e0) (hT : sendS S n m z = T) :
    Calls Try.prog 6 #[ptr k, .int .i64 n, .agg #[.int .i64 m.l, .int .u64 m.a, .int .u64 m.b, .int .u64 m.c, .int .u64 m.d, .int .u64 m.g, .bool m.q], .bool z] w fun e w' => e = .returned (.tuple #[.agg #[.bool x.i, .int .i64 x.f, .int .i64 x.t, .int .i64 x.m.l, .int .u64 x.m.a, .int .u64 x.m.b, .int .u64 x.m.c, .int .u64 x.m.d, .int .u64 x.m.g, .bool x.m.q], .int .i64 e0]) ∧ ∃ a' b', Sep w0 r w' (blk k (objR a' b') :: lstS a' (sd T) :: lstI b' (rc T) :: R) := by
  subst hx he hT
  obtain ⟨b1, b2, b3, b4⟩ := b_send gd n m z
  have := rsend_sep s n m z (Nat.le_trans (sd_len S) hl) (Nat.le_trans (rc_len S) hl)
  rw [b1, b2, b3, b4] at this
  exact this
theorem rrecv_is (s : Sep w0 r w (blk k (objR a b) :: lstS a (sd S) :: lstI b (rc S) :: R)) (gd : Good S) (n : Int) (z : Bool) (hl : S.length ≤ 1000) {x : Mt} {e0 : Int} {T : St} (hx : recvM S n = x) (he : sendE S n = e0) (hT : recvS S n z = T) :
    Calls Try.prog 8 #[ptr k, .int .i64 n, .bool z] w fun e w' => e = .returned (.tuple #[.agg #[.bool x.i, .int .i64 x.f, .int .i64 x.t, .int .i64 x.m.l, .int .u64 x.m.a, .int .u64 x.m.b, .int .u64 x.m.c, .int .u64 x.m.d, .int .u64 x.m.g, .bool x.m.q], .int .i64 e0]) ∧ ∃ a' b', Sep w0 r w' (blk k (objR a' b') :: lstS a' (sd T) :: lstI b' (rc T) :: R) := by
  subst hx he hT
  obtain ⟨b1, b2, b3, b4⟩ := b_recv gd n z
  have := rrecv_sep s n z (Nat.le_trans (sd_len S) hl) (Nat.le_trans (rc_len S) hl)
  rw [b1, b2, b3, b4] at this
  exact this
theorem rcancel_is (s : Sep w0 r w (blk k (objR a b) :: lstS a (sd S) :: lstI b (rc S) :: R)) (gd : Good S) (n : Int) (hl : S.length ≤ 1000) {β : Bool} {T : St} (hb : thB S n = β) (hT : outS (isW n) S = T) :
    Calls Try.prog 10 #[ptr k, .int .i64 n] w fun e w' => e = .returned (.bool β) ∧ ∃ a' b', Sep w0 r w' (blk k (objR a' b') :: lstS a' (sd T) :: lstI b' (rc T) :: R) := by
  subst hb hT
  obtain ⟨b1, b2⟩ := b_cancel S n
  have := rcancel_sep s n (Nat.le_trans (sd_len S) hl) (Nat.le_trans (rc_len S) hl)
  rw [b_there gd, b1, b2] at this
  exact this
theorem rbadge_is (s : Sep w0 r w (blk k (objR a b) :: lstS a (sd S) :: lstI b (rc S) :: R)) (n : Int) (hl : S.length ≤ 1000) {L : List Int} {T : St} (hL : outN (isG n) S = L) (hT : outS (isG n) S = T) :
    Calls Try.prog 13 #[ptr k, .int .u64 n] w fun e w' => ∃ ao cap a', e = .returned (.slice ao L.length cap) ∧ Sep w0 r w' (blk k (objR a' b) :: lstS a' (sd T) :: lstI b (rc T) :: lstI (.slice ao L.length cap) L :: R) := by
  subst hL hT
  obtain ⟨b1, b2, b3⟩ := b_badge S n
  have := rbadge_sep s n (Nat.le_trans (sd_len S) hl)
  rw [b1, b2] at this
  rw [b3]
  exact this
theorem rwaits_is (s : Sep w0 r w (blk k (objR a b) :: lstS a (sd S) :: lstI b (rc S) :: R)) (gd : Good S) (hl : S.length ≤ 1000) {L : List Int} {β : Bool} (hL : waitsN S = L) (hb : hasB S true = β) :
    Calls Try.prog 16 #[ptr k] w fun e w' => ∃ ao cap, e = .returned (.tuple #[.slice ao L.length cap, .bool β]) ∧ Sep w0 r w' (lstI (.slice ao L.length cap) L :: blk k (objR a b) :: lstS a (sd S) :: lstI b (rc S) :: R) := by
  subst hL hb
  obtain ⟨b1, b2⟩ := b_waits gd
  have := rwaits_sep s (Nat.le_trans (sd_len S) hl) (Nat.le_trans (rc_len S) hl)
  rw [b1, b2] at this
  exact this
end
end Go.Proofs.Ytddeiglcbnemfaa
