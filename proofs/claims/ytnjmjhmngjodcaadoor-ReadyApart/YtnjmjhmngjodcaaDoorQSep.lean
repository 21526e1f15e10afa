/-
  The queue's calls among things that lie apart, a line each; no condition but that the queue is small, and that the table of widths lies as the program laid it.
-/
import Derived.Test.YtnjmjhmngjodcaaDoorQNext
namespace Go.Proofs.YtnjmjhmngjodcaaDoor
open Go.RowKit Go.Deep Go.Shelf

section
variable {w0 w : World} {r : Nat} {R : List Th} {q : Nat} {F : Nat → Prop} {S : St}
theorem Sep.goes {w' : World} {T : St} (h : Sep w0 r w (quT q F S :: R)) (k : Goes w q F T w') : ∃ F', Sep w0 r w' (quT q F' T :: R) := by
  obtain ⟨F', h1, h2, h3⟩ := k
  exact ⟨F', h.turn (t' := quT q F' T) h1 h2 h3⟩
theorem Sep.good (h : Sep w0 r w (quT q F S :: R)) : Good S := QuH.good h.head
theorem new_sep (h : Sep w0 r w R) : Calls Tryd.prog 9 #[] w fun e w' => ∃ q F, e = .returned (.pointer (some ⟨q, 0, none⟩)) ∧ Sep w0 r w' (quT q F [] :: R) := by
  refine Calls.mono (new_any w) ?_
  rintro e w' ⟨F, rfl, h1, b, n⟩
  exact ⟨_, F, rfl, h.new (t := quT _ F []) h1 b n⟩
theorem put_sep (h : Sep w0 r w (quT q F S :: R)) (p n : Int) (hn : I64 n) (hl : S.length ≤ 1000) :
    Calls Tryd.prog 10 #[.pointer (some ⟨q, 0, none⟩), .int .i64 p, .int .i64 n] w fun e w' => e = .returned (.int .i64 (putE S p n)) ∧ ∃ F', Sep w0 r w' (quT q F' (putS S p n) :: R) := by
  refine Calls.mono (put_any q F S p n w h.head hn hl) ?_
  rintro e w' ⟨rfl, g⟩
  exact ⟨rfl, h.goes g⟩
theorem take_sep (h : Sep w0 r w (quT q F S :: R)) (n : Int) (hn : I64 n) (hl : S.length ≤ 1000) :
    Calls Tryd.prog 12 #[.pointer (some ⟨q, 0, none⟩), .int .i64 n] w fun e w' => e = .returned (.int .i64 (takeE S n)) ∧ ∃ F', Sep w0 r w' (quT q F' (takeS S n) :: R) := by
  refine Calls.mono (take_any q F S n w h.head hn hl) ?_
  rintro e w' ⟨rfl, g⟩
  exact ⟨rfl, h.goes g⟩
theorem turn_sep (h : Sep w0 r w (quT q F S :: R)) (ht : ∀ u, Below r w0 u → Tab u) (hl : S.length ≤ 1000) :
    Calls Tryd.prog 14 #[.pointer (some ⟨q, 0, none⟩)] w fun e w' => e = .returned (.bool (nextB S)) ∧ ∃ F', Sep w0 r w' (quT q F' (turnS S) :: R) := by
  refine Calls.mono (turn_any q F S w (ht w h.low) h.head hl) ?_
  rintro e w' ⟨rfl, g⟩
  exact ⟨rfl, h.goes g⟩
theorem next_sep (h : Sep w0 r w (quT q F S :: R)) (ht : ∀ u, Below r w0 u → Tab u) :
    Calls Tryd.prog 17 #[.pointer (some ⟨q, 0, none⟩)] w fun e w' => e = .returned (.tuple #[.int .i64 (nextN S), .bool (nextB S)]) ∧ Sep w0 r w' (quT q F S :: R) := by
  refine Calls.mono (next_any q F S w (ht w h.low) h.head) ?_
  rintro e w' ⟨rfl, b⟩
  exact ⟨rfl, h.below b⟩
theorem where_sep (h : Sep w0 r w (quT q F S :: R)) (n : Int) (hn : I64 n) :
    Calls Tryd.prog 19 #[.pointer (some ⟨q, 0, none⟩), .int .i64 n] w fun e w' => e = .returned (.tuple #[.int .i64 (whI S n), .bool (whB S n)]) ∧ w' = w := where_any q F S n w h.head hn
theorem line_sep (h : Sep w0 r w (quT q F S :: R)) (p : Int) (hl : S.length ≤ 1000) :
    Calls Tryd.prog 21 #[.pointer (some ⟨q, 0, none⟩), .int .i64 p] w fun e w' => ∃ v, e = .returned v ∧ Sep w0 r w' (quT q F S :: lstI v (lineI S p) :: R) := by
  refine Calls.mono (line_any q F S p w h.head hl) ?_
  rintro e w' ⟨v, rfl, h1, b, n⟩
  exact ⟨v, rfl, h.told (u := lstI v (lineI S p)) h1 b fun x hx => n x hx⟩
theorem put_is (h : Sep w0 r w (quT q F S :: R)) {p n : Int} (hn : I64 n) (hl : S.length ≤ 1000) {e0 : Int} {T : St} (hE : putE S p n = e0) (hT : putS S p n = T) :
    Calls Tryd.prog 10 #[.pointer (some ⟨q, 0, none⟩), .int .i64 p, .int .i64 n] w fun e w' => e = .returned (.int .i64 e0) ∧ ∃ F', Sep w0 r w' (quT q F' T :: R) := by
  subst hE
  subst hT
  exact put_sep h p n hn hl
theorem take_is (h : Sep w0 r w (quT q F S :: R)) {n : Int} (hn : I64 n) (hl : S.length ≤ 1000) {e0 : Int} {T : St} (hE : takeE S n = e0) (hT : takeS S n = T) :
    Calls Tryd.prog 12 #[.pointer (some ⟨q, 0, none⟩), .int .i64 n] w fun e w' => e = .returned (.int .i64 e0) ∧ ∃ F', Sep w0 r w' (quT q F' T :: R) := by
  subst hE
  subst hT
  exact take_sep h n hn hl
theorem turn_is (h : Sep w0 r w (quT q F S :: R)) (ht : ∀ u, Below r w0 u → Tab u) (hl : S.length ≤ 1000) {e0 : Bool} {T : St} (hE : nextB S = e0) (hT : turnS S = T) :
    Calls Tryd.prog 14 #[.pointer (some ⟨q, 0, none⟩)] w fun e w' => e = .returned (.bool e0) ∧ ∃ F', Sep w0 r w' (quT q F' T :: R) := by
  subst hE
  subst hT
  exact turn_sep h ht hl
theorem next_is (h : Sep w0 r w (quT q F S :: R)) (ht : ∀ u, Below r w0 u → Tab u) {n : Int} {z : Bool} (hn : nextN S = n) (hz : nextB S = z) :
    Calls Tryd.prog 17 #[.pointer (some ⟨q, 0, none⟩)] w fun e w' => e = .returned (.tuple #[.int .i64 n, .bool z]) ∧ Sep w0 r w' (quT q F S :: R) := by
  subst hn
  subst hz
  exact next_sep h ht
theorem where_is (h : Sep w0 r w (quT q F S :: R)) {n : Int} (hn : I64 n) {p : Int} {z : Bool} (hp : whI S n = p) (hz : whB S n = z) :
    Calls Tryd.prog 19 #[.pointer (some ⟨q, 0, none⟩), .int .i64 n] w fun e w' => e = .returned (.tuple #[.int .i64 p, .bool z]) ∧ w' = w := by
  subst hp
  subst hz
  exact where_sep h n hn
end
theorem Sep.tabs {w : World} (ht : Tab w) : ∀ u, Below w.heap.size w u → Tab u := fun _ b => ht.below b
end Go.Proofs.YtnjmjhmngjodcaaDoor
