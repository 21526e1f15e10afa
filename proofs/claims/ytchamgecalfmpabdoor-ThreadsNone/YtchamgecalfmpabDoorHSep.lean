/-
  The calls of package threads among things that lie apart, a line each; no condition but that the table of widths lies as the program laid it.
-/
import Derived.Test.YtchamgecalfmpabDoorHNew
import Derived.Test.YtchamgecalfmpabDoorHCore
import Derived.Test.YtchamgecalfmpabDoorHGet
import Derived.Test.YtchamgecalfmpabDoorHTick
namespace Go.Proofs.YtchamgecalfmpabDoor
open Go.RowKit Go.Deep Go.Shelf

/-- Threads that are right, in blocks of their own. -/
def tT (p : Nat) (F : Nat → Prop) (h : Hs) : Th where
  F := F
  H := fun w => ThH qkP p F h w ∧ Inv h
  lt := fun w ⟨t, _⟩ => (thT qkP p F h).lt w t
  keep := fun w w' ⟨t, v⟩ k => ⟨(thT qkP p F h).keep w w' t k, v⟩
section
variable {w0 w : World} {r : Nat} {R : List Th} {p : Nat} {F : Nat → Prop} {h : Hs}
theorem Sep.inv (s : Sep w0 r w (tT p F h :: R)) : Inv h := s.head.2
theorem Sep.goT {w' : World} {h' : Hs} (s : Sep w0 r w (tT p F h :: R)) (g : GoT qkP w p F h' w') (v : Inv h') : ∃ F', Sep w0 r w' (tT p F' h' :: R) := by
  obtain ⟨F', h1, h2, h3⟩ := g
  exact ⟨F', s.turn (t' := tT p F' h') ⟨h1, v⟩ h2 h3⟩
theorem Sep.tabT (s : Sep w0 r w (tT p F h :: R)) (ht : ∀ u, Below r w0 u → Tab u) : ∀ u, Turn F w u → Tab u := fun u k => ht u (k.below s.low (s.each (tT p F h) (by simp)).2 s.size)
theorem newT_sep (s : Sep w0 r w R) (n : Nat) (h1 : 1 ≤ n) (h8 : n ≤ 8) : Calls Tryd.prog 5 #[.int .i64 n] w fun e w' => ∃ p F, e = .returned (.tuple #[ptr p, .int .i64 0]) ∧ Sep w0 r w' (tT p F (newH n) :: R) := by
  refine Calls.mono (newT_any n w h1 h8) ?_
  rintro e w' ⟨p, F, rfl, t, b, n⟩
  exact ⟨p, F, rfl, s.new (t := tT p F _) ⟨t, inv_new h1 h8⟩ b n⟩
theorem make_sep (s : Sep w0 r w (tT p F h :: R)) (pr c : Int) : Calls Tryd.prog 6 #[ptr p, .int .i64 pr, .int .i64 c] w fun e w' => e = .returned (.tuple #[.int .i64 (makeN h pr c), .int .i64 (makeE h pr c)]) ∧ ∃ F', Sep w0 r w' (tT p F' (makeH h pr c) :: R) := by
  obtain ⟨v, u, qs, t⟩ := s.head.1.at
  exact (make_at t s.inv pr c).mono fun _ _ ⟨he, v', t'⟩ => ⟨he, s.goT t'.goes (inv_make s.inv pr c)⟩
theorem get_sep (s : Sep w0 r w (tT p F h :: R)) (i : Int) : Calls Tryd.prog 7 #[ptr p, .int .i64 i] w fun e w' => e = .returned (.tuple #[encT (getT h i), .int .i64 (getE h i)]) ∧ Sep w0 r w' (tT p F h :: R) := by
  obtain ⟨v, u, qs, t⟩ := s.head.1.at
  exact (get_any t i).mono fun _ _ ⟨he, b⟩ => ⟨he, s.below b⟩
theorem runs_sep (s : Sep w0 r w (tT p F h :: R)) (c : Int) : Calls Tryd.prog 24 #[ptr p, .int .i64 c] w fun e w' => e = .returned (.tuple #[.int .i64 (runsN h c), .bool (runsB h c)]) ∧ Sep w0 r w' (tT p F h :: R) := by
  obtain ⟨v, u, qs, t⟩ := s.head.1.at
  exact (runs_any t (by have := s.inv.few; omega) c).mono fun _ _ ⟨he, b⟩ => ⟨he, s.below b⟩
theorem lines_sep (s : Sep w0 r w (tT p F h :: R)) (c pr : Int) : Calls Tryd.prog 26 #[ptr p, .int .i64 c, .int .i64 pr] w fun e w' => ∃ x, e = .returned x ∧ Sep w0 r w' (tT p F h :: lstI x (lineH h c pr) :: R) := by
  obtain ⟨v, u, qs, t⟩ := s.head.1.at
  exact (lines_any t s.inv c pr).mono fun _ _ ⟨x, he, h1, b, n⟩ => ⟨x, he, s.told (u := lstI x (lineH h c pr)) h1 b fun y hy => n y hy⟩
theorem resume_sep (s : Sep w0 r w (tT p F h :: R)) (i : Int) : Calls Tryd.prog 10 #[ptr p, .int .i64 i] w fun e w' => e = .returned (.int .i64 (resumeE h i)) ∧ ∃ F', Sep w0 r w' (tT p F' (resumeH h i) :: R) := by
  obtain ⟨v, u, qs, t⟩ := s.head.1.at
  exact (resume_at t s.inv i).mono fun _ _ ⟨he, t'⟩ => ⟨he, s.goT t'.goes (inv_resume s.inv i)⟩
theorem suspend_sep (s : Sep w0 r w (tT p F h :: R)) (i : Int) : Calls Tryd.prog 11 #[ptr p, .int .i64 i] w fun e w' => e = .returned (.int .i64 (suspendE h i)) ∧ ∃ F', Sep w0 r w' (tT p F' (suspendH h i) :: R) := by
  obtain ⟨v, u, qs, t⟩ := s.head.1.at
  exact (suspend_at t s.inv i).mono fun _ _ ⟨he, t'⟩ => ⟨he, s.goT t'.goes (inv_suspend s.inv i)⟩
theorem block_sep (s : Sep w0 r w (tT p F h :: R)) (i : Int) : Calls Tryd.prog 12 #[ptr p, .int .i64 i] w fun e w' => e = .returned (.int .i64 (blockE h i)) ∧ ∃ F', Sep w0 r w' (tT p F' (blockH h i) :: R) := by
  obtain ⟨v, u, qs, t⟩ := s.head.1.at
  exact (block_at t s.inv i).mono fun _ _ ⟨he, t'⟩ => ⟨he, s.goT t'.goes (inv_block s.inv i)⟩
theorem reg_sep (s : Sep w0 r w (tT p F h :: R)) (i k z : Int) (hz : 0 ≤ z ∧ z ≤ 18446744073709551615) : Calls Tryd.prog 15 #[ptr p, .int .i64 i, .int .i64 k, .int .u64 z] w fun e w' => e = .returned (.int .i64 (regE h i k)) ∧ ∃ F', Sep w0 r w' (tT p F' (regH h i k z) :: R) := by
  obtain ⟨v, u, qs, t⟩ := s.head.1.at
  exact (reg_at t s.inv i k z).mono fun _ _ ⟨he, t'⟩ => ⟨he, s.goT t'.goes (inv_reg s.inv i k z hz)⟩
theorem prio_sep (s : Sep w0 r w (tT p F h :: R)) (i k : Int) : Calls Tryd.prog 13 #[ptr p, .int .i64 i, .int .i64 k] w fun e w' => e = .returned (.int .i64 (prioE h i k)) ∧ ∃ F', Sep w0 r w' (tT p F' (prioH h i k) :: R) := by
  obtain ⟨v, u, qs, t⟩ := s.head.1.at
  exact (prio_at t s.inv i k).mono fun _ _ ⟨he, t'⟩ => ⟨he, s.goT t'.goes (inv_prio s.inv i k)⟩
theorem core_sep (s : Sep w0 r w (tT p F h :: R)) (i k : Int) : Calls Tryd.prog 14 #[ptr p, .int .i64 i, .int .i64 k] w fun e w' => e = .returned (.int .i64 (coreE h i k)) ∧ ∃ F', Sep w0 r w' (tT p F' (coreH h i k) :: R) := by
  obtain ⟨v, u, qs, t⟩ := s.head.1.at
  exact (core_at t s.inv i k).mono fun _ _ ⟨he, t'⟩ => ⟨he, s.goT t'.goes (inv_core s.inv i k)⟩
theorem pick_sep (s : Sep w0 r w (tT p F h :: R)) (ht : ∀ u, Below r w0 u → Tab u) (c : Int) : Calls Tryd.prog 16 #[ptr p, .int .i64 c] w fun e w' => e = .returned (.tuple #[.int .i64 (runsN (pickH h c) c), .bool (runsB (pickH h c) c)]) ∧ ∃ F', Sep w0 r w' (tT p F' (pickH h c) :: R) := by
  obtain ⟨v, u, qs, t⟩ := s.head.1.at
  exact (pick_at t (s.tabT ht) s.inv c).mono fun _ _ ⟨he, t'⟩ => ⟨he, s.goT t'.goes (inv_pick s.inv c)⟩
theorem yield_sep (s : Sep w0 r w (tT p F h :: R)) (ht : ∀ u, Below r w0 u → Tab u) (c : Int) : Calls Tryd.prog 17 #[ptr p, .int .i64 c] w fun e w' => e = .returned (.bool (runsB h c)) ∧ ∃ F', Sep w0 r w' (tT p F' (yieldH h c) :: R) := by
  obtain ⟨v, u, qs, t⟩ := s.head.1.at
  exact (yield_at t (s.tabT ht) s.inv c).mono fun _ _ ⟨he, t'⟩ => ⟨he, s.goT t'.goes (inv_yield s.inv c)⟩
theorem tick_sep (s : Sep w0 r w (tT p F h :: R)) (ht : ∀ u, Below r w0 u → Tab u) (c : Int) : Calls Tryd.prog 18 #[ptr p, .int .i64 c] w fun e w' => e = .returned (.bool (runsB h c)) ∧ ∃ F', Sep w0 r w' (tT p F' (tickH h c) :: R) := by
  obtain ⟨v, u, qs, t⟩ := s.head.1.at
  exact (tick_at t (s.tabT ht) s.inv c).mono fun _ _ ⟨he, t'⟩ => ⟨he, s.goT t'.goes (inv_tick s.inv c)⟩
end
end Go.Proofs.YtchamgecalfmpabDoor
