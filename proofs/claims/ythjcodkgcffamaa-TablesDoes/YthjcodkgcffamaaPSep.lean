/-
  The calls of package tables among things that lie apart, what they answer behind letters; no condition.
-/
import Derived.Test.YthjcodkgcffamaaPSame
namespace Go.Proofs.Ythjcodkgcffamaa
open Go.RowKit Go.Deep Go.Shelf
section
variable {w0 w : World} {r p : Nat} {m : Nat → Option Nat} {S T : Sp} {R : List Th}
abbrev objP (x : Pg) : Obj := .cells #[.int .i64 x.fr, .int .i64 x.rt] 31
theorem Sep.pageAt {q : Nat} {x : Pg} (h : Sep w0 r w R) (hm : blk q (objP x) ∈ R) : w.cell? ⟨q, 0, none⟩ = some (.int .i64 x.fr) ∧ w.cell? ⟨q, 1, none⟩ = some (.int .i64 x.rt) := by
  have h1 : w.heap[q]? = some (objP x) := (h.each _ hm).1
  unfold objP at h1
  exact ⟨by simp [World.cell?, h1], by simp [World.cell?, h1]⟩
theorem Sep.laidAt {q : Nat} {x : La} (h : Sep w0 r w R) (hm : blk q (objL x) ∈ R) : w.cell? ⟨q, 0, none⟩ = some (.int .i64 x.1) ∧ w.cell? ⟨q, 1, none⟩ = some (.int .i64 x.2.fr) ∧ w.cell? ⟨q, 2, none⟩ = some (.int .i64 x.2.rt) := by
  have h1 : w.heap[q]? = some (objL x) := (h.each _ hm).1
  unfold objL at h1
  exact ⟨by simp [World.cell?, h1], by simp [World.cell?, h1], by simp [World.cell?, h1]⟩
theorem tab_is (s : Sep w0 r w (spT p m S :: R)) (i n : Int) {E : Int} (hE : tabE S i n = E) (hT : tabS S i n = T) : Calls Try.prog 10 #[ptr p, .int .i64 i, .int .i64 n] w fun e w' => e = .returned (.int .i64 E) ∧ ∃ m', Sep w0 r w' (spT p m' T :: R) := by
  subst hE hT
  exact table_sep s i n
theorem drp_is (s : Sep w0 r w (spT p m S :: R)) (i : Int) {E : Int} {L : List La} (hE : drpE S i = E) (hL : drpL S i = L) (hT : drpS S i = T) : Calls Try.prog 12 #[ptr p, .int .i64 i] w fun e w' => ∃ v m', e = .returned (.tuple #[v, .int .i64 E]) ∧ Sep w0 r w' (spT p m' T :: lstL v L :: R) := by
  subst hE hT hL
  exact drop_sep s i
theorem mp_is (s : Sep w0 r w (spT p m S :: R)) (n a c : Int) {E : Int} (hE : mapE S n ⟨a, c⟩ = E) (hT : mapS S n ⟨a, c⟩ = T) : Calls Try.prog 14 #[ptr p, .int .i64 n, .agg #[.int .i64 a, .int .i64 c]] w fun e w' => e = .returned (.int .i64 E) ∧ Sep w0 r w' (spT p m T :: R) := by
  subst hE hT
  exact map_sep s n ⟨a, c⟩
theorem rgt_is (s : Sep w0 r w (spT p m S :: R)) (n t : Int) {E : Int} (hE : rgtE S n t = E) (hT : rgtS S n t = T) : Calls Try.prog 16 #[ptr p, .int .i64 n, .int .i64 t] w fun e w' => e = .returned (.int .i64 E) ∧ Sep w0 r w' (spT p m T :: R) := by
  subst hE hT
  exact rights_sep s n t
theorem unm_is (s : Sep w0 r w (spT p m S :: R)) (n : Int) {a c E : Int} (hp : wlkP S n = ⟨a, c⟩) (hE : unmE S n = E) (hT : unmS S n = T) : Calls Try.prog 18 #[ptr p, .int .i64 n] w fun e w' => e = .returned (.tuple #[.agg #[.int .i64 a, .int .i64 c], .int .i64 E]) ∧ Sep w0 r w' (spT p m T :: R) := by
  subst hE hT
  have := unmap_sep s n
  rw [hp] at this
  exact this
theorem wlk_is (s : Sep w0 r w (spT p m S :: R)) (n : Int) {a c : Int} {q : Bool} (hp : wlkP S n = ⟨a, c⟩) (hq : wlkB S n = q) : Calls Try.prog 21 #[ptr p, .int .i64 n] w fun e w' => e = .returned (.tuple #[.agg #[.int .i64 a, .int .i64 c], .bool q]) ∧ Sep w0 r w' (spT p m S :: R) := by
  subst hq
  have := walk_sep s n
  rw [hp] at this
  exact this
theorem hs_is (s : Sep w0 r w (spT p m S :: R)) (i : Int) {n : Int} {q : Bool} (hn : hasN S i = n) (hq : hasB S i = q) : Calls Try.prog 23 #[ptr p, .int .i64 i] w fun e w' => e = .returned (.tuple #[.int .i64 n, .bool q]) ∧ Sep w0 r w' (spT p m S :: R) := by
  subst hn hq
  exact has_sep s i
theorem frm_is (s : Sep w0 r w (spT p m S :: R)) (fr : Int) {L : List Int} (hL : frmL S.f fr = L) : Calls Try.prog 29 #[ptr p, .int .i64 fr] w fun e w' => ∃ v, e = .returned v ∧ Sep w0 r w' (spT p m S :: lstI v L :: R) := by
  subst hL
  exact frames_sep s fr
theorem pgs_is (s : Sep w0 r w (spT p m S :: R)) {L : List La} (hL : allP S.f = L) : Calls Try.prog 26 #[ptr p] w fun e w' => ∃ v, e = .returned v ∧ Sep w0 r w' (spT p m S :: lstL v L :: R) := by
  subst hL
  exact pages_sep s
end
end Go.Proofs.Ythjcodkgcffamaa
