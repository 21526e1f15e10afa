/-
  Two pages, and two that are told, are equal just if their fields are: the model's own comparison, run; no condition.
-/
import Derived.Test.YthjcodkgcffamaaPNums
import Derived.Test.YthjcodkgcffamaaPTell
namespace Go.Proofs.Ythjcodkgcffamaa
open Go.RowKit Go.Deep Go.Shelf
def pgB (x y : Pg) : Bool := x.fr == y.fr && x.rt == y.rt
def laB (x y : La) : Bool := x.1 == y.1 && pgB x.2 y.2
theorem pgB_iff {x y : Pg} : pgB x y = true ↔ x = y := by
  obtain ⟨a, b⟩ := x
  obtain ⟨c, d⟩ := y
  simp [pgB]
theorem laB_iff {x y : La} : laB x y = true ↔ x = y := by
  obtain ⟨a, b⟩ := x
  obtain ⟨c, d⟩ := y
  simp [laB, pgB_iff]
theorem pgB_self (x : Pg) : pgB x x = true := pgB_iff.2 rfl
theorem laB_self (x : La) : laB x x = true := laB_iff.2 rfl
theorem eq_page_at (d : Nat) (w : World) (a b a' b' : Int) : (Op.equalIn (d + 2) 31 (.agg #[.int .i64 a, .int .i64 b]) (.agg #[.int .i64 a', .int .i64 b'])).run Try.prog w = .ok (pgB ⟨a, b⟩ ⟨a', b'⟩) w := by
  have u3 := Try.underlying3
  have a3 := Try.isAgg3
  have z3 := Try.sizeOf3
  have hS : Try.prog.underlying 31 = some (.struct (Try.prog.fieldsOf 31)) := by kernel_rfl
  have hp : Try.prog.stoodInHeld 31 = false := by kernel_rfl
  rw [run_equalIn_agg w (d + 1) 31 _ _ hS hp]
  simp only [Program.fieldsOf, Try.underlying31]
  go_simp
  unfold pgB
  by_cases h1 : a = a' <;> by_cases h2 : b = b' <;> simp [h1, h2]
theorem eq_page (w : World) (a b a' b' : Int) : (Op.equalIn 10000 31 (.agg #[.int .i64 a, .int .i64 b]) (.agg #[.int .i64 a', .int .i64 b'])).run Try.prog w = .ok (pgB ⟨a, b⟩ ⟨a', b'⟩) w := eq_page_at 9998 w a b a' b'
theorem eq_laid (w : World) (n a b n' a' b' : Int) : (Op.equalIn 10000 53 (.agg #[.int .i64 n, .int .i64 a, .int .i64 b]) (.agg #[.int .i64 n', .int .i64 a', .int .i64 b'])).run Try.prog w = .ok (laB (n, ⟨a, b⟩) (n', ⟨a', b'⟩)) w := by
  have a1 := Try.isAgg31
  have z1 := Try.sizeOf31
  have e1 := fun W => eq_page_at 9997 W a b a' b'
  have hS : Try.prog.underlying 53 = some (.struct (Try.prog.fieldsOf 53)) := by kernel_rfl
  have hp : Try.prog.stoodInHeld 53 = false := by kernel_rfl
  rw [show (10000 : Nat) = 9999 + 1 from rfl, run_equalIn_agg w 9999 53 _ _ hS hp]
  simp only [Program.fieldsOf, Try.underlying53]
  go_simp
  unfold laB
  cases pgB ⟨a, b⟩ ⟨a', b'⟩ <;> by_cases h1 : n = n' <;> simp [h1]
end Go.Proofs.Ythjcodkgcffamaa
