/-
  Two arrays of four words are equal just if their words are: the model's own comparison, run; no condition.
-/
import Derived.Test.YtnjmjhmngjodcaaDoorWBits
namespace Go.Proofs.YtnjmjhmngjodcaaDoor
open Go.RowKit
theorem part_at (w : World) (a0 a1 a2 a3 : Int) :
    (part 41 #[.int .u64 a0, .int .u64 a1, .int .u64 a2, .int .u64 a3] 0).run Tryd.prog w = .ok (.int .u64 a0) w ∧
    (part 41 #[.int .u64 a0, .int .u64 a1, .int .u64 a2, .int .u64 a3] 1).run Tryd.prog w = .ok (.int .u64 a1) w ∧
    (part 41 #[.int .u64 a0, .int .u64 a1, .int .u64 a2, .int .u64 a3] 2).run Tryd.prog w = .ok (.int .u64 a2) w ∧
    (part 41 #[.int .u64 a0, .int .u64 a1, .int .u64 a2, .int .u64 a3] 3).run Tryd.prog w = .ok (.int .u64 a3) w :=
  ⟨by kernel_rfl, by kernel_rfl, by kernel_rfl, by kernel_rfl⟩
theorem size_one (w : World) : (sizeOf 41).run Tryd.prog w = .ok 1 w := by kernel_rfl
theorem eq_bits (d : Nat) (w : World) (a0 a1 a2 a3 c0 c1 c2 c3 : Int) :
    (Op.equalIn (d + 2) 43 (.agg #[.int .u64 a0, .int .u64 a1, .int .u64 a2, .int .u64 a3]) (.agg #[.int .u64 c0, .int .u64 c1, .int .u64 c2, .int .u64 c3])).run Tryd.prog w
      = .ok (a0 == c0 && (a1 == c1 && (a2 == c2 && a3 == c3))) w := by
  obtain ⟨p0, p1, p2, p3⟩ := part_at w a0 a1 a2 a3
  obtain ⟨q0, q1, q2, q3⟩ := part_at w c0 c1 c2 c3
  have hu : Tryd.prog.underlying 43 = some (.array 4 41) := Tryd.underlying43
  have hi := fun a c => run_equalIn_int (P := Tryd.prog) w d 41 .u64 .u64 a c Tryd.underlying41
  unfold Op.equalIn
  simp only [Sem.run_bind, run_underlying hu, Result.andThen_ok, size_one]
  rw [Std.Legacy.Range.forIn_eq_forIn_range']
  have hr : List.range' 0 4 1 = [0, 1, 2, 3] := rfl
  simp only [Std.Legacy.Range.size, Nat.sub_zero, Nat.add_sub_cancel, Nat.div_one, hr, List.forIn_cons, List.forIn_nil, Sem.run_bind, Nat.mul_one, p0, q0, hi, Result.andThen_ok]
  cases h0 : (a0 == c0)
  · simp only [Bool.not_false, if_true, Sem.run_pure, Result.andThen_ok, Bool.false_and]
  simp only [Bool.not_true, Bool.false_eq_true, if_false, Sem.run_pure, Result.andThen_ok, Sem.run_bind, Bool.true_and, p1, q1, hi]
  cases h1 : (a1 == c1)
  · simp only [Bool.not_false, if_true, Sem.run_pure, Result.andThen_ok, Bool.false_and]
  simp only [Bool.not_true, Bool.false_eq_true, if_false, Sem.run_pure, Result.andThen_ok, Sem.run_bind, Bool.true_and, p2, q2, hi]
  cases h2 : (a2 == c2)
  · simp only [Bool.not_false, if_true, Sem.run_pure, Result.andThen_ok, Bool.false_and]
  simp only [Bool.not_true, Bool.false_eq_true, if_false, Sem.run_pure, Result.andThen_ok, Sem.run_bind, Bool.true_and, p3, q3, hi]
  cases h3 : (a3 == c3)
  · simp only [Bool.not_false, if_true, Sem.run_pure, Result.andThen_ok]
  · simp only [Bool.not_true, Bool.false_eq_true, if_false, Sem.run_pure, Result.andThen_ok]
end Go.Proofs.YtnjmjhmngjodcaaDoor
