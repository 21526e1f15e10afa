/-
  Two messages, and two meetings, are equal just if their fields are: the model's own comparison, run; no condition.
-/
import Derived.Test.YtnondgeengjbpaaJBase
namespace Go.Proofs.Ytnondgeengjbpaa
open Go.RowKit Go.Deep Go.Shelf
open Classical
theorem part_at (w : World) (a0 a1 a2 a3 : Int) :
    (part 30 #[.int .u64 a0, .int .u64 a1, .int .u64 a2, .int .u64 a3] 0).run Try.prog w = .ok (.int .u64 a0) w ∧
    (part 30 #[.int .u64 a0, .int .u64 a1, .int .u64 a2, .int .u64 a3] 1).run Try.prog w = .ok (.int .u64 a1) w ∧
    (part 30 #[.int .u64 a0, .int .u64 a1, .int .u64 a2, .int .u64 a3] 2).run Try.prog w = .ok (.int .u64 a2) w ∧
    (part 30 #[.int .u64 a0, .int .u64 a1, .int .u64 a2, .int .u64 a3] 3).run Try.prog w = .ok (.int .u64 a3) w :=
  ⟨by kernel_rfl, by kernel_rfl, by kernel_rfl, by kernel_rfl⟩
theorem size_one (w : World) : (sizeOf 30).run Try.prog w = .ok 1 w := by kernel_rfl
theorem eq_four (d : Nat) (w : World) (a0 a1 a2 a3 c0 c1 c2 c3 : Int) :
    (Op.equalIn (d + 2) 31 (.agg #[.int .u64 a0, .int .u64 a1, .int .u64 a2, .int .u64 a3]) (.agg #[.int .u64 c0, .int .u64 c1, .int .u64 c2, .int .u64 c3])).run Try.prog w
      = .ok (a0 == c0 && (a1 == c1 && (a2 == c2 && a3 == c3))) w := by
  obtain ⟨p0, p1, p2, p3⟩ := part_at w a0 a1 a2 a3
  obtain ⟨q0, q1, q2, q3⟩ := part_at w c0 c1 c2 c3
  have hu : Try.prog.underlying 31 = some (.array 4 30) := Try.underlying31
  have hi := fun a c => run_equalIn_int (P := Try.prog) w d 30 .u64 .u64 a c Try.underlying30
  unfold Op.equalIn
  simp only [Sem.run_bind, run_underlying hu, Result.andThen_ok, size_one]
  rw [Std.Legacy.Range.forIn_eq_forIn_range']
  have hr : List.range' 0 4 1 = [0, 1, 2, 3] := rfl
  simp only [Std.Legacy.Range.size, Nat.sub_zero, Nat.add_sub_cancel, Nat.div_one, hr, List.forIn_cons, List.forIn_nil, Sem.run_bind, Nat.mul_one, p0, q0, hi, Result.andThen_ok]
  cases h0 : (a0 == c0)
  · simp only [Bool.not_false, if_true, Sem.run_pure, Result.andThen_ok, Bool.false_and]
  simp only [Bool.not_true, Bool.false_eq_true, if_false, Sem.run_pure, Result.andThen_ok, Sem.run_bind, Bool.true_and, p1, q1, hi]
  cases h1 : (a1 == c1)
  · simp only [Bool.not_false, if_true, Sem.run_pure, Result.andThen_ok, Bool.false_and]
  simp only [Bool.not_true, Bool.false_eq_true, if_false, Sem.run_pure, Result.andThen_ok, Sem.run_bind, Bool.true_and, p2, q2, hi]
  cases h2 : (a2 == c2)
  · simp only [Bool.not_false, if_true, Sem.run_pure, Result.andThen_ok, Bool.false_and]
  simp only [Bool.not_true, Bool.false_eq_true, if_false, Sem.run_pure, Result.andThen_ok, Sem.run_bind, Bool.true_and, p3, q3, hi]
  cases h3 : (a3 == c3)
  · simp only [Bool.not_false, if_true, Sem.run_pure, Result.andThen_ok]
  · simp only [Bool.not_true, Bool.false_eq_true, if_false, Sem.run_pure, Result.andThen_ok]
theorem eq_msg (d : Nat) (w : World) (m k : Ms) : (Op.equalIn (d + 3) 33 (encM m) (encM k)).run Try.prog w = .ok (decide (m = k)) w := by
  have h4 := fun d w a0 a1 a2 a3 c0 c1 c2 c3 => eq_four d w a0 a1 a2 a3 c0 c1 c2 c3
  have hS : Try.prog.underlying 33 = some (.struct (Try.prog.fieldsOf 33)) := by kernel_rfl
  have hp : Try.prog.stoodInHeld 33 = false := by kernel_rfl
  unfold encM
  rw [run_equalIn_agg w (d + 2) 33 _ _ hS hp]
  simp only [Program.fieldsOf, Try.underlying33]
  go_simp
  obtain ⟨l, a, b, c, e, g, q⟩ := m
  obtain ⟨l', a', b', c', e', g', q'⟩ := k
  simp only [Ms.mk.injEq]
  by_cases h1 : l = l' <;> by_cases h2 : a = a' <;> by_cases h3 : b = b' <;> by_cases h5 : c = c' <;> by_cases h6 : e = e' <;> by_cases h7 : g = g' <;> by_cases h8 : q = q' <;> simp [h1, h2, h3, h5, h6, h7, h8]
theorem eq_met (w : World) (x y : Mt) : (Op.equalIn 10000 37 (encT x) (encT y)).run Try.prog w = .ok (decide (x = y)) w := by
  have hm : ∀ (w : World) (m k : Ms), (Op.equalIn 9999 33 (encM m) (encM k)).run Try.prog w = .ok (decide (m = k)) w := fun w m k => eq_msg 9996 w m k
  unfold encM at hm
  have hS : Try.prog.underlying 37 = some (.struct (Try.prog.fieldsOf 37)) := by kernel_rfl
  have hp : Try.prog.stoodInHeld 37 = false := by kernel_rfl
  unfold encT
  rw [show (10000 : Nat) = 9999 + 1 from rfl, run_equalIn_agg w 9999 37 _ _ hS hp]
  simp only [Program.fieldsOf, Try.underlying37]
  go_simp
  obtain ⟨i, f, t, m⟩ := x
  obtain ⟨i', f', t', m'⟩ := y
  simp only [Mt.mk.injEq]
  by_cases h1 : i = i' <;> by_cases h2 : f = f' <;> by_cases h3 : t = t' <;> by_cases h5 : m = m' <;> simp [h1, h2, h3, h5]
end Go.Proofs.Ytnondgeengjbpaa
