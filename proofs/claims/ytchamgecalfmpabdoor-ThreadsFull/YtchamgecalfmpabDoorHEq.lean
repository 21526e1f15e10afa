/-
  A thread's struct is equal to itself: the model's own comparison, run; no condition.
-/
import Derived.Test.YtchamgecalfmpabDoorHBase
namespace Go.Proofs.YtchamgecalfmpabDoor
open Go.RowKit
theorem part8 (w : World) (a0 a1 a2 a3 a4 a5 a6 a7 : Int) : (part 28 #[.int .u64 a0, .int .u64 a1, .int .u64 a2, .int .u64 a3, .int .u64 a4, .int .u64 a5, .int .u64 a6, .int .u64 a7] 0).run Tryd.prog w = .ok (.int .u64 a0) w ∧
    (part 28 #[.int .u64 a0, .int .u64 a1, .int .u64 a2, .int .u64 a3, .int .u64 a4, .int .u64 a5, .int .u64 a6, .int .u64 a7] 1).run Tryd.prog w = .ok (.int .u64 a1) w ∧
    (part 28 #[.int .u64 a0, .int .u64 a1, .int .u64 a2, .int .u64 a3, .int .u64 a4, .int .u64 a5, .int .u64 a6, .int .u64 a7] 2).run Tryd.prog w = .ok (.int .u64 a2) w ∧
    (part 28 #[.int .u64 a0, .int .u64 a1, .int .u64 a2, .int .u64 a3, .int .u64 a4, .int .u64 a5, .int .u64 a6, .int .u64 a7] 3).run Tryd.prog w = .ok (.int .u64 a3) w ∧
    (part 28 #[.int .u64 a0, .int .u64 a1, .int .u64 a2, .int .u64 a3, .int .u64 a4, .int .u64 a5, .int .u64 a6, .int .u64 a7] 4).run Tryd.prog w = .ok (.int .u64 a4) w ∧
    (part 28 #[.int .u64 a0, .int .u64 a1, .int .u64 a2, .int .u64 a3, .int .u64 a4, .int .u64 a5, .int .u64 a6, .int .u64 a7] 5).run Tryd.prog w = .ok (.int .u64 a5) w ∧
    (part 28 #[.int .u64 a0, .int .u64 a1, .int .u64 a2, .int .u64 a3, .int .u64 a4, .int .u64 a5, .int .u64 a6, .int .u64 a7] 6).run Tryd.prog w = .ok (.int .u64 a6) w ∧
    (part 28 #[.int .u64 a0, .int .u64 a1, .int .u64 a2, .int .u64 a3, .int .u64 a4, .int .u64 a5, .int .u64 a6, .int .u64 a7] 7).run Tryd.prog w = .ok (.int .u64 a7) w :=
  ⟨by kernel_rfl, by kernel_rfl, by kernel_rfl, by kernel_rfl, by kernel_rfl, by kernel_rfl, by kernel_rfl, by kernel_rfl⟩
theorem size_u64 (w : World) : (sizeOf 28).run Tryd.prog w = .ok 1 w := by kernel_rfl
theorem eq_arr8 (d : Nat) (w : World) (a0 a1 a2 a3 a4 a5 a6 a7 : Int) : (Op.equalIn (d + 2) 29 (.agg #[.int .u64 a0, .int .u64 a1, .int .u64 a2, .int .u64 a3, .int .u64 a4, .int .u64 a5, .int .u64 a6, .int .u64 a7]) (.agg #[.int .u64 a0, .int .u64 a1, .int .u64 a2, .int .u64 a3, .int .u64 a4, .int .u64 a5, .int .u64 a6, .int .u64 a7])).run Tryd.prog w = .ok true w := by
  obtain ⟨p0, p1, p2, p3, p4, p5, p6, p7⟩ := part8 w a0 a1 a2 a3 a4 a5 a6 a7
  have hu : Tryd.prog.underlying 29 = some (.array 8 28) := Tryd.underlying29
  have hi : ∀ a : Int, (Op.equalIn (d + 1) 28 (.int .u64 a) (.int .u64 a)).run Tryd.prog w = .ok true w := fun a => by
    have := run_equalIn_int (P := Tryd.prog) w d 28 .u64 .u64 a a Tryd.underlying28
    simpa using this
  unfold Op.equalIn
  simp only [Sem.run_bind, run_underlying hu, Result.andThen_ok, size_u64]
  rw [Std.Legacy.Range.forIn_eq_forIn_range']
  have hr : List.range' 0 8 1 = [0, 1, 2, 3, 4, 5, 6, 7] := rfl
  simp only [Std.Legacy.Range.size, Nat.sub_zero, Nat.add_sub_cancel, Nat.div_one, hr, List.forIn_cons, List.forIn_nil, Sem.run_bind, Nat.mul_one, p0, p1, p2, p3, p4, p5, p6, p7, hi, Result.andThen_ok, Bool.not_true, Bool.false_eq_true, if_false, Sem.run_pure]
theorem eq_thread (x : Td) (w : World) : (Op.equalIn 10000 31 (.agg #[.int .i64 x.st, .int .i64 x.p, .int .i64 x.c, .int .i64 x.l, .int .u64 (rg x 0), .int .u64 (rg x 1), .int .u64 (rg x 2), .int .u64 (rg x 3), .int .u64 (rg x 4), .int .u64 (rg x 5), .int .u64 (rg x 6), .int .u64 (rg x 7)]) (.agg #[.int .i64 x.st, .int .i64 x.p, .int .i64 x.c, .int .i64 x.l, .int .u64 (rg x 0), .int .u64 (rg x 1), .int .u64 (rg x 2), .int .u64 (rg x 3), .int .u64 (rg x 4), .int .u64 (rg x 5), .int .u64 (rg x 6), .int .u64 (rg x 7)])).run Tryd.prog w = .ok true w := by
  have u3 := Tryd.underlying3
  have a3 := Tryd.isAgg3
  have z3 := Tryd.sizeOf3
  have a8 := Tryd.isAgg29
  have z8 := Tryd.sizeOf29
  have ha := fun W => eq_arr8 9997 W (rg x 0) (rg x 1) (rg x 2) (rg x 3) (rg x 4) (rg x 5) (rg x 6) (rg x 7)
  have hS : Tryd.prog.underlying 31 = some (.struct (Tryd.prog.fieldsOf 31)) := by kernel_rfl
  have hp : Tryd.prog.stoodInHeld 31 = false := by kernel_rfl
  rw [show (10000 : Nat) = 9999 + 1 from rfl, run_equalIn_agg w 9999 31 _ _ hS hp]
  simp only [Program.fieldsOf, Tryd.underlying31]
  go_simp
end Go.Proofs.YtchamgecalfmpabDoor
