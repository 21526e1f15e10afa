/-
  What ones and Up of package words return: each contract names its conditions.
-/
import Derived.Test.YtkelblkegpmlpaaDoorProg
import Derived.Test.YtkelblkegpmlpaaDoorUMath
import Derived.WalkKit
import Derived.WalkLawsBesides
namespace Go.Proofs.YtkelblkegpmlpaaDoor
open Go.RowKit

theorem ret_one {a b : Value} (h : a = b) : Ending.returned a = .returned b := by rw [h]
theorem ret_two {k j : IntKind} {a b c d : Int} (h : a = b) (g : c = d) : Ending.returned (.tuple #[.int k a, .int j c]) = .returned (.tuple #[.int k b, .int j d]) := by rw [h, g]
theorem ret_int {k : IntKind} {a b : Int} (h : a = b) : Ending.returned (.int k a) = .returned (.int k b) := by rw [h]
theorem ret_bool {a b : Bool} (h : a = true ↔ b = true) : Ending.returned (.bool a) = .returned (.bool b) := by rw [Bool.eq_iff_iff.2 h]

theorem ones_any (n : Int) (w : World) (h0 : 0 ≤ n) (h1 : n ≤ 64) :
    Calls Tryd.prog 23 #[.int .i64 n] w fun e w' => e = .returned (.int .u64 (onesI n)) ∧ w' = w := by
  go_enter Tryd.func23, Tryd.ntmps23
  go_wp2
  go_ret
  exact ⟨ret_int (ones_wrap n h0 h1), rfl⟩
theorem up_yes (v n : Int) (w : World) (v0 : 0 ≤ v) (h0 : 0 ≤ n) (h2 : n ≤ 63) (hv : v ≤ notI (onesI n)) :
    Calls Tryd.prog 19 #[.int .u64 v, .int .i64 n] w fun e w' => e = .returned (.tuple #[.int .u64 (upI v n), .int .i64 0]) ∧ w' = w := by
  have hb := onesI_bd n (by omega) (by omega)
  have hn : v + onesI n ≤ 18446744073709551615 := by unfold notI at hv; omega
  have hs : IntKind.u64.signed = false := rfl
  have hx := not_bits (onesI n) hb.1 hb.2
  go_enter Tryd.func19, Tryd.ntmps19
  go_wp2_with (go_at_call 23; refine (ones_any _ _ (by omega) (by omega)).mono ?_; rintro e w' ⟨rfl, rfl⟩)
  go_ret2
  exact ⟨ret_two (up_bits v n v0 h0 h2 hv) rfl, rfl⟩
theorem power_any (n : Int) (w : World) (h0 : 0 ≤ n) (h1 : n ≤ 63) :
    Calls Tryd.prog 20 #[.int .i64 n] w fun e w' => e = .returned (.int .u64 (twoI n)) ∧ w' = w := by
  go_enter Tryd.func20, Tryd.ntmps20
  go_wp2
  go_ret
  exact ⟨ret_int (twoI_wrap n h0 h1), rfl⟩
end Go.Proofs.YtkelblkegpmlpaaDoor
