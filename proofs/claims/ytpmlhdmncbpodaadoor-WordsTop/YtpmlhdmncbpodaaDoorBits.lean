/-
  What numbered, bit and Has of package words return, for every four words and every number of a bit, word by word: each contract names its conditions.
-/
import Derived.Test.YtpmlhdmncbpodaaDoorFields
import Derived.Deep.QuietTactic
import Derived.BigQuiet
namespace Go.Proofs.YtpmlhdmncbpodaaDoor
open Go.RowKit

theorem numbered_yes (n : Int) (w : World) (h0 : 0 ≤ n) (h1 : n < 256) :
    Calls Tryd.prog 28 #[.int .i64 n] w fun e w' => e = .returned (.bool true) ∧ w' = w := by
  go_enter Tryd.func28, Tryd.ntmps28
  go_wp2
  go_ret
  exact ⟨rfl, rfl⟩
theorem numbered_no (n : Int) (w : World) (h : ¬ (0 ≤ n ∧ n < 256)) :
    Calls Tryd.prog 28 #[.int .i64 n] w fun e w' => e = .returned (.bool false) ∧ w' = w := by
  by_cases c : 0 ≤ n
  · have c2 : decide (n < 256) = false := by simp; omega
    clear h
    go_enter Tryd.func28, Tryd.ntmps28
    go_wp2
    go_ret
    exact ⟨rfl, rfl⟩
  · clear h
    go_enter Tryd.func28, Tryd.ntmps28
    go_wp2
    go_ret
    exact ⟨rfl, rfl⟩
theorem bit_any (n : Int) (w : World) (h0 : 0 ≤ n) (h1 : n < 256) :
    Calls Tryd.prog 29 #[.int .i64 n] w fun e w' => e = .returned (.int .u64 (bitI n)) ∧ w' = w := by
  go_enter Tryd.func29, Tryd.ntmps29
  go_wp2
  go_ret
  exact ⟨ret_int (bit_wrap n), rfl⟩

theorem has_no (b0 b1 b2 b3 n : Int) (w : World) (h : ¬ (0 ≤ n ∧ n < 256)) :
    Calls Tryd.prog 20 #[.agg #[.int .u64 b0, .int .u64 b1, .int .u64 b2, .int .u64 b3], .int .i64 n] w fun e w' => e = .returned (.bool false) ∧ Below w.heap.size w w' := by
  have H : Hid (¬ (0 ≤ n ∧ n < 256)) := h
  clear h
  go_enter Tryd.func20, Tryd.ntmps20
  go_wp2_with fail
  go_quiet ((first | (go_at_call 28; exact Calls.quiet_of_same (numbered_no _ _ H.out))))
  go_wp2
  go_ret
  exact ⟨rfl, below_drewN ((Below.refl _ _).alloc (Nat.le_refl _) _) _⟩
theorem has_0 (b0 b1 b2 b3 n : Int) (w : World) (h0 : 0 ≤ n) (h1 : n < 64) (z : Bool) (hz : (bits BinOp.and .u64 b0 (bitI n) != 0) = z) :
    Calls Tryd.prog 20 #[.agg #[.int .u64 b0, .int .u64 b1, .int .u64 b2, .int .u64 b3], .int .i64 n] w fun e w' => e = .returned (.bool z) ∧ Below w.heap.size w w' := by
  have hq : n / 64 = 0 := by omega
  go_enter Tryd.func20, Tryd.ntmps20
  go_wp2_with fail
  go_quiet ((first | (go_at_call 28; exact Calls.quiet_of_same (numbered_yes _ _ (by omega) (by omega))) | (go_at_call 29; exact Calls.quiet_of_same (bit_any _ _ (by omega) (by omega)))))
  go_wp2
  go_ret
  exact ⟨rfl, below_drewN ((Below.refl _ _).alloc (Nat.le_refl _) _) _⟩
theorem has_1 (b0 b1 b2 b3 n : Int) (w : World) (h0 : 64 ≤ n) (h1 : n < 128) (z : Bool) (hz : (bits BinOp.and .u64 b1 (bitI n) != 0) = z) :
    Calls Tryd.prog 20 #[.agg #[.int .u64 b0, .int .u64 b1, .int .u64 b2, .int .u64 b3], .int .i64 n] w fun e w' => e = .returned (.bool z) ∧ Below w.heap.size w w' := by
  have hq : n / 64 = 1 := by omega
  go_enter Tryd.func20, Tryd.ntmps20
  go_wp2_with fail
  go_quiet ((first | (go_at_call 28; exact Calls.quiet_of_same (numbered_yes _ _ (by omega) (by omega))) | (go_at_call 29; exact Calls.quiet_of_same (bit_any _ _ (by omega) (by omega)))))
  go_wp2
  go_ret
  exact ⟨rfl, below_drewN ((Below.refl _ _).alloc (Nat.le_refl _) _) _⟩
theorem has_2 (b0 b1 b2 b3 n : Int) (w : World) (h0 : 128 ≤ n) (h1 : n < 192) (z : Bool) (hz : (bits BinOp.and .u64 b2 (bitI n) != 0) = z) :
    Calls Tryd.prog 20 #[.agg #[.int .u64 b0, .int .u64 b1, .int .u64 b2, .int .u64 b3], .int .i64 n] w fun e w' => e = .returned (.bool z) ∧ Below w.heap.size w w' := by
  have hq : n / 64 = 2 := by omega
  go_enter Tryd.func20, Tryd.ntmps20
  go_wp2_with fail
  go_quiet ((first | (go_at_call 28; exact Calls.quiet_of_same (numbered_yes _ _ (by omega) (by omega))) | (go_at_call 29; exact Calls.quiet_of_same (bit_any _ _ (by omega) (by omega)))))
  go_wp2
  go_ret
  exact ⟨rfl, below_drewN ((Below.refl _ _).alloc (Nat.le_refl _) _) _⟩
theorem has_3 (b0 b1 b2 b3 n : Int) (w : World) (h0 : 192 ≤ n) (h1 : n < 256) (z : Bool) (hz : (bits BinOp.and .u64 b3 (bitI n) != 0) = z) :
    Calls Tryd.prog 20 #[.agg #[.int .u64 b0, .int .u64 b1, .int .u64 b2, .int .u64 b3], .int .i64 n] w fun e w' => e = .returned (.bool z) ∧ Below w.heap.size w w' := by
  have hq : n / 64 = 3 := by omega
  go_enter Tryd.func20, Tryd.ntmps20
  go_wp2_with fail
  go_quiet ((first | (go_at_call 28; exact Calls.quiet_of_same (numbered_yes _ _ (by omega) (by omega))) | (go_at_call 29; exact Calls.quiet_of_same (bit_any _ _ (by omega) (by omega)))))
  go_wp2
  go_ret
  exact ⟨rfl, below_drewN ((Below.refl _ _).alloc (Nat.le_refl _) _) _⟩
end Go.Proofs.YtpmlhdmncbpodaaDoor
