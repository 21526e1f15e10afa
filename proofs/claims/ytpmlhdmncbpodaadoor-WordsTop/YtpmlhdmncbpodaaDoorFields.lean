/-
  What ones, within, Mask, Field, With and Up of package words return, for every word and every place: each contract names its conditions.
-/
import Derived.Test.YtpmlhdmncbpodaaDoorProg
import Derived.Test.YtpmlhdmncbpodaaDoorMath
import Derived.WalkKit
import Derived.WalkLawsBesides
namespace Go.Proofs.YtpmlhdmncbpodaaDoor
open Go.RowKit

theorem ret_one {a b : Value} (h : a = b) : Ending.returned a = .returned b := by rw [h]
theorem ret_two {k j : IntKind} {a b c d : Int} (h : a = b) (g : c = d) : Ending.returned (.tuple #[.int k a, .int j c]) = .returned (.tuple #[.int k b, .int j d]) := by rw [h, g]
theorem ret_int {k : IntKind} {a b : Int} (h : a = b) : Ending.returned (.int k a) = .returned (.int k b) := by rw [h]

theorem ones_any (n : Int) (w : World) (h0 : 0 ≤ n) (h1 : n ≤ 64) :
    Calls Tryd.prog 25 #[.int .i64 n] w fun e w' => e = .returned (.int .u64 (onesI n)) ∧ w' = w := by
  go_enter Tryd.func25, Tryd.ntmps25
  go_wp2
  go_ret
  exact ⟨ret_int (ones_wrap n h0 h1), rfl⟩
theorem within_yes (a n : Int) (w : World) (h0 : 0 ≤ a) (h1 : 0 ≤ n) (h2 : n ≤ 64 - a) :
    Calls Tryd.prog 24 #[.int .i64 a, .int .i64 n] w fun e w' => e = .returned (.bool true) ∧ w' = w := by
  go_enter Tryd.func24, Tryd.ntmps24
  go_wp2
  go_ret
  exact ⟨rfl, rfl⟩
theorem within_no (a n : Int) (w : World) (h : ¬ (0 ≤ a ∧ 0 ≤ n ∧ n ≤ 64 - a)) (ha' : a ≤ 9223372036854775807) :
    Calls Tryd.prog 24 #[.int .i64 a, .int .i64 n] w fun e w' => e = .returned (.bool false) ∧ w' = w := by
  by_cases c1 : 0 ≤ a
  · by_cases c2 : 0 ≤ n
    · have c3 : ¬ n ≤ 64 - a := fun x => h ⟨c1, c2, x⟩
      clear h
      go_enter Tryd.func24, Tryd.ntmps24
      go_wp2
      go_ret
      exact ⟨rfl, rfl⟩
    · clear h
      go_enter Tryd.func24, Tryd.ntmps24
      go_wp2
      go_ret
      exact ⟨rfl, rfl⟩
  · clear h
    go_enter Tryd.func24, Tryd.ntmps24
    go_wp2
    go_ret
    exact ⟨rfl, rfl⟩
theorem mask_yes (n : Int) (w : World) (h0 : 0 ≤ n) (h1 : n ≤ 64) :
    Calls Tryd.prog 14 #[.int .i64 n] w fun e w' => e = .returned (.tuple #[.int .u64 (onesI n), .int .i64 0]) ∧ w' = w := by
  go_enter Tryd.func14, Tryd.ntmps14
  go_wp2_with (go_at_call 25; refine (ones_any _ _ (by omega) (by omega)).mono ?_; rintro e w' ⟨rfl, rfl⟩)
  go_ret2
  exact ⟨rfl, rfl⟩
theorem mask_no (n : Int) (w : World) (h : ¬ (0 ≤ n ∧ n ≤ 64)) :
    Calls Tryd.prog 14 #[.int .i64 n] w fun e w' => e = .returned (.tuple #[.int .u64 0, .int .i64 1]) ∧ w' = w := by
  by_cases c : 0 ≤ n
  · have c2 : 64 < n := by omega
    clear h
    go_enter Tryd.func14, Tryd.ntmps14
    go_wp2
    go_ret2
    exact ⟨rfl, rfl⟩
  · clear h
    go_enter Tryd.func14, Tryd.ntmps14
    go_wp2
    go_ret2
    exact ⟨rfl, rfl⟩
theorem field_yes (v a n : Int) (w : World) (v0 : 0 ≤ v) (v1 : v ≤ 18446744073709551615) (h0 : 0 ≤ a) (h1 : 0 ≤ n) (h2 : n ≤ 64 - a) :
    Calls Tryd.prog 9 #[.int .u64 v, .int .i64 a, .int .i64 n] w fun e w' => e = .returned (.tuple #[.int .u64 (fieldI v a n), .int .i64 0]) ∧ w' = w := by
  go_enter Tryd.func9, Tryd.ntmps9
  go_wp2_with (first | (go_at_call 25; refine (ones_any _ _ (by omega) (by omega)).mono ?_; rintro e w' ⟨rfl, rfl⟩) | (go_at_call 24; refine (within_yes _ _ _ (by omega) (by omega) (by omega)).mono ?_; rintro e w' ⟨rfl, rfl⟩))
  go_ret2
  exact ⟨ret_two (field_bits v a n v0 v1 h0 h1 (by omega)) rfl, rfl⟩
theorem field_no (v a n : Int) (w : World) (h : ¬ (0 ≤ a ∧ 0 ≤ n ∧ n ≤ 64 - a)) (ha' : a ≤ 9223372036854775807) :
    Calls Tryd.prog 9 #[.int .u64 v, .int .i64 a, .int .i64 n] w fun e w' => e = .returned (.tuple #[.int .u64 0, .int .i64 1]) ∧ w' = w := by
  have H : Hid (¬ (0 ≤ a ∧ 0 ≤ n ∧ n ≤ 64 - a)) := h
  clear h
  go_enter Tryd.func9, Tryd.ntmps9
  go_wp2_with (go_at_call 24; refine (within_no _ _ _ H.out ha').mono ?_; rintro e w' ⟨rfl, rfl⟩)
  go_ret2
  exact ⟨rfl, rfl⟩
theorem with_yes (v a n x : Int) (w : World) (v0 : 0 ≤ v) (v1 : v ≤ 18446744073709551615) (h0 : 0 ≤ a) (h1 : 0 ≤ n) (h2 : n ≤ 64 - a) (x0 : 0 ≤ x) (x1 : x ≤ onesI n) :
    Calls Tryd.prog 11 #[.int .u64 v, .int .i64 a, .int .i64 n, .int .u64 x] w fun e w' => e = .returned (.tuple #[.int .u64 (withI v a n x), .int .i64 0]) ∧ w' = w := by
  go_enter Tryd.func11, Tryd.ntmps11
  go_wp2_with (first | (go_at_call 25; refine (ones_any _ _ (by omega) (by omega)).mono ?_; rintro e w' ⟨rfl, rfl⟩) | (go_at_call 24; refine (within_yes _ _ _ (by omega) (by omega) (by omega)).mono ?_; rintro e w' ⟨rfl, rfl⟩))
  go_ret2
  exact ⟨ret_two (with_bits v a n x v0 v1 h0 h1 h2 x0 x1) rfl, rfl⟩
theorem with_big (v a n x : Int) (w : World) (h0 : 0 ≤ a) (h1 : 0 ≤ n) (h2 : n ≤ 64 - a) (x1 : onesI n < x) :
    Calls Tryd.prog 11 #[.int .u64 v, .int .i64 a, .int .i64 n, .int .u64 x] w fun e w' => e = .returned (.tuple #[.int .u64 0, .int .i64 2]) ∧ w' = w := by
  go_enter Tryd.func11, Tryd.ntmps11
  go_wp2_with (first | (go_at_call 25; refine (ones_any _ _ (by omega) (by omega)).mono ?_; rintro e w' ⟨rfl, rfl⟩) | (go_at_call 24; refine (within_yes _ _ _ (by omega) (by omega) (by omega)).mono ?_; rintro e w' ⟨rfl, rfl⟩))
  go_ret2
  exact ⟨rfl, rfl⟩
theorem with_no (v a n x : Int) (w : World) (h : ¬ (0 ≤ a ∧ 0 ≤ n ∧ n ≤ 64 - a)) (ha' : a ≤ 9223372036854775807) :
    Calls Tryd.prog 11 #[.int .u64 v, .int .i64 a, .int .i64 n, .int .u64 x] w fun e w' => e = .returned (.tuple #[.int .u64 0, .int .i64 1]) ∧ w' = w := by
  have H : Hid (¬ (0 ≤ a ∧ 0 ≤ n ∧ n ≤ 64 - a)) := h
  clear h
  go_enter Tryd.func11, Tryd.ntmps11
  go_wp2_with (go_at_call 24; refine (within_no _ _ _ H.out ha').mono ?_; rintro e w' ⟨rfl, rfl⟩)
  go_ret2
  exact ⟨rfl, rfl⟩
theorem up_yes (v n : Int) (w : World) (v0 : 0 ≤ v) (h0 : 0 ≤ n) (h2 : n ≤ 63) (hv : v ≤ notI (onesI n)) :
    Calls Tryd.prog 16 #[.int .u64 v, .int .i64 n] w fun e w' => e = .returned (.tuple #[.int .u64 (upI v n), .int .i64 0]) ∧ w' = w := by
  have hb := onesI_bd n (by omega) (by omega)
  have hn : v + onesI n ≤ 18446744073709551615 := by unfold notI at hv; omega
  have hs : IntKind.u64.signed = false := rfl
  have hx := not_bits (onesI n) hb.1 hb.2
  go_enter Tryd.func16, Tryd.ntmps16
  go_wp2_with (go_at_call 25; refine (ones_any _ _ (by omega) (by omega)).mono ?_; rintro e w' ⟨rfl, rfl⟩)
  go_ret2
  exact ⟨ret_two (up_bits v n v0 h0 h2 hv) rfl, rfl⟩
theorem up_big (v n : Int) (w : World) (h0 : 0 ≤ n) (h2 : n ≤ 63) (hv : notI (onesI n) < v) :
    Calls Tryd.prog 16 #[.int .u64 v, .int .i64 n] w fun e w' => e = .returned (.tuple #[.int .u64 0, .int .i64 2]) ∧ w' = w := by
  have hb := onesI_bd n (by omega) (by omega)
  have hs : IntKind.u64.signed = false := rfl
  have hx := not_bits (onesI n) hb.1 hb.2
  go_enter Tryd.func16, Tryd.ntmps16
  go_wp2_with (go_at_call 25; refine (ones_any _ _ (by omega) (by omega)).mono ?_; rintro e w' ⟨rfl, rfl⟩)
  go_ret2
  exact ⟨rfl, rfl⟩
theorem up_no (v n : Int) (w : World) (h : ¬ (0 ≤ n ∧ n ≤ 63)) :
    Calls Tryd.prog 16 #[.int .u64 v, .int .i64 n] w fun e w' => e = .returned (.tuple #[.int .u64 0, .int .i64 1]) ∧ w' = w := by
  by_cases c : 0 ≤ n
  · have c2 : 64 ≤ n := by omega
    clear h
    go_enter Tryd.func16, Tryd.ntmps16
    go_wp2
    go_ret2
    exact ⟨rfl, rfl⟩
  · clear h
    go_enter Tryd.func16, Tryd.ntmps16
    go_wp2
    go_ret2
    exact ⟨rfl, rfl⟩
end Go.Proofs.YtpmlhdmncbpodaaDoor
