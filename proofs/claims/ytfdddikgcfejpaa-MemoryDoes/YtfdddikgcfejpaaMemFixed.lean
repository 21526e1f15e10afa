/-
  The calls whose answers the document fixes (the law's own function fixed) answer as they should; a memory of 32 words with some laid in it; no condition of ours.
-/
import Derived.Test.YtfdddikgcfejpaaMemSame
namespace Go.Proofs.Ytfdddikgcfejpaa
open Go.RowKit Go.Deep
theorem below_new (v : World) (o : Obj) : Below v.heap.size v (v.alloc o) := (Below.refl _ _).alloc (Nat.le_refl _) _
theorem Below.then {B : Nat} {w u v : World} (h : Below B w u) (k : Below u.heap.size u v) (hB : B ≤ u.heap.size) : Below B w v := h.trans (k.mono hB)
theorem below_drewN (w : World) (n : Nat) : Below w.heap.size w (w.drewN n) := ⟨rfl, rfl, rfl, Nat.le_refl _, fun _ _ => rfl⟩
theorem told4 (v : World) (a b c d : Int) : Told (v.alloc (Obj.cells #[.int .u64 a, .int .u64 b, .int .u64 c, .int .u64 d] 30)) (some ⟨v.heap.size, 0, none⟩) [a, b, c, d] :=
  Row.told (show Row _ _ _ from by unfold Row; rw [blk_alloc_new]; rfl)
set_option maxHeartbeats 1000000 in
theorem fixed_any (w : World) :
    Calls Try.prog 17 #[] w fun e w' => e = .returned (.bool true) ∧ Below w.heap.size w w' := by
  go_enter Try.func17, Try.ntmps17
  go_wp2_with fail
  refine (new_yes 4 w (by decide) (by decide)).mono ?_
  rintro e w1 ⟨rfl, m1, b1⟩
  go_wp2_with fail
  refine (write_yes _ _ _ 1 7 w1 m1 (by decide) (by decide)).mono ?_
  rintro e w2 ⟨rfl, m2, u2⟩
  have b2 := u2.below b1 b1.size (Nat.le_refl _)
  clear m1 b1 u2
  go_wp2_with fail
  refine (move_yes _ _ _ 2 1 2 w2 m2 (by decide) (by decide) (by decide)).mono ?_
  rintro e w3 ⟨rfl, m3, u3⟩
  have b3 := u3.below b2 b2.size (Nat.le_refl _)
  rw [show moveL ((List.replicate 4 0).set 1 7) 2 1 2 = [0, 7, 7, 0] by decide] at m3
  clear m2 b2 u3
  go_wp2_with fail
  refine (words_yes _ _ _ 0 4 w3 m3 (by decide) (by decide)).mono ?_
  rintro e w4 ⟨rfl, r4, k4⟩
  rw [show wordsL [0, 7, 7, 0] 0 4 = [0, 7, 7, 0] by decide] at r4
  have m4 := m3.below k4
  have b4 := Below.then b3 k4 b3.size
  clear m3 b3 k4
  go_wp2_with fail
  refine (read_yes _ _ _ 2 w4 m4 (by decide) (by decide)).mono ?_
  rintro e w5 ⟨rfl, rfl⟩
  go_wp2_with fail
  refine (read_no _ _ _ 4 w5 m4 (by decide) (by decide) (by decide)).mono ?_
  rintro e w6 ⟨rfl, rfl⟩
  go_wp2_with fail
  refine (fill_no _ _ _ 3 2 1 w6 m4 (by decide) (by decide) (by decide)).mono ?_
  rintro e w7 ⟨rfl, rfl⟩
  go_wp2_with fail
  refine (new_no 0 w7 (by decide)).mono ?_
  rintro e w8 ⟨rfl, rfl⟩
  go_wp2_with fail
  refine (same_yes _ _ [0, 7, 7, 0] 4 4 _ (r4.told.below (below_new _ _)) (told4 _ 0 7 7 0) (by decide)).mono ?_
  rintro e w9 ⟨rfl, m, rfl⟩
  have k9 := Below.then (below_new w8 (Obj.cells #[.int .u64 0, .int .u64 7, .int .u64 7, .int .u64 0] 30)) (below_drewN _ m) (by simp)
  have m9 := m4.below k9
  have b9 := Below.then b4 k9 b4.size
  clear m4 b4 k9 r4
  go_wp2_with fail
  refine (size_any _ _ _ _ m9).mono ?_
  rintro e w10 ⟨rfl, rfl⟩
  go_wp2_with fail
  go_ret
  exact ⟨rfl, b9⟩
end Go.Proofs.Ytfdddikgcfejpaa
