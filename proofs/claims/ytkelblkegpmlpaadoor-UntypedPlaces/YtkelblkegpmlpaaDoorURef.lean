/-
  What Check and Size of the document's own answer for layer 8 return: the same plain words as the program's; no condition but that the numbers fit.
-/
import Derived.Test.YtkelblkegpmlpaaDoorUTwo
namespace Go.Proofs.YtkelblkegpmlpaaDoor
open Go.RowKit Go.Deep
open Classical
theorem two_40 (w : World) : Calls Tryd.prog 18 #[.int .i64 40] w fun e w' => e = .returned (.int .u64 1099511627776) ∧ w' = w := by
  have := two_any 40 w (by decide) (by decide)
  rwa [show twoI 40 = 1099511627776 by decide] at this
set_option maxHeartbeats 1000000 in
theorem rcheck_any (u : Un) (w : World) (hf : u.Fits) :
    Calls Tryd.prog 16 #[encU u] w fun e w' => e = .returned (.int .i64 (chkE u)) ∧ Below w.heap.size w w' := by
  have HB : Hid (Below w.heap.size w (w.alloc (objU u))) := below_new _ _
  have HA : Hid (AtU (w.alloc (objU u)) w.heap.size u) := AtU.new _ _
  simp only [encU, objU] at *
  by_cases hb : 0 ≤ u.bits ∧ u.bits ≤ 20
  · have H : Hid (chkE u = if u.base % twoI u.bits = 0 ∧ u.base ≤ 1099511627776 ∧ u.used ≤ twoI u.bits then 0 else 1) := chk_near hb
    obtain ⟨b0, b1⟩ := hb
    have hp := twoI_20 u.bits b0 b1
    have f1 := hf.base
    have f3 := hf.used
    have m0 : 0 ≤ u.base % twoI u.bits := Int.emod_nonneg _ (by omega)
    have d1 : decide (u.bits < 0) = false := decide_eq_false (by omega)
    have d2 : decide (20 < u.bits) = false := decide_eq_false (by omega)
    clear hf
    generalize chkE u = res at *
    go_enter Tryd.func16, Tryd.ntmps16
    go_wp2_with fail
    generalize w.alloc (Obj.cells _ _) = w1 at *
    generalize hr0 : w.heap.size = r at *
    have HR : Hid (w.heap.size = r) := hr0
    clear hr0
    obtain ⟨c0, c1, c2⟩ := HA.out.cells
    by_cases hbig : u.base ≤ 1099511627776
    · have d3 : decide (1099511627776 < u.base) = false := decide_eq_false (by omega)
      go_quiet ((go_at_call 18; exact Calls.quiet_of_same (two_40 _)))
      have HA2 : Hid (AtU (w1.drewN nq) r u) := HA.out.of_block rfl
      have HB2 : Hid (Below r w (w1.drewN nq)) := below_drewN HB.out _
      clear c0 c1 c2 HA HB
      generalize w1.drewN nq = w2 at *
      obtain ⟨c0, c1, c2⟩ := HA2.out.cells
      go_wp2_with fail
      by_cases hm : u.base % twoI u.bits = 0
      · have d4 : (u.base % twoI u.bits != 0) = false := by rw [hm]; rfl
        by_cases hu : u.used ≤ twoI u.bits
        · have d5 : decide (twoI u.bits < u.used) = false := decide_eq_false (by omega)
          have HE : Hid (res = 0) := by show res = 0; rw [H.out, if_pos ⟨hm, hbig, hu⟩]
          clear hm hu
          go_quiet ((go_at_call 18; exact Calls.quiet_of_same (two_any _ _ (by omega) (by omega))))
          go_wp2
          go_ret
          exact ⟨ret_int HE.out.symm, by rw [HR.out]; exact below_drewN HB2.out _⟩
        · have d5 : twoI u.bits < u.used := by omega
          have HE : Hid (res = 1) := by show res = 1; rw [H.out, if_neg (fun x => hu x.2.2)]
          clear hm hu
          go_quiet ((go_at_call 18; exact Calls.quiet_of_same (two_any _ _ (by omega) (by omega))))
          go_wp2
          go_ret
          exact ⟨ret_int HE.out.symm, by rw [HR.out]; exact below_drewN HB2.out _⟩
      · have d4 : (u.base % twoI u.bits != 0) = true := by simpa using hm
        have HE : Hid (res = 1) := by show res = 1; rw [H.out, if_neg (fun x => hm x.1)]
        clear hm
        go_quiet ((go_at_call 18; exact Calls.quiet_of_same (two_any _ _ (by omega) (by omega))))
        go_wp2
        go_ret
        exact ⟨ret_int HE.out.symm, by rw [HR.out]; exact below_drewN HB2.out _⟩
    · have d3 : (1099511627776 : Int) < u.base := by omega
      have HE : Hid (res = 1) := by show res = 1; rw [H.out, if_neg (fun x => hbig x.2.1)]
      clear hbig
      go_quiet ((go_at_call 18; exact Calls.quiet_of_same (two_40 _)))
      go_wp2
      go_ret
      exact ⟨ret_int HE.out.symm, by rw [HR.out]; exact below_drewN HB.out _⟩
  · have H : Hid (chkE u = 1) := chk_far hb
    generalize chkE u = res at *
    by_cases b0 : u.bits < 0
    · clear hb hf
      go_enter Tryd.func16, Tryd.ntmps16
      go_wp2_with fail
      generalize w.alloc (Obj.cells _ _) = w1 at *
      generalize hr0 : w.heap.size = r at *
      have HR : Hid (w.heap.size = r) := hr0
      clear hr0
      obtain ⟨c0, c1, c2⟩ := HA.out.cells
      go_quiet (fail)
      go_wp2
      go_ret
      exact ⟨ret_int H.out.symm, by rw [HR.out]; exact below_drewN HB.out _⟩
    · have d1 : decide (u.bits < 0) = false := decide_eq_false b0
      have d2 : 20 < u.bits := by omega
      clear hb hf b0
      go_enter Tryd.func16, Tryd.ntmps16
      go_wp2_with fail
      generalize w.alloc (Obj.cells _ _) = w1 at *
      generalize hr0 : w.heap.size = r at *
      have HR : Hid (w.heap.size = r) := hr0
      clear hr0
      obtain ⟨c0, c1, c2⟩ := HA.out.cells
      go_quiet (fail)
      go_wp2
      go_ret
      exact ⟨ret_int H.out.symm, by rw [HR.out]; exact below_drewN HB.out _⟩
set_option maxHeartbeats 1000000 in
theorem rsize_any (k b : Int) (w : World) (hb : -9223372036854775808 ≤ b ∧ b ≤ 9223372036854775807) :
    Calls Tryd.prog 12 #[.int .i64 k, .int .i64 b] w fun e w' => e = .returned (.tuple #[.int .i64 (szN k b), .int .i64 (szE k b)]) ∧ w' = w := by
  by_cases hk : 1 ≤ k ∧ k ≤ 8
  · have : k = 1 ∨ k = 2 ∨ k = 3 ∨ k = 4 ∨ k = 5 ∨ k = 6 ∨ k = 7 ∨ k = 8 := by omega
    rcases this with rfl | rfl | rfl | rfl | rfl | rfl | rfl | rfl
    all_goals
      clear hk
      go_enter Tryd.func12, Tryd.ntmps12
      go_wp2
      all_goals go_ret2
      all_goals exact ⟨ret_two (by simp [szN, szE] <;> omega) (by simp [szE] <;> omega), rfl⟩
  · obtain ⟨e1, e2⟩ := sz_no (b := b) hk
    have H1 : Hid (szE k b = 80) := e1
    have H2 : Hid (szN k b = 0) := e2
    have n1 : (k == 1) = false := by rw [beq_eq_false_iff_ne]; omega
    have n2 : (k == 2) = false := by rw [beq_eq_false_iff_ne]; omega
    have n3 : (k == 3) = false := by rw [beq_eq_false_iff_ne]; omega
    have n4 : (k == 4) = false := by rw [beq_eq_false_iff_ne]; omega
    have n5 : (k == 5) = false := by rw [beq_eq_false_iff_ne]; omega
    have n6 : (k == 6) = false := by rw [beq_eq_false_iff_ne]; omega
    have n7 : (k == 7) = false := by rw [beq_eq_false_iff_ne]; omega
    have n8 : (k == 8) = false := by rw [beq_eq_false_iff_ne]; omega
    clear e1 e2 hk hb
    go_enter Tryd.func12, Tryd.ntmps12
    go_wp2
    all_goals go_ret2
    all_goals exact ⟨ret_two H2.out.symm H1.out.symm, rfl⟩
end Go.Proofs.YtkelblkegpmlpaaDoor
