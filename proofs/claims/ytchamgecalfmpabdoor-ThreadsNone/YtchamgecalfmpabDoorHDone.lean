/-
  What done of the laws of threads leaves: some state that is right, with as many threads and queues; no condition but that the table of widths lies as the program laid it.
-/
import Derived.Test.YtchamgecalfmpabDoorHLaw
namespace Go.Proofs.YtchamgecalfmpabDoor
open Go.RowKit Go.Deep Go.Shelf

/-- What a call that makes no thread makes of the state. -/
def doneH (h : Hs) (x : Oc) : Hs :=
  if x.k = 2 then resumeH h x.i else if x.k = 3 then suspendH h x.i else if x.k = 4 then blockH h x.i else if x.k = 5 then prioH h x.i x.n else if x.k = 6 then coreH h x.i x.c else if x.k = 7 then pickH h x.c else if x.k = 8 then yieldH h x.c else if x.k = 9 then tickH h x.c else h
section
variable {w0 w : World} {r : Nat} {R : List Th} {p : Nat} {F : Nat → Prop} {h : Hs}
set_option maxHeartbeats 8000000 in
set_option maxRecDepth 100000 in
theorem done_sep (s : Sep w0 r w (tT p F h :: R)) (ht : ∀ u, Below r w0 u → Tab u) (x : Oc) :
    Calls Tryd.prog 9 #[ptr p, encO x] w fun e w' => e = .returned (.tuple #[]) ∧ ∃ F', Sep w0 r w' (tT p F' (doneH h x) :: R) := by
  have HT := hid ht
  have hcs : x.k = 2 ∨ x.k = 3 ∨ x.k = 4 ∨ x.k = 5 ∨ x.k = 6 ∨ x.k = 7 ∨ x.k = 8 ∨ x.k = 9 ∨ (¬ x.k = 2 ∧ ¬ x.k = 3 ∧ ¬ x.k = 4 ∧ ¬ x.k = 5 ∧ ¬ x.k = 6 ∧ ¬ x.k = 7 ∧ ¬ x.k = 8 ∧ ¬ x.k = 9) := by omega
  clear ht
  unfold doneH
  rcases hcs with hk | hk | hk | hk | hk | hk | hk | hk | ⟨k2, k3, k4, k5, k6, k7, k8, k9⟩
  · obtain ⟨xk, xi, xc, xn, xv⟩ := x
    simp only at hk
    subst hk
    have S0 := hid (s.box (objO ⟨2, xi, xc, xn, xv⟩)).swap
    clear s
    simp only [encO, if_true, Int.reduceEq, if_false]
    go_enter Tryd.func9, Tryd.ntmps9
    go_wp2_with fail
    refine Calls.mono (resume_sep S0.out xi) ?_
    rintro e w2 ⟨rfl, F2, s2⟩
    have S2 := hid s2.drop2
    clear s2 S0
    go_wp2
    exact bodyPost_end (v := .tuple #[]) (by simp [results, Tryd.results9, go_sem]) rfl ⟨rfl, _, S2.out⟩
  · obtain ⟨xk, xi, xc, xn, xv⟩ := x
    simp only at hk
    subst hk
    have S0 := hid (s.box (objO ⟨3, xi, xc, xn, xv⟩)).swap
    clear s
    simp only [encO, if_true, Int.reduceEq, if_false]
    go_enter Tryd.func9, Tryd.ntmps9
    go_wp2_with fail
    refine Calls.mono (suspend_sep S0.out xi) ?_
    rintro e w2 ⟨rfl, F2, s2⟩
    have S2 := hid s2.drop2
    clear s2 S0
    go_wp2
    exact bodyPost_end (v := .tuple #[]) (by simp [results, Tryd.results9, go_sem]) rfl ⟨rfl, _, S2.out⟩
  · obtain ⟨xk, xi, xc, xn, xv⟩ := x
    simp only at hk
    subst hk
    have S0 := hid (s.box (objO ⟨4, xi, xc, xn, xv⟩)).swap
    clear s
    simp only [encO, if_true, Int.reduceEq, if_false]
    go_enter Tryd.func9, Tryd.ntmps9
    go_wp2_with fail
    refine Calls.mono (block_sep S0.out xi) ?_
    rintro e w2 ⟨rfl, F2, s2⟩
    have S2 := hid s2.drop2
    clear s2 S0
    go_wp2
    exact bodyPost_end (v := .tuple #[]) (by simp [results, Tryd.results9, go_sem]) rfl ⟨rfl, _, S2.out⟩
  · obtain ⟨xk, xi, xc, xn, xv⟩ := x
    simp only at hk
    subst hk
    have S0 := hid (s.box (objO ⟨5, xi, xc, xn, xv⟩)).swap
    clear s
    simp only [encO, if_true, Int.reduceEq, if_false]
    go_enter Tryd.func9, Tryd.ntmps9
    go_wp2_with fail
    refine Calls.mono (prio_sep S0.out xi xn) ?_
    rintro e w2 ⟨rfl, F2, s2⟩
    have S2 := hid s2.drop2
    clear s2 S0
    go_wp2
    exact bodyPost_end (v := .tuple #[]) (by simp [results, Tryd.results9, go_sem]) rfl ⟨rfl, _, S2.out⟩
  · obtain ⟨xk, xi, xc, xn, xv⟩ := x
    simp only at hk
    subst hk
    have S0 := hid (s.box (objO ⟨6, xi, xc, xn, xv⟩)).swap
    clear s
    simp only [encO, if_true, Int.reduceEq, if_false]
    go_enter Tryd.func9, Tryd.ntmps9
    go_wp2_with fail
    refine Calls.mono (core_sep S0.out xi xc) ?_
    rintro e w2 ⟨rfl, F2, s2⟩
    have S2 := hid s2.drop2
    clear s2 S0
    go_wp2
    exact bodyPost_end (v := .tuple #[]) (by simp [results, Tryd.results9, go_sem]) rfl ⟨rfl, _, S2.out⟩
  · obtain ⟨xk, xi, xc, xn, xv⟩ := x
    simp only at hk
    subst hk
    have S0 := hid (s.box (objO ⟨7, xi, xc, xn, xv⟩)).swap
    clear s
    simp only [encO, if_true, Int.reduceEq, if_false]
    go_enter Tryd.func9, Tryd.ntmps9
    go_wp2_with fail
    refine Calls.mono (pick_sep S0.out HT.out xc) ?_
    rintro e w2 ⟨rfl, F2, s2⟩
    have S2 := hid s2.drop2
    clear s2 S0
    go_wp2
    exact bodyPost_end (v := .tuple #[]) (by simp [results, Tryd.results9, go_sem]) rfl ⟨rfl, _, S2.out⟩
  · obtain ⟨xk, xi, xc, xn, xv⟩ := x
    simp only at hk
    subst hk
    have S0 := hid (s.box (objO ⟨8, xi, xc, xn, xv⟩)).swap
    clear s
    simp only [encO, if_true, Int.reduceEq, if_false]
    go_enter Tryd.func9, Tryd.ntmps9
    go_wp2_with fail
    refine Calls.mono (yield_sep S0.out HT.out xc) ?_
    rintro e w2 ⟨rfl, F2, s2⟩
    have S2 := hid s2.drop2
    clear s2 S0
    go_wp2
    exact bodyPost_end (v := .tuple #[]) (by simp [results, Tryd.results9, go_sem]) rfl ⟨rfl, _, S2.out⟩
  · obtain ⟨xk, xi, xc, xn, xv⟩ := x
    simp only at hk
    subst hk
    have S0 := hid (s.box (objO ⟨9, xi, xc, xn, xv⟩)).swap
    clear s
    simp only [encO, if_true, Int.reduceEq, if_false]
    go_enter Tryd.func9, Tryd.ntmps9
    go_wp2_with fail
    refine Calls.mono (tick_sep S0.out HT.out xc) ?_
    rintro e w2 ⟨rfl, F2, s2⟩
    have S2 := hid s2.drop2
    clear s2 S0
    go_wp2
    exact bodyPost_end (v := .tuple #[]) (by simp [results, Tryd.results9, go_sem]) rfl ⟨rfl, _, S2.out⟩
  · have e2 : (x.k == 2) = false := by simpa using k2
    have e3 : (x.k == 3) = false := by simpa using k3
    have e4 : (x.k == 4) = false := by simpa using k4
    have e5 : (x.k == 5) = false := by simpa using k5
    have e6 : (x.k == 6) = false := by simpa using k6
    have e7 : (x.k == 7) = false := by simpa using k7
    have e8 : (x.k == 8) = false := by simpa using k8
    have e9 : (x.k == 9) = false := by simpa using k9
    rw [if_neg k2, if_neg k3, if_neg k4, if_neg k5, if_neg k6, if_neg k7, if_neg k8, if_neg k9]
    clear k2 k3 k4 k5 k6 k7 k8 k9
    have S2 := hid (s.box (objO x)).swap.drop2
    clear s
    simp only [encO, objO] at *
    go_enter Tryd.func9, Tryd.ntmps9
    go_wp2
    exact bodyPost_end (v := .tuple #[]) (by simp [results, Tryd.results9, go_sem]) rfl ⟨rfl, _, S2.out⟩
end
end Go.Proofs.YtchamgecalfmpabDoor
