/-
  The calls whose answers the document fixes are answered so; no condition.
-/
import Derived.Test.YtbkkpfmhcfkfbaaVSep
namespace Go.Proofs.Ytbkkpfmhcfkfbaa
open Go.RowKit Go.Deep Go.Shelf

set_option maxHeartbeats 4000000 in
set_option maxRecDepth 100000 in
theorem fixed_any (w : World) : Calls Try.prog 21 #[] w fun e w' => e = .returned (.bool true) ∧ Below w.heap.size w w' := by
  have hS := hid (sep_nil w)
  go_enter Try.func21, Try.ntmps21
  go_wp2_with fail
  refine Calls.mono (new_sep hS.out) ?_
  rintro e w1 ⟨p, v1, rfl, s1⟩
  have S1 := hid s1
  clear s1 hS
  generalize hr : w.heap.size = r at *
  have HR := hid hr
  clear hr
  go_wp2_with fail
  refine Calls.mono (signal_is (a := 0) (x := 0) (q := false) (T := ⟨true, 1, []⟩) S1.out 1 (by unfold U64; omega) (by decide) rfl rfl rfl (congrArg (fun x => (⟨true, x, []⟩ : Ns)) (show orI 0 1 = 1 by decide))) ?_
  rintro e w2 ⟨rfl, v2, s2⟩
  have S2 := hid s2
  clear s2 S1
  go_wp2_with fail
  refine Calls.mono (signal_is (a := 0) (x := 0) (q := false) (T := ⟨true, 5, []⟩) S2.out 4 (by unfold U64; omega) (by decide) rfl rfl rfl (congrArg (fun x => (⟨true, x, []⟩ : Ns)) (show orI 1 4 = 5 by decide))) ?_
  rintro e w3 ⟨rfl, v3, s3⟩
  have S3 := hid s3
  clear s3 S2
  go_wp2_with fail
  refine Calls.mono (wait_is (x := 5) (q := true) (e0 := 0) (T := ⟨false, 0, []⟩) S3.out 9 true (by decide) rfl rfl rfl rfl) ?_
  rintro e w4 ⟨rfl, v4, s4⟩
  have S4 := hid s4
  clear s4 S3
  go_wp2_with fail
  refine Calls.mono (wait_is (x := 0) (q := false) (e0 := 0) (T := ⟨false, 0, [9]⟩) S4.out 9 true (by decide) rfl rfl rfl rfl) ?_
  rintro e w5 ⟨rfl, v5, s5⟩
  have S5 := hid s5
  clear s5 S4
  go_wp2_with fail
  refine Calls.mono (wait_is (x := 0) (q := false) (e0 := 120) (T := ⟨false, 0, [9]⟩) S5.out 9 true (by decide) rfl rfl rfl rfl) ?_
  rintro e w6 ⟨rfl, v6, s6⟩
  have S6 := hid s6
  clear s6 S5
  go_wp2_with fail
  refine Calls.mono (signal_is (a := 9) (x := 2) (q := true) (T := ⟨false, 0, []⟩) S6.out 2 (by unfold U64; omega) (by decide) rfl rfl rfl rfl) ?_
  rintro e w7 ⟨rfl, v7, s7⟩
  have S7 := hid s7
  clear s7 S6
  go_wp2_with fail
  refine Calls.mono (word_is (x := 0) (q := false) S7.out rfl rfl) ?_
  rintro e w8 ⟨rfl, s8⟩
  have S8 := hid s8
  clear s8 S7
  go_wp2_with (first
    | (go_at_call 19; refine Calls.mono (waits_is (L := []) S8.out (by decide) rfl) ?_; rintro e w9 ⟨al, cl, rfl, s9⟩; simp only [List.length_nil] at s9 ⊢; have S9 := hid s9; clear s9 S8)
    | (go_at_call 14; refine Calls.mono (cancel_is (q := false) (T := ⟨false, 0, []⟩) S9.out 9 (by decide) rfl rfl) ?_; rintro e w10 ⟨rfl, v10, s10⟩; have S10 := hid s10; clear s10 S9))
  go_ret
  exact ⟨rfl, by rw [HR.out]; exact S10.out.low⟩
end Go.Proofs.Ytbkkpfmhcfkfbaa
