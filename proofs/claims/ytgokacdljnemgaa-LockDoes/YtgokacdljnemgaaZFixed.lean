/-
  The calls whose answers the document fixes are answered so; no condition.
-/
import Derived.Test.YtgokacdljnemgaaZSep
import Derived.Test.YtgokacdljnemgaaPNums
namespace Go.Proofs.Ytgokacdljnemgaa
open Go.RowKit Go.Deep Go.Shelf
set_option maxHeartbeats 8000000 in
set_option maxRecDepth 100000 in
theorem fixed_any (w : World) : Calls Try.prog 24 #[] w fun e w' => e = .returned (.bool true) ∧ Below w.heap.size w w' := by
  go_enter Try.func24, Try.ntmps24
  go_wp2_with fail
  refine Calls.mono (new_sep (n := 3) (sep_nil w) (by omega) (by omega)) ?_
  rintro e w1 ⟨p, rfl, s1⟩
  have S1 := hid s1
  clear s1
  generalize hr : w.heap.size = r at *
  have HR := hid hr
  clear hr
  go_wp2_with fail
  refine Calls.mono (enter_is (e0 := 0) (T := [2]) S1.out 2 (by kernel_rfl) (by kernel_rfl)) ?_
  rintro e w2 ⟨rfl, s2⟩
  have S2 := hid s2
  clear s2 S1
  go_wp2_with fail
  refine Calls.mono (enter_is (e0 := 0) (T := [2, 0]) S2.out 0 (by kernel_rfl) (by kernel_rfl)) ?_
  rintro e w3 ⟨rfl, s3⟩
  have S3 := hid s3
  clear s3 S2
  go_wp2_with fail
  refine Calls.mono (holder_is (x := 2) (q := true) S3.out (by kernel_rfl) (by kernel_rfl)) ?_
  rintro e w4 ⟨rfl, s4⟩
  have S4 := hid s4
  clear s4 S3
  go_wp2_with fail
  refine Calls.mono (probe_is (q := false) (e0 := 0) S4.out 0 (by kernel_rfl) (by kernel_rfl)) ?_
  rintro e w5 ⟨rfl, s5⟩
  have S5 := hid s5
  clear s5 S4
  go_wp2_with fail
  refine Calls.mono (enter_is (e0 := 160) (T := [2, 0]) S5.out 2 (by kernel_rfl) (by kernel_rfl)) ?_
  rintro e w6 ⟨rfl, s6⟩
  have S6 := hid s6
  clear s6 S5
  go_wp2_with fail
  refine Calls.mono (leave_is (e0 := 161) (T := [2, 0]) S6.out 0 (by kernel_rfl) (by kernel_rfl)) ?_
  rintro e w7 ⟨rfl, s7⟩
  have S7 := hid s7
  clear s7 S6
  go_wp2_with fail
  refine Calls.mono (ahead_is (z := 1) S7.out 0 (by kernel_rfl)) ?_
  rintro e w8 ⟨rfl, s8⟩
  have S8 := hid s8
  clear s8 S7
  go_wp2_with fail
  refine Calls.mono (leave_is (e0 := 0) (T := [0]) S8.out 2 (by kernel_rfl) (by kernel_rfl)) ?_
  rintro e w9 ⟨rfl, s9⟩
  have S9 := hid s9
  clear s9 S8
  go_wp2_with fail
  refine Calls.mono (holder_is (x := 0) (q := true) S9.out (by kernel_rfl) (by kernel_rfl)) ?_
  rintro e w10 ⟨rfl, s10⟩
  have S10 := hid s10
  clear s10 S9
  go_wp2_with fail
  refine Calls.mono (probe_is (q := false) (e0 := 161) S10.out 1 (by kernel_rfl) (by kernel_rfl)) ?_
  rintro e w11 ⟨rfl, s11⟩
  have S11 := hid s11
  clear s11 S10
  go_wp2_with fail
  refine Calls.mono (probe_is (q := false) (e0 := 1) S11.out 3 (by kernel_rfl) (by kernel_rfl)) ?_
  rintro e w12 ⟨rfl, s12⟩
  have S12 := hid s12
  clear s12 S11
  go_wp2_with fail
  refine Calls.mono (new_no 9 (by omega)) ?_
  rintro e wn ⟨rfl, hw⟩
  subst hw
  go_wp2_with fail
  refine Calls.mono (line_is (m := 1) S12.out rfl) ?_
  rintro e wl ⟨al, cl, rfl, sl⟩
  have SL := hid (sl.lit okI [0] (by decide) #[.int .i64 0] rfl)
  clear sl S12
  go_wp2_with (go_at_call 21; refine Calls.mono (nums_is SL.out (u := .slice al 1 cl) (v := .slice (some ⟨wl.heap.size, 0, none⟩) 1 1) (A := [0]) (B := [0]) (by simp) (by simp) (by simp) rfl) ?_; rintro e wf ⟨rfl, sf⟩; have SF := hid sf; clear sf)
  go_ret
  exact ⟨rfl, by rw [HR.out]; exact SF.out.low⟩
theorem fixed_sep {w0 w : World} {r : Nat} {R : List Th} (h : Sep w0 r w R) : Calls Try.prog 24 #[] w fun e w' => e = .returned (.bool true) ∧ Sep w0 r w' R :=
  (fixed_any w).mono fun _ _ ⟨he, b⟩ => ⟨he, h.below b⟩
end Go.Proofs.Ytgokacdljnemgaa
