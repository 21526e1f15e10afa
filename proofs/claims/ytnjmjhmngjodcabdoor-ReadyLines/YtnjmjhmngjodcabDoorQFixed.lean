/-
  The calls whose answers the document fixes are answered so, where the table of widths lies as the program laid it.
-/
import Derived.Test.YtnjmjhmngjodcabDoorQSep
namespace Go.Proofs.YtnjmjhmngjodcabDoor
open Go.RowKit Go.Deep Go.Shelf
set_option maxHeartbeats 4000000 in
set_option maxRecDepth 100000 in
theorem fixed_any (w : World) (ht : Tab w) : Calls Tryd.prog 6 #[] w fun e w' => e = .returned (.bool true) ∧ Below w.heap.size w w' := by
  have HT := hid (Sep.tabs ht)
  clear ht
  go_enter Tryd.func6, Tryd.ntmps6
  go_wp2_with fail
  refine Calls.mono (new_sep (sep_nil w)) ?_
  rintro e w1 ⟨q, F, rfl, s1⟩
  go_wp2_with fail
  refine Calls.mono (put_is s1 (by unfold I64; omega) (by simp) (e0 := 0) (T := [⟨3, 7⟩]) (by kernel_rfl) (by kernel_rfl)) ?_
  rintro e w2 ⟨rfl, F2, s2⟩
  have S2 := hid s2
  clear s2 s1
  go_wp2_with fail
  refine Calls.mono (put_is S2.out (by unfold I64; omega) (by simp) (e0 := 0) (T := [⟨3, 7⟩, ⟨5, 8⟩]) (by kernel_rfl) (by kernel_rfl)) ?_
  rintro e w3 ⟨rfl, F3, s3⟩
  have S3 := hid s3
  clear s3
  go_wp2_with fail
  refine Calls.mono (put_is S3.out (by unfold I64; omega) (by simp) (e0 := 0) (T := [⟨3, 7⟩, ⟨5, 8⟩, ⟨5, 9⟩]) (by kernel_rfl) (by kernel_rfl)) ?_
  rintro e w4 ⟨rfl, F4, s4⟩
  have S4 := hid s4
  clear s4
  go_wp2_with fail
  refine Calls.mono (next_is S4.out HT.out (n := 8) (z := true) (by kernel_rfl) (by kernel_rfl)) ?_
  rintro e w5 ⟨rfl, s5⟩
  have S5 := hid s5
  clear s5
  go_wp2_with fail
  refine Calls.mono (turn_is S5.out HT.out (by simp) (e0 := true) (T := [⟨3, 7⟩, ⟨5, 9⟩, ⟨5, 8⟩]) (by kernel_rfl) (by kernel_rfl)) ?_
  rintro e w6 ⟨rfl, F6, s6⟩
  have S6 := hid s6
  clear s6
  go_wp2_with fail
  refine Calls.mono (next_is S6.out HT.out (n := 9) (z := true) (by kernel_rfl) (by kernel_rfl)) ?_
  rintro e w7 ⟨rfl, s7⟩
  have S7 := hid s7
  clear s7
  go_wp2_with fail
  refine Calls.mono (take_is S7.out (by unfold I64; omega) (by simp) (e0 := 0) (T := [⟨3, 7⟩, ⟨5, 8⟩]) (by kernel_rfl) (by kernel_rfl)) ?_
  rintro e w8 ⟨rfl, F8, s8⟩
  have S8 := hid s8
  clear s8
  go_wp2_with fail
  refine Calls.mono (take_is S8.out (by unfold I64; omega) (by simp) (e0 := 0) (T := [⟨3, 7⟩]) (by kernel_rfl) (by kernel_rfl)) ?_
  rintro e w9 ⟨rfl, F9, s9⟩
  have S9 := hid s9
  clear s9
  go_wp2_with fail
  refine Calls.mono (next_is S9.out HT.out (n := 7) (z := true) (by kernel_rfl) (by kernel_rfl)) ?_
  rintro e w10 ⟨rfl, s10⟩
  have S10 := hid s10
  clear s10
  go_wp2_with fail
  refine Calls.mono (put_is S10.out (by unfold I64; omega) (by simp) (e0 := 90) (T := [⟨3, 7⟩]) (by kernel_rfl) (by kernel_rfl)) ?_
  rintro e w11 ⟨rfl, F11, s11⟩
  have S11 := hid s11
  clear s11
  go_wp2_with fail
  refine Calls.mono (put_is S11.out (by unfold I64; omega) (by simp) (e0 := 1) (T := [⟨3, 7⟩]) (by kernel_rfl) (by kernel_rfl)) ?_
  rintro e w12 ⟨rfl, F12, s12⟩
  have S12 := hid s12
  clear s12
  go_wp2_with fail
  refine Calls.mono (take_is S12.out (by unfold I64; omega) (by simp) (e0 := 91) (T := [⟨3, 7⟩]) (by kernel_rfl) (by kernel_rfl)) ?_
  rintro e w13 ⟨rfl, F13, s13⟩
  have S13 := hid s13
  clear s13
  go_wp2
  go_ret
  exact ⟨rfl, S13.out.low⟩
end Go.Proofs.YtnjmjhmngjodcabDoor
