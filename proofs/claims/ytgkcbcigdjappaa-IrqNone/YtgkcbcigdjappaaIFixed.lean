/-
  The calls whose answers the document fixes are answered so; no condition.
-/
import Derived.Test.YtgkcbcigdjappaaISep
namespace Go.Proofs.Ytgkcbcigdjappaa
open Go.RowKit Go.Deep Go.Shelf

set_option maxHeartbeats 4000000 in
set_option maxRecDepth 100000 in
theorem fixed_any (w : World) : Calls Try.prog 22 #[] w fun e w' => e = .returned (.bool true) ∧ Below w.heap.size w w' := by
  have hS := hid (sep_nil w)
  go_enter Try.func22, Try.ntmps22
  go_wp2_with fail
  refine Calls.mono (new_sep hS.out 2 (by omega) (by omega)) ?_
  rintro e w1 ⟨p, v1, rfl, s1⟩
  have S1 : Hid (Sep w w.heap.size w1 [lnT p v1 [⟨none, 0, 0⟩, ⟨none, 0, 0⟩]]) := s1
  clear s1 hS
  generalize hr : w.heap.size = r at *
  have HR := hid hr
  clear hr
  go_wp2_with fail
  refine Calls.mono (raise_is (a := 0) (g := 0) (q := false) (E := 0) (T := [⟨none, 0, 0⟩, ⟨none, 0, 0⟩]) S1.out 0 rfl rfl rfl rfl rfl) ?_
  rintro e w2 ⟨rfl, s2⟩
  have S2 := hid s2
  clear s2 S1
  go_wp2_with fail
  refine Calls.mono (bind_is (E := 0) (T := [⟨(some none), 3, 8⟩, ⟨none, 0, 0⟩]) S2.out 0 3 8 rfl rfl) ?_
  rintro e w3 ⟨rfl, s3⟩
  have S3 := hid s3
  clear s3 S2
  go_wp2_with fail
  refine Calls.mono (raise_is (a := 3) (g := 8) (q := true) (E := 0) (T := [⟨(some (some false)), 3, 8⟩, ⟨none, 0, 0⟩]) S3.out 0 rfl rfl rfl rfl rfl) ?_
  rintro e w4 ⟨rfl, s4⟩
  have S4 := hid s4
  clear s4 S3
  go_wp2_with fail
  refine Calls.mono (raise_is (a := 0) (g := 0) (q := false) (E := 0) (T := [⟨(some (some true)), 3, 8⟩, ⟨none, 0, 0⟩]) S4.out 0 rfl rfl rfl rfl rfl) ?_
  rintro e w5 ⟨rfl, s5⟩
  have S5 := hid s5
  clear s5 S4
  go_wp2_with fail
  refine Calls.mono (ack_is (a := 3) (g := 8) (q := true) (E := 0) (T := [⟨(some (some false)), 3, 8⟩, ⟨none, 0, 0⟩]) S5.out 0 rfl rfl rfl rfl rfl) ?_
  rintro e w6 ⟨rfl, s6⟩
  have S6 := hid s6
  clear s6 S5
  go_wp2_with fail
  refine Calls.mono (ack_is (a := 0) (g := 0) (q := false) (E := 0) (T := [⟨(some none), 3, 8⟩, ⟨none, 0, 0⟩]) S6.out 0 rfl rfl rfl rfl rfl) ?_
  rintro e w7 ⟨rfl, s7⟩
  have S7 := hid s7
  clear s7 S6
  go_wp2_with fail
  refine Calls.mono (open_is (o := true) (m := false) S7.out 0 rfl rfl) ?_
  rintro e w8 ⟨rfl, s8⟩
  have S8 := hid s8
  clear s8 S7
  go_wp2_with fail
  refine Calls.mono (raise_is (a := 3) (g := 8) (q := true) (E := 0) (T := [⟨(some (some false)), 3, 8⟩, ⟨none, 0, 0⟩]) S8.out 0 rfl rfl rfl rfl rfl) ?_
  rintro e w9 ⟨rfl, s9⟩
  have S9 := hid s9
  clear s9 S8
  go_wp2_with fail
  refine Calls.mono (raise_is (a := 0) (g := 0) (q := false) (E := 130) (T := [⟨(some (some false)), 3, 8⟩, ⟨none, 0, 0⟩]) S9.out 2 rfl rfl rfl rfl rfl) ?_
  rintro e w10 ⟨rfl, s10⟩
  have S10 := hid s10
  clear s10 S9
  go_wp2_with fail
  refine Calls.mono (new_no 65 (by omega) _) ?_
  rintro e w11 ⟨rfl, hw⟩
  subst hw
  go_wp2_with (first
    | (go_at_call 11; refine Calls.mono (bind_is (E := 131) (T := [⟨(some (some false)), 3, 8⟩, ⟨none, 0, 0⟩]) S10.out 0 1 1 rfl rfl) ?_; rintro e wa ⟨rfl, sa⟩; have SA := hid sa; clear sa S10)
    | (go_at_call 13; refine Calls.mono (free_is (E := 131) (T := [⟨(some (some false)), 3, 8⟩, ⟨none, 0, 0⟩]) SA.out 1 rfl rfl) ?_; rintro e wb ⟨rfl, sb⟩; have SB := hid sb; clear sb SA)
    | (go_at_call 13; refine Calls.mono (free_is (E := 0) (T := [⟨none, 0, 0⟩, ⟨none, 0, 0⟩]) SB.out 0 rfl rfl) ?_; rintro e wc ⟨rfl, sc⟩; have SC := hid sc; clear sc SB))
  go_ret
  exact ⟨rfl, by rw [HR.out]; exact SC.out.low⟩
end Go.Proofs.Ytgkcbcigdjappaa
