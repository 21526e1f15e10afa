/-
  The calls whose answers the document fixes are answered so; no condition.
-/
import Derived.Test.YtpapjdmnhgnpfaaMBSep
namespace Go.Proofs.Ytpapjdmnhgnpfaa
open Go.RowKit Go.Deep Go.Shelf
set_option maxHeartbeats 8000000 in
set_option maxRecDepth 100000 in
theorem fixed_any (w : World) : Calls Try.prog 23 #[] w fun e w' => e = .returned (.bool true) ∧ Below w.heap.size w w' := by
  go_enter Try.func23, Try.ntmps23
  go_wp2_with fail
  refine Calls.mono (new_sep (n := 3) (sep_nil w) (by omega) (by omega)) ?_
  rintro e w1 ⟨p, rfl, g, V1, s1⟩
  have S1 := hid s1
  clear s1
  generalize hr : w.heap.size = r at *
  have HR := hid hr
  clear hr
  go_wp2_with fail
  refine Calls.mono (all_is (L := [[], [], []]) (T := [[], [⟨0, 1, 5⟩], [⟨0, 1, 5⟩]]) (e0 := 0) S1.out 0 1 5 (by kernel_rfl) (by kernel_rfl)) ?_
  rintro e w2 ⟨rfl, V2, s2⟩
  have S2 := hid s2
  clear s2 S1
  go_wp2_with fail
  refine Calls.mono (owed_is (L := [[], [⟨0, 1, 5⟩], [⟨0, 1, 5⟩]]) (z := 2) S2.out 0 (by kernel_rfl)) ?_
  rintro e w3 ⟨rfl, s3⟩
  have S3 := hid s3
  clear s3 S2
  go_wp2_with fail
  refine Calls.mono (take_is (L := [[], [⟨0, 1, 5⟩], [⟨0, 1, 5⟩]]) (T := [[], [], [⟨0, 1, 5⟩]]) (x := ⟨0, 1, 5⟩) (q := true) S3.out 1 (by kernel_rfl) (by kernel_rfl) (by kernel_rfl)) ?_
  rintro e w4 ⟨rfl, V4, s4⟩
  have S4 := hid s4
  clear s4 S3
  have HZ := hid ((S4.out.box (objM ⟨0, 1, 5⟩)).swap)
  clear S4
  go_wp2_with fail
  refine Calls.mono (owed_is (L := [[], [], [⟨0, 1, 5⟩]]) (z := 1) HZ.out 0 (by kernel_rfl)) ?_
  rintro e wz ⟨rfl, sz⟩
  have S5 := hid sz
  clear sz HZ
  generalize w4.heap.size = q at *
  go_wp2_with fail
  refine Calls.mono (send_is (L := [[], [], [⟨0, 1, 5⟩]]) (T := [[], [], [⟨0, 1, 5⟩]]) (e0 := 170) S5.out 1 1 0 0 (by kernel_rfl) (by kernel_rfl)) ?_
  rintro e w6 ⟨rfl, V6, s6⟩
  have S6 := hid s6
  clear s6 S5
  go_wp2_with fail
  refine Calls.mono (send_is (L := [[], [], [⟨0, 1, 5⟩]]) (T := [[], [], [⟨0, 1, 5⟩]]) (e0 := 1) S6.out 1 3 0 0 (by kernel_rfl) (by kernel_rfl)) ?_
  rintro e w7 ⟨rfl, V7, s7⟩
  have S7 := hid s7
  clear s7 S6
  go_wp2_with fail
  refine Calls.mono (send_is (L := [[], [], [⟨0, 1, 5⟩]]) (T := [[], [], [⟨0, 1, 5⟩, ⟨1, 7, 8⟩]]) (e0 := 0) S7.out 1 2 7 8 (by kernel_rfl) (by kernel_rfl)) ?_
  rintro e w8 ⟨rfl, V8, s8⟩
  have S8 := hid s8
  clear s8 S7
  go_wp2_with fail
  refine Calls.mono (take_is (L := [[], [], [⟨0, 1, 5⟩, ⟨1, 7, 8⟩]]) (T := [[], [], [⟨0, 1, 5⟩, ⟨1, 7, 8⟩]]) (x := ⟨0, 0, 0⟩) (q := false) S8.out 0 (by kernel_rfl) (by kernel_rfl) (by kernel_rfl)) ?_
  rintro e w9 ⟨rfl, V9, s9⟩
  have S9 := hid s9
  clear s9 S8
  have SX : Hid (Sep w r (w9.alloc (.cells #[.int .i64 0, .int .i64 0, .int .i64 0] 35)) (bxT 3 p g V9 [[], [], [⟨0, 1, 5⟩, ⟨1, 7, 8⟩]] :: blk q (objM ⟨0, 1, 5⟩) :: [])) := (S9.out.box (objM ml0)).drop
  have hm := cellsM (x := ⟨0, 1, 5⟩) (SX.out.drop.head)
  obtain ⟨m0, m1, m2⟩ := hm
  clear S9
  simp only at m0 m1 m2
  have he := fun W => eq_mail W 0 1 5 0 1 5
  have hmm : mlB ⟨0, 1, 5⟩ ⟨0, 1, 5⟩ = true := mlB_self _
  rw [hmm] at he
  go_wp2_with fail
  refine Calls.mono (new_no 0 (by omega) _) ?_
  rintro e wn ⟨rfl, hw⟩
  subst hw
  go_wp2_with fail
  refine Calls.mono (box_is (L := [[], [], [⟨0, 1, 5⟩, ⟨1, 7, 8⟩]]) (b := [⟨0, 1, 5⟩, ⟨1, 7, 8⟩]) (m := 2) SX.out 2 (by kernel_rfl) rfl) ?_
  rintro e wl ⟨al, cl, rfl, sl⟩
  have SL := hid (sl.lit okM [⟨0, 1, 5⟩, ⟨1, 7, 8⟩] (by decide) #[.int .i64 0, .int .i64 1, .int .i64 5, .int .i64 1, .int .i64 7, .int .i64 8] rfl)
  clear sl SX
  go_wp2_with fail
  refine Calls.mono (same_is SL.out (u := .slice al 2 cl) (v := .slice (some ⟨wl.heap.size, 0, none⟩) 2 2) (A := [⟨0, 1, 5⟩, ⟨1, 7, 8⟩]) (B := [⟨0, 1, 5⟩, ⟨1, 7, 8⟩]) (by simp) (by simp) (by simp) rfl) ?_
  rintro e wf ⟨rfl, sf⟩
  have SF := hid sf
  clear sf
  go_wp2
  go_ret
  exact ⟨rfl, by rw [HR.out]; exact SF.out.low⟩
theorem fixed_sep {w0 w : World} {r : Nat} {R : List Th} (h : Sep w0 r w R) : Calls Try.prog 23 #[] w fun e w' => e = .returned (.bool true) ∧ Sep w0 r w' R :=
  (fixed_any w).mono fun _ _ ⟨he, b⟩ => ⟨he, h.below b⟩
end Go.Proofs.Ytpapjdmnhgnpfaa
