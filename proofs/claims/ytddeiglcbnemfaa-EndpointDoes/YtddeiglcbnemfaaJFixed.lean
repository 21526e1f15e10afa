/-
  The calls whose answers the document fixes are answered so; no condition.
-/
import Derived.Test.YtddeiglcbnemfaaJSep
namespace Go.Proofs.Ytddeiglcbnemfaa
open Go.RowKit Go.Deep Go.Shelf

set_option maxHeartbeats 8000000 in
set_option maxRecDepth 100000 in
theorem fixed_any (w : World) : Calls Try.prog 17 #[] w fun e w' => e = .returned (.bool true) ∧ Below w.heap.size w w' := by
  have hS := hid (sep_nil w)
  go_enter Try.func17, Try.ntmps17
  go_wp2_with fail
  refine Calls.mono (new_sep hS.out) ?_
  rintro e w1 ⟨p, v1, rfl, s1⟩
  have S1 := hid (s1.box (objM ⟨7, 0, 0, 0, 0, 9, false⟩)).swap
  clear s1 hS
  go_wp2_with fail
  refine Calls.mono (recv_is (x := ⟨false, 0, 0, ⟨0, 0, 0, 0, 0, 0, false⟩⟩) (e0 := 0) (T := [⟨1, false, ⟨0, 0, 0, 0, 0, 0, false⟩⟩]) S1.out 1 true (by decide) rfl rfl rfl) ?_
  rintro e w2 ⟨rfl, v2, s2⟩
  have S2 := hid s2
  clear s2 S1
  generalize w1.heap.size = qm at *
  generalize hr : w.heap.size = r at *
  have HR := hid hr
  clear hr
  go_wp2_with fail
  refine Calls.mono (recv_is (x := ⟨false, 0, 0, ⟨0, 0, 0, 0, 0, 0, false⟩⟩) (e0 := 0) (T := [⟨1, false, ⟨0, 0, 0, 0, 0, 0, false⟩⟩, ⟨2, false, ⟨0, 0, 0, 0, 0, 0, false⟩⟩]) S2.out 2 true (by decide) rfl rfl rfl) ?_
  rintro e w3 ⟨rfl, v3, s3⟩
  have S3 := hid (s3.box (objT ⟨false, 0, 0, ⟨0, 0, 0, 0, 0, 0, false⟩⟩)).swap
  clear s3 S2
  obtain ⟨m0, m1, m2, m3, m4, m5, m6⟩ := (atM_of (m := ⟨7, 0, 0, 0, 0, 9, false⟩) (S3.out.each (blk qm (objM ⟨7, 0, 0, 0, 0, 9, false⟩)) (by simp)).1).cells
  simp only [objT] at m0 m1 m2 m3 m4 m5 m6
  go_wp2_with fail
  refine Calls.mono (send_is (x := ⟨true, 3, 1, ⟨7, 0, 0, 0, 0, 9, false⟩⟩) (e0 := 0) (T := [⟨2, false, ⟨0, 0, 0, 0, 0, 0, false⟩⟩]) S3.out 3 ⟨7, 0, 0, 0, 0, 9, false⟩ false (by decide) rfl rfl rfl) ?_
  rintro e w4 ⟨rfl, v4, s4⟩
  have S4 := hid (s4.box (objT ⟨true, 3, 1, ⟨7, 0, 0, 0, 0, 9, false⟩⟩)).swap
  clear s4 S3 m0 m1 m2 m3 m4 m5 m6
  obtain ⟨m0, m1, m2, m3, m4, m5, m6⟩ := (atM_of (m := ⟨7, 0, 0, 0, 0, 9, false⟩) (S4.out.each (blk qm (objM ⟨7, 0, 0, 0, 0, 9, false⟩)) (by simp)).1).cells
  simp only [objT] at m0 m1 m2 m3 m4 m5 m6
  go_wp2_with fail
  refine Calls.mono (send_is (x := ⟨true, 4, 2, ⟨7, 0, 0, 0, 0, 9, false⟩⟩) (e0 := 0) (T := []) S4.out 4 ⟨7, 0, 0, 0, 0, 9, false⟩ true (by decide) rfl rfl rfl) ?_
  rintro e w5 ⟨rfl, v5, s5⟩
  have S5 := hid (s5.box (objT ⟨true, 4, 2, ⟨7, 0, 0, 0, 0, 9, false⟩⟩)).swap
  clear s5 S4 m0 m1 m2 m3 m4 m5 m6
  obtain ⟨m0, m1, m2, m3, m4, m5, m6⟩ := (atM_of (m := ⟨7, 0, 0, 0, 0, 9, false⟩) (S5.out.each (blk qm (objM ⟨7, 0, 0, 0, 0, 9, false⟩)) (by simp)).1).cells
  simp only [objT] at m0 m1 m2 m3 m4 m5 m6
  go_wp2_with fail
  refine Calls.mono (send_is (x := ⟨false, 0, 0, ⟨0, 0, 0, 0, 0, 0, false⟩⟩) (e0 := 0) (T := [⟨5, true, ⟨7, 0, 0, 0, 0, 9, false⟩⟩]) S5.out 5 ⟨7, 0, 0, 0, 0, 9, false⟩ true (by decide) rfl rfl rfl) ?_
  rintro e w6 ⟨rfl, v6, s6⟩
  have S6 := hid (s6.box (objT ⟨false, 0, 0, ⟨0, 0, 0, 0, 0, 0, false⟩⟩)).swap
  clear s6 S5 m0 m1 m2 m3 m4 m5 m6
  obtain ⟨m0, m1, m2, m3, m4, m5, m6⟩ := (atM_of (m := ⟨7, 0, 0, 0, 0, 9, false⟩) (S6.out.each (blk qm (objM ⟨7, 0, 0, 0, 0, 9, false⟩)) (by simp)).1).cells
  simp only [objT] at m0 m1 m2 m3 m4 m5 m6
  go_wp2_with fail
  refine Calls.mono (send_is (x := ⟨false, 0, 0, ⟨0, 0, 0, 0, 0, 0, false⟩⟩) (e0 := 110) (T := [⟨5, true, ⟨7, 0, 0, 0, 0, 9, false⟩⟩]) S6.out 5 ⟨7, 0, 0, 0, 0, 9, false⟩ true (by decide) rfl rfl rfl) ?_
  rintro e w7 ⟨rfl, v7, s7⟩
  have S7 := hid (s7.box (objT ⟨false, 0, 0, ⟨0, 0, 0, 0, 0, 0, false⟩⟩)).swap
  clear s7 S6 m0 m1 m2 m3 m4 m5 m6
  obtain ⟨m0, m1, m2, m3, m4, m5, m6⟩ := (atM_of (m := ⟨7, 0, 0, 0, 0, 9, false⟩) (S7.out.each (blk qm (objM ⟨7, 0, 0, 0, 0, 9, false⟩)) (by simp)).1).cells
  simp only [objT] at m0 m1 m2 m3 m4 m5 m6
  go_wp2_with fail
  refine Calls.mono (waits_is (L := [5]) (b := true) S7.out (by decide) rfl rfl) ?_
  rintro e w8 ⟨al, cl, rfl, s8⟩
  have S8 := hid s8
  clear s8 S7 m0 m1 m2 m3 m4 m5 m6
  generalize w3.heap.size = q3 at *
  generalize w4.heap.size = qa at *
  generalize w5.heap.size = qb at *
  generalize w6.heap.size = qc at *
  generalize w7.heap.size = q7 at *
  go_wp2_with fail
  refine Calls.mono (recv_is (x := ⟨true, 5, 6, ⟨7, 0, 0, 0, 0, 9, false⟩⟩) (e0 := 0) (T := []) S8.out 6 false (by decide) rfl rfl rfl) ?_
  rintro e w9 ⟨rfl, v9, s9⟩
  have S9 := hid (s9.box (objT ⟨true, 5, 6, ⟨7, 0, 0, 0, 0, 9, false⟩⟩)).swap
  clear s9 S8
  obtain ⟨m0, m1, m2, m3, m4, m5, m6⟩ := (atM_of (m := ⟨7, 0, 0, 0, 0, 9, false⟩) (S9.out.each (blk qm (objM ⟨7, 0, 0, 0, 0, 9, false⟩)) (by simp)).1).cells
  obtain ⟨a0, a1, a2, a3, a4, a5, a6, a7, a8, a9⟩ := (atT_of (x := ⟨true, 3, 1, ⟨7, 0, 0, 0, 0, 9, false⟩⟩) (S9.out.each (blk qa (objT ⟨true, 3, 1, ⟨7, 0, 0, 0, 0, 9, false⟩⟩)) (by simp)).1).cells
  obtain ⟨-, b1, b2, -⟩ := (atT_of (x := ⟨true, 4, 2, ⟨7, 0, 0, 0, 0, 9, false⟩⟩) (S9.out.each (blk qb (objT ⟨true, 4, 2, ⟨7, 0, 0, 0, 0, 9, false⟩⟩)) (by simp)).1).cells
  obtain ⟨c0, -⟩ := (atT_of (x := ⟨false, 0, 0, ⟨0, 0, 0, 0, 0, 0, false⟩⟩) (S9.out.each (blk qc (objT ⟨false, 0, 0, ⟨0, 0, 0, 0, 0, 0, false⟩⟩)) (by simp)).1).cells
  obtain ⟨d0, d1, d2, d3, d4, d5, d6, d7, d8, d9⟩ := (atT_of (x := ⟨true, 5, 6, ⟨7, 0, 0, 0, 0, 9, false⟩⟩) S9.out.swap.head).cells
  have q1 := fun W => eq_met W ⟨true, 3, 1, ⟨7, 0, 0, 0, 0, 9, false⟩⟩ ⟨true, 3, 1, ⟨7, 0, 0, 0, 0, 9, false⟩⟩
  have q2 := fun W => eq_met W ⟨true, 5, 6, ⟨7, 0, 0, 0, 0, 9, false⟩⟩ ⟨true, 5, 6, ⟨7, 0, 0, 0, 0, 9, false⟩⟩
  simp only [encT, decide_true] at q1 q2
  have hob : objT ⟨true, 5, 6, ⟨7, 0, 0, 0, 0, 9, false⟩⟩ = .cells #[.bool true, .int .i64 5, .int .i64 6, .int .i64 7, .int .u64 0, .int .u64 0, .int .u64 0, .int .u64 0, .int .u64 9, .bool false] 37 := rfl
  generalize hw10 : w9.alloc (objT ⟨true, 5, 6, ⟨7, 0, 0, 0, 0, 9, false⟩⟩) = w10 at *
  rw [hob] at hw10
  have HW := hid hw10
  clear hob hw10
  have S10 := hid (S9.out.lit okI [5] (by decide) #[.int .i64 5] rfl)
  go_wp2_with (first
    | (rw [HW.out]; generalize w9.heap.size = qd at *; clear HW)
    | (go_at_call 12; refine Calls.mono (nums_is S10.out (u := .slice al [(5 : Int)].length cl) (v := .slice (some ⟨w10.heap.size, 0, none⟩) [(5 : Int)].length [(5 : Int)].length) (A := [5]) (B := [5]) (by simp) (by simp) (by simp) rfl) ?_; rintro e w11 ⟨rfl, s11⟩; obtain ⟨m0, m1, m2, m3, m4, m5, m6⟩ := (atM_of (m := ⟨7, 0, 0, 0, 0, 9, false⟩) (s11.each (blk qm (objM ⟨7, 0, 0, 0, 0, 9, false⟩)) (by simp)).1).cells; obtain ⟨d0, d1, d2, d3, d4, d5, d6, d7, d8, d9⟩ := (atT_of (x := ⟨true, 5, 6, ⟨7, 0, 0, 0, 0, 9, false⟩⟩) (s11.each (blk qd (objT ⟨true, 5, 6, ⟨7, 0, 0, 0, 0, 9, false⟩⟩)) (by simp)).1).cells; have S11 := hid s11; clear s11 S10)
    | (go_at_call 9; refine Calls.mono (cancel_is' (b := false) (T := []) S11.out.swap 5 (by decide) rfl rfl) ?_; rintro e w12 ⟨rfl, v12, s12⟩; have S12 := hid s12; clear s12 S11))
  go_ret
  exact ⟨rfl, by rw [HR.out]; exact S12.out.low⟩
end Go.Proofs.Ytddeiglcbnemfaa
