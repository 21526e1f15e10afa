/-
  The calls whose answers the document fixes are answered so, where the table of widths lies as the program laid it.
-/
import Derived.Test.YtchamgecalfmpabDoorHNums
namespace Go.Proofs.YtchamgecalfmpabDoor
open Go.RowKit Go.Deep Go.Shelf

def fxM : Nat → Hs
  | 0 => newH 1
  | i + 1 => makeH (fxM i) (5 + (i : Int) / 2) 0
def fx1 : Hs := resumeH (resumeH (fxM 3) 0) 1
def fx2 : Hs := pickH fx1 0
def fxT : Nat → Hs
  | 0 => fx2
  | i + 1 => tickH (fxT i) 0
def fx3 : Hs := resumeH (fxT 5) 2
def fx4 : Hs := pickH fx3 0
def fx5 : Hs := blockH fx4 2
theorem fx_facts : resumeE (fxM 3) 0 = 0 ∧ resumeE (resumeH (fxM 3) 0) 1 = 0 ∧ runsN fx2 0 = 0 ∧ runsB fx2 0 = true ∧ runsN (fxT 5) 0 = 1 ∧ runsB (fxT 5) 0 = true ∧ resumeE (fxT 5) 2 = 0 ∧ runsN fx4 0 = 2 ∧ runsB fx4 0 = true ∧ getE fx4 2 = 0 ∧ (getT fx4 2).st = 2 ∧ resumeE fx4 2 = 101 ∧ resumeH fx4 2 = fx4 ∧ blockE fx4 2 = 0 ∧ getE fx5 3 = 100 ∧ makeE fx5 256 0 = 1 ∧ makeH fx5 256 0 = fx5 ∧ lineH fx5 0 5 = [0, 1] :=
  ⟨by kernel_rfl, by kernel_rfl, by kernel_rfl, by kernel_rfl, by kernel_rfl, by kernel_rfl, by kernel_rfl, by kernel_rfl, by kernel_rfl, by kernel_rfl, by kernel_rfl, by kernel_rfl, by kernel_rfl, by kernel_rfl, by kernel_rfl, by kernel_rfl, by kernel_rfl, by kernel_rfl⟩
/-- The same, the states behind letters. -/
theorem fx_all : ∃ (M T : Nat → Hs) (h0 h1 h3 h4 h5 : Hs) (x y : Td) (mn : Int), M 0 = newH 1 ∧ (∀ i : Nat, makeH (M i) (5 + (i : Int) / 2) 0 = M (i + 1)) ∧ resumeH (M 3) 0 = h0 ∧ resumeE (M 3) 0 = 0 ∧ resumeH h0 1 = h1 ∧ resumeE h0 1 = 0 ∧ pickH h1 0 = T 0 ∧ runsN (T 0) 0 = 0 ∧ runsB (T 0) 0 = true ∧ (∀ i, tickH (T i) 0 = T (i + 1)) ∧ runsN (T 5) 0 = 1 ∧ runsB (T 5) 0 = true ∧ resumeH (T 5) 2 = h3 ∧ resumeE (T 5) 2 = 0 ∧ pickH h3 0 = h4 ∧ runsN h4 0 = 2 ∧ runsB h4 0 = true ∧ getT h4 2 = x ∧ getE h4 2 = 0 ∧ x.st = 2 ∧ resumeH h4 2 = h4 ∧ resumeE h4 2 = 101 ∧ blockH h4 2 = h5 ∧ blockE h4 2 = 0 ∧ getT h5 3 = y ∧ getE h5 3 = 100 ∧ makeH h5 256 0 = h5 ∧ makeN h5 256 0 = mn ∧ makeE h5 256 0 = 1 ∧ lineH h5 0 5 = [0, 1] := by
  obtain ⟨f1, f2, f3, f4, f5, f6, f7, f8, f9, f10, f11, f12, f13, f14, f15, f16, f17, f18⟩ := fx_facts
  exact ⟨fxM, fxT, resumeH (fxM 3) 0, fx1, fx3, fx4, fx5, getT fx4 2, getT fx5 3, makeN fx5 256 0, rfl, fun _ => rfl, rfl, f1, rfl, f2, rfl, f3, f4, fun _ => rfl, f5, f6, rfl, f7, rfl, f8, f9, rfl, f10, f11, f13, f12, rfl, f14, rfl, f15, f17, rfl, f16, f18⟩
set_option maxHeartbeats 8000000 in
set_option maxRecDepth 100000 in
theorem fixed_any (w : World) (ht : Tab w) : Calls Tryd.prog 8 #[] w fun e w' => e = .returned (.bool true) ∧ Below w.heap.size w w' := by
  have HT := hid (Sep.tabs ht)
  obtain ⟨M, T, h0, h1, h3, h4, h5, x, y, mn, m0, m1, a1, a2, a3, a4, a5, a6, a7, a8, a9, a10, a11, a12, a13, a14, a15, a16, a17, a18, a19, a20, a21, a22, a23, a24, a25, a26, a27, a28⟩ := fx_all
  have HF := hid (And.intro a1 (And.intro a2 (And.intro a3 (And.intro a4 (And.intro a5 (And.intro a6 a7))))))
  have HF2 := hid (And.intro a9 (And.intro a10 (And.intro a11 (And.intro a12 (And.intro a13 (And.intro a14 (And.intro a15 (And.intro a16 a17))))))))
  have HF3 := hid (And.intro a19 (And.intro a20 (And.intro a21 (And.intro a22 (And.intro a23 (And.intro a24 (And.intro a25 (And.intro a26 a27))))))))
  have HX := hid (And.intro a18 a28)
  have HM := hid (And.intro m0 m1)
  have HK := hid a8
  clear a1 a2 a3 a4 a5 a6 a7 a8 a9 a10 a11 a12 a13 a14 a15 a16 a17 a18 a19 a20 a21 a22 a23 a24 a25 a26 a27 a28 m0 m1
  clear ht
  go_enter Tryd.func8, Tryd.ntmps8
  go_wp2_with fail
  refine Calls.mono (newT_sep (sep_nil w) 1 (by omega) (by omega)) ?_
  rintro e w1 ⟨p, F, rfl, s1⟩
  have S1 := hid s1
  clear s1
  generalize hr : w.heap.size = r at *
  have HR := hid hr
  clear hr
  go_wp2_with fail
  go_loopw [3] (fun s3 wr => ∃ (k : Nat) (F : Nat → Prop), k ≤ 3 ∧ s3 = .int .i64 k ∧ Sep w r wr [tT p F (M k)]) (fun s3 _ => 3 - (intOf s3).toNat)
  case atStart => exact ⟨0, F, by omega, rfl, by rw [HM.out.1]; exact S1.out⟩
  case round =>
    clear S1
    obtain ⟨k, G, hk, rfl, s1⟩ := hrel
    have S1 := hid s1
    clear s1
    by_cases hlt : k < 3
    · have hltz : (k : Int) < 3 := by omega
      have hd : (k : Int).tdiv 2 = (k : Int) / 2 := Int.tdiv_eq_ediv_of_nonneg (by omega)
      have hw : IntKind.i64.wrap (5 + (k : Int) / 2) = 5 + (k : Int) / 2 := by
        unfold IntKind.wrap
        simp [IntKind.bits, IntKind.signed]
        omega
      go_wp2_with fail
      refine Calls.mono (make_is S1.out (5 + (k : Int) / 2) 0 (HM.out.2 k) rfl rfl) ?_
      rintro e w2 ⟨rfl, F2, s2⟩
      have S2 := hid s2
      clear s2
      go_wp2
      go_round
      case rel => exact ⟨k + 1, F2, by omega, by go_num, S2.out⟩
      case measure => simp [intOf]; omega
    · obtain rfl : k = 3 := by omega
      obtain ⟨a1, a2, a3, a4, a5, a6, a7⟩ := HF.out
      clear HF hk hlt
      go_wp2_with fail
      refine Calls.mono (resume_is S1.out 0 a1 a2) ?_
      rintro e w2 ⟨rfl, F2, s2⟩
      have S2 := hid s2
      clear s2 S1
      go_wp2_with fail
      refine Calls.mono (resume_is S2.out 1 a3 a4) ?_
      rintro e w3 ⟨rfl, F3, s3⟩
      have S3 := hid s3
      clear s3 S2
      go_wp2_with fail
      refine Calls.mono (pick_is S3.out HT.out 0 a5 a6 a7) ?_
      rintro e w4 ⟨rfl, F4, s4⟩
      have S4 := hid s4
      clear s4 S3
      clear a1 a2 a3 a4 a5 a6 a7
      go_wp2_with fail
      go_loopw [8] (fun s8 wr => ∃ (k : Nat) (F : Nat → Prop), k ≤ 5 ∧ s8 = .int .i64 k ∧ Sep w r wr [tT p F (T k)]) (fun s8 _ => 5 - (intOf s8).toNat)
      case atStart => exact ⟨0, F4, by omega, rfl, S4.out⟩
      case round =>
        clear S4
        obtain ⟨k, G, hk, rfl, s1⟩ := hrel
        have S1 := hid s1
        clear s1
        by_cases hlt : k < 5
        · have hltz : (k : Int) < 5 := by omega
          go_wp2_with fail
          refine Calls.mono (tick_sep S1.out HT.out 0) ?_
          rintro e w2 ⟨rfl, F2, s2⟩
          rw [HK.out k] at s2
          generalize runsB (T k) 0 = tb at *
          have S2 := hid s2
          clear s2
          go_wp2
          go_round
          case rel => exact ⟨k + 1, F2, by omega, by go_num, S2.out⟩
          case measure => simp [intOf]; omega
        · obtain rfl : k = 5 := by omega
          obtain ⟨a9, a10, a11, a12, a13, a14, a15, a16, a17⟩ := HF2.out
          clear HF2 hk hlt
          go_wp2_with fail
          refine Calls.mono (runs_is' S1.out 0 a9 a10) ?_
          rintro e w5 ⟨rfl, s5⟩
          have S5 := hid s5
          clear s5 S1
          go_wp2_with fail
          refine Calls.mono (resume_is S5.out 2 a11 a12) ?_
          rintro e w6 ⟨rfl, F6, s6⟩
          have S6 := hid s6
          clear s6 S5
          go_wp2_with fail
          refine Calls.mono (pick_is S6.out HT.out 0 a13 a14 a15) ?_
          rintro e w7 ⟨rfl, F7, s7⟩
          have S7 := hid s7
          clear s7 S6
          go_wp2_with fail
          refine Calls.mono (get_agg S7.out 2 a16 a17) ?_
          rintro e w8 ⟨rfl, s8⟩
          clear a9 a10 a11 a12 a13 a14 a15 a16 a17
          have S8' := hid (s8.box (objT x)).swap
          clear s8 S7
          go_wp2_with fail
          obtain ⟨a19, a20, a21, a22, a23, a24, a25, a26, a27⟩ := HF3.out
          refine Calls.mono (resume_is S8'.out 2 a19 a20) ?_
          rintro e w9 ⟨rfl, F9, s9⟩
          have S9 := hid s9
          clear s9 S8'
          generalize hq8 : w8.heap.size = q8 at *
          clear hq8
          go_wp2_with fail
          refine Calls.mono (block_is S9.out 2 a21 a22) ?_
          rintro e w10 ⟨rfl, F10, s10⟩
          have S10 := hid s10
          clear s10 S9
          go_wp2_with fail
          refine Calls.mono (get_agg S10.out 3 a23 a24) ?_
          rintro e w11 ⟨rfl, s11⟩
          have S11 := hid (s11.box (objT y)).drop
          clear s11 S10
          go_wp2_with fail
          refine Calls.mono (newT_no 9 _ (by omega)) ?_
          rintro e w12 ⟨rfl, rfl⟩
          go_wp2_with fail
          refine Calls.mono (make_is S11.out 256 0 a25 a26 a27) ?_
          rintro e w13 ⟨rfl, F13, s13⟩
          have S13 := hid s13
          have hst := (s13.atT (q := q8) (x := x) (by simp)).cells.1
          rw [HX.out.1] at hst
          clear s13 S11
          go_wp2_with fail
          refine Calls.mono (lines_is S13.out 0 5 HX.out.2) ?_
          rintro e w14 ⟨ao, cap, rfl, s14⟩
          have S14 := hid (s14.two [0, 1] (by simp) #[.int .i64 0, .int .i64 1] rfl)
          clear s14 S13 hst
          go_wp2_with fail
          refine Calls.mono (nums_is S14.out (u := .slice ao [(0 : Int), 1].length cap) (v := .slice (some ⟨w14.heap.size, 0, none⟩) [(0 : Int), 1].length [(0 : Int), 1].length) (A := [0, 1]) (B := [0, 1]) (by simp) (by simp) (by simp) rfl) ?_
          rintro e w15 ⟨rfl, s15⟩
          have S15 := hid s15
          clear s15 S14
          go_wp2
          go_ret
          exact ⟨rfl, by rw [HR.out]; exact S15.out.low⟩
end Go.Proofs.YtchamgecalfmpabDoor
