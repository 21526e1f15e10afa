/-
  The calls whose answers the document fixes are answered so; no condition.
-/
import Derived.Test.YthjcodkgcffamaaPSep
import Derived.Deep.Cut
import Derived.Deep.CutRange
namespace Go.Proofs.Ythjcodkgcffamaa
open Go.RowKit Go.Deep Go.Shelf
/-! ### The states that come -/
def fx1 : Sp := tabS sp0 0 9
def fx2 : Sp := mapS fx1 3 ⟨5, 1⟩
def fx3 : Sp := rgtS fx2 3 3
def fx4 : Sp := drpS fx3 0
set_option maxRecDepth 100000 in
theorem fx_facts : (mapE sp0 3 ⟨5, 1⟩ = 141 ∧ mapS sp0 3 ⟨5, 1⟩ = sp0 ∧ tabE sp0 0 9 = 0 ∧ mapE fx1 3 ⟨5, 1⟩ = 0) ∧
    (wlkP fx2 3 = ⟨5, 1⟩ ∧ wlkB fx2 3 = true ∧ mapE fx2 3 ⟨5, 1⟩ = 140 ∧ mapS fx2 3 ⟨5, 1⟩ = fx2 ∧ tabE fx2 1 9 = 140 ∧ tabS fx2 1 9 = fx2 ∧ rgtE fx2 3 3 = 0) ∧
    (hasN fx3 0 = 9 ∧ hasB fx3 0 = true ∧ frmL fx3.f 5 = [3] ∧ drpE fx3 0 = 0 ∧ drpL fx3 0 = [(3, ⟨5, 3⟩)]) ∧
    (wlkP fx4 3 = ⟨0, 0⟩ ∧ wlkB fx4 3 = false ∧ unmE fx4 3 = 141 ∧ unmS fx4 3 = fx4 ∧ mapE fx4 4096 ⟨5, 1⟩ = 1 ∧ mapS fx4 4096 ⟨5, 1⟩ = fx4) :=
  ⟨⟨by kernel_rfl, by kernel_rfl, by kernel_rfl, by kernel_rfl⟩, ⟨by kernel_rfl, by kernel_rfl, by kernel_rfl, by kernel_rfl, by kernel_rfl, by kernel_rfl, by kernel_rfl⟩,
    ⟨by kernel_rfl, by kernel_rfl, by kernel_rfl, by kernel_rfl, by kernel_rfl⟩, ⟨by kernel_rfl, by kernel_rfl, by kernel_rfl, by kernel_rfl, by kernel_rfl, by kernel_rfl⟩⟩
set_option maxHeartbeats 8000000 in
set_option maxRecDepth 100000 in
theorem fixed_any (w : World) : Calls Try.prog 31 #[] w fun e w' => e = .returned (.bool true) ∧ Below w.heap.size w w' := by
  obtain ⟨⟨a1, a2, a3, a4⟩, ⟨b1, b2, b3, b4, b5, b6, b7⟩, ⟨c1, c2, c3, c4, c5⟩, ⟨d1, d2, d3, d4, d5, d6⟩⟩ := fx_facts
  have HA := hid (And.intro a1 (And.intro a2 (And.intro a3 a4)))
  have HB := hid (And.intro b1 (And.intro b2 (And.intro b3 (And.intro b4 (And.intro b5 (And.intro b6 b7))))))
  have HC := hid (And.intro c1 (And.intro c2 (And.intro c3 (And.intro c4 c5))))
  have HD := hid (And.intro d1 (And.intro d2 (And.intro d3 (And.intro d4 (And.intro d5 d6)))))
  clear a1 a2 a3 a4 b1 b2 b3 b4 b5 b6 b7 c1 c2 c3 c4 c5 d1 d2 d3 d4 d5 d6
  have hS := hid (sep_nil w)
  go_enter Try.func31, Try.ntmps31
  go_wp2_with fail
  refine Calls.mono (new_sep hS.out) ?_
  rintro e w1 ⟨p, m1, rfl, s1⟩
  have S1 := hid (Sep.box s1 (objP ⟨5, 1⟩)).swap
  clear s1 hS
  generalize hr : w.heap.size = r at *
  have HR := hid hr
  clear hr
  go_wp2_with fail
  refine Calls.mono (mp_is S1.out 3 5 1 HA.out.1 HA.out.2.1) ?_
  rintro e w2 ⟨rfl, s2⟩
  generalize w1.heap.size = q2 at *
  obtain ⟨x0, x1⟩ := s2.pageAt (q := q2) (x := ⟨5, 1⟩) (by simp)
  simp only at x0 x1
  have S2 := hid s2
  clear s2 S1
  go_wp2_with fail
  go_cut [4, 5] from 27 to 31 (fun s4 s5 wx => ∃ m', s4 = .int .i64 0 ∧ s5 = .int .i64 0 ∧ Sep w r wx [spT p m' fx2, blk q2 (objP ⟨5, 1⟩)])
  case first =>
    go_region_with (first
      | (go_at_call 14; refine Calls.mono (mp_is (T := fx2) S3.out 3 5 1 HA.out.2.2.2 rfl) ?_; rintro e w4 ⟨rfl, s4⟩; have S4 := hid s4; clear s4 S3)
      | (go_at_call 10; refine Calls.mono (tab_is (T := fx1) S2.out.drew 0 9 HA.out.2.2.1 rfl) ?_; rintro e w3 ⟨rfl, m3, s3⟩; obtain ⟨y0, y1⟩ := s3.pageAt (q := q2) (x := ⟨5, 1⟩) (by simp); simp only at y0 y1; have S3 := hid s3; clear s3 S2))
    all_goals go_wp2_with fail
    all_goals go_meet
    all_goals exact ⟨_, rfl, rfl, S4.out⟩
  case rest =>
    obtain ⟨m4, rfl, rfl, s4⟩ := hcut
    have S4 := hid s4
    clear s4
    clear x0 x1 S2
    go_wp2_with fail
    refine Calls.mono (wlk_is S4.out 3 HB.out.1 HB.out.2.1) ?_
    rintro e w5 ⟨rfl, s5⟩
    have S5 := hid (Sep.box s5 (objP ⟨5, 1⟩)).swap
    clear S4 s5
    have x0 : (w5.alloc (.cells #[.int .i64 5, .int .i64 1] 31)).cell? ⟨q2, 0, none⟩ = some (.int .i64 5) := (S5.out.pageAt (q := q2) (x := ⟨5, 1⟩) (by simp)).1
    have x1 : (w5.alloc (.cells #[.int .i64 5, .int .i64 1] 31)).cell? ⟨q2, 1, none⟩ = some (.int .i64 1) := (S5.out.pageAt (q := q2) (x := ⟨5, 1⟩) (by simp)).2
    go_wp2_with fail
    refine Calls.mono (mp_is S5.out 3 5 1 HB.out.2.2.1 HB.out.2.2.2.1) ?_
    rintro e w6 ⟨rfl, s6⟩
    generalize w5.heap.size = q6 at *
    have S6 := hid s6
    clear S5 s6 x0 x1
    go_wp2_with fail
    refine Calls.mono (tab_is S6.out 1 9 HB.out.2.2.2.2.1 HB.out.2.2.2.2.2.1) ?_
    rintro e w7 ⟨rfl, m7, s7⟩
    have S7 := hid s7
    clear S6 s7
    go_wp2_with fail
    refine Calls.mono (rgt_is (T := fx3) S7.out 3 3 HB.out.2.2.2.2.2.2 rfl) ?_
    rintro e w8 ⟨rfl, s8⟩
    have S8 := hid s8
    clear S7 s8
    go_wp2_with fail
    refine Calls.mono (hs_is S8.out 0 HC.out.1 HC.out.2.1) ?_
    rintro e w9 ⟨rfl, s9⟩
    have S9 := hid s9
    clear S8 s9
    go_wp2_with fail
    refine Calls.mono (frm_is S9.out 5 HC.out.2.2.1) ?_
    rintro e wa ⟨vf, rfl, sa⟩
    have SA := hid sa
    clear S9 sa
    go_wp2_with fail
    refine Calls.mono (drp_is (T := fx4) SA.out 0 HC.out.2.2.2.1 HC.out.2.2.2.2 rfl) ?_
    rintro e wb ⟨vl, mb, rfl, sb⟩
    have SB := hid sb
    clear SA sb
    go_wp2_with fail
    refine Calls.mono (wlk_is SB.out 3 HD.out.1 HD.out.2.1) ?_
    rintro e wc ⟨rfl, sc⟩
    have SC := hid (sc.below (below_new wc (.cells #[.int .i64 0, .int .i64 0] 31)))
    clear SB sc
    go_wp2_with fail
    refine Calls.mono (unm_is SC.out 3 HD.out.1 HD.out.2.2.1 HD.out.2.2.2.1) ?_
    rintro e wd ⟨rfl, sd⟩
    have SD := hid (sd.below (below_new wd (.cells #[.int .i64 0, .int .i64 0] 31)))
    clear SC sd
    have x0 : (wd.alloc (.cells #[.int .i64 0, .int .i64 0] 31)).cell? ⟨q2, 0, none⟩ = some (.int .i64 5) := (SD.out.pageAt (q := q2) (x := ⟨5, 1⟩) (by simp)).1
    have x1 : (wd.alloc (.cells #[.int .i64 0, .int .i64 0] 31)).cell? ⟨q2, 1, none⟩ = some (.int .i64 1) := (SD.out.pageAt (q := q2) (x := ⟨5, 1⟩) (by simp)).2
    have y0 : (wd.alloc (.cells #[.int .i64 0, .int .i64 0] 31)).cell? ⟨q6, 0, none⟩ = some (.int .i64 5) := (SD.out.pageAt (q := q6) (x := ⟨5, 1⟩) (by simp)).1
    have y1 : (wd.alloc (.cells #[.int .i64 0, .int .i64 0] 31)).cell? ⟨q6, 1, none⟩ = some (.int .i64 1) := (SD.out.pageAt (q := q6) (x := ⟨5, 1⟩) (by simp)).2
    have he : ∀ W, (Op.equalIn 10000 31 (.agg #[.int .i64 5, .int .i64 1]) (.agg #[.int .i64 5, .int .i64 1])).run Try.prog W = .ok true W := fun W => eq_page W 5 1 5 1
    go_wp2_with fail
    have e9 : ∀ o, (wd.alloc o).heap.size = wd.heap.size + 1 := fun o => by simp
    have sn := SD.out.lit okI [3] (by simp) #[.int .i64 3] rfl
    rw [e9] at sn
    refine Calls.mono (nums_is (u := vf) (A := [3]) (B := [3]) sn (by simp) (by simp) (by simp) rfl) ?_
    rintro e we ⟨rfl, se⟩
    have SE := hid (se.lit okL [(3, ⟨5, 3⟩)] (by simp) #[.int .i64 3, .int .i64 5, .int .i64 3] rfl)
    clear SD sn se x0 x1 y0 y1 e9
    go_wp2_with fail
    refine Calls.mono (same_is (u := vl) (A := [(3, ⟨5, 3⟩)]) (B := [(3, ⟨5, 3⟩)]) SE.out (by simp) (by simp) (by simp) rfl) ?_
    rintro e wf ⟨rfl, sf⟩
    generalize we.heap.size = qe at *
    generalize wd.heap.size = qd at *
    obtain ⟨x0, x1⟩ := sf.pageAt (q := q2) (x := ⟨5, 1⟩) (by simp)
    simp only at x0 x1
    have SF := hid sf.drop.drop
    clear sf SE
    go_wp2_with fail
    refine Calls.mono (mp_is (T := fx4) SF.out 4096 5 1 HD.out.2.2.2.2.1 HD.out.2.2.2.2.2) ?_
    rintro e wg ⟨rfl, sg⟩
    have SG := hid sg
    clear sg SF x0 x1
    go_wp2
    go_ret
    exact ⟨rfl, by rw [HR.out]; exact SG.out.low⟩
end Go.Proofs.Ythjcodkgcffamaa
