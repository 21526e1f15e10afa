/-
  The document's threads: Yield, Tick and New, and all its calls among things that lie apart; no condition but that all is right ahead.
-/
import Derived.Test.YtchamgecalfmpaaDoorHRPick
import Derived.Test.YtchamgecalfmpaaDoorHTick
import Derived.Test.YtchamgecalfmpaaDoorHNew
import Derived.Test.YtchamgecalfmpaaDoorHSep
import Derived.Test.YtchamgecalfmpaaDoorHRCore

namespace Go.Proofs.YtchamgecalfmpaaDoor
open Go.RowKit Go.Deep Go.Shelf

section
variable {w0 w : World} {F : Nat → Prop} {p : Nat} {v u : Value} {qs : List Nat} {h : Hs}
set_option maxHeartbeats 2000000 in
/-- Whatever ticks who runs has left. -/
theorem ryield_raw (t : At qkR w0 F p v u qs h w) (hl : h.L.length ≤ 64) (c : Int) (iv : ∀ i, runsO h c = some i → Inv (setH h i { thr h i with l := 5 })) :
    Calls Tryd.prog 52 #[ptr p, .int .i64 c] w fun e w' => e = .returned (.bool (runsB h c)) ∧ At qkR w0 F p v u qs (yieldH h c) w' := by
  have IV := hid iv
  have T0 := hid t
  have HS := hid hl
  have HR := hid (rruns_any t (by omega) c)
  clear t iv hl
  cases hr : runsO h c with
  | none =>
    have hy : yieldH h c = h := by unfold yieldH; rw [hr]
    obtain ⟨r1, r2⟩ := runsN_none hr
    rw [hy, r2]
    rw [r1, r2] at HR
    clear hr hy r1 r2 IV
    go_enter Tryd.func52, Tryd.ntmps52
    go_wp2_with (go_at_call 19; refine Calls.mono HR.out ?_; rintro e w1 ⟨rfl, rfl⟩)
    go_ret
    exact ⟨rfl, T0.out⟩
  | some i =>
    have hy : yieldH h c = pickH (genH h i { thr h i with st := 1, l := 5 }) c := by unfold yieldH; rw [hr]
    obtain ⟨x, hx1, hx2, hi, hx3, hx4⟩ := runs_some hr
    obtain ⟨r1, r2⟩ := runsN_some hr
    rw [hy, r2]
    rw [r1, r2] at HR
    have HI := hid hi
    have IW := hid (IV.out i hr)
    have HX := hid (show (thr h i).st = 2 by rw [hx2]; exact hx3)
    clear hr hy r1 r2 IV hx1 hx2 hx3 hx4 hi x
    go_enter Tryd.func52, Tryd.ntmps52
    go_wp2_with fail
    refine Calls.mono HR.out ?_
    rintro e w1 ⟨rfl, rfl⟩
    have t1 := T0.out
    obtain ⟨ao, cap, rfl, hg⟩ := t1.slice
    obtain ⟨g, rfl⟩ := hg i HI.out
    have c0 := t1.cell0
    obtain ⟨_, _, _, d0⟩ := t1.four HI.out
    have f0 := t1.frozenT (i * 12 + 3)
    have T2 : Hid (At qkR w0 F p _ _ qs (setH h i { thr h i with l := 5 }) _) := t1.set HI.out (j := 3) (c := .int .i64 5) (y := { thr h i with l := 5 }) (by omega) rfl
    have hiz : (i : Int) < (h.L.length : Int) := by have := HI.out; omega
    clear t1 HR T0 hg
    generalize (thr h i).l = l0 at d0
    generalize hnL : h.L.length = nL at *
    go_wp2_with fail
    have hi : i < h.L.length := by have := HI.out; omega
    have oki := okay_at IW.out (i := i) (by rw [len_set]; exact hi)
    refine Calls.mono (up_at T2.out (by rw [len_set]; exact hi) oki.c (Nat.le_trans (IW.out.small oki.c) (by omega)) (by have := HI.out; have := HS.out; omega)) ?_
    rintro e w3 ⟨rfl, t3⟩
    rw [line_five IW.out hi HX.out] at t3
    have T3 := hid t3
    have IG := hid (inv_five IW.out hi)
    clear t3 oki hi T2 c0 d0 f0
    go_wp2_with fail
    refine Calls.mono (rpick_at T3.out IG.out c) ?_
    rintro e w4 ⟨rfl, t4⟩
    have T4 := hid t4
    clear t4
    go_wp2
    go_ret
    rw [hnL]
    exact ⟨rfl, T4.out⟩
theorem ryield_at (t : At qkR w0 F p v u qs h w) (iv : Inv h) (c : Int) :
    Calls Tryd.prog 52 #[ptr p, .int .i64 c] w fun e w' => e = .returned (.bool (runsB h c)) ∧ At qkR w0 F p v u qs (yieldH h c) w' :=
  ryield_raw t iv.few c fun i hr => by
    obtain ⟨_, _, _, hi, _⟩ := runs_some hr
    exact set_five iv hi
end
end Go.Proofs.YtchamgecalfmpaaDoor

namespace Go.Proofs.YtchamgecalfmpaaDoor
open Go.RowKit Go.Deep Go.Shelf

section
variable {w0 w : World} {F : Nat → Prop} {p : Nat} {v u : Value} {qs : List Nat} {h : Hs}
set_option maxHeartbeats 4000000 in
theorem rtick_at (t : At qkR w0 F p v u qs h w) (iv : Inv h) (c : Int) :
    Calls Tryd.prog 53 #[ptr p, .int .i64 c] w fun e w' => e = .returned (.bool (runsB h c)) ∧ At qkR w0 F p v u qs (tickH h c) w' := by
  have IV := hid iv
  have T0 := hid t
  have HS := hid iv.few
  have HR := hid (rruns_any t (by have := iv.few; omega) c)
  clear t iv
  cases hr : runsO h c with
  | none =>
    have hy : tickH h c = h := by unfold tickH; rw [hr]
    obtain ⟨r1, r2⟩ := runsN_none hr
    rw [hy, r2]
    rw [r1, r2] at HR
    clear hr hy r1 r2 IV
    go_enter Tryd.func53, Tryd.ntmps53
    go_wp2_with (go_at_call 19; refine Calls.mono HR.out ?_; rintro e w1 ⟨rfl, rfl⟩)
    go_ret
    exact ⟨rfl, T0.out⟩
  | some i =>
    have hy : tickH h c = if (thr h i).l = 1 then yieldH h c else setH h i { thr h i with l := (thr h i).l - 1 } := by unfold tickH; rw [hr]
    obtain ⟨x, hx1, hx2, hi, hx3, hx4⟩ := runs_some hr
    obtain ⟨r1, r2⟩ := runsN_some hr
    rw [hy, r2]
    rw [r1, r2] at HR
    have HI := hid hi
    have HRO := hid hr
    have hlb := (okay_at IV.out hi).l
    clear hr hy r1 r2 hx1 hx2 hx3 hx4 hi x
    obtain ⟨ao, cap, rfl, hg⟩ := T0.out.slice
    obtain ⟨g, rfl⟩ := hg i HI.out
    have c0 := T0.out.cell0
    have d0 := (T0.out.four HI.out).2.2.2
    have f0 := T0.out.frozenT (i * 12 + 3)
    have t2 := T0.out.drew.set HI.out (j := 3) (c := .int .i64 ((thr h i).l - 1)) (y := { thr h i with l := (thr h i).l - 1 }) (by omega) rfl
    have T2 : Hid (At qkR w0 F p _ _ qs (setH h i { thr h i with l := (thr h i).l - 1 }) _) := t2
    have e0 := t2.cell0
    have e3 := (t2.four (i := i) (by show i < (h.L.set i _).length; rw [List.length_set]; exact HI.out)).2.2.2
    have hth : thr ⟨h.L.set i { thr h i with l := (thr h i).l - 1 }, h.Q⟩ i = { thr h i with l := (thr h i).l - 1 } := thr_set HI.out _
    rw [hth] at e3
    simp only at e3
    have hiz : (i : Int) < (h.L.length : Int) := by have := HI.out; omega
    have hw1 : IntKind.i64.wrap ((thr h i).l - 1) = (thr h i).l - 1 := by
      unfold IntKind.wrap
      simp [IntKind.bits, IntKind.signed]
      omega
    clear hg t2 hth
    by_cases h1 : (thr h i).l = 1
    · rw [if_pos h1]
      rw [h1] at d0 e0 e3 T2 hw1 hlb
      clear h1
      have hz : (1 : Int) - 1 = 0 := rfl
      rw [hz] at e0 e3 T2 hw1
      generalize hnL : h.L.length = nL at *
      go_enter Tryd.func53, Tryd.ntmps53
      go_wp2_with (go_at_call 19; refine Calls.mono HR.out ?_; rintro e w1 ⟨rfl, rfl⟩)
      go_region
      all_goals
        go_wp2_with fail
        have hi : i < h.L.length := by have := HI.out; omega
        have HY := hid (ryield_raw T2.out (by rw [len_set]; have := HS.out; omega) c (inv_zero IV.out hi HRO.out))
        rw [yield_zero hi HRO.out] at HY
        clear hi
        refine Calls.mono HY.out ?_
        rintro e w3 ⟨rfl, t3⟩
        have T3 := hid t3
        clear t3
        go_wp2
        go_ret
        exact ⟨rfl, T3.out⟩
    · rw [if_neg h1]
      have h2 : ((thr h i).l - 1 == 0) = false := by simp; omega
      clear h1
      generalize hnL : h.L.length = nL at *
      go_enter Tryd.func53, Tryd.ntmps53
      go_wp2_with (go_at_call 19; refine Calls.mono HR.out ?_; rintro e w1 ⟨rfl, rfl⟩)
      go_region
      all_goals
        go_wp2
        go_ret
        exact ⟨rfl, T2.out⟩
end
end Go.Proofs.YtchamgecalfmpaaDoor

namespace Go.Proofs.YtchamgecalfmpaaDoor
open Go.RowKit Go.Deep Go.Shelf

theorem uR : Tryd.prog.underlying 41 = some (.slice qkR.pt) := Tryd.underlying41
theorem infoR : (Tryd.prog.info? qkR.pt).map (fun i => (i.zero, i.size, i.bytes)) = some (some (.pointer none), 1, 8) := by kernel_rfl
theorem newRt (w : World) : (qkR.th w.heap.size (.slice none 0 0) []).H (w.alloc (.cells #[.slice none 0 0] 69)) ∧ ∀ x, (qkR.th w.heap.size (.slice none 0 0) []).F x → w.heap.size ≤ x := by
  refine ⟨⟨blk_alloc_new _ _, ⟨rfl, .inl ⟨rfl, rfl⟩⟩, by simp [Value.ownBlock], good_nil⟩, fun x hx => ?_⟩
  have hx' : x = w.heap.size ∨ (Value.slice none 0 0).ownBlock = some x := hx
  rcases hx' with rfl | hx'
  · exact Nat.le_refl _
  · simp [Value.ownBlock] at hx'
set_option maxHeartbeats 4000000 in
theorem newR_any (n : Nat) (w : World) (h1 : 1 ≤ n) (h8 : n ≤ 8) :
    Calls Tryd.prog 10 #[.int .i64 n] w fun e w' => ∃ p F, e = .returned (.tuple #[ptr p, .int .i64 0]) ∧ ThH qkR p F (newH n) w' ∧ Below w.heap.size w w' ∧ ∀ x, F x → w.heap.size ≤ x := by
  have hz1 : ¬ ((n : Int) < 1) := by omega
  have hz2 : ¬ ((8 : Int) < (n : Int)) := by omega
  have A0 := hid (at_fresh (K := qkR) w (w1 := w) (Below.refl _ _) (v := .slice none 0 0) (L := []) ⟨rfl, .inl ⟨rfl, rfl⟩⟩ (fun x hx => by cases hx) (fun _ => .slice none 0 0))
  have hty : qkR.ty = 43 := rfl
  rw [hty] at A0
  clear hty
  go_enter Tryd.func10, Tryd.ntmps10
  go_wp2_with fail
  go_loopw [5] (fun s5 wr => ∃ (k : Nat) (ao : Option Addr) (cap : Nat) (qs : List Nat), k ≤ n ∧ s5 = .int .i64 k ∧ At qkR w none' w.heap.size (.slice none 0 0) (.slice ao k cap) qs ⟨[], List.replicate k []⟩ wr) (fun s5 _ => n - (intOf s5).toNat)
  case atStart => exact ⟨0, none, 0, [], Nat.zero_le _, rfl, A0.out⟩
  case round =>
    clear A0
    obtain ⟨k, ao, cap, qs, hk, rfl, t⟩ := hrel
    have T := hid t
    by_cases hlt : k < n
    · have hltz : (k : Int) < (n : Int) := by omega
      have c1 := t.cell1
      obtain ⟨q2, n2⟩ := newRt wr
      obtain ⟨u', w3, r1, ⟨ao', cap', rfl⟩, c1', f1', t3⟩ := t.queueMore 41 uR infoR q2 (below_new wr _) n2 (by simp; omega)
      have R1 := hid r1
      have T3 := hid t3
      have hpt : qkR.pt = 66 := rfl
      rw [hpt] at R1
      have e9 : (wr.alloc (.cells #[.slice none 0 0] 69)).heap.size = wr.heap.size + 1 := by simp
      rw [e9] at R1
      simp only [List.length_replicate] at *
      clear t T q2 n2 r1 t3 hpt e9
      generalize hr : w.heap.size = r at *
      go_wp2_with (at_builtin; (with_reducible refine wpList_append_run rfl (.tmp 23) (.tmp 26) 41 41 rfl (.slice ao k cap) (.slice (some ⟨wr.heap.size + 1, 0, none⟩) 1 1) _ w3 rfl rfl R1.out ?_))
      go_round
      case rel => exact ⟨k + 1, _, _, _, by omega, by go_num, by rw [List.replicate_succ']; exact T3.out⟩
      case measure => simp [intOf]; omega
    · obtain rfl : k = n := by omega
      clear t
      go_wp2
      go_ret2
      obtain ⟨F, f1, f2, f3⟩ := T.out.all_new
      exact ⟨_, F, rfl, f1, f2, f3⟩
end Go.Proofs.YtchamgecalfmpaaDoor

namespace Go.Proofs.YtchamgecalfmpaaDoor
open Go.RowKit Go.Deep Go.Shelf

/-- Threads that are right, in blocks of their own. -/
def tR (p : Nat) (F : Nat → Prop) (h : Hs) : Th where
  F := F
  H := fun w => ThH qkR p F h w ∧ Inv h
  lt := fun w ⟨t, _⟩ => (thT qkR p F h).lt w t
  keep := fun w w' ⟨t, v⟩ k => ⟨(thT qkR p F h).keep w w' t k, v⟩
section
variable {w0 w : World} {r : Nat} {R : List Th} {p : Nat} {F : Nat → Prop} {h : Hs}
theorem Sep.invR (s : Sep w0 r w (tR p F h :: R)) : Inv h := s.head.2
theorem Sep.goR {w' : World} {h' : Hs} (s : Sep w0 r w (tR p F h :: R)) (g : GoT qkR w p F h' w') (v : Inv h') : ∃ F', Sep w0 r w' (tR p F' h' :: R) := by
  obtain ⟨F', h1, h2, h3⟩ := g
  exact ⟨F', s.turn (t' := tR p F' h') ⟨h1, v⟩ h2 h3⟩
theorem rnewT_sep (s : Sep w0 r w R) (n : Nat) (h1 : 1 ≤ n) (h8 : n ≤ 8) : Calls Tryd.prog 10 #[.int .i64 n] w fun e w' => ∃ p F, e = .returned (.tuple #[ptr p, .int .i64 0]) ∧ Sep w0 r w' (tR p F (newH n) :: R) := by
  refine Calls.mono (newR_any n w h1 h8) ?_
  rintro e w' ⟨p, F, rfl, t, b, n⟩
  exact ⟨p, F, rfl, s.new (t := tR p F _) ⟨t, inv_new h1 h8⟩ b n⟩
theorem rmake_sep (s : Sep w0 r w (tR p F h :: R)) (pr c : Int) : Calls Tryd.prog 42 #[ptr p, .int .i64 pr, .int .i64 c] w fun e w' => e = .returned (.tuple #[.int .i64 (makeN h pr c), .int .i64 (makeE h pr c)]) ∧ ∃ F', Sep w0 r w' (tR p F' (makeH h pr c) :: R) := by
  obtain ⟨v, u, qs, t⟩ := s.head.1.at
  exact (rmake_at t s.invR pr c).mono fun _ _ ⟨he, v', t'⟩ => ⟨he, s.goR t'.goes (inv_make s.invR pr c)⟩
theorem rget_sep (s : Sep w0 r w (tR p F h :: R)) (i : Int) : Calls Tryd.prog 17 #[ptr p, .int .i64 i] w fun e w' => e = .returned (.tuple #[encT (getT h i), .int .i64 (getE h i)]) ∧ Sep w0 r w' (tR p F h :: R) := by
  obtain ⟨v, u, qs, t⟩ := s.head.1.at
  exact (rget_any t i).mono fun _ _ ⟨he, b⟩ => ⟨he, s.below b⟩
theorem rruns_sep (s : Sep w0 r w (tR p F h :: R)) (c : Int) : Calls Tryd.prog 19 #[ptr p, .int .i64 c] w fun e w' => e = .returned (.tuple #[.int .i64 (runsN h c), .bool (runsB h c)]) ∧ Sep w0 r w' (tR p F h :: R) := by
  obtain ⟨v, u, qs, t⟩ := s.head.1.at
  exact (rruns_any t (by have := s.invR.few; omega) c).mono fun _ _ ⟨he, b⟩ => ⟨he, by rw [b]; exact s⟩
theorem rlines_sep (s : Sep w0 r w (tR p F h :: R)) (c pr : Int) : Calls Tryd.prog 22 #[ptr p, .int .i64 c, .int .i64 pr] w fun e w' => ∃ x, e = .returned x ∧ Sep w0 r w' (tR p F h :: lstI x (lineH h c pr) :: R) := by
  obtain ⟨v, u, qs, t⟩ := s.head.1.at
  exact (rlines_any t s.invR c pr).mono fun _ _ ⟨x, he, h1, b, n⟩ => ⟨x, he, s.told (u := lstI x (lineH h c pr)) h1 b fun y hy => n y hy⟩
theorem rresume_sep (s : Sep w0 r w (tR p F h :: R)) (i : Int) : Calls Tryd.prog 44 #[ptr p, .int .i64 i] w fun e w' => e = .returned (.int .i64 (resumeE h i)) ∧ ∃ F', Sep w0 r w' (tR p F' (resumeH h i) :: R) := by
  obtain ⟨v, u, qs, t⟩ := s.head.1.at
  exact (rresume_at t s.invR i).mono fun _ _ ⟨he, t'⟩ => ⟨he, s.goR t'.goes (inv_resume s.invR i)⟩
theorem rsuspend_sep (s : Sep w0 r w (tR p F h :: R)) (i : Int) : Calls Tryd.prog 45 #[ptr p, .int .i64 i] w fun e w' => e = .returned (.int .i64 (suspendE h i)) ∧ ∃ F', Sep w0 r w' (tR p F' (suspendH h i) :: R) := by
  obtain ⟨v, u, qs, t⟩ := s.head.1.at
  exact (rsuspend_at t s.invR i).mono fun _ _ ⟨he, t'⟩ => ⟨he, s.goR t'.goes (inv_suspend s.invR i)⟩
theorem rblock_sep (s : Sep w0 r w (tR p F h :: R)) (i : Int) : Calls Tryd.prog 46 #[ptr p, .int .i64 i] w fun e w' => e = .returned (.int .i64 (blockE h i)) ∧ ∃ F', Sep w0 r w' (tR p F' (blockH h i) :: R) := by
  obtain ⟨v, u, qs, t⟩ := s.head.1.at
  exact (rblock_at t s.invR i).mono fun _ _ ⟨he, t'⟩ => ⟨he, s.goR t'.goes (inv_block s.invR i)⟩
theorem rreg_sep (s : Sep w0 r w (tR p F h :: R)) (i k z : Int) (hz : 0 ≤ z ∧ z ≤ 18446744073709551615) : Calls Tryd.prog 43 #[ptr p, .int .i64 i, .int .i64 k, .int .u64 z] w fun e w' => e = .returned (.int .i64 (regE h i k)) ∧ ∃ F', Sep w0 r w' (tR p F' (regH h i k z) :: R) := by
  obtain ⟨v, u, qs, t⟩ := s.head.1.at
  exact (rreg_at t s.invR i k z).mono fun _ _ ⟨he, t'⟩ => ⟨he, s.goR t'.goes (inv_reg s.invR i k z hz)⟩
theorem rprio_sep (s : Sep w0 r w (tR p F h :: R)) (i k : Int) : Calls Tryd.prog 48 #[ptr p, .int .i64 i, .int .i64 k] w fun e w' => e = .returned (.int .i64 (prioE h i k)) ∧ ∃ F', Sep w0 r w' (tR p F' (prioH h i k) :: R) := by
  obtain ⟨v, u, qs, t⟩ := s.head.1.at
  exact (rprio_at t s.invR i k).mono fun _ _ ⟨he, t'⟩ => ⟨he, s.goR t'.goes (inv_prio s.invR i k)⟩
theorem rcore_sep (s : Sep w0 r w (tR p F h :: R)) (i k : Int) : Calls Tryd.prog 49 #[ptr p, .int .i64 i, .int .i64 k] w fun e w' => e = .returned (.int .i64 (coreE h i k)) ∧ ∃ F', Sep w0 r w' (tR p F' (coreH h i k) :: R) := by
  obtain ⟨v, u, qs, t⟩ := s.head.1.at
  exact (rcore_at t s.invR i k).mono fun _ _ ⟨he, t'⟩ => ⟨he, s.goR t'.goes (inv_core s.invR i k)⟩
theorem rpick_sep (s : Sep w0 r w (tR p F h :: R)) (c : Int) : Calls Tryd.prog 50 #[ptr p, .int .i64 c] w fun e w' => e = .returned (.tuple #[.int .i64 (runsN (pickH h c) c), .bool (runsB (pickH h c) c)]) ∧ ∃ F', Sep w0 r w' (tR p F' (pickH h c) :: R) := by
  obtain ⟨v, u, qs, t⟩ := s.head.1.at
  exact (rpick_at t s.invR c).mono fun _ _ ⟨he, t'⟩ => ⟨he, s.goR t'.goes (inv_pick s.invR c)⟩
theorem ryield_sep (s : Sep w0 r w (tR p F h :: R)) (c : Int) : Calls Tryd.prog 52 #[ptr p, .int .i64 c] w fun e w' => e = .returned (.bool (runsB h c)) ∧ ∃ F', Sep w0 r w' (tR p F' (yieldH h c) :: R) := by
  obtain ⟨v, u, qs, t⟩ := s.head.1.at
  exact (ryield_at t s.invR c).mono fun _ _ ⟨he, t'⟩ => ⟨he, s.goR t'.goes (inv_yield s.invR c)⟩
theorem rtick_sep (s : Sep w0 r w (tR p F h :: R)) (c : Int) : Calls Tryd.prog 53 #[ptr p, .int .i64 c] w fun e w' => e = .returned (.bool (runsB h c)) ∧ ∃ F', Sep w0 r w' (tR p F' (tickH h c) :: R) := by
  obtain ⟨v, u, qs, t⟩ := s.head.1.at
  exact (rtick_at t s.invR c).mono fun _ _ ⟨he, t'⟩ => ⟨he, s.goR t'.goes (inv_tick s.invR c)⟩
end
end Go.Proofs.YtchamgecalfmpaaDoor
