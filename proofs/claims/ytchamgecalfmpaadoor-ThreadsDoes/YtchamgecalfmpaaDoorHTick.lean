/-
  What Yield and Tick of package threads answer and leave; no condition but that all is right ahead, and that the table of widths lies as the program laid it.
-/
import Derived.Test.YtchamgecalfmpaaDoorHPick
namespace Go.Proofs.YtchamgecalfmpaaDoor
open Go.RowKit Go.Deep Go.Shelf

section
variable {w0 w : World} {F : Nat → Prop} {p : Nat} {v u : Value} {qs : List Nat} {h : Hs}
theorem set_five (iv : Inv h) {i : Nat} (hi : i < h.L.length) : Inv (setH h i { thr h i with l := 5 }) := by
  have ok := okay_at iv hi
  exact inv_set iv hi ⟨ok.p, ok.c, ok.s, by simp, ok.g, ok.w⟩ rfl rfl rfl
theorem len_set {i : Nat} (y : Td) : (setH h i y).L.length = h.L.length := List.length_set
theorem line_five {i : Nat} (iv : Inv (setH h i { thr h i with l := 5 })) (hi : i < h.L.length) (hs : (thr h i).st = 2) : lineH' (setH h i { thr h i with l := 5 }) i = genH h i { thr h i with st := 1, l := 5 } := by
  have hth : thr (setH h i { thr h i with l := 5 }) i = { thr h i with l := 5 } := thr_set hi _
  have e1 := line_gen iv (by rw [len_set]; exact hi) (by rw [hth]; simp only; omega)
  rw [hth] at e1
  exact e1.trans (gen_after hi { thr h i with l := 5 } { thr h i with st := 1, l := 5 } rfl)
theorem inv_five {i : Nat} (iv : Inv (setH h i { thr h i with l := 5 })) (hi : i < h.L.length) : Inv (genH h i { thr h i with st := 1, l := 5 }) := by
  have hth : thr (setH h i { thr h i with l := 5 }) i = { thr h i with l := 5 } := thr_set hi _
  have e1 := inv_state iv (i := i) (by rw [len_set]; exact hi) (s := 1) (by omega) (by omega) (by omega)
  rw [hth] at e1
  exact (gen_after hi { thr h i with l := 5 } { thr h i with st := 1, l := 5 } rfl) ▸ e1
theorem runs_zero {i : Nat} {c : Int} (hi : i < h.L.length) (hr : runsO h c = some i) : runsO (setH h i { thr h i with l := 0 }) c = some i := (runs_set hi { thr h i with l := 0 } rfl rfl c).trans hr
theorem yield_zero {i : Nat} {c : Int} (hi : i < h.L.length) (hr : runsO h c = some i) : yieldH (setH h i { thr h i with l := 0 }) c = yieldH h c := yield_set hi { thr h i with l := 0 } rfl rfl rfl rfl hr
theorem inv_zero {i : Nat} {c : Int} (iv : Inv h) (hi : i < h.L.length) (hr : runsO h c = some i) (j : Nat) (hj : runsO (setH h i { thr h i with l := 0 }) c = some j) : Inv (setH (setH h i { thr h i with l := 0 }) j { thr (setH h i { thr h i with l := 0 }) j with l := 5 }) := by
  rw [runs_zero hi hr] at hj
  cases hj
  have hth : thr (setH h i { thr h i with l := 0 }) i = { thr h i with l := 0 } := thr_set hi _
  rw [hth]
  have : setH (setH h i { thr h i with l := 0 }) i { thr h i with l := 5 } = setH h i { thr h i with l := 5 } := by
    unfold setH
    simp only [List.set_set]
  exact this ▸ set_five iv hi
set_option maxHeartbeats 2000000 in
/-- Whatever ticks who runs has left. -/
theorem yield_raw (t : At qkP w0 F p v u qs h w) (ht : ∀ u, Turn F w0 u → Tab u) (hl : h.L.length ≤ 64) (c : Int) (iv : ∀ i, runsO h c = some i → Inv (setH h i { thr h i with l := 5 })) :
    Calls Tryd.prog 51 #[ptr p, .int .i64 c] w fun e w' => e = .returned (.bool (runsB h c)) ∧ At qkP w0 F p v u qs (yieldH h c) w' := by
  have IV := hid iv
  have HT := hid ht
  have T0 := hid t
  have HS := hid hl
  have HR := hid (runs_any t (by omega) c)
  clear t ht iv hl
  cases hr : runsO h c with
  | none =>
    have hy : yieldH h c = h := by unfold yieldH; rw [hr]
    obtain ⟨r1, r2⟩ := runsN_none hr
    rw [hy, r2]
    rw [r1, r2] at HR
    clear hr hy r1 r2 IV
    go_enter Tryd.func51, Tryd.ntmps51
    go_wp2_with (go_at_call 18; refine Calls.mono HR.out ?_; rintro e w1 ⟨rfl, b1⟩)
    go_ret
    exact ⟨rfl, T0.out.below b1⟩
  | some i =>
    have hy : yieldH h c = pickH (genH h i { thr h i with st := 1, l := 5 }) c := by unfold yieldH; rw [hr]
    obtain ⟨x, hx1, hx2, hi, hx3, hx4⟩ := runs_some hr
    obtain ⟨r1, r2⟩ := runsN_some hr
    rw [hy, r2]
    rw [r1, r2] at HR
    have HI := hid hi
    have IW := hid (IV.out i hr)
    have HX := hid (show (thr h i).st = 2 by rw [hx2]; exact hx3)
    clear hr hy r1 r2 IV hx1 hx2 hx3 hx4 hi x
    go_enter Tryd.func51, Tryd.ntmps51
    go_wp2_with fail
    refine Calls.mono HR.out ?_
    rintro e w1 ⟨rfl, b1⟩
    have t1 := T0.out.below b1
    obtain ⟨ao, cap, rfl, hg⟩ := t1.slice
    obtain ⟨g, rfl⟩ := hg i HI.out
    have c0 := t1.cell0
    obtain ⟨_, _, _, d0⟩ := t1.four HI.out
    have f0 := t1.frozenT (i * 12 + 3)
    have T2 : Hid (At qkP w0 F p _ _ qs (setH h i { thr h i with l := 5 }) _) := t1.set HI.out (j := 3) (c := .int .i64 5) (y := { thr h i with l := 5 }) (by omega) rfl
    have hiz : (i : Int) < (h.L.length : Int) := by have := HI.out; omega
    clear t1 b1 HR T0 hg
    generalize (thr h i).l = l0 at d0
    generalize hnL : h.L.length = nL at *
    go_wp2_with fail
    have hi : i < h.L.length := by have := HI.out; omega
    have oki := okay_at IW.out (i := i) (by rw [len_set]; exact hi)
    refine Calls.mono (lineUp_at T2.out (by rw [len_set]; exact hi) oki.c (Nat.le_trans (IW.out.small oki.c) (by omega)) (by have := HI.out; have := HS.out; omega)) ?_
    rintro e w3 ⟨rfl, t3⟩
    rw [line_five IW.out hi HX.out] at t3
    have T3 := hid t3
    have IG := hid (inv_five IW.out hi)
    clear t3 oki hi T2 c0 d0 f0
    go_wp2_with fail
    refine Calls.mono (pick_at T3.out HT.out IG.out c) ?_
    rintro e w4 ⟨rfl, t4⟩
    have T4 := hid t4
    clear t4
    go_wp2
    go_ret
    rw [hnL]
    exact ⟨rfl, T4.out⟩
theorem yield_at (t : At qkP w0 F p v u qs h w) (ht : ∀ u, Turn F w0 u → Tab u) (iv : Inv h) (c : Int) :
    Calls Tryd.prog 51 #[ptr p, .int .i64 c] w fun e w' => e = .returned (.bool (runsB h c)) ∧ At qkP w0 F p v u qs (yieldH h c) w' :=
  yield_raw t ht iv.few c fun i hr => by
    obtain ⟨_, _, _, hi, _⟩ := runs_some hr
    exact set_five iv hi
set_option maxHeartbeats 2000000 in
theorem tick_at (t : At qkP w0 F p v u qs h w) (ht : ∀ u, Turn F w0 u → Tab u) (iv : Inv h) (c : Int) :
    Calls Tryd.prog 26 #[ptr p, .int .i64 c] w fun e w' => e = .returned (.bool (runsB h c)) ∧ At qkP w0 F p v u qs (tickH h c) w' := by
  have IV := hid iv
  have HT := hid ht
  have T0 := hid t
  have HS := hid iv.few
  have HR := hid (runs_any t (by have := iv.few; omega) c)
  clear t ht iv
  cases hr : runsO h c with
  | none =>
    have hy : tickH h c = h := by unfold tickH; rw [hr]
    obtain ⟨r1, r2⟩ := runsN_none hr
    rw [hy, r2]
    rw [r1, r2] at HR
    clear hr hy r1 r2 IV
    go_enter Tryd.func26, Tryd.ntmps26
    go_wp2_with (go_at_call 18; refine Calls.mono HR.out ?_; rintro e w1 ⟨rfl, b1⟩)
    go_ret
    exact ⟨rfl, T0.out.below b1⟩
  | some i =>
    have hy : tickH h c = if (thr h i).l = 1 then yieldH h c else setH h i { thr h i with l := (thr h i).l - 1 } := by unfold tickH; rw [hr]
    obtain ⟨x, hx1, hx2, hi, hx3, hx4⟩ := runs_some hr
    obtain ⟨r1, r2⟩ := runsN_some hr
    rw [hy, r2]
    rw [r1, r2] at HR
    have HI := hid hi
    have HRO := hid hr
    have hlb := (okay_at IV.out hi).l
    clear hr hy r1 r2 hx1 hx2 hx3 hx4 hi x
    obtain ⟨ao, cap, rfl, hg⟩ := T0.out.slice
    obtain ⟨g, rfl⟩ := hg i HI.out
    have HC := hid (fun u (b : Below w.heap.size w u) => And.intro (T0.out.below b).cell0 (And.intro ((T0.out.below b).four HI.out).2.2.2 (And.intro ((T0.out.below b).frozenT (i * 12 + 3)) ((T0.out.below b).set HI.out (j := 3) (c := .int .i64 ((thr h i).l - 1)) (y := { thr h i with l := (thr h i).l - 1 }) (by omega) rfl))))
    have hiz : (i : Int) < (h.L.length : Int) := by have := HI.out; omega
    have hw1 : IntKind.i64.wrap ((thr h i).l - 1) = (thr h i).l - 1 := by
      unfold IntKind.wrap
      simp [IntKind.bits, IntKind.signed]
      omega
    clear hg T0
    by_cases h1 : (thr h i).l = 1
    · rw [if_pos h1]
      have H1 := hid h1
      rw [h1] at HC hw1 hlb
      clear h1
      have hz : (1 : Int) - 1 = 0 := rfl
      rw [hz] at HC hw1
      go_enter Tryd.func26, Tryd.ntmps26
      go_wp2_with fail
      refine Calls.mono HR.out ?_
      rintro e w1 ⟨rfl, b1⟩
      obtain ⟨c0, d0, f0, t2⟩ := HC.out w1 b1
      have T2 : Hid (At qkP w0 F p _ _ qs (setH h i { thr h i with l := 0 }) _) := t2
      have e0 := t2.cell0
      have e3 := (t2.four (i := i) (by show i < (h.L.set i _).length; rw [List.length_set]; exact HI.out)).2.2.2
      have hth : thr ⟨h.L.set i { thr h i with l := 0 }, h.Q⟩ i = { thr h i with l := 0 } := thr_set HI.out _
      rw [hth] at e3
      simp only at e3
      clear t2 b1 HC HR hth
      generalize hnL : h.L.length = nL at *
      go_wp2_with fail
      have hi : i < h.L.length := by have := HI.out; omega
      have HY := hid (yield_raw T2.out HT.out (by rw [len_set]; have := HS.out; omega) c (inv_zero IV.out hi HRO.out))
      rw [(runsN_some (runs_zero hi HRO.out)).2, yield_zero hi HRO.out] at HY
      clear hi
      refine Calls.mono HY.out ?_
      rintro e w3 ⟨rfl, t3⟩
      have T3 := hid t3
      clear t3
      go_wp2
      go_ret
      rw [hnL]
      exact ⟨rfl, T3.out⟩
    · rw [if_neg h1]
      have h2 : ((thr h i).l - 1 == 0) = false := by simp; omega
      clear h1
      go_enter Tryd.func26, Tryd.ntmps26
      go_wp2_with fail
      refine Calls.mono HR.out ?_
      rintro e w1 ⟨rfl, b1⟩
      obtain ⟨c0, d0, f0, t2⟩ := HC.out w1 b1
      have T2 : Hid (At qkP w0 F p _ _ qs (setH h i { thr h i with l := (thr h i).l - 1 }) _) := t2
      have e0 := t2.cell0
      have e3 := (t2.four (i := i) (by show i < (h.L.set i _).length; rw [List.length_set]; exact HI.out)).2.2.2
      have hth : thr ⟨h.L.set i { thr h i with l := (thr h i).l - 1 }, h.Q⟩ i = { thr h i with l := (thr h i).l - 1 } := thr_set HI.out _
      rw [hth] at e3
      simp only at e3
      clear t2 b1 HC HR hth
      generalize hnL : h.L.length = nL at *
      go_wp2
      go_ret
      rw [hnL]
      exact ⟨rfl, T2.out⟩
end
end Go.Proofs.YtchamgecalfmpaaDoor
