/-
  The document's threads: what is, core, prio and out answer and leave; no condition but that queues are small.
-/
import Derived.Test.YtchamgecalfmpaaDoorXRefM
import Derived.Test.YtchamgecalfmpaaDoorHPick
namespace Go.Proofs.YtchamgecalfmpaaDoor
open Go.RowKit Go.Deep Go.Shelf

def qkR : QK := ⟨Value, rtT, 43, 66⟩
section
variable {w0 w : World} {F : Nat → Prop} {p : Nat} {v u : Value} {qs : List Nat} {h : Hs}
theorem isR_any (t : At qkR w0 F p v u qs h w) (i : Int) : Calls Tryd.prog 54 #[ptr p, .int .i64 i] w fun e w' => e = .returned (.bool (inB i (h.L.length : Int))) ∧ w' = w := by
  obtain ⟨ao, cap, rfl, hg⟩ := t.slice
  have c0 := t.cell0
  clear t hg
  unfold inB
  generalize h.L.length = n at *
  by_cases c : 0 ≤ i
  · have e : decide (0 ≤ i ∧ i < (n : Int)) = decide (i < (n : Int)) := by simp [c]
    rw [e]
    clear e
    generalize hb : decide (i < (n : Int)) = b at *
    go_enter Tryd.func54, Tryd.ntmps54
    go_wp2
    go_ret
    exact ⟨rfl, rfl⟩
  · have e : decide (0 ≤ i ∧ i < (n : Int)) = false := by simp [c]
    have c3 : decide (0 ≤ i) = false := by simpa using c
    rw [e]
    clear e
    go_enter Tryd.func54, Tryd.ntmps54
    go_wp2
    go_ret
    exact ⟨rfl, rfl⟩
theorem coreR_any (t : At qkR w0 F p v u qs h w) (hq : 1 ≤ h.Q.length) (i : Int) : Calls Tryd.prog 58 #[ptr p, .int .i64 i] w fun e w' => e = .returned (.bool (inB i (h.Q.length : Int))) ∧ w' = w := by
  obtain ⟨gq, capq, rfl⟩ := t.pslice hq
  have c0 := t.cell1
  clear t hq
  unfold inB
  generalize h.Q.length = n at *
  by_cases c : 0 ≤ i
  · have e : decide (0 ≤ i ∧ i < (n : Int)) = decide (i < (n : Int)) := by simp [c]
    rw [e]
    clear e
    generalize hb : decide (i < (n : Int)) = b at *
    go_enter Tryd.func58, Tryd.ntmps58
    go_wp2
    go_ret
    exact ⟨rfl, rfl⟩
  · have e : decide (0 ≤ i ∧ i < (n : Int)) = false := by simp [c]
    have c3 : decide (0 ≤ i) = false := by simpa using c
    rw [e]
    clear e
    go_enter Tryd.func58, Tryd.ntmps58
    go_wp2
    go_ret
    exact ⟨rfl, rfl⟩
theorem prioR_any (i : Int) (w : World) : Calls Tryd.prog 72 #[.int .i64 i] w fun e w' => e = .returned (.bool (inB i 256)) ∧ w' = w := by
  unfold inB
  by_cases c : 0 ≤ i
  · have e : decide (0 ≤ i ∧ i < 256) = decide (i ≤ 255) := by
      by_cases h : i ≤ 255
      · rw [decide_eq_true h, decide_eq_true (by omega)]
      · rw [decide_eq_false h, decide_eq_false (by omega)]
    rw [e]
    clear e
    generalize hb : decide (i ≤ 255) = b at *
    go_enter Tryd.func72, Tryd.ntmps72
    go_wp2
    go_ret
    exact ⟨rfl, rfl⟩
  · have e : decide (0 ≤ i ∧ i < 256) = false := by simp [c]
    have c3 : decide (0 ≤ i) = false := by simpa using c
    rw [e]
    clear e
    go_enter Tryd.func72, Tryd.ntmps72
    go_wp2
    go_ret
    exact ⟨rfl, rfl⟩
end
section
variable {w0 w : World} {F : Nat → Prop} {p : Nat} {v u : Value} {qs : List Nat} {h : Hs}
set_option maxHeartbeats 2000000 in
theorem out_at (t : At qkR w0 F p v u qs h w) {i : Nat} (hi : i < h.L.length) (hc : (thr h i).c < h.Q.length) (hl : (que h (thr h i).c).length ≤ 1000) (_hs : i ≤ 1000) :
    Calls Tryd.prog 74 #[ptr p, .int .i64 i] w fun e w' => e = .returned (.tuple #[]) ∧ At qkR w0 F p v u qs (leaveH h i) w' := by
  obtain ⟨ao, cap, rfl, hg⟩ := t.slice
  obtain ⟨g, rfl⟩ := hg i hi
  obtain ⟨gq, capq, rfl⟩ := t.pslice (by omega)
  obtain ⟨_, _, c2, _⟩ := t.four hi
  have c0 := t.cell0
  have c1 := t.cell1
  have cq := t.cellP hc
  obtain ⟨a, hq, hgo⟩ := t.drew.qu hc
  have HT := hid (rtake_any _ a _ (i : Int) w.drew hq hl)
  have HG := hid hgo
  have hiz : (i : Int) < (h.L.length : Int) := by omega
  have hcz : ((thr h i).c : Int) < (h.Q.length : Int) := by omega
  unfold leaveH
  clear t hq hgo hg hl
  generalize hT : takeS (que h (thr h i).c) i = T at *
  generalize takeE (que h (thr h i).c) i = te at *
  generalize (thr h i).c = c at *
  generalize qs.getD c 0 = q at *
  generalize h.L.length = nL at *
  generalize h.Q.length = nQ at *
  go_enter Tryd.func74, Tryd.ntmps74
  go_wp2_with fail
  go_region_with (go_at_call 83; refine Calls.mono HT.out ?_; rintro e w2 ⟨rfl, G2⟩)
  all_goals go_wp2
  all_goals exact bodyPost_end (v := .tuple #[]) (by simp [results, Tryd.results74, go_sem]) rfl ⟨rfl, HG.out _ _ G2⟩
end
end Go.Proofs.YtchamgecalfmpaaDoor
