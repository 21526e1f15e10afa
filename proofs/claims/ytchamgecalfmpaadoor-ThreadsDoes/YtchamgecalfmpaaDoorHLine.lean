/-
  What leave, lineUp, Runs and Line of package threads answer and leave; no condition but that queues are small.
-/
import Derived.Test.YtchamgecalfmpaaDoorHAmong
namespace Go.Proofs.YtchamgecalfmpaaDoor
open Go.RowKit Go.Deep Go.Shelf

section
variable {K : QK} {w0 w w' : World} {F : Nat → Prop} {p : Nat} {v u : Value} {qs : List Nat} {h : Hs}
theorem At.four {g cap n : Nat} (t : At K w0 F p (.slice (some ⟨g, 0, none⟩) n cap) u qs h w) {i : Nat} (hi : i < h.L.length) :
    w.cell? ⟨g, i * 12, none⟩ = some (.int .i64 (thr h i).st) ∧ w.cell? ⟨g, i * 12 + 1, none⟩ = some (.int .i64 (thr h i).p) ∧ w.cell? ⟨g, i * 12 + 2, none⟩ = some (.int .i64 (thr h i).c) ∧ w.cell? ⟨g, i * 12 + 3, none⟩ = some (.int .i64 (thr h i).l) :=
  ⟨t.cellT hi (j := 0) rfl, t.cellT hi (j := 1) rfl, t.cellT hi (j := 2) rfl, t.cellT hi (j := 3) rfl⟩
theorem At.drew (t : At K w0 F p v u qs h w) : At K w0 F p v u qs h w.drew := t.below ((Below.refl _ _).drew)
theorem At.drewN (t : At K w0 F p v u qs h w) (n : Nat) : At K w0 F p v u qs h (w.drewN n) := t.below (below_drewN (Below.refl _ _) n)
theorem At.var0 (t : At K w0 F p v u qs h w) : Var w p v := ⟨t.lt, t.cell0⟩
end
/-- A thread's number fits. -/
theorem i64_nat {i : Nat} (h : i ≤ 1000) : I64 (i : Int) := by unfold I64; omega
def leaveH (h : Hs) (i : Nat) : Hs := ⟨h.L, h.Q.set (thr h i).c (takeS (que h (thr h i).c) i)⟩
def lineH' (h : Hs) (i : Nat) : Hs := ⟨h.L.set i { thr h i with st := 1 }, h.Q.set (thr h i).c (putS (que h (thr h i).c) (thr h i).p i)⟩
theorem takeE_b (S : St) (n : Int) : (takeE S n == 0) = whB S n := by
  unfold takeE
  cases whB S n <;> simp
section
variable {w0 w : World} {F : Nat → Prop} {p : Nat} {v u : Value} {qs : List Nat} {h : Hs}
set_option maxHeartbeats 2000000 in
theorem leave_at (t : At qkP w0 F p v u qs h w) {i : Nat} (hi : i < h.L.length) (hc : (thr h i).c < h.Q.length) (hl : (que h (thr h i).c).length ≤ 1000) (hs : i ≤ 1000) :
    Calls Tryd.prog 36 #[ptr p, .int .i64 i] w fun e w' => e = .returned (.bool (whB (que h (thr h i).c) i)) ∧ At qkP w0 F p v u qs (leaveH h i) w' := by
  obtain ⟨ao, cap, rfl, hg⟩ := t.slice
  obtain ⟨g, rfl⟩ := hg i hi
  obtain ⟨gq, capq, rfl⟩ := t.pslice (by omega)
  obtain ⟨_, _, c2, _⟩ := t.four hi
  have c0 := t.cell0
  have c1 := t.cell1
  have cq := t.cellP hc
  obtain ⟨a, hq, hgo⟩ := t.drew.qu hc
  have HT := hid (take_any _ a _ (i : Int) w.drew hq (i64_nat hs) hl)
  have HG := hid hgo
  have he := takeE_b (que h (thr h i).c) i
  have hiz : (i : Int) < (h.L.length : Int) := by omega
  have hcz : ((thr h i).c : Int) < (h.Q.length : Int) := by omega
  unfold leaveH
  clear t hq hgo hg hl
  generalize hT : takeS (que h (thr h i).c) i = T at *
  generalize whB (que h (thr h i).c) i = b at *
  generalize takeE (que h (thr h i).c) i = te at *
  generalize (thr h i).c = c at *
  generalize qs.getD c 0 = q at *
  generalize h.L.length = nL at *
  generalize h.Q.length = nQ at *
  go_enter Tryd.func36, Tryd.ntmps36
  go_wp2_with fail
  go_region_with (go_at_call 65; refine Calls.mono HT.out ?_; rintro e w2 ⟨rfl, G2⟩)
  all_goals go_wp2
  all_goals go_ret
  all_goals exact ⟨rfl, HG.out _ _ G2⟩
set_option maxHeartbeats 2000000 in
theorem lineUp_at (t : At qkP w0 F p v u qs h w) {i : Nat} (hi : i < h.L.length) (hc : (thr h i).c < h.Q.length) (hl : (que h (thr h i).c).length ≤ 1000) (hs : i ≤ 1000) :
    Calls Tryd.prog 41 #[ptr p, .int .i64 i] w fun e w' => e = .returned (.tuple #[]) ∧ At qkP w0 F p v u qs (lineH' h i) w' := by
  obtain ⟨ao, cap, rfl, hg⟩ := t.slice
  obtain ⟨g, rfl⟩ := hg i hi
  obtain ⟨gq, capq, rfl⟩ := t.pslice (by omega)
  have c0 := t.cell0
  obtain ⟨d0, _, _, _⟩ := t.four hi
  have f0 := t.frozenT (i * 12)
  have t1 := t.set hi (j := 0) (c := .int .i64 1) (y := { thr h i with st := 1 }) (by omega) rfl
  have hi1 : i < (h.L.set i { thr h i with st := 1 }).length := by rw [List.length_set]; exact hi
  obtain ⟨c0', c1', c2', _⟩ := t1.four (i := i) hi1
  have hth : thr ⟨h.L.set i { thr h i with st := 1 }, h.Q⟩ i = { thr h i with st := 1 } := thr_of (by rw [List.getElem?_set_self hi])
  rw [hth] at c0' c1' c2'
  simp only at c0' c1' c2'
  have e0 := t1.cell0
  have e1 := t1.cell1
  have cq := t1.cellP (c := (thr h i).c) hc
  obtain ⟨a, hq, hgo⟩ := t1.drew.qu (c := (thr h i).c) hc
  have HT := hid (put_any _ a _ ((thr h i).p : Int) (i : Int) _ hq (i64_nat hs) hl)
  have HG := hid hgo
  have hiz : (i : Int) < (h.L.length : Int) := by omega
  have hcz : ((thr h i).c : Int) < (h.Q.length : Int) := by omega
  unfold lineH'
  have hq1 : que ⟨h.L.set i { thr h i with st := 1 }, h.Q⟩ (thr h i).c = que h (thr h i).c := rfl
  rw [hq1] at HT
  simp only [Nat.add_zero] at *
  clear t t1 hq hgo hg hl hth hi1 hq1
  generalize hT : putS (que h (thr h i).c) (thr h i).p i = T at *
  generalize putE (que h (thr h i).c) (thr h i).p i = te at *
  generalize (thr h i).c = c at *
  generalize (thr h i).p = pr at *
  generalize (thr h i).st = st at *
  generalize qs.getD c 0 = q at *
  generalize h.L.length = nL at *
  generalize h.Q.length = nQ at *
  go_enter Tryd.func41, Tryd.ntmps41
  go_wp2_with fail
  go_region_with (go_at_call 71; refine Calls.mono HT.out ?_; rintro e w2 ⟨rfl, G2⟩)
  all_goals go_wp2
  all_goals exact bodyPost_end (v := .tuple #[]) (by simp [results, Tryd.results41, go_sem]) rfl ⟨rfl, HG.out _ _ G2⟩
end
end Go.Proofs.YtchamgecalfmpaaDoor
