/-
  The document's up: a thread is ready, and put into its core's queue; no condition but that the queue is small.
-/
import Derived.Test.YtchamgecalfmpaaDoorHRBase
namespace Go.Proofs.YtchamgecalfmpaaDoor
open Go.RowKit Go.Deep Go.Shelf

section
variable {w0 w : World} {F : Nat → Prop} {p : Nat} {v u : Value} {qs : List Nat} {h : Hs}
set_option maxHeartbeats 16000000 in
set_option maxRecDepth 100000 in
theorem up_at (t : At qkR w0 F p v u qs h w) {i : Nat} (hi : i < h.L.length) (hc : (thr h i).c < h.Q.length) (hl : (que h (thr h i).c).length ≤ 1000) (hs : i ≤ 1000) :
    Calls Tryd.prog 73 #[ptr p, .int .i64 i] w fun e w' => e = .returned (.tuple #[]) ∧ At qkR w0 F p v u qs (lineH' h i) w' := by
  obtain ⟨ao, cap, rfl, hg⟩ := t.slice
  obtain ⟨g, rfl⟩ := hg i hi
  obtain ⟨gq, capq, rfl⟩ := t.pslice (by omega)
  have c0 := t.cell0
  obtain ⟨d0, _, _, _⟩ := t.four hi
  have f0 := t.frozenT (i * 12)
  have t1 := t.set hi (j := 0) (c := .int .i64 1) (y := { thr h i with st := 1 }) (by omega) rfl
  have hi1 : i < (h.L.set i { thr h i with st := 1 }).length := by rw [List.length_set]; exact hi
  obtain ⟨c0', c1', c2', _⟩ := t1.four (i := i) hi1
  have hth : thr ⟨h.L.set i { thr h i with st := 1 }, h.Q⟩ i = { thr h i with st := 1 } := thr_of (by rw [List.getElem?_set_self hi])
  rw [hth] at c0' c1' c2'
  simp only at c0' c1' c2'
  have e0 := t1.cell0
  have e1 := t1.cell1
  have cq := t1.cellP (c := (thr h i).c) hc
  obtain ⟨a, hq, hgo⟩ := t1.drew.qu (c := (thr h i).c) hc
  have HT := hid (rput_any _ a _ ((thr h i).p : Int) (i : Int) _ hq (i64_nat hs) hl)
  have HG := hid hgo
  have HS5 : Hid (∀ w2, At qkR w0 F p (.slice (some ⟨g, 0, none⟩) h.L.length cap) (.slice (some ⟨gq, 0, none⟩) h.Q.length capq) qs ⟨h.L.set i { thr h i with st := 1 }, h.Q.set (thr h i).c (putS (que h (thr h i).c) (thr h i).p i)⟩ w2 → w2.cell? ⟨p, 0, none⟩ = some (.slice (some ⟨g, 0, none⟩) h.L.length cap) ∧ w2.cell? ⟨p, 1, none⟩ = some (.slice (some ⟨gq, 0, none⟩) h.Q.length capq) ∧ w2.cell? ⟨g, i * 12 + 1, none⟩ = some (.int .i64 (thr h i).p) ∧ w2.cell? ⟨g, i * 12 + 2, none⟩ = some (.int .i64 (thr h i).c) ∧ w2.cell? ⟨gq, (thr h i).c, none⟩ = some (.pointer (some ⟨qs.getD (thr h i).c 0, 0, none⟩))) := fun w2 t2 => by
    have hth2 : thr ⟨h.L.set i { thr h i with st := 1 }, h.Q.set (thr h i).c (putS (que h (thr h i).c) (thr h i).p i)⟩ i = { thr h i with st := 1 } := thr_of (by rw [List.getElem?_set_self hi])
    obtain ⟨_, x1, x2, _⟩ := t2.four (i := i) hi1
    rw [hth2] at x1 x2
    exact ⟨t2.cell0, t2.cell1, x1, x2, t2.cellP (by simp only [List.length_set]; exact hc)⟩
  have hiz : (i : Int) < (h.L.length : Int) := by omega
  have hcz : ((thr h i).c : Int) < (h.Q.length : Int) := by omega
  unfold lineH'
  have hq1 : que ⟨h.L.set i { thr h i with st := 1 }, h.Q⟩ (thr h i).c = que h (thr h i).c := rfl
  rw [hq1] at HT
  simp only [Nat.add_zero] at *
  clear t t1 hq hgo hg hl hth hi1 hq1
  generalize hT : putS (que h (thr h i).c) (thr h i).p i = T at *
  generalize putE (que h (thr h i).c) (thr h i).p i = te at *
  generalize (thr h i).c = c at *
  generalize (thr h i).p = pr at *
  generalize (thr h i).st = st at *
  generalize qs.getD c 0 = q at *
  generalize h.L.length = nL at *
  generalize h.Q.length = nQ at *
  go_enter Tryd.func73, Tryd.ntmps73
  go_wp2_with fail
  generalize w.setCell ⟨g, i * 12, none⟩ (.int .i64 1) = w1 at *
  have hS : w1.drew.cell? ⟨p, 0, none⟩ = some (.slice (some ⟨g, 0, none⟩) nL cap) ∧ w1.drew.cell? ⟨p, 1, none⟩ = some (.slice (some ⟨gq, 0, none⟩) nQ capq) ∧ w1.drew.cell? ⟨g, i * 12 + 1, none⟩ = some (.int .i64 pr) ∧ w1.drew.cell? ⟨g, i * 12 + 2, none⟩ = some (.int .i64 c) ∧ w1.drew.cell? ⟨gq, c, none⟩ = some (.pointer (some ⟨q, 0, none⟩)) := ⟨e0, e1, c1', c2', cq⟩
  go_region_held3 (fun W => W.cell? ⟨p, 0, none⟩ = some (.slice (some ⟨g, 0, none⟩) nL cap) ∧ W.cell? ⟨p, 1, none⟩ = some (.slice (some ⟨gq, 0, none⟩) nQ capq) ∧ W.cell? ⟨g, i * 12 + 1, none⟩ = some (.int .i64 pr) ∧ W.cell? ⟨g, i * 12 + 2, none⟩ = some (.int .i64 c) ∧ W.cell? ⟨gq, c, none⟩ = some (.pointer (some ⟨q, 0, none⟩))) ((first | with_reducible assumption | with_reducible exact hS)) (first | (go_at_call 82; refine Calls.mono HT.out ?_; rintro e w2 ⟨rfl, G2⟩; have s2 := HS5.out _ (HG.out _ _ G2)))
  all_goals go_wp2
  all_goals exact bodyPost_end (v := .tuple #[]) (by simp [results, Tryd.results73, go_sem]) rfl ⟨rfl, HG.out _ _ G2⟩
end
end Go.Proofs.YtchamgecalfmpaaDoor
