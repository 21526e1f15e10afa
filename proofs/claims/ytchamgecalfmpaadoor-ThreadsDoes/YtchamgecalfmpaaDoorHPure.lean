/-
  What the program's steps come to, in the document's words: a thread leaves its queue, is changed, is lined up; plain facts, no condition but that all is right ahead.
-/
import Derived.Test.YtchamgecalfmpaaDoorHLine
namespace Go.Proofs.YtchamgecalfmpaaDoor

theorem few_nums (S : St) (h : S.Pairwise (fun x y => x.n ≠ y.n)) : ∀ m : Nat, (∀ x ∈ S, ∃ i : Nat, i < m ∧ x.n = (i : Int)) → S.length ≤ m := by
  intro m
  induction m generalizing S with
  | zero =>
    intro hm
    cases S with
    | nil => simp
    | cons x S =>
      obtain ⟨i, hi, _⟩ := hm x (by simp)
      omega
  | succ m ih =>
    intro hm
    have hf : (takeS S (m : Int)).length ≤ m := by
      refine ih _ (h.sublist List.filter_sublist) fun x hx => ?_
      obtain ⟨h1, h2⟩ := take_mem.1 hx
      obtain ⟨i, hi, e⟩ := hm x h1
      exact ⟨i, by omega, e⟩
    have : S.length ≤ (takeS S (m : Int)).length + 1 := by
      clear ih hm hf
      induction S with
      | nil => simp
      | cons x S ih =>
        obtain ⟨h1, h2⟩ := List.pairwise_cons.1 h
        unfold takeS
        by_cases e : x.n = (m : Int)
        · rw [List.filter_cons_of_neg (by simpa using e), List.filter_eq_self.2]
          · simp
          · intro a ha
            have := h1 a ha
            rw [e] at this
            simpa using fun q => this q.symm
        · rw [List.filter_cons_of_pos (by simpa using e)]
          have := ih h2
          unfold takeS at this
          simp only [List.length_cons]
          omega
    omega
section
variable {h : Hs} {i : Nat}
theorem Inv.small (v : Inv h) {c : Nat} (hc : c < h.Q.length) : (que h c).length ≤ 64 := by
  have := few_nums (que h c) (v.queue hc).one h.L.length fun x hx => by
    obtain ⟨i, y, e, rfl, _⟩ := (v.mem c hc x).1 hx
    exact ⟨i, (List.getElem?_eq_some_iff.1 e).1, rfl⟩
  exact Nat.le_trans this v.few
theorem Inv.stands (v : Inv h) (hi : i < h.L.length) : whB (que h (thr h i).c) i = decide ((thr h i).st = 1) := by
  have hc := (okay_at v hi).c
  by_cases e : (thr h i).st = 1
  · have hm := (v.mem (thr h i).c hc ⟨(thr h i).p, (i : Int)⟩).2 ⟨i, thr h i, thr_at hi, rfl, e, rfl⟩
    rw [(whB_of (v.queue hc) hm).1]
    simp [e]
  · rw [not_in v hi e hc]
    simp [e]
theorem thr_set {L : List Td} {Q : List St} (hi : i < L.length) (x : Td) : thr ⟨L.set i x, Q⟩ i = x := thr_of (by rw [List.getElem?_set_self hi])
theorem line_gen (v : Inv h) (hi : i < h.L.length) (hs : (thr h i).st ≠ 1) : lineH' h i = genH h i { thr h i with st := 1 } := by
  have ok := okay_at v hi
  rw [gen_free v hi hs { thr h i with st := 1 } ok.c ok.p]
  rfl
/-- It leaves its queue, is x but for its state, and is lined up. -/
theorem up_gen (v : Inv h) (hi : i < h.L.length) (x : Td) (hx : x.c < h.Q.length) (hp : x.p < 256) :
    lineH' ⟨h.L.set i x, (leaveH h i).Q⟩ i = genH h i { x with st := 1 } := by
  have ok := okay_at v hi
  unfold lineH'
  rw [thr_set hi]
  simp only
  unfold genH genQ leaveH
  simp only [List.set_set, if_true]
  have hb : ∀ y ∈ (h.Q.set (thr h i).c (takeS (que h (thr h i).c) i)).getD x.c [], y.n ≠ (i : Int) := by
    rw [getD_set hx]
    intro y hy
    split at hy
    · exact (take_mem.1 hy).2
    · rename_i e
      intro hn
      exact e (v.nums hx (thr_at hi) hy hn).2.2.symm
  have hw : whB ((h.Q.set (thr h i).c (takeS (que h (thr h i).c) i)).getD x.c []) i = false := by
    unfold whB
    rw [whF_no hb]
    rfl
  have : putE ((h.Q.set (thr h i).c (takeS (que h (thr h i).c) i)).getD x.c []) x.p i = 0 := by
    unfold putE
    rw [if_pos (by omega), hw]
    rfl
  have h3 : putS ((h.Q.set (thr h i).c (takeS (que h (thr h i).c) i)).getD x.c []) x.p i = (h.Q.set (thr h i).c (takeS (que h (thr h i).c) i)).getD x.c [] ++ [⟨x.p, (i : Int)⟩] := by
    unfold putS
    rw [if_pos this, Int.toNat_natCast]
  exact congrArg (fun T => (⟨h.L.set i { x with st := 1 }, (h.Q.set (thr h i).c (takeS (que h (thr h i).c) i)).set x.c T⟩ : Hs)) h3
theorem out_gen (x : Td) (hs : x.st ≠ 1) : (⟨(leaveH h i).L.set i x, (leaveH h i).Q⟩ : Hs) = genH h i x := by
  rw [gen_out x hs]
  rfl
theorem leave_len (c : Nat) (hc : c < h.Q.length) (hl : ∀ d, d < h.Q.length → (que h d).length ≤ 64) : ((leaveH h i).Q.getD c []).length ≤ 64 := by
  unfold leaveH
  show (List.getD (h.Q.set _ _) c []).length ≤ 64
  rw [getD_set hc]
  split
  · rename_i e
    rw [← e]
    exact Nat.le_trans (takeS_len _ _) (hl c hc)
  · exact hl c hc
/-- Only its ticks change. -/
theorem gen_after (hi : i < h.L.length) (y x : Td) (hy : y.c = (thr h i).c) : genH (setH h i y) i x = genH h i x := by
  unfold genH setH
  rw [thr_set hi, hy]
  simp only [List.set_set]
theorem runs_set (hi : i < h.L.length) (y : Td) (e1 : y.st = (thr h i).st) (e2 : y.c = (thr h i).c) (c : Int) : runsO (setH h i y) c = runsO h c := by
  unfold runsO setH
  have : ∀ (L : List Td) (i : Nat) (x : Td), L[i]? = some x → y.st = x.st → y.c = x.c → (L.set i y).findIdx? (fun x => x.st == 2 && (x.c : Int) == c) = L.findIdx? (fun x => x.st == 2 && (x.c : Int) == c) := by
    intro L
    induction L with
    | nil => intro i x h; simp at h
    | cons z L ih =>
      intro i x h q1 q2
      cases i with
      | zero =>
        obtain rfl : z = x := by simpa using h
        simp only [List.set_cons_zero, List.findIdx?_cons, q1, q2]
      | succ i =>
        simp only [List.set_cons_succ, List.findIdx?_cons]
        rw [ih i x (by simpa using h) q1 q2]
  exact this h.L i (thr h i) (thr_at hi) e1 e2
theorem yield_set (hi : i < h.L.length) (y : Td) (e1 : y.st = (thr h i).st) (e2 : y.c = (thr h i).c) (e3 : y.p = (thr h i).p) (e4 : y.g = (thr h i).g) {c : Int} (hr : runsO h c = some i) : yieldH (setH h i y) c = yieldH h c := by
  unfold yieldH
  rw [runs_set hi y e1 e2, hr]
  simp only
  have ht : thr (setH h i y) i = y := thr_set hi y
  rw [ht, gen_after hi y _ e2]
  congr 2
  simp [e2, e3, e4]
end
end Go.Proofs.YtchamgecalfmpaaDoor
