/-
  Plain facts on threads of one priority that never wait, without the program: they run in turns, five ticks each; what lining up and leaving a queue are where a thread is not ready; no condition of ours.
-/
import Derived.Test.YtchamgecalfmpaaDoorHOps
namespace Go.Proofs.YtchamgecalfmpaaDoor

/-! ### Not in a queue -/
theorem not_in {h : Hs} (v : Inv h) {i : Nat} (hi : i < h.L.length) (hs : (thr h i).st ≠ 1) {c : Nat} (hc : c < h.Q.length) : whB (que h c) i = false := by
  cases hb : whB (que h c) i with
  | false => rfl
  | true =>
    obtain ⟨y, hy, hn⟩ := whB_some hb
    exact absurd (v.nums hc (thr_at hi) hy hn).2.1 hs
theorem set_same {Q : List St} {c : Nat} (hc : c < Q.length) : Q.set c (Q.getD c []) = Q := by
  rw [List.getD_eq_getElem?_getD, List.getElem?_eq_getElem hc]
  simp
/-- It is lined up, or becomes something else, where it is in no queue. -/
theorem gen_free {h : Hs} (v : Inv h) {i : Nat} (hi : i < h.L.length) (hs : (thr h i).st ≠ 1) (x : Td) (hx : x.c < h.Q.length) (hp : x.p < 256) :
    genH h i x = ⟨h.L.set i x, if x.st = 1 then h.Q.set x.c (putS (que h x.c) x.p i) else h.Q⟩ := by
  have hc := (okay_at v hi).c
  have e1 : takeS (h.Q.getD (thr h i).c []) i = h.Q.getD (thr h i).c [] := take_none (not_in v hi hs hc)
  unfold genH genQ
  simp only
  rw [e1, set_same hc]
  split
  · have e2 : putS (que h x.c) x.p i = que h x.c ++ [⟨x.p, (i : Int)⟩] := by
      have : putE (que h x.c) x.p i = 0 := by
        unfold putE
        rw [if_pos (by omega), not_in v hi hs hx]
        rfl
      simp [putS, this]
    rw [e2]
    rfl
  · rfl
/-- A ready one leaves its queue, and is something else. -/
theorem gen_out {h : Hs} {i : Nat} (x : Td) (hs : x.st ≠ 1) : genH h i x = ⟨h.L.set i x, h.Q.set (thr h i).c (takeS (que h (thr h i).c) i)⟩ := by
  unfold genH genQ
  simp only [hs, if_false]
  rfl

theorem gen_qlen (h : Hs) (i : Nat) (x : Td) : (genH h i x).Q.length = h.Q.length := genQ_len _ _ _ _

/-! ### Turns -/
def z8 : List Int := List.replicate 8 0
theorem next_head {x : In} {T : St} (g : Good (x :: T)) (h : ∀ y ∈ T, y.p = x.p) : nextO (x :: T) = some x := by
  rcases next_cases g with ⟨e, _⟩ | ⟨y, L, hy, _, e1, _, _, _, e4, _⟩
  · cases e
  · have hyx : y = x := by
      have h1 : y.p = x.p := by
        rcases List.mem_cons.1 hy with rfl | hy
        · rfl
        · exact h y hy
      have h2 : lineN (x :: T) x.p = x.n :: lineN T x.p := by
        unfold lineN
        simp
      rw [h1, h2] at e4
      injection e4 with e6 _
      exact same_of_n g.one hy (by simp) e6.symm
    rw [e1, hyx]
/-- k threads of priority p at core 1, the one whose turn it is at tick i running there. -/
structure TS (k p i : Nat) (h : Hs) : Prop where
  inv : Inv h
  len : h.L.length = k
  ats : ∀ j, j < k → h.L[j]? = some (if j = i / 5 % k then ⟨2, p, 1, 5 - ((i % 5 : Nat) : Int), z8⟩ else ⟨1, p, 1, 5, z8⟩)
  two : h.Q.length = 2
  qs : que h 1 = (List.range (k - 1)).map fun j => ⟨p, (((i / 5 % k + 1 + j) % k : Nat) : Int)⟩
theorem mod_inj {k r a b : Nat} (ha : a < k) (hb : b < k) (e : (r + a) % k = (r + b) % k) : a = b := by
  have h1 := Nat.div_add_mod (r + a) k
  have h2 := Nat.div_add_mod (r + b) k
  rw [e] at h1
  generalize (r + b) % k = m at *
  rcases Nat.lt_trichotomy ((r + a) / k) ((r + b) / k) with h | h | h
  · have := Nat.mul_le_mul_left k h
    rw [Nat.succ_eq_add_one, Nat.mul_add, Nat.mul_one] at this
    omega
  · rw [h] at h1
    omega
  · have := Nat.mul_le_mul_left k h
    rw [Nat.succ_eq_add_one, Nat.mul_add, Nat.mul_one] at this
    omega
theorem TS.runs {k p i : Nat} {h : Hs} (t : TS k p i h) (hk : 0 < k) : runsO h 1 = some (i / 5 % k) := by
  have hr : i / 5 % k < k := Nat.mod_lt _ hk
  have := t.ats _ hr
  rw [if_pos rfl] at this
  exact runs_is t.inv this rfl rfl
theorem TS.tick {k p i : Nat} {h : Hs} (t : TS k p i h) (hk : 0 < k) : TS k p (i + 1) (tickH h 1) := by
  have hr : i / 5 % k < k := Nat.mod_lt _ hk
  have hrun := t.runs hk
  have hat := t.ats _ hr
  rw [if_pos rfl] at hat
  have hthr := thr_of hat
  have hlt : i / 5 % k < h.L.length := by rw [t.len]; exact hr
  have vt := inv_tick t.inv 1
  by_cases h4 : i % 5 = 4
  · -- the turn is over
    have hl : (thr h (i / 5 % k)).l = 1 := by rw [hthr, h4]; rfl
    have e1 : (i + 1) / 5 = i / 5 + 1 := by omega
    have e2 : (i + 1) % 5 = 0 := by omega
    have et : tickH h 1 = pickH (genH h (i / 5 % k) ⟨1, p, 1, 5, z8⟩) 1 := by
      unfold tickH
      rw [hrun]
      simp only
      rw [if_pos hl]
      unfold yieldH
      rw [hrun]
      simp only
      rw [hthr]
    generalize hrr : i / 5 % k = r at *
    have hn : (i / 5 + 1) % k = (r + 1) % k := by rw [← hrr, Nat.mod_add_mod]
    -- lined up
    obtain ⟨h1, hh1⟩ : ∃ h1, h1 = genH h r ⟨1, p, 1, 5, z8⟩ := ⟨_, rfl⟩
    rw [← hh1] at et
    have hp : p < 256 := by have := (t.inv.okay hat).p; exact this
    have hw : ∀ w ∈ z8, 0 ≤ w ∧ w ≤ 18446744073709551615 := fun w hw => by rw [List.eq_of_mem_replicate hw]; omega
    have v1 : Inv h1 := by
      rw [hh1]
      exact inv_gen t.inv hlt ⟨hp, by have := t.two; simp only; omega, by simp, by simp, by simp [z8], hw⟩ fun e => by cases e
    have q2 : h1.Q.length = 2 := by rw [hh1, gen_qlen]; exact t.two
    have at1 : ∀ j, j < k → h1.L[j]? = some ⟨1, p, 1, 5, z8⟩ := fun j hj => by
      rw [hh1, gen_at hlt]
      by_cases e : j = r
      · rw [if_pos e]
      · rw [if_neg e, t.ats j hj, hrr, if_neg e]
    have L1 : h1.L.length = k := by rw [hh1]; exact List.length_set.trans t.len
    have hq1 : que h1 1 = (List.range k).map fun j => ⟨p, (((r + 1 + j) % k : Nat) : Int)⟩ := by
      rw [hh1, que_gen t.inv hlt _ (by rw [t.two]; decide), if_pos ⟨rfl, rfl⟩]
      have hb : whB (que h 1) r = false := not_in t.inv hlt (by rw [hthr]; simp) (by rw [t.two]; decide)
      rw [take_none hb, t.qs, hrr]
      obtain ⟨m, rfl⟩ : ∃ m, k = m + 1 := ⟨k - 1, by omega⟩
      rw [Nat.add_sub_cancel, List.range_succ, List.map_append]
      congr 1
      simp only [List.map_cons, List.map_nil, List.cons.injEq, In.mk.injEq, true_and, and_true]
      have : r + 1 + m = r + (m + 1) := by omega
      rw [this, Nat.add_mod_right, Nat.mod_eq_of_lt hr]
    -- the next one
    have hk1 : (List.range k) = 0 :: (List.range (k - 1)).map (· + 1) := by
      obtain ⟨m, rfl⟩ : ∃ m, k = m + 1 := ⟨k - 1, by omega⟩
      rw [Nat.add_sub_cancel, List.range_succ_eq_map]
    have g1 := v1.queue (c := 1) (by rw [q2]; decide)
    have hnx : nextO (que h1 1) = some ⟨p, (((r + 1) % k : Nat) : Int)⟩ := by
      rw [hq1, hk1, List.map_cons]
      rw [hq1, hk1, List.map_cons] at g1
      refine next_head g1 fun y hy => ?_
      simp only [List.map_map, List.mem_map] at hy
      obtain ⟨_, _, rfl⟩ := hy
      rfl
    have hno : runsO h1 1 = none := by
      cases e : runsO h1 1 with
      | none => rfl
      | some j =>
        obtain ⟨x, f1, _, f2, f3, _⟩ := runs_some e
        rw [at1 j (by rw [← L1]; exact f2)] at f1
        cases f1
        cases f3
    have ep : pickH h1 1 = runH h1 ((r + 1) % k) := by
      unfold pickH
      have : isC h1 1 := by unfold isC; omega
      rw [if_pos this, show (1 : Int).toNat = 1 from rfl, hnx]
      simp only
      rw [hno]
      show runH h1 (((r + 1) % k : Nat) : Int).toNat = _
      rw [Int.toNat_natCast]
    have hnk : (r + 1) % k < k := Nat.mod_lt _ hk
    have hnl : (r + 1) % k < h1.L.length := by rw [L1]; exact hnk
    have hth := thr_of (at1 _ hnk)
    rw [et, ep] at vt ⊢
    refine ⟨vt, ?_, fun j hj => ?_, ?_, ?_⟩
    · exact List.length_set.trans L1
    · unfold runH
      rw [gen_at hnl, e1, e2, hn, hth]
      by_cases e : j = (r + 1) % k
      · rw [if_pos e, if_pos e]
        rfl
      · rw [if_neg e, if_neg e]
        exact at1 j hj
    · unfold runH
      rw [gen_qlen]
      exact q2
    · unfold runH
      rw [que_gen v1 hnl _ (by rw [q2]; decide), if_neg (by simp), List.append_nil, e1, hn, hq1, hk1, List.map_cons]
      unfold takeS
      rw [List.filter_cons_of_neg (by simp), List.filter_eq_self.2, List.map_map]
      · refine List.map_congr_left fun j hj => ?_
        have hj2 := List.mem_range.1 hj
        simp only [Function.comp]
        congr 2
        rw [show r + 1 + (j + 1) = (r + 1) + (1 + j) by omega, show (r + 1) % k + 1 + j = (r + 1) % k + (1 + j) by omega, Nat.mod_add_mod]
      · intro y hy
        simp only [List.map_map, List.mem_map] at hy
        obtain ⟨j, hj, rfl⟩ := hy
        have hj2 := List.mem_range.1 hj
        simp only [Function.comp, bne_iff_ne, ne_eq]
        intro e
        have e3 : (r + 1 + (j + 1)) % k = (r + 1 + 0) % k := by
          simp only [Nat.add_zero]
          omega
        have := mod_inj (by omega) hk e3
        omega
  · have hl : ¬ (thr h (i / 5 % k)).l = 1 := by
      rw [hthr]
      simp only
      omega
    have e1 : (i + 1) / 5 = i / 5 := by omega
    have e2 : (i + 1) % 5 = i % 5 + 1 := by omega
    have et : tickH h 1 = setH h (i / 5 % k) { thr h (i / 5 % k) with l := (thr h (i / 5 % k)).l - 1 } := by
      unfold tickH
      rw [hrun]
      simp only
      rw [if_neg hl]
    rw [et] at vt ⊢
    refine ⟨vt, List.length_set.trans t.len, fun j hj => ?_, t.two, ?_⟩
    · show (h.L.set _ _)[j]? = _
      have := gen_at (h := h) hlt { thr h (i / 5 % k) with l := (thr h (i / 5 % k)).l - 1 } j
      show (genH h _ _).L[j]? = _
      rw [this, e1, e2]
      by_cases e : j = i / 5 % k
      · rw [if_pos e, if_pos e, hthr]
        simp only [Option.some.injEq, Td.mk.injEq, true_and, and_true]
        omega
      · rw [if_neg e, if_neg e, t.ats j hj, if_neg e]
    · rw [e1]
      exact t.qs
/-! ### How they begin -/
/-- i threads of priority p at core 1, all ready, in the order in which they were resumed. -/
structure RS (p i : Nat) (h : Hs) : Prop where
  inv : Inv h
  len : h.L.length = i
  ats : ∀ j, j < i → h.L[j]? = some ⟨1, p, 1, 5, z8⟩
  two : h.Q.length = 2
  qs : que h 1 = (List.range i).map fun j => ⟨p, ((j : Nat) : Int)⟩
theorem rs_new (p : Nat) : RS p 0 (newH 2) := ⟨inv_new (by omega) (by omega), rfl, fun j hj => by omega, rfl, rfl⟩
theorem RS.next {p i : Nat} {h : Hs} (t : RS p i h) (hp : p < 256) (hi : i < 64) :
    makeE h p 1 = 0 ∧ makeN h p 1 = i ∧ resumeE (makeH h p 1) i = 0 ∧ RS p (i + 1) (resumeH (makeH h p 1) i) := by
  have hc : isC h 1 := by unfold isC; have := t.two; omega
  have e0 : makeE h p 1 = 0 := by
    unfold makeE
    rw [if_pos ⟨by omega, hc⟩, if_neg (by rw [t.len]; omega)]
  obtain ⟨h1, hh1⟩ : ∃ h1, h1 = makeH h p 1 := ⟨_, rfl⟩
  have v1 : Inv h1 := by rw [hh1]; exact inv_make t.inv p 1
  have em : h1 = ⟨h.L ++ [⟨0, p, 1, 5, z8⟩], h.Q⟩ := by
    rw [hh1]
    unfold makeH
    rw [if_pos e0, Int.toNat_natCast]
    rfl
  have L1 : h1.L.length = i + 1 := by rw [em]; simp [t.len]
  have at1 : h1.L[i]? = some ⟨0, p, 1, 5, z8⟩ := by
    rw [em]
    show (h.L ++ [_])[i]? = _
    rw [List.getElem?_append_right (by rw [t.len]; omega), t.len, Nat.sub_self]
    rfl
  have at2 : ∀ j, j < i → h1.L[j]? = some ⟨1, p, 1, 5, z8⟩ := fun j hj => by
    rw [em]
    show (h.L ++ [_])[j]? = _
    rw [List.getElem?_append_left (by rw [t.len]; exact hj)]
    exact t.ats j hj
  have ht : isT h1 (i : Int) := by unfold isT; omega
  have hth : thr h1 i = ⟨0, p, 1, 5, z8⟩ := thr_of at1
  have er : resumeE h1 (i : Int) = 0 := by
    unfold resumeE
    rw [if_pos ht, Int.toNat_natCast, hth, if_neg (by simp)]
  have e2 : resumeH h1 (i : Int) = genH h1 i ⟨1, p, 1, 5, z8⟩ := by
    unfold resumeH
    rw [if_pos er, Int.toNat_natCast, hth]
  have hil : i < h1.L.length := by omega
  have q1 : que h1 1 = que h 1 := by rw [em]; rfl
  have q2 : h1.Q.length = 2 := by rw [em]; exact t.two
  rw [← hh1]
  refine ⟨e0, by unfold makeN; rw [if_pos e0, t.len], er, inv_resume v1 i, ?_, fun j hj => ?_, ?_, ?_⟩
  · rw [e2]
    exact List.length_set.trans L1
  · rw [e2, gen_at hil]
    by_cases e : j = i
    · rw [if_pos e]
    · rw [if_neg e]
      exact at2 j (by omega)
  · rw [e2, gen_qlen]
    exact q2
  · rw [e2, que_gen v1 hil _ (by omega), if_pos ⟨rfl, rfl⟩, take_none (not_in v1 hil (by rw [hth]; simp) (by omega)), q1, t.qs, List.range_succ, List.map_append]
    rfl
theorem RS.pick {p k : Nat} {h : Hs} (t : RS p k h) (hk : 0 < k) : TS k p 0 (pickH h 1) := by
  have v := inv_pick t.inv 1
  have hno : runsO h 1 = none := by
    cases e : runsO h 1 with
    | none => rfl
    | some j =>
      obtain ⟨x, f1, _, f2, f3, _⟩ := runs_some e
      rw [t.ats j (by rw [← t.len]; exact f2)] at f1
      cases f1
      cases f3
  have hk1 : (List.range k) = 0 :: (List.range (k - 1)).map (· + 1) := by
    obtain ⟨m, rfl⟩ : ∃ m, k = m + 1 := ⟨k - 1, by omega⟩
    rw [Nat.add_sub_cancel, List.range_succ_eq_map]
  have g1 := t.inv.queue (c := 1) (by rw [t.two]; decide)
  have hnx : nextO (que h 1) = some ⟨p, ((0 : Nat) : Int)⟩ := by
    rw [t.qs, hk1, List.map_cons]
    rw [t.qs, hk1, List.map_cons] at g1
    refine next_head g1 fun y hy => ?_
    simp only [List.map_map, List.mem_map] at hy
    obtain ⟨_, _, rfl⟩ := hy
    rfl
  have ep : pickH h 1 = runH h 0 := by
    unfold pickH
    have : isC h 1 := by unfold isC; have := t.two; omega
    rw [if_pos this, show (1 : Int).toNat = 1 from rfl, hnx]
    simp only
    rw [hno]
    rfl
  have h0 : 0 < h.L.length := by rw [t.len]; exact hk
  have hth := thr_of (t.ats 0 hk)
  rw [ep] at v ⊢
  refine ⟨v, List.length_set.trans t.len, fun j hj => ?_, ?_, ?_⟩
  · unfold runH
    rw [gen_at h0, hth, Nat.zero_div, Nat.zero_mod]
    by_cases e : j = 0
    · rw [if_pos e, if_pos e]
      rfl
    · rw [if_neg e, if_neg e]
      exact t.ats j hj
  · unfold runH
    rw [gen_qlen]
    exact t.two
  · unfold runH
    rw [que_gen t.inv h0 _ (by rw [t.two]; decide), if_neg (by simp), List.append_nil, t.qs, hk1, List.map_cons, Nat.zero_div, Nat.zero_mod]
    unfold takeS
    rw [List.filter_cons_of_neg (by simp), List.filter_eq_self.2, List.map_map]
    · refine List.map_congr_left fun j hj => ?_
      have hj2 := List.mem_range.1 hj
      simp only [Function.comp]
      congr 2
      rw [Nat.mod_eq_of_lt (by omega)]
      omega
    · intro y hy
      simp only [List.map_map, List.mem_map] at hy
      obtain ⟨j, _, rfl⟩ := hy
      simp only [Function.comp, bne_iff_ne, ne_eq]
      omega
end Go.Proofs.YtchamgecalfmpaaDoor
