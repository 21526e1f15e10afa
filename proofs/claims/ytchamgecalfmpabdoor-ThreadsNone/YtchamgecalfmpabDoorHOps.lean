/-
  Plain facts on what each call makes of threads and queues, without the program: that all stays right, and who runs behind Pick; no condition but that all is right ahead.
-/
import Derived.Test.YtchamgecalfmpabDoorHMath
namespace Go.Proofs.YtchamgecalfmpabDoor

abbrev isT (h : Hs) (i : Int) : Prop := 0 ≤ i ∧ i < (h.L.length : Int)
abbrev isC (h : Hs) (c : Int) : Prop := 0 ≤ c ∧ c < (h.Q.length : Int)
def newH (n : Nat) : Hs := ⟨[], List.replicate n []⟩
def makeE (h : Hs) (p c : Int) : Int := if (0 ≤ p ∧ p < 256) ∧ isC h c then (if 64 ≤ h.L.length then 2 else 0) else 1
def makeN (h : Hs) (p c : Int) : Int := if makeE h p c = 0 then (h.L.length : Int) else 0
def makeH (h : Hs) (p c : Int) : Hs := if makeE h p c = 0 then ⟨h.L ++ [⟨0, p.toNat, c.toNat, 5, List.replicate 8 0⟩], h.Q⟩ else h
def getE (h : Hs) (i : Int) : Int := if isT h i then 0 else 100
def getT (h : Hs) (i : Int) : Td := if isT h i then thr h i.toNat else td0
def regE (h : Hs) (i k : Int) : Int := if isT h i then (if 0 ≤ k ∧ k < 8 then 0 else 1) else 100
def regH (h : Hs) (i k v : Int) : Hs := if regE h i k = 0 then setH h i.toNat { thr h i.toNat with g := (thr h i.toNat).g.set k.toNat v } else h
def resumeE (h : Hs) (i : Int) : Int := if isT h i then (if (thr h i.toNat).st = 1 ∨ (thr h i.toNat).st = 2 then 101 else 0) else 100
def resumeH (h : Hs) (i : Int) : Hs := if resumeE h i = 0 then genH h i.toNat { thr h i.toNat with st := 1 } else h
def suspendE (h : Hs) (i : Int) : Int := if isT h i then (if (thr h i.toNat).st = 0 then 101 else 0) else 100
def suspendH (h : Hs) (i : Int) : Hs := if suspendE h i = 0 then genH h i.toNat { thr h i.toNat with st := 0 } else h
def blockE (h : Hs) (i : Int) : Int := if isT h i then (if (thr h i.toNat).st = 2 then 0 else 101) else 100
def blockH (h : Hs) (i : Int) : Hs := if blockE h i = 0 then genH h i.toNat { thr h i.toNat with st := 3 } else h
def prioE (h : Hs) (i p : Int) : Int := if isT h i then (if 0 ≤ p ∧ p < 256 then 0 else 1) else 100
def prioH (h : Hs) (i p : Int) : Hs := if prioE h i p = 0 then genH h i.toNat { thr h i.toNat with p := p.toNat } else h
def coreE (h : Hs) (i c : Int) : Int := if isT h i then (if isC h c then 0 else 1) else 100
def lineUp (s : Int) : Int := if s = 1 ∨ s = 2 then 1 else s
def coreH (h : Hs) (i c : Int) : Hs :=
  if coreE h i c = 0 then (if ((thr h i.toNat).c : Int) = c then h else genH h i.toNat { thr h i.toNat with c := c.toNat, st := lineUp (thr h i.toNat).st }) else h
def runsO (h : Hs) (c : Int) : Option Nat := h.L.findIdx? fun x => x.st == 2 && (x.c : Int) == c
def runsN (h : Hs) (c : Int) : Int := ((runsO h c).map fun i => (i : Int)).getD 0
def runsB (h : Hs) (c : Int) : Bool := (runsO h c).isSome
/-- A ready one runs. -/
def runH (h : Hs) (i : Nat) : Hs := genH h i { thr h i with st := 2 }
/-- Who runs is lined up. -/
def upH (h : Hs) (i : Nat) : Hs := genH h i { thr h i with st := 1 }
def pickH (h : Hs) (c : Int) : Hs :=
  if isC h c then
    match nextO (que h c.toNat) with
    | none => h
    | some y => match runsO h c with
      | none => runH h y.n.toNat
      | some j => if (thr h j).p < y.p then runH (upH h j) y.n.toNat else h
  else h
def yieldH (h : Hs) (c : Int) : Hs := match runsO h c with | none => h | some i => pickH (genH h i { thr h i with st := 1, l := 5 }) c
def tickH (h : Hs) (c : Int) : Hs := match runsO h c with | none => h | some i => if (thr h i).l = 1 then yieldH h c else setH h i { thr h i with l := (thr h i).l - 1 }
def lineH (h : Hs) (c p : Int) : List Int := if isC h c then lineI (que h c.toNat) p else []

/-! ### Who runs -/
theorem runs_some {h : Hs} {c : Int} {i : Nat} (e : runsO h c = some i) : ∃ x, h.L[i]? = some x ∧ thr h i = x ∧ i < h.L.length ∧ x.st = 2 ∧ (x.c : Int) = c := by
  obtain ⟨hi, hp, _⟩ := List.findIdx?_eq_some_iff_getElem.1 e
  have h1 := List.getElem?_eq_getElem hi
  refine ⟨h.L[i], h1, thr_of h1, hi, ?_⟩
  simpa using hp
theorem runs_none {h : Hs} {c : Int} (e : runsO h c = none) : ∀ (i : Nat) (x : Td), h.L[i]? = some x → x.st = 2 → (x.c : Int) ≠ c := by
  intro i x hx hs hc
  have := List.findIdx?_eq_none_iff.1 e x (List.mem_of_getElem? hx)
  simp [hs, hc] at this
theorem runs_is {h : Hs} (v : Inv h) {c : Int} {i : Nat} {x : Td} (e : h.L[i]? = some x) (hs : x.st = 2) (hc : (x.c : Int) = c) : runsO h c = some i := by
  cases e2 : runsO h c with
  | none => exact absurd hc (runs_none e2 i x e hs)
  | some j =>
    obtain ⟨y, h1, _, _, h2, h3⟩ := runs_some e2
    rw [v.one j i y x h1 e h2 hs (by omega)]
theorem isT_nat {h : Hs} {i : Int} (e : isT h i) : i.toNat < h.L.length ∧ ((i.toNat : Nat) : Int) = i := by
  unfold isT at e
  omega
theorem isC_nat {h : Hs} {c : Int} (e : isC h c) : c.toNat < h.Q.length ∧ ((c.toNat : Nat) : Int) = c := by
  unfold isC at e
  omega

/-! ### All stays right -/
theorem inv_new {n : Nat} (h1 : 1 ≤ n) (h2 : n ≤ 8) : Inv (newH n) := by
  have hq : (newH n).Q.length = n := List.length_replicate
  refine ⟨by rw [hq]; exact h1, by rw [hq]; exact h2, by simp [newH], fun x hx => by simp [newH] at hx, fun S hS => ?_, fun c hc y => ?_, fun i j x y e => by simp [newH] at e⟩
  · obtain rfl := List.eq_of_mem_replicate hS
    exact good_nil
  · rw [hq] at hc
    have : que (newH n) c = [] := by
      unfold que newH
      rw [List.getD_eq_getElem?_getD, List.getElem?_replicate, if_pos hc]
      rfl
    rw [this]
    constructor
    · intro h
      simp at h
    · rintro ⟨i, x, e, _⟩
      simp [newH] at e
theorem okay_at {h : Hs} (v : Inv h) {i : Nat} (hi : i < h.L.length) : Okay (thr h i) h.Q.length := v.okay (thr_at hi)
theorem makeE_cases (h : Hs) (p c : Int) : (makeE h p c = 0 ∧ 0 ≤ p ∧ p < 256 ∧ isC h c ∧ h.L.length < 64) ∨ (makeE h p c = 2 ∧ 0 ≤ p ∧ p < 256 ∧ isC h c ∧ 64 ≤ h.L.length) ∨ (makeE h p c = 1 ∧ ¬ ((0 ≤ p ∧ p < 256) ∧ isC h c)) := by
  unfold makeE
  by_cases h1 : (0 ≤ p ∧ p < 256) ∧ isC h c
  · by_cases h2 : 64 ≤ h.L.length
    · exact .inr (.inl ⟨by rw [if_pos h1, if_pos h2], h1.1.1, h1.1.2, h1.2, h2⟩)
    · exact .inl ⟨by rw [if_pos h1, if_neg h2], h1.1.1, h1.1.2, h1.2, by omega⟩
  · exact .inr (.inr (by simp [h1]))
theorem inv_make {h : Hs} (v : Inv h) (p c : Int) : Inv (makeH h p c) := by
  unfold makeH
  rcases makeE_cases h p c with ⟨e, h0, h1, h2, h3⟩ | ⟨e, _⟩ | ⟨e, _⟩ <;> rw [e]
  · rw [if_pos rfl]
    obtain ⟨c1, c2⟩ := isC_nat h2
    have at1 : ∀ (i : Nat) (x : Td), (h.L ++ [(⟨0, p.toNat, c.toNat, 5, List.replicate 8 0⟩ : Td)])[i]? = some x → (h.L[i]? = some x) ∨ x.st = 0 := fun i x e => by
      rw [List.getElem?_append] at e
      split at e
      · exact .inl e
      · have := List.mem_of_getElem? e
        rw [List.mem_singleton] at this
        rw [this]
        exact .inr rfl
    have at2 : ∀ (i : Nat) (x : Td), h.L[i]? = some x → (h.L ++ [(⟨0, p.toNat, c.toNat, 5, List.replicate 8 0⟩ : Td)])[i]? = some x := fun i x e => by
      rw [List.getElem?_append_left (List.getElem?_eq_some_iff.1 e).1]
      exact e
    refine ⟨v.lo, v.hi, by rw [List.length_append, List.length_singleton]; omega, fun x hx => ?_, v.good, fun d hd y => ?_, fun i j x y ei ej si sj ec => ?_⟩
    · rcases List.mem_append.1 hx with hx | hx
      · exact v.each x hx
      · rw [List.mem_singleton.1 hx]
        exact ⟨by simp only; omega, c1, by simp, by simp, by simp, fun w hw => by rw [List.eq_of_mem_replicate hw]; omega⟩
    · show y ∈ que h d ↔ _
      rw [v.mem d hd y]
      constructor
      · rintro ⟨i, x, e1, r⟩
        exact ⟨i, x, at2 i x e1, r⟩
      · rintro ⟨i, x, e1, e2, e3, e4⟩
        rcases at1 i x e1 with e5 | e5
        · exact ⟨i, x, e5, e2, e3, e4⟩
        · omega
    · rcases at1 i x ei with f1 | f1 <;> rcases at1 j y ej with f2 | f2
      · exact v.one i j x y f1 f2 si sj ec
      · omega
      · omega
      · omega
  · rw [if_neg (by omega)]
    exact v
  · rw [if_neg (by omega)]
    exact v
theorem inv_reg {h : Hs} (v : Inv h) (i k x : Int) (hx : 0 ≤ x ∧ x ≤ 18446744073709551615) : Inv (regH h i k x) := by
  unfold regH
  split
  · rename_i e
    have ht : isT h i := by
      by_cases ht : isT h i
      · exact ht
      · simp [regE, ht] at e
    have ok := okay_at v (isT_nat ht).1
    refine inv_set v (isT_nat ht).1 ⟨ok.p, ok.c, ok.s, ok.l, by rw [List.length_set]; exact ok.g, fun w hw => ?_⟩ rfl rfl rfl
    rcases List.mem_or_eq_of_mem_set hw with hw | rfl
    · exact ok.w w hw
    · exact hx
  · exact v
/-- A state that does not run. -/
theorem inv_state {h : Hs} (v : Inv h) {i : Nat} (hi : i < h.L.length) {s : Int} (h0 : 0 ≤ s) (h3 : s ≤ 3) (h2 : s ≠ 2) : Inv (genH h i { thr h i with st := s }) := by
  have ok := okay_at v hi
  exact inv_gen v hi ⟨ok.p, ok.c, ⟨h0, h3⟩, ok.l, ok.g, ok.w⟩ fun e => absurd e h2
theorem inv_resume {h : Hs} (v : Inv h) (i : Int) : Inv (resumeH h i) := by
  unfold resumeH
  split
  · rename_i e
    by_cases ht : isT h i
    · exact inv_state v (isT_nat ht).1 (by omega) (by omega) (by omega)
    · simp [resumeE, ht] at e
  · exact v
theorem inv_suspend {h : Hs} (v : Inv h) (i : Int) : Inv (suspendH h i) := by
  unfold suspendH
  split
  · rename_i e
    by_cases ht : isT h i
    · exact inv_state v (isT_nat ht).1 (by omega) (by omega) (by omega)
    · simp [suspendE, ht] at e
  · exact v
theorem inv_block {h : Hs} (v : Inv h) (i : Int) : Inv (blockH h i) := by
  unfold blockH
  split
  · rename_i e
    by_cases ht : isT h i
    · exact inv_state v (isT_nat ht).1 (by omega) (by omega) (by omega)
    · simp [blockE, ht] at e
  · exact v
theorem inv_prio {h : Hs} (v : Inv h) (i p : Int) : Inv (prioH h i p) := by
  unfold prioH
  split
  · rename_i e
    by_cases ht : isT h i
    · have hp : 0 ≤ p ∧ p < 256 := by
        by_cases hp : 0 ≤ p ∧ p < 256
        · exact hp
        · rw [prioE, if_pos ht, if_neg hp] at e; omega
      have hi := (isT_nat ht).1
      have ok := okay_at v hi
      refine inv_gen v hi ⟨by simp only; omega, ok.c, ok.s, ok.l, ok.g, ok.w⟩ fun hs j y hj hy sy ec => ?_
      exact hj (v.one j i.toNat y (thr h i.toNat) hy (thr_at hi) sy hs ec)
    · simp [prioE, ht] at e
  · exact v
theorem inv_core {h : Hs} (v : Inv h) (i c : Int) : Inv (coreH h i c) := by
  unfold coreH
  split
  · rename_i e
    split
    · exact v
    · by_cases ht : isT h i
      · have hc : isC h c := by
          by_cases hc : isC h c
          · exact hc
          · rw [coreE, if_pos ht, if_neg hc] at e; omega
        have hi := (isT_nat ht).1
        have ok := okay_at v hi
        have hl : lineUp (thr h i.toNat).st ≠ 2 := by unfold lineUp; split <;> omega
        refine inv_gen v hi ⟨ok.p, (isC_nat hc).1, ?_, ok.l, ok.g, ok.w⟩ fun hs => absurd hs hl
        have := ok.s
        unfold lineUp
        simp only
        split <;> omega
      · simp [coreE, ht] at e
  · exact v
/-- The queue's next one is a thread that is ready there. -/
theorem next_thread {h : Hs} (v : Inv h) {c : Nat} (hc : c < h.Q.length) {y : In} (e : nextO (que h c) = some y) :
    ∃ i x, h.L[i]? = some x ∧ thr h i = x ∧ i < h.L.length ∧ y = ⟨x.p, (i : Int)⟩ ∧ y.n.toNat = i ∧ x.st = 1 ∧ x.c = c ∧ ∀ (j : Nat) (z : Td), h.L[j]? = some z → z.st = 1 → z.c = c → z.p ≤ x.p := by
  rcases next_cases (v.queue hc) with ⟨_, _, e1, _⟩ | ⟨y', L, hy, _, e1, _, _, _, _, hmax⟩
  · rw [e] at e1
    cases e1
  · rw [e] at e1
    cases e1
    obtain ⟨i, x, e2, rfl, e3, e4⟩ := (v.mem c hc y).1 hy
    refine ⟨i, x, e2, thr_of e2, (List.getElem?_eq_some_iff.1 e2).1, rfl, by simp, e3, e4, fun j z ez sz cz => ?_⟩
    have := hmax ⟨z.p, (j : Int)⟩ ((v.mem c hc _).2 ⟨j, z, ez, rfl, sz, cz⟩)
    simpa using this
theorem inv_run {h : Hs} (v : Inv h) {i : Nat} (hi : i < h.L.length) (hn : ∀ (j : Nat) (y : Td), h.L[j]? = some y → y.st = 2 → y.c ≠ (thr h i).c) : Inv (runH h i) := by
  have ok := okay_at v hi
  exact inv_gen v hi ⟨ok.p, ok.c, by simp, ok.l, ok.g, ok.w⟩ fun _ j y _ hy sy => hn j y hy sy
theorem inv_pick {h : Hs} (v : Inv h) (c : Int) : Inv (pickH h c) := by
  unfold pickH
  split
  · rename_i hc
    obtain ⟨c1, c2⟩ := isC_nat hc
    split
    · exact v
    · rename_i y hy
      obtain ⟨i, x, e1, e2, hi, e3, e4, e5, e6, _⟩ := next_thread v c1 hy
      rw [e4]
      split
      · rename_i hr
        refine inv_run v hi fun j z hz sz e => runs_none hr j z hz sz ?_
        rw [e, e2, e6]
        exact c2
      · rename_i j hr
        split
        · obtain ⟨z, f1, f2, hj, f3, f4⟩ := runs_some hr
          have hij : i ≠ j := fun e => by
            subst e
            rw [e1] at f1
            cases f1
            omega
          have v1 : Inv (upH h j) := inv_state v hj (by omega) (by omega) (by omega)
          have hi1 : i < (upH h j).L.length := by
            show i < (h.L.set j _).length
            rw [List.length_set]
            exact hi
          refine inv_run v1 hi1 fun k w hw sw e => ?_
          have ht : thr (upH h j) i = x := by
            unfold upH
            rw [thr_gen hj, if_neg hij]
            exact e2
          rw [ht, e6] at e
          unfold upH at hw
          rw [gen_at hj] at hw
          by_cases hk : k = j
          · rw [if_pos hk] at hw
            cases hw
            simp at sw
          · rw [if_neg hk] at hw
            exact hk (v.one k j w z hw f1 sw f3 (by omega))
        · exact v
  · exact v
theorem inv_yield {h : Hs} (v : Inv h) (c : Int) : Inv (yieldH h c) := by
  unfold yieldH
  split
  · exact v
  · rename_i i hr
    obtain ⟨x, _, _, hi, _⟩ := runs_some hr
    have ok := okay_at v hi
    exact inv_pick (inv_gen v hi (x := { thr h i with st := 1, l := 5 }) ⟨ok.p, ok.c, by simp, by simp, ok.g, ok.w⟩ fun e => by cases e) c
theorem inv_tick {h : Hs} (v : Inv h) (c : Int) : Inv (tickH h c) := by
  unfold tickH
  split
  · exact v
  · rename_i i hr
    obtain ⟨x, _, _, hi, _⟩ := runs_some hr
    have ok := okay_at v hi
    split
    · exact inv_yield v c
    · have := ok.l
      exact inv_set v hi ⟨ok.p, ok.c, ok.s, by simp only; omega, ok.g, ok.w⟩ rfl rfl rfl
/-! ### Behind Pick -/
theorem pick_len (h : Hs) (c : Int) : (pickH h c).L.length = h.L.length ∧ (pickH h c).Q.length = h.Q.length := by
  have g : ∀ (h : Hs) (i : Nat) (x : Td), (genH h i x).L.length = h.L.length ∧ (genH h i x).Q.length = h.Q.length := fun h i x => ⟨List.length_set, genQ_len _ _ _ _⟩
  unfold pickH
  split
  · split
    · exact ⟨rfl, rfl⟩
    · split
      · exact g _ _ _
      · split
        · unfold runH upH
          exact ⟨(g _ _ _).1.trans (g _ _ _).1, (g _ _ _).2.trans (g _ _ _).2⟩
        · exact ⟨rfl, rfl⟩
  · exact ⟨rfl, rfl⟩
/-- Nobody who is ready there has a greater priority than who runs; if one is ready one runs. -/
theorem pick_facts {h : Hs} (v : Inv h) {c : Nat} (hc : c < h.Q.length) :
    (runsO (pickH h c) c = none ∧ ∀ (j : Nat) (z : Td), (pickH h c).L[j]? = some z → z.c = c → z.st ≠ 1) ∨
    ∃ i x, runsO (pickH h c) c = some i ∧ (pickH h c).L[i]? = some x ∧ x.st = 2 ∧ x.c = c ∧ ∀ (j : Nat) (z : Td), (pickH h c).L[j]? = some z → z.c = c → z.st = 1 → z.p ≤ x.p := by
  have hC : isC h (c : Int) := by unfold isC; omega
  have vp := inv_pick v (c : Int)
  have hp : pickH h (c : Int) = match nextO (que h c) with
      | none => h
      | some y => match runsO h (c : Int) with
        | none => runH h y.n.toNat
        | some j => if (thr h j).p < y.p then runH (upH h j) y.n.toNat else h := by
    unfold pickH
    rw [if_pos hC, Int.toNat_natCast]
  cases hn : nextO (que h c) with
  | none =>
    have hq : que h c = [] := by
      rcases next_cases (v.queue hc) with ⟨e, _⟩ | ⟨y, _, _, _, e, _⟩
      · exact e
      · rw [hn] at e
        cases e
    have none_ready : ∀ (j : Nat) (z : Td), h.L[j]? = some z → z.c = c → z.st ≠ 1 := fun j z hz hzc hs => by
      have := (v.mem c hc ⟨z.p, (j : Int)⟩).2 ⟨j, z, hz, rfl, hs, hzc⟩
      rw [hq] at this
      simp at this
    rw [hn] at hp
    simp only at hp
    rw [hp]
    cases hr : runsO h (c : Int) with
    | none => exact .inl ⟨rfl, none_ready⟩
    | some i =>
      obtain ⟨x, e1, _, _, e3, e4⟩ := runs_some hr
      exact .inr ⟨i, x, rfl, e1, e3, by omega, fun j z hz hzc hs => absurd hs (none_ready j z hz hzc)⟩
  | some y =>
    obtain ⟨i, x, e1, e2, hi, e3, e4, e5, e6, hmax⟩ := next_thread v hc hn
    rw [hn] at hp
    simp only at hp
    rw [e4] at hp
    cases hr : runsO h (c : Int) with
    | none =>
      rw [hr] at hp
      simp only at hp
      rw [hp] at vp ⊢
      have hat : (runH h i).L[i]? = some { thr h i with st := 2 } := by
        unfold runH
        rw [gen_at hi, if_pos rfl]
      rw [e2] at hat
      refine .inr ⟨i, _, runs_is vp hat rfl (by simp only; omega), hat, rfl, e6, fun j z hz hzc hs => ?_⟩
      unfold runH at hz
      rw [gen_at hi] at hz
      by_cases hj : j = i
      · rw [if_pos hj] at hz
        cases hz
        cases hs
      · rw [if_neg hj] at hz
        exact hmax j z hz hs hzc
    | some k =>
      obtain ⟨w, f1, f2, hk, f3, f4⟩ := runs_some hr
      rw [hr] at hp
      simp only at hp
      by_cases hlt : (thr h k).p < y.p
      · rw [if_pos hlt] at hp
        have hik : i ≠ k := fun e => by
          subst e
          rw [e1] at f1
          cases f1
          omega
        rw [hp] at vp ⊢
        have hi1 : i < (upH h k).L.length := by
          show i < (h.L.set k _).length
          rw [List.length_set]
          exact hi
        have ht : thr (upH h k) i = x := by
          unfold upH
          rw [thr_gen hk, if_neg hik]
          exact e2
        have hat : (runH (upH h k) i).L[i]? = some { x with st := 2 } := by
          unfold runH
          rw [gen_at hi1, if_pos rfl, ht]
        refine .inr ⟨i, _, runs_is vp hat rfl (by simp only; omega), hat, rfl, e6, fun j z hz hzc hs => ?_⟩
        unfold runH at hz
        rw [gen_at hi1] at hz
        by_cases hj : j = i
        · rw [if_pos hj] at hz
          cases hz
          cases hs
        · rw [if_neg hj] at hz
          unfold upH at hz
          rw [gen_at hk] at hz
          by_cases hjk : j = k
          · rw [if_pos hjk] at hz
            cases hz
            simp only
            rw [e3] at hlt
            simp only at hlt
            omega
          · rw [if_neg hjk] at hz
            exact hmax j z hz hs hzc
      · rw [if_neg hlt] at hp
        rw [hp]
        refine .inr ⟨k, w, hr, f1, f3, by omega, fun j z hz hzc hs => ?_⟩
        have := hmax j z hz hs hzc
        rw [f2, e3] at hlt
        simp only at hlt
        omega
end Go.Proofs.YtchamgecalfmpabDoor
