/-
  What the statements ask of good trees: what is added and taken again, moved and moved back, taken; roots; what is under what; without the program; no condition of ours.
-/
import Derived.Test.YthfoeppcageneaaTMore
namespace Go.Proofs.Ythfoeppcageneaa
set_option linter.unusedSectionVars false
variable [DecidableEq Sl]
section
variable {S : St} {a : Nat}
theorem has_not {S : St} {s : Sl} (h : ∀ j, j < S.length → slt S j ≠ s) : hasB S s = false := by
  cases e : hasB S s with
  | false => rfl
  | true =>
    obtain ⟨j, hj, hs⟩ := (hasB_iff S s).1 e
    exact absurd hs (h j hj)
theorem par_at (g : Good S) (ha : a < S.length) : parO S (slt S a) = (parN S a).map (slt S) := by
  unfold parO
  rw [g.has ha, g.pl ha]
  rfl
theorem under_at (g : Good S) (ha : a < S.length) : underS S (slt S a) = allS (underN S a) := by
  unfold underS
  rw [g.has ha, g.pl ha]
  rfl
theorem all_len' (S : St) : (allS S).length = S.length := by unfold allS; simp

/-! ### Added, and taken again -/
theorem adds_facts (g : Good S) (ha : a < S.length) {s : Sl} (hs : hasB S s = false) :
    ∃ T, addE S (slt S a) s = 0 ∧ addS S (slt S a) s = T ∧ T.length = S.length + 1 ∧ parS T s = slt S a ∧ parB T s = true ∧ (underS T (slt S a)).length = (underS S (slt S a)).length + 1 ∧ s ∈ underS T (slt S a) ∧ underS T s = [] ∧ addE T (slt S a) s = 70 ∧ addS T (slt S a) s = T ∧ takeE T s = 0 ∧ takeS T s = S := by
  have gT := g.put hs ha
  have at' := atE_putN (S := S) (i := a + 1) (by omega) ⟨s, dep S a + 1⟩
  have hl := putN_len S (a + 1) ⟨s, dep S a + 1⟩
  have h1 : addE S (slt S a) s = 0 := by unfold addE; rw [g.has ha, hs]; rfl
  have h2 : addS S (slt S a) s = putN S (a + 1) ⟨s, dep S a + 1⟩ := by
    unfold addS
    rw [g.has ha, hs, g.pl ha]
    simp
  refine ⟨_, h1, h2, hl, ?_⟩
  generalize putN S (a + 1) ⟨s, dep S a + 1⟩ = T at *
  have hd : ∀ j, dep T j = if j < a + 1 then dep S j else if j = a + 1 then dep S a + 1 else dep S (j - 1) := fun j => by
    unfold dep
    rw [at']
    split
    · rfl
    · split <;> rfl
  have hsl : ∀ j, slt T j = if j < a + 1 then slt S j else if j = a + 1 then s else slt S (j - 1) := fun j => by
    unfold slt
    rw [at']
    split
    · rfl
    · split <;> rfl
  have sa : slt T a = slt S a := by rw [hsl, if_pos (by omega)]
  have ss : slt T (a + 1) = s := by rw [hsl, if_neg (by omega), if_pos rfl]
  have da : dep T a = dep S a := by rw [hd, if_pos (by omega)]
  have ds : dep T (a + 1) = dep S a + 1 := by rw [hd, if_neg (by omega), if_pos rfl]
  have he := endN_le ha
  have eT : endN T a = endN S a + 1 := by
    refine endN_of (by omega) (by omega) (by omega) (fun m h1 h2 => ?_) ?_
    · rw [da]
      by_cases e : m = a + 1
      · rw [e, ds]; omega
      · rw [hd, if_neg (by omega), if_neg e]
        exact endN_in ha (by omega) (by omega)
    · by_cases e : endN S a = S.length
      · exact .inl (by omega)
      · refine .inr ?_
        rw [da, hd, if_neg (by omega), if_neg (by omega), Nat.add_sub_cancel]
        exact endN_at ha (by omega)
  have eS : endN T (a + 1) = a + 2 := by
    refine endN_of (by omega) (by omega) (by omega) (fun m h1 h2 => by omega) ?_
    by_cases e : a + 2 = T.length
    · exact .inl e
    · refine .inr ?_
      rw [ds, hd, if_neg (by omega), if_neg (by omega)]
      exact g.next a (by omega)
  have hasT : hasB T s = true := by rw [← ss]; exact gT.has (by omega)
  have pls : pl T s = a + 1 := by rw [← ss]; exact gT.pl (by omega)
  have und : underN T (a + 1) = [] := by
    apply List.length_eq_zero_iff.1
    rw [underN_len (by omega), eS]
    omega
  have u1 : underS T (slt S a) = allS (underN T a) := by rw [← sa]; exact under_at gT (by omega)
  have u2 := under_at g ha
  have u3 : underS T s = allS (underN T (a + 1)) := by rw [← ss]; exact under_at gT (by omega)
  have pr : parO T s = some (slt S a) := by
    rw [← ss, par_at gT (by omega), (par_some gT (by omega)).2 ⟨Nat.lt_succ_self a, by rw [da, ds]; omega, fun m h1 h2 => by omega⟩]
    show some (slt T a) = _
    rw [sa]
  refine ⟨by unfold parS; rw [pr]; rfl, by unfold parB; rw [pr]; rfl, ?_, ?_, ?_, ?_, ?_, ?_, ?_⟩
  · rw [u1, u2, all_len', all_len', underN_len (by omega), underN_len ha, eT]
    omega
  · rw [u1, ← ss]
    exact (mem_under gT (by omega) (by omega)).2 ⟨by omega, by omega⟩
  · rw [u3, und]
    rfl
  · unfold addE
    rw [hasT, ← sa, gT.has (by omega)]
    rfl
  · unfold addS
    rw [hasT]
    simp
  · unfold takeE
    rw [hasT]
    rfl
  · unfold takeS
    rw [hasT, pls]
    show takeN T (a + 1) = S
    refine st_ext (by rw [takeN_len (by omega)]; omega) fun j hj => ?_
    rw [takeN_len (by omega)] at hj
    rw [atE_takeN (by omega) hj, eS]
    by_cases c : j < a + 1
    · rw [if_pos c, at', if_pos c]
    · rw [if_neg c, if_neg (by omega), at', if_neg (by omega), if_neg (by omega), Nat.add_sub_cancel]

/-! ### Moved, and moved back -/
theorem lastD_congr {T : St} (h : ∀ j, dep T j = dep S j) (d : Int) : ∀ k, lastD T d k = lastD S d k
  | 0 => rfl
  | k + 1 => by
    unfold lastD
    rw [h, lastD_congr h d k]
theorem moves_facts (g : Good S) (ha : a < S.length) {b : Sl} (hb : hasB S b = false) :
    ∃ T, moveE S (slt S a) b = 0 ∧ moveS S (slt S a) b = T ∧ T.length = S.length ∧ parS T b = parS S (slt S a) ∧ parB T b = parB S (slt S a) ∧ underS T b = underS S (slt S a) ∧ moveE T b (slt S a) = 0 ∧ moveS T b (slt S a) = S := by
  have gT := g.moved hb ha
  have h1 : moveE S (slt S a) b = 0 := by unfold moveE; rw [g.has ha, hb]; rfl
  have h2 : moveS S (slt S a) b = S.set a ⟨b, dep S a⟩ := by
    unfold moveS
    rw [g.has ha, hb, g.pl ha]
    simp
  have hd : ∀ j, dep (S.set a ⟨b, dep S a⟩) j = dep S j := fun j => by
    unfold dep
    rw [atE_set]
    split
    · rename_i hh
      rw [hh.1]
    · rfl
  have hs : ∀ j, slt (S.set a ⟨b, dep S a⟩) j = if a = j then b else slt S j := fun j => by
    unfold slt
    rw [atE_set]
    by_cases e : a = j
    · rw [if_pos ⟨e, ha⟩, if_pos e]
    · rw [if_neg (fun hh => e hh.1), if_neg e]
  have hl : (S.set a ⟨b, dep S a⟩).length = S.length := by simp
  have sb : slt (S.set a ⟨b, dep S a⟩) a = b := by rw [hs, if_pos rfl]
  have hasT : hasB (S.set a ⟨b, dep S a⟩) b = true := by
    have := gT.has (i := a) (by omega)
    rwa [sb] at this
  have plb : pl (S.set a ⟨b, dep S a⟩) b = a := by
    have := gT.pl (i := a) (by omega)
    rwa [sb] at this
  have hno : hasB (S.set a ⟨b, dep S a⟩) (slt S a) = false := has_not fun j hj e => by
    rw [hs] at e
    split at e
    · rename_i h0
      exact hasB_false hb ha e.symm
    · rename_i h0
      exact h0 (g.one j a (by omega) ha e).symm
  have pr : parO (S.set a ⟨b, dep S a⟩) b = parO S (slt S a) := by
    rw [par_at g ha]
    unfold parO
    rw [hasT, plb]
    simp only [if_true]
    have e : parN (S.set a ⟨b, dep S a⟩) a = parN S a := by
      unfold parN
      rw [hd]
      exact lastD_congr hd _ _
    rw [e]
    cases hq : parN S a with
    | none => rfl
    | some j =>
      obtain ⟨q1, _, _⟩ := (par_some g ha).1 hq
      show some (slt _ j) = some (slt S j)
      rw [hs, if_neg (by omega)]
  refine ⟨_, h1, h2, hl, by unfold parS; rw [pr], by unfold parB; rw [pr], ?_, ?_, ?_⟩
  · rw [under_at g ha]
    unfold underS
    rw [hasT, plb]
    simp only [if_true]
    unfold underN
    rw [hd, List.drop_set_of_lt (by omega)]
  · unfold moveE
    rw [hasT, hno]
    rfl
  · unfold moveS
    rw [hasT, hno, plb]
    simp only [Bool.false_eq_true, not_false_eq_true, and_self, if_true]
    rw [List.set_set, hd]
    refine st_ext (by simp) fun j hj => ?_
    rw [atE_set]
    split
    · rename_i hh
      rw [← hh.1]
      rfl
    · rfl

/-! ### Taken -/
theorem takes_facts (g : Good S) (ha : a < S.length) :
    takeE S (slt S a) = 0 ∧ takeS S (slt S a) = takeN S a ∧ (takeN S a).length = S.length - 1 ∧ underS (takeN S a) (slt S a) = [] := by
  refine ⟨by unfold takeE; rw [g.has ha]; rfl, by unfold takeS; rw [g.has ha, g.pl ha]; rfl, takeN_len ha, ?_⟩
  have : hasB (takeN S a) (slt S a) = false := has_not fun j hj e => by
    rw [takeN_len ha] at hj
    rw [slt_takeN ha hj] at e
    split at e
    · have := g.one j a (by omega) ha e; omega
    · have := g.one (j + 1) a (by omega) ha e; omega
  unfold underS
  rw [this]
  rfl
theorem takes_par (g : Good S) (ha : a < S.length) {i : Nat} (hi : i < S.length) (hia : i ≠ a) :
    parO (takeN S a) (slt S i) = if parO S (slt S i) = some (slt S a) then parO S (slt S a) else parO S (slt S i) := by
  have gC := g.took ha
  have hl := takeN_len ha
  have hi' : (if i < a then i else i - 1) < S.length - 1 := by split <;> omega
  have si : slt (takeN S a) (if i < a then i else i - 1) = slt S i := by
    rw [slt_takeN ha hi']
    by_cases c : i < a
    · rw [if_pos c, if_pos c]
    · rw [if_neg c, if_neg (by omega)]
      congr 1
      omega
  have e1 : parO (takeN S a) (slt S i) = (parN (takeN S a) (if i < a then i else i - 1)).map (slt (takeN S a)) := by
    rw [← si]
    exact par_at gC (by omega)
  rw [e1, par_takeN g ha hi hia, par_at g hi, par_at g ha]
  cases hp : parN S i with
  | none => simp
  | some j =>
    obtain ⟨k1, _, _⟩ := (par_some g hi).1 hp
    simp only [Option.map_some]
    by_cases e : j = a
    · subst e
      rw [if_pos rfl, if_pos rfl]
      cases hq : parN S j with
      | none => rfl
      | some b =>
        obtain ⟨q1, _, _⟩ := (par_some g ha).1 hq
        show some (slt (takeN S j) b) = some (slt S b)
        rw [slt_takeN ha (by omega), if_pos q1]
    · have hne : ¬ (some (slt S j) = some (slt S a)) := fun h => e (g.one j a (by omega) ha (Option.some.inj h))
      rw [if_neg e, if_neg hne]
      show some (slt (takeN S a) _) = some (slt S j)
      have hj' : (if j < a then j else j - 1) < S.length - 1 := by split <;> omega
      rw [slt_takeN ha hj']
      by_cases c : j < a
      · rw [if_pos c, if_pos c]
      · rw [if_neg c, if_neg (by omega)]
        congr 2
        omega

/-! ### Under -/
theorem under_facts (g : Good S) (ha : a < S.length) {k : Nat} (hk : k < S.length) :
    decide (slt S k ∈ underS S (slt S a)) = (parB S (slt S k) && (decide (parS S (slt S k) = slt S a) || decide (parS S (slt S k) ∈ underS S (slt S a)))) := by
  rw [under_at g ha]
  unfold parB parS
  rw [par_at g hk]
  have hm := mem_under g ha hk
  have hu := under_par g ha hk
  cases hp : parN S k with
  | none =>
    have : ¬ slt S k ∈ allS (underN S a) := fun h => by
      obtain ⟨j, hj, _⟩ := hu.1 (hm.1 h)
      rw [hp] at hj
      cases hj
    simp [this]
  | some j =>
    obtain ⟨k1, _, _⟩ := (par_some g hk).1 hp
    have hmj := mem_under g ha (k := j) (by omega)
    simp only [Option.map_some, Option.isSome_some, Option.getD_some, Bool.true_and]
    have e : (slt S k ∈ allS (underN S a)) ↔ (slt S j = slt S a ∨ slt S j ∈ allS (underN S a)) := by
      rw [hm, hu, hmj]
      constructor
      · rintro ⟨j', hj', h⟩
        rw [hp] at hj'
        cases hj'
        exact h.imp (fun e => by rw [e]) id
      · intro h
        exact ⟨j, hp, h.imp (fun e => g.one j a (by omega) ha e) id⟩
    rw [← Bool.decide_or]
    exact decide_eq_decide.2 e
theorem under_self (g : Good S) (ha : a < S.length) : ¬ slt S a ∈ underS S (slt S a) := by
  rw [under_at g ha, mem_under g ha ha]
  omega

/-! ### Roots -/
/-- Ahead of place m all has come; m is the next root from k on, or the end. -/
def RootAt (S : St) (k m : Nat) : Prop := k ≤ m ∧ m ≤ S.length ∧ (∀ j, k ≤ j → j < m → dep S j ≠ 0) ∧ (m < S.length → dep S m = 0)
theorem root_start (g : Good S) : RootAt S 0 0 := ⟨Nat.le_refl _, Nat.zero_le _, fun j h1 h2 => by omega, fun h => g.first h⟩
theorem root_no {k m : Nat} (h : RootAt S k m) (hk : k < S.length) (hd : dep S k ≠ 0) : RootAt S (k + 1) m := by
  obtain ⟨h1, h2, h3, h4⟩ := h
  have : k ≠ m := fun e => hd (e ▸ h4 (e ▸ hk))
  exact ⟨by omega, h2, fun j a b => h3 j (by omega) b, h4⟩
theorem root_yes (g : Good S) {k m : Nat} (h : RootAt S k m) (hk : k < S.length) (hd : dep S k = 0) : k = m ∧ RootAt S (k + 1) (endN S k) ∧ (allS S).take m ++ [slt S k] ++ underS S (slt S k) = (allS S).take (endN S k) := by
  obtain ⟨h1, h2, h3, h4⟩ := h
  have e : k = m := by
    rcases Nat.lt_or_ge k m with h | h
    · exact absurd hd (h3 k (Nat.le_refl _) h)
    · omega
  subst e
  have he := endN_le hk
  refine ⟨rfl, ⟨by omega, he.1, fun j a b => ?_, fun hl => ?_⟩, ?_⟩
  · have := endN_in hk (m := j) (by omega) b
    omega
  · have := endN_at hk hl
    have := g.pos _ hl
    omega
  · rw [under_at g hk, underN_eq]
    unfold allS
    rw [List.map_take, List.map_drop]
    have hx : (S.map En.s).take k ++ [slt S k] = (S.map En.s).take (k + 1) := by
      rw [List.take_add_one, List.getElem?_map, atE_some hk]
      rfl
    rw [hx]
    have hn : endN S k = (k + 1) + (endN S k - (k + 1)) := by omega
    generalize endN S k - (k + 1) = n at *
    rw [hn]
    exact (List.take_add (l := S.map En.s) (i := k + 1) (j := n)).symm
theorem root_end {k m : Nat} (h : RootAt S k m) (hk : k = S.length) : (allS S).take m = allS S := by
  obtain ⟨h1, h2, _, _⟩ := h
  exact List.take_of_length_le (by rw [all_len']; omega)
theorem par_root (g : Good S) {k : Nat} (hk : k < S.length) : parB S (slt S k) = decide (dep S k ≠ 0) := by
  unfold parB
  rw [par_at g hk]
  cases hp : parN S k with
  | none =>
    have := (par_none g hk).1 hp
    simp [this]
  | some j =>
    have : dep S k ≠ 0 := fun e => by
      have := (par_none g hk).2 e
      rw [hp] at this
      cases this
    simp [this]
end
end Go.Proofs.Ythfoeppcageneaa
