/-
  Trees behind each call: what stands where; they stay good; what the statements ask of them; without the program; no condition of ours.
-/
import Derived.Test.YthfoeppcageneaaTMath
namespace Go.Proofs.Ythfoeppcageneaa
set_option linter.unusedSectionVars false
variable [DecidableEq Sl]

theorem atE_append (S T : St) (j : Nat) : atE (S ++ T) j = if j < S.length then atE S j else atE T (j - S.length) := by
  unfold atE
  simp only [List.getD_eq_getElem?_getD, List.getElem?_append]
  split <;> rfl
theorem atE_cons (e : En) (S : St) (j : Nat) : atE (e :: S) j = if j = 0 then e else atE S (j - 1) := by
  unfold atE
  cases j with
  | zero => simp
  | succ j => simp
theorem atE_map (S : St) (j : Nat) (h : j < S.length) : atE (S.map less) j = less (atE S j) := by
  apply atE_of
  rw [List.getElem?_map, atE_some h]
  rfl
theorem atE_erase (S : St) (i j : Nat) : atE (S.eraseIdx i) j = if j < i then atE S j else atE S (j + 1) := by
  unfold atE
  rw [List.getD_eq_getElem?_getD, List.getElem?_eraseIdx]
  split <;> simp [List.getD_eq_getElem?_getD]
theorem atE_set (S : St) (i j : Nat) (e : En) : atE (S.set i e) j = if i = j ∧ i < S.length then e else atE S j := by
  unfold atE
  rw [List.getD_eq_getElem?_getD, List.getElem?_set]
  by_cases h : i = j
  · subst h
    by_cases hl : i < S.length
    · simp [hl]
    · simp [hl]
  · simp [h, List.getD_eq_getElem?_getD]

/-! ### One more -/
theorem putN_len (S : St) (i : Nat) (e : En) : (putN S i e).length = S.length + 1 := by
  unfold putN
  simp
  omega
theorem atE_putN {S : St} {i : Nat} (hi : i ≤ S.length) (e : En) (j : Nat) : atE (putN S i e) j = if j < i then atE S j else if j = i then e else atE S (j - 1) := by
  unfold putN
  have hl : (S.take i).length = i := by simp; omega
  rw [atE_append, hl, atE_cons]
  split
  · rename_i h
    exact atE_take h
  · split
    · rw [if_pos (by omega)]
    · rw [if_neg (by omega), atE_drop]
      congr 1
      omega
theorem hasB_false {S : St} {s : Sl} (h : hasB S s = false) {j : Nat} (hj : j < S.length) : slt S j ≠ s := fun e => by
  have := (hasB_iff S s).2 ⟨j, hj, e⟩
  rw [h] at this
  cases this
theorem Good.put {S : St} (g : Good S) {s : Sl} (h : hasB S s = false) {i : Nat} (hi : i < S.length) : Good (putN S (i + 1) ⟨s, dep S i + 1⟩) := by
  have at' := atE_putN (S := S) (i := i + 1) (by omega) ⟨s, dep S i + 1⟩
  have hl := putN_len S (i + 1) ⟨s, dep S i + 1⟩
  generalize putN S (i + 1) ⟨s, dep S i + 1⟩ = T at *
  have hd : ∀ j, dep T j = if j < i + 1 then dep S j else if j = i + 1 then dep S i + 1 else dep S (j - 1) := fun j => by
    unfold dep
    rw [at']
    split
    · rfl
    · split <;> rfl
  have hs : ∀ j, slt T j = if j < i + 1 then slt S j else if j = i + 1 then s else slt S (j - 1) := fun j => by
    unfold slt
    rw [at']
    split
    · rfl
    · split <;> rfl
  refine ⟨fun a b ha hb e => ?_, fun a ha => ?_, fun ha => ?_, fun a ha => ?_⟩
  · rw [hs, hs] at e
    by_cases a1 : a < i + 1
    · rw [if_pos a1] at e
      by_cases b1 : b < i + 1
      · rw [if_pos b1] at e
        exact g.one a b (by omega) (by omega) e
      · rw [if_neg b1] at e
        by_cases b2 : b = i + 1
        · rw [if_pos b2] at e
          exact absurd e (hasB_false h (by omega))
        · rw [if_neg b2] at e
          have := g.one a (b - 1) (by omega) (by omega) e
          omega
    · rw [if_neg a1] at e
      by_cases a2 : a = i + 1
      · rw [if_pos a2] at e
        by_cases b1 : b < i + 1
        · rw [if_pos b1] at e
          exact absurd e.symm (hasB_false h (by omega))
        · rw [if_neg b1] at e
          by_cases b2 : b = i + 1
          · omega
          · rw [if_neg b2] at e
            exact absurd e.symm (hasB_false h (by omega))
      · rw [if_neg a2] at e
        by_cases b1 : b < i + 1
        · rw [if_pos b1] at e
          have := g.one (a - 1) b (by omega) (by omega) e
          omega
        · rw [if_neg b1] at e
          by_cases b2 : b = i + 1
          · rw [if_pos b2] at e
            exact absurd e (hasB_false h (by omega))
          · rw [if_neg b2] at e
            have := g.one (a - 1) (b - 1) (by omega) (by omega) e
            omega
  · rw [hd]
    split
    · exact g.pos a (by omega)
    · split
      · have := g.pos i hi; omega
      · exact g.pos (a - 1) (by omega)
  · rw [hd, if_pos (by omega)]
    exact g.first (by omega)
  · rw [hd, hd]
    by_cases a1 : a + 1 < i + 1
    · rw [if_pos a1, if_pos (by omega)]
      exact g.next a (by omega)
    · rw [if_neg a1]
      by_cases a2 : a + 1 = i + 1
      · have : a = i := by omega
        rw [if_pos a2, if_pos (by omega), this]
        exact Int.le_refl _
      · rw [if_neg a2, if_neg (by omega)]
        by_cases a3 : a = i + 1
        · have e1 : a + 1 - 1 = i + 1 := by omega
          rw [if_pos a3, e1]
          have := g.next i (by omega)
          omega
        · rw [if_neg a3]
          have := g.next (a - 1) (by omega)
          rw [show a - 1 + 1 = a by omega] at this
          exact this
theorem Good.root {S : St} (g : Good S) {s : Sl} (h : hasB S s = false) : Good (S ++ [⟨s, 0⟩]) := by
  have hl : (S ++ [(⟨s, 0⟩ : En)]).length = S.length + 1 := by simp
  have at' := atE_append S [⟨s, 0⟩]
  generalize S ++ [(⟨s, 0⟩ : En)] = T at *
  have hd : ∀ j, j < T.length → dep T j = if j < S.length then dep S j else 0 := fun j hj => by
    unfold dep
    rw [at', atE_cons]
    split
    · rfl
    · rw [if_pos (by omega)]
  have hs : ∀ j, j < T.length → slt T j = if j < S.length then slt S j else s := fun j hj => by
    unfold slt
    rw [at', atE_cons]
    split
    · rfl
    · rw [if_pos (by omega)]
  refine ⟨fun a b ha hb e => ?_, fun a ha => ?_, fun ha => ?_, fun a ha => ?_⟩
  · rw [hs a ha, hs b hb] at e
    by_cases a1 : a < S.length
    · rw [if_pos a1] at e
      by_cases b1 : b < S.length
      · rw [if_pos b1] at e
        exact g.one a b a1 b1 e
      · rw [if_neg b1] at e
        exact absurd e (hasB_false h a1)
    · rw [if_neg a1] at e
      by_cases b1 : b < S.length
      · rw [if_pos b1] at e
        exact absurd e.symm (hasB_false h b1)
      · omega
  · rw [hd a ha]
    split
    · rename_i h1
      exact g.pos a h1
    · exact Int.le_refl _
  · rw [hd 0 ha]
    split
    · rename_i h1
      exact g.first h1
    · rfl
  · rw [hd _ ha, hd _ (by omega)]
    rw [if_pos (show a < S.length by omega)]
    split
    · rename_i h1
      exact g.next a h1
    · have := g.pos a (by omega)
      omega

/-! ### One less -/
theorem lessN_len {S : St} {i k : Nat} (h : i + 1 + k ≤ S.length) : (lessN S i k).length = S.length := by
  unfold lessN
  simp
  omega
theorem atE_lessN {S : St} {i k : Nat} (h : i + 1 + k ≤ S.length) {j : Nat} (hj : j < S.length) : atE (lessN S i k) j = if i < j ∧ j < i + 1 + k then less (atE S j) else atE S j := by
  unfold lessN
  have h1 : (S.take (i + 1)).length = i + 1 := by simp; omega
  have h2 : (((S.drop (i + 1)).take k).map less).length = k := by simp; omega
  rw [atE_append, atE_append, List.length_append, h1, h2]
  by_cases c1 : j < i + 1
  · rw [if_pos (by omega), if_pos c1, if_neg (by omega), atE_take c1]
  · by_cases c2 : j < i + 1 + k
    · have h3 : ((S.drop (i + 1)).take k).length = k := by simp; omega
      rw [if_pos c2, if_neg c1, if_pos (by omega), atE_map _ _ (by omega), atE_take (by omega), atE_drop]
      congr 2
      omega
    · rw [if_neg c2, if_neg (by omega), atE_drop]
      congr 1
      omega
theorem takeN_len {S : St} {i : Nat} (hi : i < S.length) : (takeN S i).length = S.length - 1 := by
  have := endN_le hi
  unfold takeN
  rw [List.length_eraseIdx, lessN_len (by rw [underN_len hi]; omega), if_pos hi]
theorem atE_takeN {S : St} {i : Nat} (hi : i < S.length) {j : Nat} (hj : j < S.length - 1) : atE (takeN S i) j = if j < i then atE S j else if j + 1 < endN S i then less (atE S (j + 1)) else atE S (j + 1) := by
  have := endN_le hi
  have hu := underN_len hi
  unfold takeN
  rw [atE_erase]
  split
  · rw [atE_lessN (by omega) (by omega), if_neg (by omega)]
  · rw [atE_lessN (by omega) (by omega), hu]
    split
    · rw [if_pos (by omega)]
    · rw [if_neg (by omega)]
section
variable {S : St} {i : Nat}
theorem dep_takeN (hi : i < S.length) {j : Nat} (hj : j < S.length - 1) : dep (takeN S i) j = if j < i then dep S j else if j + 1 < endN S i then dep S (j + 1) - 1 else dep S (j + 1) := by
  unfold dep
  rw [atE_takeN hi hj]
  split
  · rfl
  · split <;> rfl
theorem slt_takeN (hi : i < S.length) {j : Nat} (hj : j < S.length - 1) : slt (takeN S i) j = if j < i then slt S j else slt S (j + 1) := by
  unfold slt
  rw [atE_takeN hi hj]
  split
  · rfl
  · split <;> rfl
theorem Good.took (g : Good S) (hi : i < S.length) : Good (takeN S i) := by
  have hl := takeN_len hi
  have he := endN_le hi
  have hd := fun j hj => dep_takeN (S := S) (i := i) hi (j := j) hj
  have hs := fun j hj => slt_takeN (S := S) (i := i) hi (j := j) hj
  have hin := fun m => endN_in (S := S) (i := i) (m := m) hi
  have hat := endN_at (S := S) (i := i) hi
  generalize endN S i = E at *
  refine ⟨fun a b ha hb e => ?_, fun a ha => ?_, fun ha => ?_, fun a ha => ?_⟩
  · rw [hs a (by omega), hs b (by omega)] at e
    split at e <;> split at e
    · exact g.one a b (by omega) (by omega) e
    · have := g.one a (b + 1) (by omega) (by omega) e; omega
    · have := g.one (a + 1) b (by omega) (by omega) e; omega
    · have := g.one (a + 1) (b + 1) (by omega) (by omega) e; omega
  · rw [hd a (by omega)]
    split
    · exact g.pos a (by omega)
    · split
      · have := hin (a + 1) (by omega) (by omega)
        have := g.pos i hi
        omega
      · exact g.pos (a + 1) (by omega)
  · rw [hd 0 (by omega)]
    have f0 := g.first (by omega)
    split
    · exact f0
    · have : i = 0 := by omega
      subst this
      have := g.next 0 (by omega)
      have := g.pos 1 (by omega)
      split
      · have := hin 1 (by omega) (by omega)
        simp only [Nat.zero_add] at *
        omega
      · by_cases e1 : E = 1
        · have := hat (by omega)
          rw [e1] at this
          simp only [Nat.zero_add] at *
          omega
        · omega
  · rw [hd (a + 1) (by omega), hd a (by omega)]
    by_cases c1 : a + 1 < i
    · rw [if_pos c1, if_pos (by omega)]
      exact g.next a (by omega)
    · rw [if_neg c1]
      by_cases c2 : a < i
      · have : i = a + 1 := by omega
        subst this
        rw [if_pos c2]
        have n1 := g.next a (by omega)
        have n2 := g.next (a + 1) (by omega)
        split
        · omega
        · by_cases e1 : E = a + 1 + 1
          · have := hat (by omega)
            rw [e1] at this
            omega
          · omega
      · rw [if_neg c2]
        have n2 := g.next (a + 1) (by omega)
        split
        · rw [if_pos (by omega)]
          omega
        · split
          · have : a + 1 + 1 = E := by omega
            have h1 := hat (by omega)
            have h2 := hin (a + 1) (by omega) (by omega)
            rw [← this] at h1
            omega
          · exact n2
/-- What is left came of what it came of, or, if that was taken, of what this came of. -/
theorem par_takeN (g : Good S) (hi : i < S.length) {k : Nat} (hk : k < S.length) (hki : k ≠ i) :
    parN (takeN S i) (if k < i then k else k - 1) = match parN S k with
      | none => none
      | some j => if j = i then parN S i else some (if j < i then j else j - 1) := by
  have gt := g.took hi
  have hl := takeN_len hi
  have he := endN_le hi
  have hd := fun j hj => dep_takeN (S := S) (i := i) hi (j := j) hj
  have hup := under_par g hi hk
  have hin := fun m => endN_in (S := S) (i := i) (m := m) hi
  have hk' : (if k < i then k else k - 1) < (takeN S i).length := by split <;> omega
  have dk : dep (takeN S i) (if k < i then k else k - 1) = if i < k ∧ k < endN S i then dep S k - 1 else dep S k := by
    rw [hd _ (by omega)]
    by_cases c : k < i
    · rw [if_pos c, if_pos c, if_neg (by omega)]
    · rw [if_neg c, if_neg (by omega), show k - 1 + 1 = k by omega]
      by_cases c2 : k < endN S i
      · rw [if_pos c2, if_pos (by omega)]
      · rw [if_neg c2, if_neg (by omega)]
  cases hp : parN S k with
  | none =>
    have h0 := (par_none g hk).1 hp
    have : ¬ (i < k ∧ k < endN S i) := fun h => by
      obtain ⟨j, hj, _⟩ := hup.1 h
      rw [hp] at hj
      cases hj
    rw [if_neg this] at dk
    exact (par_none gt hk').2 (by rw [dk]; exact h0)
  | some j =>
    obtain ⟨k1, k2, k3⟩ := (par_some g hk).1 hp
    by_cases e : j = i
    · subst e
      simp only [if_true]
      have hu : j < k ∧ k < endN S j := hup.2 ⟨j, hp, .inl rfl⟩
      rw [if_pos hu] at dk
      have ek : (if k < j then k else k - 1) = k - 1 := if_neg (by omega)
      rw [ek] at dk hk' ⊢
      cases hq : parN S j with
      | none =>
        have h0 := (par_none g hi).1 hq
        exact (par_none gt hk').2 (by omega)
      | some b =>
        obtain ⟨q1, q2, q3⟩ := (par_some g hi).1 hq
        refine (par_some gt hk').2 ⟨by omega, ?_, fun m h1 h2 => ?_⟩
        · rw [hd b (by omega), if_pos q1]
          omega
        · rw [dk, hd m (by omega)]
          by_cases c : m < j
          · rw [if_pos c]
            have := q3 m h1 c
            omega
          · rw [if_neg c, if_pos (by omega)]
            have := k3 (m + 1) (by omega) (by omega)
            omega
    · simp only [if_neg e]
      have huj : (i < k ∧ k < endN S i) ↔ (i < j ∧ j < endN S i) := by
        rw [hup]
        constructor
        · rintro ⟨j', hj', h⟩
          rw [hp] at hj'
          cases hj'
          exact h.resolve_left e
        · exact fun h => ⟨j, hp, .inr h⟩
      refine (par_some gt hk').2 ⟨by split <;> split <;> omega, ?_, fun m h1 h2 => ?_⟩
      · rw [dk, hd _ (by split <;> omega)]
        by_cases c : j < i
        · rw [if_pos c, if_pos c, if_neg (by omega)]
          exact k2
        · rw [if_neg c, if_neg (by omega), show j - 1 + 1 = j by omega]
          by_cases c2 : j < endN S i
          · rw [if_pos c2, if_pos (huj.2 ⟨by omega, c2⟩)]
            omega
          · rw [if_neg c2, if_neg (fun h => c2 (huj.1 h).2)]
            exact k2
      · have hml : m < S.length - 1 := by omega
        rw [dk, hd m hml]
        by_cases c : m < i
        · rw [if_pos c]
          have hjm : j < m := by
            by_cases cj : j < i
            · rw [if_pos cj] at h1; exact h1
            · rw [if_neg cj] at h1; omega
          have := k3 m hjm (by split at h2 <;> omega)
          split <;> omega
        · rw [if_neg c]
          have hik : i < k := by
            by_cases ck : k < i
            · rw [if_pos ck] at h2; omega
            · omega
          have hmk : m + 1 < k := by rw [if_neg (by omega)] at h2; omega
          have hjm : j < m + 1 := by
            by_cases cj : j < i
            · omega
            · rw [if_neg cj] at h1; omega
          have h5 := k3 (m + 1) hjm hmk
          by_cases c2 : m + 1 < endN S i
          · rw [if_pos c2]
            by_cases c3 : i < k ∧ k < endN S i
            · rw [if_pos c3]
              omega
            · rw [if_neg c3]
              have hji : ¬ (i < j) := fun h => c3 (huj.2 ⟨h, by omega⟩)
              have h6 := k3 i (by omega) hik
              have h7 := hin (m + 1) (by omega) c2
              omega
          · rw [if_neg c2]
            split <;> omega
end

/-! ### Another one in its place -/
theorem Good.moved {S : St} (g : Good S) {b : Sl} (h : hasB S b = false) {i : Nat} (hi : i < S.length) : Good (S.set i ⟨b, dep S i⟩) := by
  have hl : (S.set i ⟨b, dep S i⟩).length = S.length := by simp
  have hd : ∀ j, dep (S.set i ⟨b, dep S i⟩) j = dep S j := fun j => by
    unfold dep
    rw [atE_set]
    split
    · rename_i hh
      rw [hh.1]
    · rfl
  have hs : ∀ j, slt (S.set i ⟨b, dep S i⟩) j = if i = j then b else slt S j := fun j => by
    unfold slt
    rw [atE_set]
    by_cases e : i = j
    · rw [if_pos ⟨e, hi⟩, if_pos e]
    · rw [if_neg (fun hh => e hh.1), if_neg e]
  refine ⟨fun x y hx hy e => ?_, fun a ha => ?_, fun ha => ?_, fun a ha => ?_⟩
  · rw [hs, hs] at e
    rw [hl] at hx hy
    split at e <;> split at e
    · omega
    · exact absurd e.symm (hasB_false h hy)
    · exact absurd e (hasB_false h hx)
    · exact g.one x y hx hy e
  · rw [hd]; exact g.pos a (by omega)
  · rw [hd]; exact g.first (by omega)
  · rw [hd, hd]; exact g.next a (by omega)

/-! ### The calls leave good trees -/
theorem Good.rootS {S : St} (g : Good S) (s : Sl) : Good (rootS S s) := by
  unfold Proofs.Ythfoeppcageneaa.rootS
  cases h : hasB S s with
  | true => simpa using g
  | false => simpa using g.root h
theorem Good.addS {S : St} (g : Good S) (p s : Sl) : Good (addS S p s) := by
  unfold Proofs.Ythfoeppcageneaa.addS
  split
  · rename_i h
    exact g.put (by simpa using h.2) (pl_slt h.1).1
  · exact g
theorem Good.takeS {S : St} (g : Good S) (s : Sl) : Good (takeS S s) := by
  unfold Proofs.Ythfoeppcageneaa.takeS
  split
  · rename_i h
    exact g.took (pl_slt h).1
  · exact g
theorem Good.moveS {S : St} (g : Good S) (a b : Sl) : Good (moveS S a b) := by
  unfold Proofs.Ythfoeppcageneaa.moveS
  split
  · rename_i h
    exact g.moved (by simpa using h.2) (pl_slt h.1).1
  · exact g
theorem rootS_len (S : St) (s : Sl) : (rootS S s).length ≤ S.length + 1 := by
  unfold rootS
  split <;> simp
theorem addS_len (S : St) (p s : Sl) : (addS S p s).length ≤ S.length + 1 := by
  unfold addS
  split
  · rw [putN_len]; exact Nat.le_refl _
  · omega
theorem takeS_len (S : St) (s : Sl) : (takeS S s).length ≤ S.length := by
  unfold takeS
  split
  · rename_i h
    rw [takeN_len (pl_slt h).1]; omega
  · exact Nat.le_refl _
theorem moveS_len (S : St) (a b : Sl) : (moveS S a b).length = S.length := by
  unfold moveS
  split
  · simp
  · rfl
end Go.Proofs.Ythfoeppcageneaa
