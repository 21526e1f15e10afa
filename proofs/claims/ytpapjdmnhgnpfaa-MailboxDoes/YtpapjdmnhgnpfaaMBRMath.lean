/-
  The document's boxes: one list of all messages, each with whom it is for; what its calls make of it, and which boxes these are; without a program; no condition.
-/
import Derived.Test.YtpapjdmnhgnpfaaMBMath
namespace Go.Proofs.Ytpapjdmnhgnpfaa
/-- A message, and for whom. -/
structure Tl where
  t : Int
  m : Ml
abbrev Dl := List Tl
def boxD (D : Dl) (c : Int) : Bx := (D.filter fun x => x.t == c).map Tl.m
theorem boxD_more (D : Dl) (x : Tl) (c : Int) : boxD (D ++ [x]) c = boxD D c ++ if x.t = c then [x.m] else [] := by
  unfold boxD
  rw [List.filter_append, List.map_append]
  congr 1
  by_cases e : x.t = c
  · rw [if_pos e]
    simp [e]
  · rw [if_neg e]
    simp [e]
theorem boxD_take (D : Dl) (c : Int) {k : Nat} {x : Tl} (h : D[k]? = some x) : boxD (D.take (k + 1)) c = boxD (D.take k) c ++ if x.t = c then [x.m] else [] := by
  rw [List.take_add_one, h]
  exact boxD_more _ _ _
theorem boxD_le (D : Dl) (c : Int) : (boxD D c).length ≤ D.length := by
  unfold boxD
  rw [List.length_map]
  exact List.length_filter_le _ _
/-- The boxes L of n cores are those of D. -/
structure Rel (n : Nat) (L : St) (D : Dl) : Prop where
  box : ∀ i, i < n → boxN L i = boxD D (i : Int)
  src : ∀ x ∈ D, 0 ≤ x.t ∧ x.t < (n : Int)
theorem rel_new (n : Nat) : Rel n (List.replicate n []) [] := by
  refine ⟨fun i hi => ?_, fun x hx => by simp at hx⟩
  unfold boxN
  rw [List.getElem?_replicate, if_pos hi]
  rfl
theorem Rel.boxL {n : Nat} {L : St} {D : Dl} (h : Rel n L D) (g : Good n L) (c : Int) : boxL L c = boxD D c := by
  cases e : hasB n c with
  | true =>
    obtain ⟨h1, h2⟩ := has_iff.1 e
    obtain ⟨i, rfl⟩ : ∃ i : Nat, c = (i : Int) := ⟨c.toNat, by omega⟩
    rw [boxL_nat]
    exact h.box i (by omega)
  | false =>
    rw [boxL_no g.len e]
    unfold boxD
    rw [List.filter_eq_nil_iff.2]
    · rfl
    · intro x hx
      have h2 := h.src x hx
      simp only [beq_iff_eq]
      intro e2
      subst e2
      rw [has_iff.2 h2] at e
      cases e
theorem Rel.put {n : Nat} {L : St} {D : Dl} (h : Rel n L D) (g : Good n L) {i : Nat} (hi : i < n) (m : Ml) : Rel n (putN L i m) (D ++ [⟨(i : Int), m⟩]) := by
  refine ⟨fun j hj => ?_, fun x hx => ?_⟩
  · rw [boxN_put (by rw [g.len]; exact hi), boxD_more]
    by_cases e : j = i
    · subst e
      rw [if_pos rfl, if_pos rfl, h.box j hj]
    · rw [if_neg e, if_neg (by simp only; omega), List.append_nil, h.box j hj]
  · rcases List.mem_append.1 hx with hx | hx
    · exact h.src x hx
    · have : x = ⟨(i : Int), m⟩ := by simpa using hx
      subst this
      exact ⟨by simp only; omega, by simp only; omega⟩
def manyD (D : Dl) (T : List Nat) (m : Ml) : Dl := D ++ T.map fun i => ⟨((i : Nat) : Int), m⟩
theorem manyD_more (D : Dl) (T : List Nat) (m : Ml) (c : Nat) : manyD D (T ++ [c]) m = manyD D T m ++ [⟨(c : Int), m⟩] := by
  unfold manyD
  rw [List.map_append, List.append_assoc]
  rfl
theorem boxD_many (m : Ml) (D : Dl) (c : Int) : ∀ T : List Nat, (∀ i ∈ T, (i : Int) ≠ c) → boxD (manyD D T m) c = boxD D c := fun T h => by
  unfold manyD boxD
  rw [List.filter_append]
  have : (T.map fun i => (⟨((i : Nat) : Int), m⟩ : Tl)).filter (fun x => x.t == c) = [] := by
    rw [List.filter_eq_nil_iff]
    intro x hx
    obtain ⟨i, hi, rfl⟩ := List.mem_map.1 hx
    simpa using h i hi
  rw [this, List.append_nil]
theorem Rel.post {n : Nat} {D : Dl} {m : Ml} : ∀ (T : List Nat) {L : St}, Rel n L D → L.length = n → T.Nodup → (∀ c ∈ T, c < n) → Rel n (postS L m T) (manyD D T m) := fun T L h hl hd hT => by
  refine ⟨fun j hj => ?_, fun x hx => ?_⟩
  · rw [boxN_post m T L hd (fun c hc => by rw [hl]; exact hT c hc) j, h.box j hj]
    by_cases e : j ∈ T
    · rw [if_pos e]
      obtain ⟨A, B, rfl⟩ := List.append_of_mem e
      have hd2 : (A ++ j :: B).Nodup := hd
      rw [List.nodup_append] at hd2
      obtain ⟨_, h2, h3⟩ := hd2
      obtain ⟨h4, _⟩ := List.nodup_cons.1 h2
      have e1 : manyD D (A ++ j :: B) m = manyD (manyD D A m ++ [⟨(j : Int), m⟩]) B m := by
        unfold manyD
        simp
      rw [e1, boxD_many m _ _ B (fun i hi e2 => h4 (by have : i = j := by omega
                                                       exact this ▸ hi)), boxD_more, if_pos rfl, boxD_many m D _ A (fun i hi e2 => h3 i hi j (by simp) (by omega))]
    · rw [if_neg e, boxD_many m D _ T (fun i hi e2 => e (by have : i = j := by omega
                                                            exact this ▸ hi))]
  · unfold manyD at hx
    rcases List.mem_append.1 hx with hx | hx
    · exact h.src x hx
    · obtain ⟨i, hi, rfl⟩ := List.mem_map.1 hx
      have := hT i hi
      exact ⟨by simp only; omega, by simp only; omega⟩
/-- The first one of a core's. -/
def firstK (D : Dl) (c : Int) : Nat := D.findIdx fun x => x.t == c
theorem boxD_first {D : Dl} {c : Int} {x : Tl} (h : D[firstK D c]? = some x) : x.t = c ∧ boxD D c = x.m :: boxD (D.eraseIdx (firstK D c)) c ∧ ∀ d, d ≠ c → boxD (D.eraseIdx (firstK D c)) d = boxD D d := by
  induction D with
  | nil => simp at h
  | cons y D ih =>
    by_cases e : y.t = c
    · have e1 : firstK (y :: D) c = 0 := by simp [firstK, List.findIdx_cons, e]
      rw [e1] at h ⊢
      obtain rfl : y = x := by simpa using h
      refine ⟨e, ?_, fun d hd => ?_⟩
      · simp [boxD, e]
      · have : ¬ y.t = d := fun h2 => hd (h2.symm.trans e)
        simp [boxD, this]
    · have e1 : firstK (y :: D) c = firstK D c + 1 := by
        have : (y.t == c) = false := by simpa using e
        simp [firstK, List.findIdx_cons, this]
      rw [e1] at h ⊢
      rw [List.getElem?_cons_succ] at h
      obtain ⟨a1, a2, a3⟩ := ih h
      refine ⟨a1, ?_, fun d hd => ?_⟩
      · rw [List.eraseIdx_cons_succ]
        have l : ∀ Z : Dl, boxD (y :: Z) c = boxD Z c := fun Z => by simp [boxD, e]
        rw [l, l, a2]
      · rw [List.eraseIdx_cons_succ]
        have l : ∀ Z : Dl, boxD (y :: Z) d = (if y.t = d then [y.m] else []) ++ boxD Z d := fun Z => by
          by_cases e2 : y.t = d <;> simp [boxD, e2]
        rw [l, l, a3 d hd]
theorem boxD_none {D : Dl} {c : Int} (h : D.length ≤ firstK D c) : boxD D c = [] := by
  unfold boxD
  rw [List.filter_eq_nil_iff.2]
  · rfl
  · intro x hx
    have : D.findIdx (fun x => x.t == c) = D.length := Nat.le_antisymm List.findIdx_le_length h
    rw [List.findIdx_eq_length] at this
    simpa using this x hx
theorem first_is {D : Dl} {c : Int} {k : Nat} {x : Tl} (hb : ∀ (j : Nat) y, j < k → D[j]? = some y → (y.t == c) = false) (hx : D[k]? = some x) (hc : (x.t == c) = true) : firstK D c = k := by
  obtain ⟨hk, hx2⟩ := List.getElem?_eq_some_iff.1 hx
  have := (List.findIdx_eq (p := fun x : Tl => x.t == c) hk).2 ⟨by rw [hx2]; exact hc, fun j hj => by
    have := hb j _ hj (List.getElem?_eq_getElem (by omega))
    simpa using this⟩
  exact this
theorem first_no {D : Dl} {c : Int} (hb : ∀ (j : Nat) y, D[j]? = some y → (y.t == c) = false) : D.length ≤ firstK D c := by
  unfold firstK
  rw [List.findIdx_eq_length.2 fun x hx => by
    obtain ⟨j, hj⟩ := List.mem_iff_getElem?.1 hx
    simpa using hb j x hj]
  exact Nat.le_refl _
def takeD (D : Dl) (c : Int) : Dl := D.eraseIdx (firstK D c)
theorem boxD_takeD (D : Dl) (c d : Int) : boxD (takeD D c) d = if d = c then (boxD D c).tail else boxD D d := by
  unfold takeD
  by_cases h : firstK D c < D.length
  · obtain ⟨a1, a2, a3⟩ := boxD_first (List.getElem?_eq_getElem h)
    by_cases e : d = c
    · subst e
      rw [if_pos rfl, a2]
      rfl
    · rw [if_neg e]
      exact a3 d e
  · rw [List.eraseIdx_of_length_le (by omega)]
    have h1 := boxD_none (D := D) (c := c) (by omega)
    by_cases e : d = c
    · subst e
      rw [if_pos rfl, h1]
      rfl
    · rw [if_neg e]
theorem Rel.take {n : Nat} {L : St} {D : Dl} (h : Rel n L D) (g : Good n L) (c : Int) : Rel n (takeS L c) (takeD D c) := by
  refine ⟨fun j hj => ?_, fun x hx => h.src x (List.mem_of_mem_eraseIdx hx)⟩
  rw [boxD_takeD]
  unfold takeS
  by_cases h0 : 0 ≤ c
  · rw [if_pos h0]
    obtain ⟨i, rfl⟩ : ∃ i : Nat, c = (i : Int) := ⟨c.toNat, by omega⟩
    rw [boxL_nat, Int.toNat_natCast]
    unfold boxN
    by_cases e : j = i
    · subst e
      rw [List.getElem?_set_self (by rw [g.len]; exact hj), if_pos rfl]
      show List.tail (boxN L j) = _
      rw [h.box j hj]
    · rw [List.getElem?_set_ne (fun h => e h.symm), if_neg (by omega)]
      exact h.box j hj
  · rw [if_neg h0, if_neg (by omega)]
    exact h.box j hj
/-- How many of a core's are there. -/
def ofD (c : Int) (D : Dl) : Nat := D.countP fun x => x.m.f == c
theorem ofD_more (c : Int) {D : Dl} {k : Nat} {x : Tl} (h : D[k]? = some x) : ofD c (D.take (k + 1)) = ofD c (D.take k) + if (x.m.f == c) = true then 1 else 0 := by
  unfold ofD
  rw [List.take_add_one, h, List.countP_append]
  simp [List.countP_cons]
theorem ofD_le (c : Int) (D : Dl) : ofD c D ≤ D.length := List.countP_le_length
theorem sum_one (n : Nat) (t : Int) (v : Nat) (h0 : 0 ≤ t) (h1 : t < (n : Int)) : ((List.range n).map fun i : Nat => if t = (i : Int) then v else 0).sum = v := by
  induction n with
  | zero => omega
  | succ n ih =>
    rw [List.range_succ, List.map_append, List.sum_append]
    by_cases e : t = (n : Int)
    · have : ((List.range n).map fun i : Nat => if t = (i : Int) then v else 0).sum = 0 := by
        rw [List.sum_eq_zero_iff_forall_eq_nat]
        intro x hx
        obtain ⟨i, hi, rfl⟩ := List.mem_map.1 hx
        rw [List.mem_range] at hi
        rw [if_neg (by omega)]
      rw [this]
      simp [e]
    · rw [ih (by omega)]
      simp [e]
theorem sum_add (f g : Nat → Nat) : ∀ l : List Nat, (l.map fun i => f i + g i).sum = (l.map f).sum + (l.map g).sum
  | [] => rfl
  | x :: l => by
    simp only [List.map_cons, List.sum_cons, sum_add f g l]
    omega
theorem sum_boxes (n : Nat) (c : Int) : ∀ D : Dl, (∀ x ∈ D, 0 ≤ x.t ∧ x.t < (n : Int)) → ((List.range n).map fun i : Nat => ofN c (boxD D (i : Int))).sum = ofD c D
  | [], _ => by
    rw [List.sum_eq_zero_iff_forall_eq_nat.2]
    · rfl
    · intro x hx
      obtain ⟨i, hi, rfl⟩ := List.mem_map.1 hx
      rfl
  | y :: D, h => by
    have ih := sum_boxes n c D fun x hx => h x (by simp [hx])
    have hy := h y (by simp)
    have e1 : ∀ i : Nat, ofN c (boxD (y :: D) (i : Int)) = (if y.t = (i : Int) then (if (y.m.f == c) = true then 1 else 0) else 0) + ofN c (boxD D (i : Int)) := fun i => by
      by_cases e : y.t = (i : Int)
      · rw [if_pos e]
        simp [boxD, ofN, e, List.countP_cons]
        omega
      · rw [if_neg e]
        simp [boxD, ofN, e]
    rw [show (fun i : Nat => ofN c (boxD (y :: D) (i : Int))) = _ from funext e1, sum_add, ih, sum_one n y.t _ hy.1 hy.2]
    unfold ofD
    rw [List.countP_cons]
    omega
theorem Rel.owed {n : Nat} {L : St} {D : Dl} (h : Rel n L D) (g : Good n L) (c : Int) : owedN c L = ofD c D := by
  rw [← sum_boxes n c D h.src]
  unfold owedN
  congr 1
  apply List.ext_getElem?
  intro j
  rw [List.getElem?_map, List.getElem?_map]
  by_cases hj : j < n
  · rw [g.at hj, List.getElem?_range hj, Option.map_some, Option.map_some, h.box j hj]
  · rw [List.getElem?_eq_none (by rw [g.len]; omega), List.getElem?_eq_none (by rw [List.length_range]; omega)]
    rfl
theorem Rel.few {n : Nat} {L : St} {D : Dl} (h : Rel n L D) (g : Good n L) : D.length ≤ 512 := by
  have e : ∀ c, ofD c D ≤ 512 := fun c => by
    rw [← h.owed g c]
    have := g.owed c n
    rw [List.take_of_length_le (by rw [g.len]; exact Nat.le_refl _)] at this
    exact this
  have key : ∀ D : Dl, (∀ x ∈ D, 0 ≤ x.t ∧ x.t < (n : Int)) → ((List.range n).map fun i : Nat => (boxD D (i : Int)).length).sum = D.length := fun D => by
    induction D with
    | nil =>
      intro _
      rw [List.sum_eq_zero_iff_forall_eq_nat.2]
      · rfl
      · intro x hx
        obtain ⟨i, hi, rfl⟩ := List.mem_map.1 hx
        rfl
    | cons y D ih =>
      intro h
      have hy := h y (by simp)
      have e1 : ∀ i : Nat, (boxD (y :: D) (i : Int)).length = (if y.t = (i : Int) then 1 else 0) + (boxD D (i : Int)).length := fun i => by
        by_cases e : y.t = (i : Int)
        · rw [if_pos e]
          simp [boxD, e]
          omega
        · rw [if_neg e]
          simp [boxD, e]
      rw [show (fun i : Nat => (boxD (y :: D) (i : Int)).length) = _ from funext e1, sum_add, ih (fun x hx => h x (by simp [hx])), sum_one n y.t _ hy.1 hy.2, List.length_cons]
      omega
  rw [← key D h.src]
  have bound : ∀ l : List Nat, (∀ i ∈ l, i < n) → (l.map fun i : Nat => (boxD D (i : Int)).length).sum ≤ 64 * l.length := fun l => by
    induction l with
    | nil => intro _; simp
    | cons i l ih =>
      intro hl
      have h1 := ih fun x hx => hl x (by simp [hx])
      have h2 := h.box i (hl i (by simp))
      have h3 := g.few i _ (g.at (hl i (by simp)))
      rw [h2] at h3
      simp only [List.map_cons, List.sum_cons, List.length_cons]
      omega
  have h1 := bound (List.range n) fun i hi => List.mem_range.1 hi
  rw [List.length_range] at h1
  have := g.top
  omega
/-! ### The calls -/
def sendD (n : Nat) (L : St) (D : Dl) (f t k a : Int) : Dl := if sendE n L f t = 0 then D ++ [⟨t, ⟨f, k, a⟩⟩] else D
def allD (n : Nat) (L : St) (D : Dl) (f k a : Int) : Dl := if allE n L f = 0 then manyD D (othersN n f) ⟨f, k, a⟩ else D
theorem Rel.send {n : Nat} {L : St} {D : Dl} (h : Rel n L D) (g : Good n L) (f t k a : Int) : Rel n (sendS n L f t k a) (sendD n L D f t k a) := by
  unfold sendS sendD sendE
  by_cases h1 : (hasB n f && hasB n t) = true
  · rw [if_pos h1, if_pos h1]
    by_cases h2 : f = t
    · rw [if_pos h2, if_pos h2, if_neg (by decide)]
      exact h
    · rw [if_neg h2, if_neg h2]
      obtain ⟨h3, h4⟩ := Bool.and_eq_true_iff.1 h1
      obtain ⟨h5, h6⟩ := has_iff.1 h4
      obtain ⟨i, rfl⟩ : ∃ i : Nat, t = (i : Int) := ⟨t.toNat, by omega⟩
      rw [Int.toNat_natCast]
      unfold postT postE
      cases e : fullB L [i] with
      | true =>
        rw [if_pos rfl, if_pos rfl, if_neg (by decide)]
        exact h
      | false =>
        rw [if_neg (show ¬ (false = true) by decide), if_neg (show ¬ (false = true) by decide), if_pos rfl]
        exact h.put g (by omega) _
  · rw [if_neg h1, if_neg h1, if_neg (by decide)]
    exact h
theorem Rel.all {n : Nat} {L : St} {D : Dl} (h : Rel n L D) (g : Good n L) (f k a : Int) : Rel n (allS n L f k a) (allD n L D f k a) := by
  unfold allS allD allE
  by_cases h1 : hasB n f = true
  · rw [if_pos h1, if_pos h1]
    unfold postT postE
    cases e : fullB L (othersN n f) with
    | true =>
      rw [if_pos rfl, if_pos rfl, if_neg (by decide)]
      exact h
    | false =>
      rw [if_neg (show ¬ (false = true) by decide), if_neg (show ¬ (false = true) by decide), if_pos rfl]
      exact h.post _ g.len (others_nodup _ _) fun c hc => (others_mem.1 hc).1
  · rw [if_neg h1, if_neg h1, if_neg (by decide)]
    exact h
end Go.Proofs.Ytpapjdmnhgnpfaa
