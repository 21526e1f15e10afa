/-
  Boxes of messages as lists, and what each call makes of them, without a program; no condition.
-/
namespace Go.Proofs.Ytpapjdmnhgnpfaa
/-- A message: of whom, of which kind, about what. -/
structure Ml where
  f : Int
  k : Int
  a : Int
abbrev Bx := List Ml
abbrev St := List Bx
def ml0 : Ml := ⟨0, 0, 0⟩
/-- Boxes of n cores: at most 64 in each, of cores that are there, none of the core's own. -/
structure Good (n : Nat) (L : St) : Prop where
  len : L.length = n
  pos : 1 ≤ n
  top : n ≤ 8
  few : ∀ (i : Nat) b, L[i]? = some b → b.length ≤ 64
  src : ∀ (i : Nat) b, L[i]? = some b → ∀ m ∈ b, 0 ≤ m.f ∧ m.f < (n : Int) ∧ m.f ≠ (i : Int)
def hasB (n : Nat) (c : Int) : Bool := decide (0 ≤ c) && decide (c < (n : Int))
theorem has_iff {n : Nat} {c : Int} : hasB n c = true ↔ 0 ≤ c ∧ c < (n : Int) := by
  unfold hasB
  rw [Bool.and_eq_true, decide_eq_true_eq, decide_eq_true_eq]
theorem has_nat {n c : Nat} (h : c < n) : hasB n (c : Int) = true := has_iff.2 ⟨by omega, by omega⟩
theorem has_no {n : Nat} {c : Int} (h : ¬ (0 ≤ c ∧ c < (n : Int))) : hasB n c = false := by
  cases e : hasB n c with
  | false => rfl
  | true => exact absurd (has_iff.1 e) h
theorem has_cases (n : Nat) (c : Int) : hasB n c = false ∨ ∃ k : Nat, c = (k : Int) ∧ k < n ∧ hasB n c = true := by
  cases e : hasB n c with
  | false => exact .inl rfl
  | true =>
    obtain ⟨h1, h2⟩ := has_iff.1 e
    exact .inr ⟨c.toNat, by omega, by omega, rfl⟩
/-- A core's box; none, if it is not there. -/
def boxN (L : St) (i : Nat) : Bx := (L[i]?).getD []
def boxL (L : St) (c : Int) : Bx := if 0 ≤ c then boxN L c.toNat else []
theorem boxL_nat (L : St) (i : Nat) : boxL L (i : Int) = boxN L i := by
  unfold boxL
  rw [if_pos (by omega), Int.toNat_natCast]
theorem boxN_at {L : St} {i : Nat} {b : Bx} (h : L[i]? = some b) : boxN L i = b := by
  unfold boxN
  rw [h]
  rfl
theorem boxL_no {n : Nat} {L : St} {c : Int} (hl : L.length = n) (h : hasB n c = false) : boxL L c = [] := by
  unfold boxL
  by_cases h0 : 0 ≤ c
  · rw [if_pos h0]
    have h1 : ¬ c < (n : Int) := fun h1 => by
      rw [has_iff.2 ⟨h0, h1⟩] at h
      cases h
    unfold boxN
    rw [List.getElem?_eq_none (by omega)]
    rfl
  · rw [if_neg h0]
/-- A message more in a box. -/
def putN (L : St) (i : Nat) (m : Ml) : St := L.set i (boxN L i ++ [m])
theorem putN_len (L : St) (i : Nat) (m : Ml) : (putN L i m).length = L.length := List.length_set
theorem boxN_put {L : St} {i j : Nat} {m : Ml} (hi : i < L.length) : boxN (putN L i m) j = if j = i then boxN L i ++ [m] else boxN L j := by
  by_cases e : j = i
  · subst e
    rw [if_pos rfl]
    apply boxN_at
    unfold putN
    rw [List.getElem?_set_self hi]
  · rw [if_neg e]
    unfold putN
    show (((L.set i _)[j]?).getD []) = _
    rw [List.getElem?_set_ne (fun h => e h.symm)]
    rfl
theorem Good.at {n : Nat} {L : St} (g : Good n L) {i : Nat} (h : i < n) : L[i]? = some (boxN L i) := by
  have h1 : i < L.length := by rw [g.len]; exact h
  have := List.getElem?_eq_getElem h1
  rw [this, boxN_at this]
theorem Good.put {n : Nat} {L : St} (g : Good n L) {i : Nat} {m : Ml} (hi : i < n) (hm : 0 ≤ m.f ∧ m.f < (n : Int) ∧ m.f ≠ (i : Int)) (hl : (boxN L i).length < 64) : Good n (putN L i m) := by
  have hi' : i < L.length := by rw [g.len]; exact hi
  refine ⟨by rw [putN_len]; exact g.len, g.pos, g.top, fun j b hj => ?_, fun j b hj x hx => ?_⟩
  · have hb := boxN_at hj
    rw [boxN_put hi'] at hb
    by_cases e : j = i
    · rw [if_pos e] at hb
      rw [← hb, List.length_append]
      simp
      omega
    · rw [if_neg e] at hb
      have hjn : j < n := by have := (List.getElem?_eq_some_iff.1 hj).1; rw [putN_len, g.len] at this; exact this
      rw [← hb]
      exact g.few j _ (g.at hjn)
  · have hb := boxN_at hj
    rw [boxN_put hi'] at hb
    have hjn : j < n := by have := (List.getElem?_eq_some_iff.1 hj).1; rw [putN_len, g.len] at this; exact this
    by_cases e : j = i
    · rw [if_pos e] at hb
      subst e
      rw [← hb] at hx
      rcases List.mem_append.1 hx with h | h
      · exact g.src j _ (g.at hjn) x h
      · have : x = m := by simpa using h
        subst this
        exact hm
    · rw [if_neg e] at hb
      rw [← hb] at hx
      exact g.src j _ (g.at hjn) x hx
/-- A message is put into some boxes. -/
def postS (L : St) (m : Ml) (T : List Nat) : St := T.foldl (fun L i => putN L i m) L
theorem postS_more (L : St) (m : Ml) {T : List Nat} {k c : Nat} (h : T[k]? = some c) : postS L m (T.take (k + 1)) = putN (postS L m (T.take k)) c m := by
  unfold postS
  rw [List.take_add_one, h, List.foldl_append]
  rfl
theorem postS_len (m : Ml) : ∀ (T : List Nat) (L : St), (postS L m T).length = L.length
  | [], _ => rfl
  | c :: T, L => by
    show (postS (putN L c m) m T).length = _
    rw [postS_len m T, putN_len]
theorem boxN_post (m : Ml) : ∀ (T : List Nat) (L : St), T.Nodup → (∀ c ∈ T, c < L.length) → ∀ j, boxN (postS L m T) j = if j ∈ T then boxN L j ++ [m] else boxN L j
  | [], L, _, _, j => by rw [if_neg (by simp)]; rfl
  | c :: T, L, hd, hT, j => by
    obtain ⟨h1, h2⟩ := List.nodup_cons.1 hd
    have hc := hT c (by simp)
    show boxN (postS (putN L c m) m T) j = _
    rw [boxN_post m T (putN L c m) h2 (fun x hx => by rw [putN_len]; exact hT x (by simp [hx])) j, boxN_put hc]
    by_cases e : j = c
    · subst e
      rw [if_neg h1, if_pos rfl, if_pos (by simp)]
    · rw [if_neg e]
      by_cases h : j ∈ T
      · rw [if_pos h, if_pos (by simp [h])]
      · rw [if_neg h, if_neg (by simp [h, e])]
theorem Good.post {n : Nat} {m : Ml} : ∀ (T : List Nat) {L : St}, Good n L → T.Nodup → (∀ c ∈ T, c < n ∧ m.f ≠ (c : Int) ∧ (boxN L c).length < 64) → 0 ≤ m.f ∧ m.f < (n : Int) → Good n (postS L m T)
  | [], _, g, _, _, _ => g
  | c :: T, L, g, hd, hT, hm => by
    obtain ⟨h1, h2⟩ := List.nodup_cons.1 hd
    obtain ⟨a1, a2, a3⟩ := hT c (by simp)
    show Good n (postS (putN L c m) m T)
    refine Good.post T (g.put a1 ⟨hm.1, hm.2, a2⟩ a3) h2 (fun x hx => ?_) hm
    obtain ⟨b1, b2, b3⟩ := hT x (by simp [hx])
    refine ⟨b1, b2, ?_⟩
    rw [boxN_put (by rw [g.len]; exact a1), if_neg (fun e => h1 (by rw [← e]; exact hx))]
    exact b3
def fullB (L : St) (T : List Nat) : Bool := T.any fun c => decide (64 ≤ (boxN L c).length)
theorem full_no {L : St} {T : List Nat} (h : fullB L T = false) : ∀ c ∈ T, (boxN L c).length < 64 := fun c hc => by
  unfold fullB at h
  have := List.any_eq_false.1 h c hc
  simp only [decide_eq_true_eq] at this
  omega
theorem full_yes {L : St} {T : List Nat} {k c : Nat} (h : T[k]? = some c) (h2 : 64 ≤ (boxN L c).length) : fullB L T = true :=
  List.any_eq_true.2 ⟨c, List.mem_of_getElem? h, by simpa using h2⟩
theorem full_none {L : St} {T : List Nat} (h : ∀ (j : Nat) c, T[j]? = some c → (boxN L c).length < 64) : fullB L T = false := by
  unfold fullB
  rw [List.any_eq_false]
  intro c hc
  obtain ⟨j, hj⟩ := List.mem_iff_getElem?.1 hc
  have := h j c hj
  simp only [decide_eq_true_eq]
  omega
def postE (L : St) (T : List Nat) : Int := if fullB L T = true then 2 else 0
def postT (L : St) (m : Ml) (T : List Nat) : St := if fullB L T = true then L else postS L m T
/-- All cores but one. -/
def othersN (n : Nat) (c : Int) : List Nat := (List.range n).filter fun i => ! ((i : Int) == c)
theorem others_nodup (n : Nat) (c : Int) : (othersN n c).Nodup := List.Pairwise.filter _ List.nodup_range
theorem others_mem {n : Nat} {c : Int} {i : Nat} : i ∈ othersN n c ↔ i < n ∧ (i : Int) ≠ c := by
  unfold othersN
  rw [List.mem_filter, List.mem_range]
  simp
theorem others_more (k : Nat) (c : Int) : othersN (k + 1) c = othersN k c ++ (if (k : Int) = c then [] else [k]) := by
  unfold othersN
  rw [List.range_succ, List.filter_append]
  congr 1
  by_cases e : (k : Int) = c
  · rw [if_pos e]
    simp [e]
  · rw [if_neg e]
    simp [e]
theorem others_le (n : Nat) (c : Int) : (othersN n c).length ≤ n := by
  have := List.length_filter_le (fun i : Nat => ! ((i : Int) == c)) (List.range n)
  rw [List.length_range] at this
  exact this
/-! ### The calls -/
def sendE (n : Nat) (L : St) (f t : Int) : Int := if (hasB n f && hasB n t) = true then (if f = t then 170 else postE L [t.toNat]) else 1
def sendS (n : Nat) (L : St) (f t k a : Int) : St := if (hasB n f && hasB n t) = true then (if f = t then L else postT L ⟨f, k, a⟩ [t.toNat]) else L
def allE (n : Nat) (L : St) (f : Int) : Int := if hasB n f = true then postE L (othersN n f) else 1
def allS (n : Nat) (L : St) (f k a : Int) : St := if hasB n f = true then postT L ⟨f, k, a⟩ (othersN n f) else L
theorem Good.postT {n : Nat} {L : St} (g : Good n L) {m : Ml} {T : List Nat} (hd : T.Nodup) (hT : ∀ c ∈ T, c < n ∧ m.f ≠ (c : Int)) (hm : 0 ≤ m.f ∧ m.f < (n : Int)) : Good n (postT L m T) := by
  unfold Go.Proofs.Ytpapjdmnhgnpfaa.postT
  cases e : fullB L T with
  | true => exact g
  | false => exact g.post T hd (fun c hc => ⟨(hT c hc).1, (hT c hc).2, full_no e c hc⟩) hm
def takeM (L : St) (c : Int) : Ml := (boxL L c).headD ml0
def takeB (L : St) (c : Int) : Bool := !(boxL L c).isEmpty
def takeS (L : St) (c : Int) : St := if 0 ≤ c then L.set c.toNat ((boxL L c).tail) else L
theorem Good.tail {n : Nat} {L : St} (g : Good n L) {i : Nat} (hi : i < n) : Good n (L.set i (boxN L i).tail) := by
  have hi' : i < L.length := by rw [g.len]; exact hi
  have key : ∀ (j : Nat) b, (L.set i (boxN L i).tail)[j]? = some b → ∃ b', L[j]? = some b' ∧ b.length ≤ b'.length ∧ ∀ x ∈ b, x ∈ b' := fun j b hj => by
    by_cases e : j = i
    · subst e
      rw [List.getElem?_set_self hi'] at hj
      cases hj
      exact ⟨_, g.at hi, by rw [List.length_tail]; omega, fun x hx => List.mem_of_mem_tail hx⟩
    · rw [List.getElem?_set_ne (fun h => e h.symm)] at hj
      exact ⟨b, hj, Nat.le_refl _, fun _ h => h⟩
  refine ⟨by rw [List.length_set]; exact g.len, g.pos, g.top, fun j b hj => ?_, fun j b hj x hx => ?_⟩
  · obtain ⟨b', h1, h2, _⟩ := key j b hj
    exact Nat.le_trans h2 (g.few j b' h1)
  · obtain ⟨b', h1, _, h3⟩ := key j b hj
    exact g.src j b' h1 x (h3 x hx)
/-- How many of a core's stand in a box, in all boxes. -/
def ofN (c : Int) (b : Bx) : Nat := b.countP fun m => m.f == c
def owedN (c : Int) (L : St) : Nat := (L.map (ofN c)).sum
theorem owed_more (c : Int) {L : St} {k : Nat} {b : Bx} (h : L[k]? = some b) : owedN c (L.take (k + 1)) = owedN c (L.take k) + ofN c b := by
  unfold owedN
  rw [List.take_add_one, h, List.map_append, List.sum_append]
  simp
theorem of_more (c : Int) {b : Bx} {k : Nat} {m : Ml} (h : b[k]? = some m) : ofN c (b.take (k + 1)) = ofN c (b.take k) + if (m.f == c) = true then 1 else 0 := by
  unfold ofN
  rw [List.take_add_one, h, List.countP_append]
  simp [List.countP_cons]
theorem of_le (c : Int) (b : Bx) : ofN c b ≤ b.length := List.countP_le_length
theorem owed_le {n : Nat} (c : Int) : ∀ {L : St}, (∀ b ∈ L, b.length ≤ n) → owedN c L ≤ n * L.length
  | [], _ => by simp [owedN]
  | b :: L, h => by
    have h1 := owed_le c (L := L) fun x hx => h x (by simp [hx])
    have h2 := h b (by simp)
    have h3 := of_le c b
    have e : owedN c (b :: L) = ofN c b + owedN c L := by simp [owedN]
    rw [e, List.length_cons, Nat.mul_succ]
    omega
theorem Good.owed {n : Nat} {L : St} (g : Good n L) (c : Int) (k : Nat) : owedN c (L.take k) ≤ 512 := by
  have h := owed_le (n := 64) c (L := L.take k) fun b hb => by
    obtain ⟨j, hj⟩ := List.mem_iff_getElem?.1 (List.mem_of_mem_take hb)
    exact g.few j b hj
  have h2 : (L.take k).length ≤ 8 := by rw [List.length_take]; have := g.len; have := g.top; omega
  have := Nat.mul_le_mul_left 64 h2
  omega
theorem good_new {n : Nat} (h1 : 1 ≤ n) (h2 : n ≤ 8) : Good n (List.replicate n []) := by
  refine ⟨List.length_replicate, h1, h2, fun i b hb => ?_, fun i b hb m hm => ?_⟩
  · have := List.eq_of_mem_replicate (List.mem_of_getElem? hb)
    subst this
    simp
  · have := List.eq_of_mem_replicate (List.mem_of_getElem? hb)
    subst this
    simp at hm
end Go.Proofs.Ytpapjdmnhgnpfaa
