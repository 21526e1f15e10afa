/-
  What a call that sends or takes makes of the boxes, case by case; how many stand in all boxes; without a program; no condition.
-/
import Derived.Test.YtpapjdmnhgnpfaaMBPure
namespace Go.Proofs.Ytpapjdmnhgnpfaa
theorem send_cases (n : Nat) (L : St) (f t k a : Int) : (¬ sendE n L f t = 0 ∧ sendS n L f t k a = L) ∨ (sendE n L f t = 0 ∧ ∃ j : Nat, t = (j : Int) ∧ j < n ∧ 0 ≤ f ∧ f < (n : Int) ∧ f ≠ t ∧ (boxN L j).length < 64 ∧ sendS n L f t k a = putN L j ⟨f, k, a⟩) := by
  unfold sendE sendS
  by_cases h1 : (hasB n f && hasB n t) = true
  · rw [if_pos h1, if_pos h1]
    by_cases h2 : f = t
    · rw [if_pos h2, if_pos h2]
      exact .inl ⟨by decide, rfl⟩
    · rw [if_neg h2, if_neg h2]
      obtain ⟨h3, h4⟩ := Bool.and_eq_true_iff.1 h1
      obtain ⟨h5, h6⟩ := has_iff.1 h4
      obtain ⟨h7, h8⟩ := has_iff.1 h3
      obtain ⟨i, rfl⟩ : ∃ i : Nat, t = (i : Int) := ⟨t.toNat, by omega⟩
      rw [Int.toNat_natCast]
      unfold postT postE
      cases e : fullB L [i] with
      | true => exact .inl ⟨by decide, rfl⟩
      | false => exact .inr ⟨rfl, i, rfl, by omega, h7, h8, h2, full_no e i (by simp), rfl⟩
  · rw [if_neg h1, if_neg h1]
    exact .inl ⟨by decide, rfl⟩
theorem take_cases (n : Nat) (L : St) (c : Int) (hg : Good n L) : (takeM L c = ml0 ∧ takeB L c = false ∧ takeS L c = L) ∨ (∃ (j : Nat) (x : Ml) (b : Bx), c = (j : Int) ∧ j < n ∧ boxN L j = x :: b ∧ takeM L c = x ∧ takeB L c = true ∧ takeS L c = L.set j b) := by
  cases e : hasB n c with
  | false =>
    have hb := boxL_no hg.len e
    refine .inl ⟨by unfold takeM; rw [hb]; rfl, by unfold takeB; rw [hb]; rfl, ?_⟩
    unfold takeS
    by_cases h0 : 0 ≤ c
    · rw [if_pos h0]
      have : ¬ c < (n : Int) := fun h2 => by
        rw [has_iff.2 ⟨h0, h2⟩] at e
        cases e
      exact List.set_eq_of_length_le (by rw [hg.len]; omega)
    · rw [if_neg h0]
  | true =>
    obtain ⟨h1, h2⟩ := has_iff.1 e
    obtain ⟨j, rfl⟩ : ∃ j : Nat, c = (j : Int) := ⟨c.toNat, by omega⟩
    unfold takeM takeB takeS
    rw [boxL_nat, if_pos h1, Int.toNat_natCast]
    rcases hb : boxN L j with _ | ⟨x, b⟩
    · refine .inl ⟨rfl, rfl, ?_⟩
      have hat := hg.at (i := j) (by omega)
      rw [hb] at hat
      have hl : j < L.length := by rw [hg.len]; omega
      obtain ⟨_, e2⟩ := List.getElem?_eq_some_iff.1 hat
      show L.set j [] = L
      conv => lhs; rw [← e2]
      exact List.set_getElem_self hl
    · exact .inr ⟨j, x, b, rfl, by omega, hb, rfl, rfl, rfl⟩
theorem sum_set (h : Bx → Nat) : ∀ (L : St) (i : Nat) (b : Bx), i < L.length → ((L.set i b).map h).sum + h (boxN L i) = (L.map h).sum + h b
  | [], i, b, hi => by simp at hi
  | y :: L, 0, b, _ => by
    rw [List.set_cons_zero, List.map_cons, List.map_cons, List.sum_cons, List.sum_cons]
    show h b + _ + h y = _
    omega
  | y :: L, i + 1, b, hi => by
    have := sum_set h L i b (by simpa using hi)
    rw [List.set_cons_succ, List.map_cons, List.map_cons, List.sum_cons, List.sum_cons]
    have e : boxN (y :: L) (i + 1) = boxN L i := rfl
    rw [e]
    omega
theorem owed_put (c : Int) {L : St} {i : Nat} (hi : i < L.length) (m : Ml) : owedN c (putN L i m) = owedN c L + if m.f = c then 1 else 0 := by
  have h := sum_set (ofN c) L i (boxN L i ++ [m]) hi
  have e : ofN c (boxN L i ++ [m]) = ofN c (boxN L i) + if m.f = c then 1 else 0 := by
    unfold ofN
    rw [List.countP_append]
    simp [List.countP_cons]
  unfold owedN putN
  omega
theorem owed_tail (c : Int) {L : St} {i : Nat} (hi : i < L.length) {x : Ml} {b : Bx} (hb : boxN L i = x :: b) : owedN c (L.set i b) + (if x.f = c then 1 else 0) = owedN c L := by
  have h := sum_set (ofN c) L i b hi
  have e : ofN c (boxN L i) = ofN c b + if x.f = c then 1 else 0 := by
    rw [hb]
    unfold ofN
    rw [List.countP_cons]
    simp
  unfold owedN
  omega
/-- How many stand in all boxes. -/
def totN (L : St) : Nat := (L.map List.length).sum
theorem tot_put {L : St} {i : Nat} (hi : i < L.length) (m : Ml) : totN (putN L i m) = totN L + 1 := by
  have h := sum_set List.length L i (boxN L i ++ [m]) hi
  rw [List.length_append, List.length_singleton] at h
  unfold totN putN
  omega
theorem tot_tail {L : St} {i : Nat} (hi : i < L.length) {x : Ml} {b : Bx} (hb : boxN L i = x :: b) : totN (L.set i b) + 1 = totN L := by
  have h := sum_set List.length L i b hi
  rw [hb, List.length_cons] at h
  unfold totN
  omega
theorem tot_le : ∀ L : St, (∀ b ∈ L, b.length ≤ 64) → totN L ≤ 64 * L.length
  | [], _ => by simp [totN]
  | b :: L, h => by
    have h1 := tot_le L fun x hx => h x (by simp [hx])
    have h2 := h b (by simp)
    unfold totN at *
    rw [List.map_cons, List.sum_cons, List.length_cons]
    omega
theorem Good.tot {n : Nat} {L : St} (g : Good n L) : totN L ≤ 512 := by
  have h := tot_le L fun b hb => by
    obtain ⟨j, hj⟩ := List.mem_iff_getElem?.1 hb
    exact g.few j b hj
  rw [g.len] at h
  have := g.top
  omega
theorem all_gone {n : Nat} {L : St} (g : Good n L) (h : ∀ j, j < n → boxN L j = []) : L = List.replicate n [] := by
  apply List.ext_getElem?
  intro j
  by_cases hj : j < n
  · rw [g.at hj, h j hj, List.getElem?_replicate, if_pos hj]
  · rw [List.getElem?_eq_none (by rw [g.len]; omega), List.getElem?_eq_none (by rw [List.length_replicate]; omega)]
theorem owed_none (n : Nat) (c : Int) : owedN c (List.replicate n []) = 0 := by
  unfold owedN
  rw [List.sum_eq_zero_iff_forall_eq_nat]
  intro x hx
  obtain ⟨b, hb, rfl⟩ := List.mem_map.1 hx
  have := List.eq_of_mem_replicate hb
  subst this
  rfl
theorem tot_none (n : Nat) : totN (List.replicate n []) = 0 := by
  unfold totN
  rw [List.sum_eq_zero_iff_forall_eq_nat]
  intro x hx
  obtain ⟨b, hb, rfl⟩ := List.mem_map.1 hx
  have := List.eq_of_mem_replicate hb
  subst this
  rfl
end Go.Proofs.Ytpapjdmnhgnpfaa
