/-
  Those that send and those that receive, of one state: what the document's calls make of them is what the calls make of the state; no condition but that the state is good.
-/
import Derived.Test.YtddeiglcbnemfaaJRBadge
import Derived.Test.YtddeiglcbnemfaaJRTail
namespace Go.Proofs.Ytddeiglcbnemfaa

def sd (S : St) : List Wt := S.filter (·.s)
def rc (S : St) : List Int := waitsN (S.filter fun x => !x.s)
theorem kinds {S : St} (g : Good S) : (∀ x ∈ S, x.s = true) ∨ (∀ x ∈ S, x.s = false) := by
  match S, g with
  | [], _ => exact .inl fun x hx => by simp at hx
  | y :: T, g =>
    cases hy : y.s with
    | true => exact .inl fun x hx => (g.all x hx y (by simp)).trans hy
    | false => exact .inr fun x hx => (g.all x hx y (by simp)).trans hy
theorem sd_send {S : St} (h : ∀ x ∈ S, x.s = true) : sd S = S ∧ rc S = [] := by
  refine ⟨List.filter_eq_self.2 h, ?_⟩
  unfold rc waitsN
  rw [List.map_eq_nil_iff, List.filter_eq_nil_iff]
  intro x hx
  simp [h x hx]
theorem sd_recv {S : St} (h : ∀ x ∈ S, x.s = false) : sd S = [] ∧ rc S = waitsN S := by
  refine ⟨?_, ?_⟩
  · unfold sd
    rw [List.filter_eq_nil_iff]
    intro x hx
    simp [h x hx]
  · unfold rc
    rw [List.filter_eq_self.2]
    intro x hx
    simp [h x hx]
theorem b_there {S : St} (g : Good S) (n : Int) : rthB (sd S) (rc S) n = thB S n := by
  rcases kinds g with h | h
  · obtain ⟨h1, h2⟩ := sd_send h
    rw [h1, h2]
    simp [rthB, thB]
  · obtain ⟨h1, h2⟩ := sd_recv h
    rw [h1, h2]
    unfold rthB thB waitsN
    rw [List.any_map]
    simp only [List.any_nil, Bool.false_or]
    rfl
theorem b_send {S : St} (g : Good S) (n : Int) (m : Ms) (z : Bool) : rsM (sd S) (rc S) n m = sendM S n m ∧ rE (sd S) (rc S) n = sendE S n ∧ rsA (sd S) (rc S) n m z = sd (sendS S n m z) ∧ rsB (sd S) (rc S) n = rc (sendS S n m z) := by
  have ht := b_there g n
  unfold rsM rE rsA rsB sendE
  rw [ht]
  cases hb : thB S n with
  | true => exact ⟨by simp [sendM, hb], rfl, by simp [sendS, hb], by simp [sendS, hb]⟩
  | false =>
    simp only [Bool.false_eq_true, if_false, true_and]
    rcases kinds g with h | h
    · obtain ⟨h1, h2⟩ := sd_send h
      rw [h1, h2]
      have h0 : hasB S false = false := by
        match S, h with
        | [], _ => rfl
        | x :: T, h => simp [hasB, h x (by simp)]
      have hm : sendM S n m = mt0 := by
        unfold sendM
        rw [hb]
        match S, h with
        | [], _ => rfl
        | x :: T, h => simp [h x (by simp)]
      refine ⟨hm.symm, ?_⟩
      cases z with
      | false =>
        have hs : sendS S n m false = S := by simp [sendS, h0]
        rw [hs, h1, h2]
        simp
      | true =>
        have hs : sendS S n m true = S ++ [⟨n, true, m⟩] := by simp [sendS, h0, hb]
        rw [hs]
        have h3 : ∀ x ∈ S ++ [(⟨n, true, m⟩ : Wt)], x.s = true := fun x hx => by
          rcases List.mem_append.1 hx with hx | hx
          · exact h x hx
          · obtain rfl : x = _ := by simpa using hx
            rfl
        obtain ⟨h4, h5⟩ := sd_send h3
        rw [h4, h5]
        simp
    · obtain ⟨h1, h2⟩ := sd_recv h
      rw [h1, h2]
      match S, h, hb, g with
      | [], _, hb, _ =>
        cases z <;> simp [sendM, sendS, waitsN, thB, hasB, sd, rc]
      | x :: T, h, hb, _ =>
        have hx := h x (by simp)
        have hs : sendS (x :: T) n m z = T := by simp [sendS, hb, hasB, hx]
        obtain ⟨h3, h4⟩ := sd_recv (S := T) fun y hy => h y (by simp [hy])
        rw [hs, h3, h4]
        simp [waitsN, sendM, hb, hx]
theorem b_recv {S : St} (g : Good S) (n : Int) (z : Bool) : rrM (sd S) (rc S) n = recvM S n ∧ rE (sd S) (rc S) n = sendE S n ∧ rrA (sd S) (rc S) n = sd (recvS S n z) ∧ rrB (sd S) (rc S) n z = rc (recvS S n z) := by
  have ht := b_there g n
  unfold rrM rE rrA rrB sendE
  rw [ht]
  cases hb : thB S n with
  | true => exact ⟨by simp [recvM, hb], rfl, by simp [recvS, hb], by simp [recvS, hb]⟩
  | false =>
    simp only [Bool.false_eq_true, if_false, true_and]
    rcases kinds g with h | h
    · obtain ⟨h1, h2⟩ := sd_send h
      rw [h1, h2]
      match S, h, hb, g with
      | [], _, hb, _ =>
        cases z <;> simp [recvM, recvS, waitsN, thB, hasB, sd, rc]
      | x :: T, h, hb, _ =>
        have hx := h x (by simp)
        have hs : recvS (x :: T) n z = T := by simp [recvS, hb, hasB, hx]
        obtain ⟨h3, h4⟩ := sd_send (S := T) fun y hy => h y (by simp [hy])
        rw [hs, h3, h4]
        simp [recvM, hb, hx]
    · obtain ⟨h1, h2⟩ := sd_recv h
      rw [h1, h2]
      have h0 : hasB S true = false := by
        match S, h with
        | [], _ => rfl
        | x :: T, h => simp [hasB, h x (by simp)]
      have hm : recvM S n = mt0 := by
        unfold recvM
        rw [hb]
        match S, h with
        | [], _ => rfl
        | x :: T, h => simp [h x (by simp)]
      refine ⟨hm.symm, ?_⟩
      cases z with
      | false =>
        have hs : recvS S n false = S := by simp [recvS, h0]
        rw [hs, h1, h2]
        simp
      | true =>
        have hs : recvS S n true = S ++ [⟨n, false, ms0⟩] := by simp [recvS, h0, hb]
        rw [hs]
        have h3 : ∀ x ∈ S ++ [(⟨n, false, ms0⟩ : Wt)], x.s = false := fun x hx => by
          rcases List.mem_append.1 hx with hx | hx
          · exact h x hx
          · obtain rfl : x = _ := by simpa using hx
            rfl
        obtain ⟨h4, h5⟩ := sd_recv h3
        rw [h4, h5]
        simp [waitsN]
theorem b_cancel (S : St) (n : Int) : outS (isW n) (sd S) = sd (outS (isW n) S) ∧ ((rc S).filter fun x => !decide (x = n)) = rc (outS (isW n) S) := by
  refine ⟨?_, ?_⟩
  · unfold outS sd
    rw [List.filter_filter, List.filter_filter]
    congr 1
    funext x
    rw [Bool.and_comm]
  · unfold rc waitsN outS
    rw [List.filter_map, List.filter_filter, List.filter_filter]
    congr 2
    funext x
    simp only [Function.comp, isW]
    rw [Bool.and_comm]
theorem b_badge (S : St) (n : Int) : outN (hasG n) (sd S) = outN (isG n) S ∧ outS (hasG n) (sd S) = sd (outS (isG n) S) ∧ rc (outS (isG n) S) = rc S := by
  refine ⟨?_, ?_, ?_⟩
  · unfold outN sd
    rw [List.filter_filter]
    congr 2
    funext x
    simp only [hasG, isG]
    rw [Bool.and_comm]
  · unfold outS sd
    rw [List.filter_filter, List.filter_filter]
    congr 1
    funext x
    simp only [hasG, isG]
    cases x.s <;> simp
  · unfold rc outS
    rw [List.filter_filter]
    congr 2
    funext x
    simp only [isG]
    cases x.s <;> simp
theorem b_waits {S : St} (g : Good S) : rc S ++ waitsN (sd S) = waitsN S ∧ decide (0 < (sd S).length) = hasB S true := by
  rcases kinds g with h | h
  · obtain ⟨h1, h2⟩ := sd_send h
    rw [h1, h2]
    refine ⟨rfl, ?_⟩
    match S, h with
    | [], _ => rfl
    | x :: T, h => simp [hasB, h x (by simp)]
  · obtain ⟨h1, h2⟩ := sd_recv h
    rw [h1, h2]
    refine ⟨by simp [waitsN], ?_⟩
    match S, h with
    | [], _ => rfl
    | x :: T, h => simp [hasB, h x (by simp)]
theorem sd_len (S : St) : (sd S).length ≤ S.length := List.length_filter_le _ _
theorem rc_len (S : St) : (rc S).length ≤ S.length := by
  unfold rc
  rw [waits_len]
  exact List.length_filter_le _ _
end Go.Proofs.Ytddeiglcbnemfaa
