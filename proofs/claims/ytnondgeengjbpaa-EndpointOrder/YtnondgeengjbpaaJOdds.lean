/-
  Every second one of a list, and those that only send; plain facts, without the program; no condition.
-/
import Derived.Test.YtnondgeengjbpaaJMath
namespace Go.Proofs.Ytnondgeengjbpaa

/-- All of them send. -/
def Sn (S : St) : Prop := ∀ x ∈ S, x.s = true
theorem sn_has {S : St} (h : Sn S) : hasB S false = false := by
  match S, h with
  | [], _ => rfl
  | x :: T, h => simp [hasB, h x (by simp)]
theorem sn_send {S : St} (h : Sn S) (n : Int) (m : Ms) : (sendE S n = 110 ∧ sendS S n m true = S) ∨ (sendE S n = 0 ∧ sendS S n m true = S ++ [⟨n, true, m⟩]) := by
  cases ht : thB S n with
  | true => exact .inl ⟨by simp [sendE, ht], by simp [sendS, ht]⟩
  | false => exact .inr ⟨by simp [sendE, ht], by simp [sendS, ht, sn_has h]⟩
theorem sn_app {S : St} (h : Sn S) (n : Int) (m : Ms) : Sn (S ++ [⟨n, true, m⟩]) := by
  intro x hx
  rcases List.mem_append.1 hx with hx | hx
  · exact h x hx
  · obtain rfl : x = _ := by simpa using hx
    rfl
theorem sn_out {S : St} (h : Sn S) (p : Wt → Bool) : Sn (outS p S) := fun x hx => h x (List.mem_filter.1 hx).1
theorem outN_app (p : Wt → Bool) (S : St) (x : Wt) : outN p (S ++ [x]) = if p x = true then outN p S ++ [x.n] else outN p S := by
  unfold outN
  rw [List.filter_append, List.map_append]
  cases hp : p x <;> simp [hp]
theorem waits_app (p : Wt → Bool) (S : St) (x : Wt) : waitsN (outS p (S ++ [x])) = if p x = true then waitsN (outS p S) else waitsN (outS p S) ++ [x.n] := by
  unfold outS waitsN
  rw [List.filter_append, List.map_append]
  cases hp : p x <;> simp [hp]
theorem sn_recv {x : Wt} {T : St} (hx : x.s = true) (n : Int) : (sendE (x :: T) n = 110 ∧ recvS (x :: T) n false = x :: T) ∨ (sendE (x :: T) n = 0 ∧ recvM (x :: T) n = ⟨true, x.n, n, x.m⟩ ∧ recvS (x :: T) n false = T) := by
  cases ht : thB (x :: T) n with
  | true => exact .inl ⟨by simp [sendE, ht], by simp [recvS, ht]⟩
  | false => exact .inr ⟨by simp [sendE, ht], by simp [recvM, ht, hx], by simp [recvS, ht, hasB, hx]⟩
/-- Every second one, from the second one on. -/
def odds {α : Type} : List α → List α
  | [] => []
  | [_] => []
  | _ :: b :: t => b :: odds t
theorem odds_get {α : Type} : ∀ (Q : List α) (t : Nat), (odds Q)[t]? = Q[2 * t + 1]?
  | [], t => by simp [odds]
  | [a], t => by simp [odds]
  | a :: b :: Q, 0 => by simp [odds]
  | a :: b :: Q, t + 1 => by
    have := odds_get Q t
    simp only [odds, List.getElem?_cons_succ, this]
    rw [show 2 * (t + 1) = (2 * t + 1) + 1 by omega, List.getElem?_cons_succ]
theorem odds_sub {α : Type} : ∀ (Q : List α), (odds Q).Sublist Q
  | [] => List.Sublist.refl _
  | [_] => List.Sublist.cons _ (List.Sublist.refl _)
  | _ :: _ :: Q => List.Sublist.cons _ (List.Sublist.cons_cons _ (odds_sub Q))
theorem odds_app {α : Type} : ∀ (Q : List α) (x : α), odds (Q ++ [x]) = if Q.length % 2 = 0 then odds Q else odds Q ++ [x]
  | [], x => by simp [odds]
  | [a], x => by simp [odds]
  | a :: b :: Q, x => by
    have := odds_app Q x
    have e : (a :: b :: Q).length % 2 = Q.length % 2 := by simp only [List.length_cons]; omega
    rw [e]
    simp only [List.cons_append, odds, this]
    split <;> rfl
/-- What is left when every second one of the first j is taken away. -/
def left (Q : St) (j : Nat) : St := odds (Q.take j) ++ Q.drop j
theorem left_zero (Q : St) : left Q 0 = Q := by simp [left, odds]
theorem left_all (Q : St) {j : Nat} (h : Q.length ≤ j) : left Q j = odds Q := by
  unfold left
  rw [List.take_of_length_le h, List.drop_of_length_le h, List.append_nil]
theorem left_sub (Q : St) (j : Nat) : (left Q j).Sublist Q := by
  have := (odds_sub (Q.take j)).append (List.Sublist.refl (Q.drop j))
  rw [List.take_append_drop] at this
  exact this
theorem left_len (Q : St) (j : Nat) : (left Q j).length ≤ Q.length := (left_sub Q j).length_le
theorem left_odd (Q : St) {j : Nat} {x : Wt} (h : Q[j]? = some x) (hj : j % 2 = 1) : left Q (j + 1) = left Q j := by
  have hl := (List.getElem?_eq_some_iff.1 h).1
  have hx : Q.drop j = x :: Q.drop (j + 1) := by
    rw [List.drop_eq_getElem_cons hl]
    congr 1
    exact (List.getElem?_eq_some_iff.1 h).2
  have ht : Q.take (j + 1) = Q.take j ++ [x] := by
    rw [List.take_add_one, h]
    rfl
  unfold left
  rw [ht, odds_app, List.length_take, Nat.min_eq_left (by omega), if_neg (by omega), hx, List.append_assoc]
  rfl
theorem left_even {Q : St} (g : Good Q) {j : Nat} {x : Wt} (h : Q[j]? = some x) (hj : j % 2 = 0) : thB (left Q j) x.n = true ∧ outS (isW x.n) (left Q j) = left Q (j + 1) := by
  have hl := (List.getElem?_eq_some_iff.1 h).1
  have hx : Q.drop j = x :: Q.drop (j + 1) := by
    rw [List.drop_eq_getElem_cons hl]
    congr 1
    exact (List.getElem?_eq_some_iff.1 h).2
  have ht : Q.take (j + 1) = Q.take j ++ [x] := by
    rw [List.take_add_one, h]
    rfl
  have e1 : left Q (j + 1) = odds (Q.take j) ++ Q.drop (j + 1) := by
    unfold left
    rw [ht, odds_app, List.length_take, Nat.min_eq_left (by omega), if_pos hj]
  have e2 : left Q j = odds (Q.take j) ++ x :: Q.drop (j + 1) := by
    unfold left
    rw [hx]
  have hp := g.one.sublist (left_sub Q j)
  rw [e2] at hp
  obtain ⟨-, p2, p3⟩ := List.pairwise_append.1 hp
  have h1 : ∀ y ∈ odds (Q.take j), y.n ≠ x.n := fun y hy => p3 y hy x (by simp)
  have h2 : ∀ y ∈ Q.drop (j + 1), y.n ≠ x.n := fun y hy e => (List.pairwise_cons.1 p2).1 y hy e.symm
  refine ⟨?_, ?_⟩
  · rw [e2]
    exact List.any_eq_true.2 ⟨x, by simp, by simp [isW]⟩
  · rw [e1, e2]
    unfold outS
    rw [List.filter_append, List.filter_cons, if_neg (by simp [isW]), List.filter_eq_self.2, List.filter_eq_self.2]
    · intro y hy
      simpa [isW] using h2 y hy
    · intro y hy
      simpa [isW] using h1 y hy
theorem sn_sub {S T : St} (h : Sn S) (k : T.Sublist S) : Sn T := fun x hx => h x (k.subset hx)
theorem odds_len (Q : St) (t : Nat) : t < (odds Q).length ↔ 2 * t + 1 < Q.length := by
  have := odds_get Q t
  constructor
  · intro h
    rw [List.getElem?_eq_getElem h] at this
    exact (List.getElem?_eq_some_iff.1 this.symm).1
  · intro h
    rw [List.getElem?_eq_getElem h] at this
    exact (List.getElem?_eq_some_iff.1 this).1
end Go.Proofs.Ytnondgeengjbpaa
