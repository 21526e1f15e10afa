/-
  What the laws of tlb need of lists of lines: what was filled in last is found, alone; what is dropped is gone; more room remembers more; no condition.
-/
import Derived.Test.YtekjoeebomcmeaaYMath
namespace Go.Proofs.Ytekjoeebomcmeaa
theorem fill_look {n : Nat} {S : St} (h : Good n S) (x : Lr) : lookF (fillS n S x) x.s x.p = x.f ∧ lookR (fillS n S x) x.s x.p = x.r ∧ lookB (fillS n S x) x.s x.p = true :=
  look_some (look_at (h.fill x) (by unfold fillS; simp) (isK_self x))
theorem fill_any {n : Nat} {S : St} (x : Lr) (q : Lr → Bool) (hq : q x = true) : (fillS n S x).any q = true := by
  unfold fillS
  simp [hq]
theorem fill_less {n : Nat} {S : St} (x : Lr) : lessS (isK x.s x.p) (fillS n S x) = roomS n S x := by
  unfold fillS
  have h := less_none (room_none n S x)
  unfold lessS at *
  rw [List.filter_append, h]
  simp [isK_self]
theorem fill_len {n : Nat} {S : St} (x : Lr) : (fillS n S x).length = (roomS n S x).length + 1 := by
  unfold fillS
  simp
theorem lessN_one {q : Lr → Bool} {S : St} (h : S.any q = true) : 1 ≤ lessN q S := by
  have := less_any h
  unfold lessN
  omega
theorem less_gone {q : Lr → Bool} {S : St} {s p : Int} (h : ∀ x ∈ S, isK s p x = true → q x = true) : lookB (lessS q S) s p = false := by
  unfold lookB
  rw [List.any_eq_false]
  intro y hy hk
  have := List.mem_filter.1 hy
  rw [h y this.1 hk] at this
  simp at this
theorem gone_key {n : Nat} {S : St} (x : Lr) : lookB (roomS n S x) x.s x.p = false := room_none n S x
theorem gone_space (S : St) (s p : Int) : lookB (lessS (isS s) S) s p = false := less_gone fun x _ hk => by
  unfold isK at hk
  exact (Bool.and_eq_true_iff.1 hk).1
theorem gone_frame {n : Nat} {S : St} (h : Good n S) (x : Lr) : lookB (lessS (isF x.f) (fillS n S x)) x.s x.p = false := less_gone fun y hy hk => by
  have e1 := look_at (h.fill x) hy hk
  have e2 := look_at (h.fill x) (show x ∈ fillS n S x by unfold fillS; simp) (isK_self x)
  rw [e1] at e2
  cases e2
  simp [isF]
theorem lessN_add (q : Lr → Bool) (S : St) : lessN q S = S.length - (lessS q S).length := rfl
/-! ### Filled in again -/
theorem fill_again {n : Nat} {S : St} (x y : Lr) (e1 : y.s = x.s) (e2 : y.p = x.p) : fillS n (fillS n S x) y = roomS n S x ++ [y] := by
  have ha : (fillS n S x).any (isK y.s y.p) = true := by
    rw [e1, e2]
    exact fill_any x _ (isK_self x)
  have e : roomS n (fillS n S x) y = lessS (isK y.s y.p) (fillS n S x) := if_pos ha
  show roomS n (fillS n S x) y ++ [y] = _
  rw [e, e1, e2, fill_less]
/-! ### More room -/
/-- One remembers the last of what the other one does. -/
def Tails (A B : St) : Prop := ∃ D, B = D ++ A
theorem Tails.self (E A : St) : Tails A (E ++ A) := ⟨E, rfl⟩
theorem Tails.tail (E A : St) : Tails A.tail (E ++ A) := by
  cases A with
  | nil => exact ⟨E, rfl⟩
  | cons a A => exact ⟨E ++ [a], by simp⟩
theorem Tails.room (E A : St) (m : Nat) : Tails (if m ≤ A.length then A.tail else A) (E ++ A) := by
  split
  · exact Tails.tail E A
  · exact Tails.self E A
theorem less_app (q : Lr → Bool) (S T : St) : lessS q (S ++ T) = lessS q S ++ lessS q T := by
  unfold lessS
  exact List.filter_append ..
theorem room_had {n : Nat} {S : St} {x : Lr} (h : S.any (isK x.s x.p) = true) : roomS n S x = lessS (isK x.s x.p) S := if_pos h
theorem room_not {n : Nat} {S : St} {x : Lr} (h : S.any (isK x.s x.p) = false) : roomS n S x = if n ≤ S.length then S.tail else S := if_neg (by rw [h]; simp)
theorem fill_tails {m n : Nat} {A B : St} (hA : Good m A) (hB : Good n B) (hmn : m < n) (h : Tails A B) (x : Lr) : Tails (fillS m A x) (fillS n B x) := by
  obtain ⟨D, rfl⟩ := h
  have key : Tails (roomS m A x) (roomS n (D ++ A) x) := by
    cases ha : A.any (isK x.s x.p) with
    | true =>
      have hd : D.any (isK x.s x.p) = false := by
        rw [List.any_eq_false]
        intro y hy hk
        obtain ⟨z, hz, hk2⟩ := List.any_eq_true.1 ha
        have := (List.pairwise_append.1 hB.one).2.2 y hy z hz
        have k1 := isK_iff.1 hk
        have k2 := isK_iff.1 hk2
        exact this ⟨k1.1.trans k2.1.symm, k1.2.trans k2.2.symm⟩
      have hb : (D ++ A).any (isK x.s x.p) = true := by rw [List.any_append, ha, Bool.or_true]
      rw [room_had ha, room_had hb, less_app, less_none hd]
      exact Tails.self _ _
    | false =>
      rw [room_not ha]
      cases hd : D.any (isK x.s x.p) with
      | true =>
        have hb : (D ++ A).any (isK x.s x.p) = true := by rw [List.any_append, hd, Bool.true_or]
        rw [room_had hb, less_app, less_none ha]
        exact Tails.room _ _ _
      | false =>
        have hb : (D ++ A).any (isK x.s x.p) = false := by rw [List.any_append, hd, ha]; rfl
        rw [room_not hb]
        have hl := hA.le
        cases D with
        | nil =>
          have hn : ¬ n ≤ (([] : St) ++ A).length := by rw [List.nil_append]; omega
          rw [if_neg hn]
          exact Tails.room [] A m
        | cons d D =>
          by_cases hn : n ≤ (d :: D ++ A).length
          · rw [if_pos hn, List.cons_append, List.tail_cons]
            exact Tails.room D A m
          · rw [if_neg hn]
            exact Tails.room (d :: D) A m
  obtain ⟨E, e⟩ := key
  exact ⟨E, by unfold fillS; rw [e, List.append_assoc]⟩
theorem tails_drop {A B : St} (h : Tails A B) : A.length ≤ B.length ∧ B.drop (B.length - A.length) = A := by
  obtain ⟨D, rfl⟩ := h
  refine ⟨by simp, ?_⟩
  rw [List.length_append, Nat.add_sub_cancel, List.drop_left]
end Go.Proofs.Ytekjoeebomcmeaa
