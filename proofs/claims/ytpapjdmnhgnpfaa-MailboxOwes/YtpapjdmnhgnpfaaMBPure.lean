/-
  What the laws of layer 17 need of boxes as lists; without a program; no condition.
-/
import Derived.Test.YtpapjdmnhgnpfaaMBRMath
namespace Go.Proofs.Ytpapjdmnhgnpfaa
theorem empty_box (n i : Nat) : boxN (List.replicate n []) i = [] := by
  unfold boxN
  rw [List.getElem?_replicate]
  split <;> rfl
theorem others_len (c : Int) : ∀ n : Nat, (othersN n c).length = n - if 0 ≤ c ∧ c < (n : Int) then 1 else 0
  | 0 => by simp [othersN]
  | n + 1 => by
    rw [others_more, List.length_append, others_len c n]
    by_cases e : (n : Int) = c
    · rw [if_pos e, if_neg (by omega), if_pos (by omega)]
      simp
    · rw [if_neg e]
      by_cases h : 0 ≤ c ∧ c < (n : Int)
      · rw [if_pos h, if_pos (by omega)]
        simp
        omega
      · rw [if_neg h, if_neg (by omega)]
        simp
theorem all_empty {n c : Nat} (hc : c < n) (k a : Int) : allE n (List.replicate n []) c = 0 ∧ allS n (List.replicate n []) c k a = postS (List.replicate n []) ⟨c, k, a⟩ (othersN n c) := by
  have h : hasB n (c : Int) = true := has_nat hc
  have hf : fullB (List.replicate n []) (othersN n c) = false := full_none fun j d _ => by rw [empty_box]; decide
  unfold allE allS postE postT
  rw [h, hf]
  exact ⟨rfl, rfl⟩
theorem all_box {n c i : Nat} (k a : Int) (hi : i < n) : boxN (postS (List.replicate n []) ⟨c, k, a⟩ (othersN n c)) i = if i = c then [] else [⟨c, k, a⟩] := by
  rw [boxN_post _ _ _ (others_nodup _ _) (fun d hd => by rw [List.length_replicate]; exact (others_mem.1 hd).1), empty_box]
  by_cases e : i = c
  · rw [if_pos e, if_neg]
    intro h
    exact (others_mem.1 h).2 (by omega)
  · rw [if_neg e, if_pos (others_mem.2 ⟨hi, by omega⟩)]
    rfl
theorem of_many (c : Int) (T : List Nat) (m : Ml) (h : m.f = c) : ofD c (manyD [] T m) = T.length := by
  unfold ofD manyD
  rw [List.nil_append, List.countP_map, List.countP_eq_length.2, ]
  intro i _
  simp [h]
theorem all_owed {n c : Nat} (hn : 1 ≤ n) (h8 : n ≤ 8) (hc : c < n) (k a : Int) : owedN c (postS (List.replicate n []) ⟨c, k, a⟩ (othersN n c)) = n - 1 := by
  have g := good_new hn h8
  have r := (rel_new n).post (m := ⟨c, k, a⟩) (othersN n c) List.length_replicate (others_nodup _ _) fun d hd => (others_mem.1 hd).1
  have g2 := g.post (m := ⟨c, k, a⟩) (othersN n c) (others_nodup _ _) (fun d hd => ⟨(others_mem.1 hd).1, fun e => (others_mem.1 hd).2 (by simpa using e.symm), by rw [empty_box]; decide⟩) ⟨by simp only; omega, by simp only; omega⟩
  rw [r.owed g2, of_many (c : Int) _ ⟨c, k, a⟩ rfl, others_len, if_pos (by omega)]
end Go.Proofs.Ytpapjdmnhgnpfaa
