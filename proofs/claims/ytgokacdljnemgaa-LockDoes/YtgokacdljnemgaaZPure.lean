/-
  What the laws of lock need of lines: who enters, who leaves, how many stand ahead; no condition.
-/
import Derived.Test.YtgokacdljnemgaaZMath
namespace Go.Proofs.Ytgokacdljnemgaa
theorem has_nat {n c : Nat} (h : c < n) : hasB n (c : Int) = true := has_iff.2 ⟨by omega, by omega⟩
theorem enter_new {n : Nat} {L : St} {c : Int} (h1 : hasB n c = true) (h2 : inB L c = false) : enterE n L c = 0 ∧ enterS n L c = L ++ [c] := by
  unfold enterE enterS
  simp [h1, h2]
theorem enter_old {n : Nat} {L : St} {c : Int} (h1 : hasB n c = true) (h2 : inB L c = true) : enterE n L c = 160 ∧ enterS n L c = L := by
  unfold enterE enterS
  simp [h1, h2]
theorem enter_not {n : Nat} {L : St} {c : Int} (h1 : hasB n c = false) : enterE n L c = 1 ∧ enterS n L c = L := by
  unfold enterE enterS
  simp [h1]
theorem leave_head {n : Nat} {T : St} {c : Int} (h1 : hasB n c = true) : leaveE n (c :: T) c = 0 ∧ leaveS n (c :: T) c = T := by
  unfold leaveE leaveS
  simp [h1, firstI]
theorem leave_other {n : Nat} {L : St} {c : Int} (h1 : hasB n c = true) (h2 : (firstI L == c) = false) : leaveE n L c = 161 ∧ leaveS n L c = L := by
  unfold leaveE leaveS
  simp [h1, h2]
theorem leave_not {n : Nat} {L : St} {c : Int} (h1 : hasB n c = false) : leaveE n L c = 1 ∧ leaveS n L c = L := by
  unfold leaveE leaveS
  simp [h1]
theorem probe_in {n : Nat} {L : St} {c : Int} (h1 : hasB n c = true) (h2 : inB L c = true) : probeB n L c = (firstI L == c) ∧ probeE n L c = 0 := by
  unfold probeB probeE
  simp [h1, h2]
theorem first_nil {c : Int} (h : 0 ≤ c) : (firstI [] == c) = false := by
  have : firstI [] = -1 := rfl
  rw [this]
  exact beq_eq_false_iff_ne.2 (by omega)
theorem probe_nil {n : Nat} {c : Int} (h1 : hasB n c = true) : probeB n [] c = false ∧ probeE n [] c = 161 := by
  unfold probeB probeE
  rw [first_nil (has_iff.1 h1).1]
  simp [h1, inB]
theorem ahead_nil (c : Int) : aheadI [] c = -1 := by simp [aheadI]
theorem ahead_at {L : St} (hn : L.Nodup) {k : Nat} {c : Int} (h : L[k]? = some c) : aheadI L c = (k : Int) := by
  obtain ⟨hl, e⟩ := List.getElem?_eq_some_iff.1 h
  have : L.findIdx (fun x => x == c) = k := by
    rw [List.findIdx_eq hl]
    refine ⟨by simp [e], fun j hj => ?_⟩
    have := List.pairwise_iff_getElem.1 hn j k (by omega) hl hj
    rw [e] at this
    simpa using this
  unfold aheadI
  rw [this, if_pos hl]
theorem ahead_not {L : St} {c : Int} (h : c ∉ L) : aheadI L c = -1 := by
  unfold aheadI
  rw [if_neg]
  rw [List.findIdx_lt_length]
  rintro ⟨x, hx, hn⟩
  have : x = c := by simpa using hn
  exact h (this ▸ hx)
theorem Good.has {n : Nat} {L : St} (h : Good n L) {x : Int} (hx : x ∈ L) : hasB n x = true := has_iff.2 (h.all x hx)
end Go.Proofs.Ytgokacdljnemgaa
