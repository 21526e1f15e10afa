/-
  Small states written out, for laws of one or two threads; plain facts, no condition but that priorities are such.
-/
import Derived.Test.YtchamgecalfmpaaDoorHTurns
namespace Go.Proofs.YtchamgecalfmpaaDoor

theorem make_yes {h : Hs} {P c : Nat} (hP : P < 256) (hc : c < h.Q.length) (hl : h.L.length < 64) : makeH h P c = ⟨h.L ++ [⟨0, P, c, 5, z8⟩], h.Q⟩ ∧ makeE h P c = 0 ∧ makeN h P c = (h.L.length : Int) := by
  have e : makeE h P c = 0 := by
    have hC : isC h (c : Int) := by unfold isC; omega
    unfold makeE
    rw [if_pos ⟨by omega, hC⟩, if_neg (by omega)]
  refine ⟨?_, e, by unfold makeN; rw [if_pos e]⟩
  unfold makeH
  rw [if_pos e]
  rfl
theorem good_one {P : Nat} (hP : P < 256) (a : Nat) (ha : a < 64) : Good [⟨P, (a : Int)⟩] := by
  refine ⟨fun x hx => ?_, by simp⟩
  obtain rfl := List.mem_singleton.1 hx
  exact ⟨hP, by unfold I64; simp only; omega⟩
theorem good_two {P : Nat} (hP : P < 256) (a b : Nat) (ha : a < 64) (hb : b < 64) (hab : a ≠ b) : Good [⟨P, (a : Int)⟩, ⟨P, (b : Int)⟩] := by
  refine ⟨fun x hx => ?_, ?_⟩
  · simp only [List.mem_cons, List.not_mem_nil, or_false] at hx
    rcases hx with rfl | rfl
    · exact ⟨hP, by unfold I64; simp only; omega⟩
    · exact ⟨hP, by unfold I64; simp only; omega⟩
  · refine List.pairwise_cons.2 ⟨fun y hy => ?_, by simp⟩
    obtain rfl := List.mem_singleton.1 hy
    simp only
    omega
theorem next_one {P : Nat} (hP : P < 256) (a : Nat) (ha : a < 64) : nextO [⟨P, (a : Int)⟩] = some ⟨P, (a : Int)⟩ := next_head (good_one hP a ha) fun y hy => by simp at hy
theorem next_two {P : Nat} (hP : P < 256) (a b : Nat) (ha : a < 64) (hb : b < 64) (hab : a ≠ b) : nextO [⟨P, (a : Int)⟩, ⟨P, (b : Int)⟩] = some ⟨P, (a : Int)⟩ := next_head (good_two hP a b ha hb hab) fun y hy => by
  obtain rfl := List.mem_singleton.1 hy
  rfl
theorem line_same {P : Nat} (hP : P < 256) (A : List Int) : lineI (A.map fun n => ⟨P, n⟩) P = A := by
  unfold lineI lineN
  rw [if_pos (by omega), Int.toNat_natCast]
  induction A with
  | nil => rfl
  | cons a A ih => simpa using ih
theorem line_que {h : Hs} {c : Nat} (hc : c < h.Q.length) (pr : Int) : lineH h (c : Int) pr = lineI (que h c) pr := by
  have hC : isC h (c : Int) := by unfold isC; omega
  unfold lineH
  rw [if_pos hC, Int.toNat_natCast]
theorem pick_some {h : Hs} {c : Nat} (hc : c < h.Q.length) {y : In} (e1 : nextO (que h c) = some y) : pickH h c = match runsO h (c : Int) with
      | none => runH h y.n.toNat
      | some j => if (thr h j).p < y.p then runH (upH h j) y.n.toNat else h := by
  have hC : isC h (c : Int) := by unfold isC; omega
  unfold pickH
  rw [if_pos hC, Int.toNat_natCast, e1]
  rfl
end Go.Proofs.YtchamgecalfmpaaDoor
