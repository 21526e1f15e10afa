/-
  Plain facts on the greatest bit of four words, without the program: where it lies, and what becomes of it when a bit is set or cleared; no condition but that each word fits.
-/
import Derived.Test.YtchamgecalfmpaaDoorWWhole
namespace Go.Proofs.YtchamgecalfmpaaDoor

theorem topI_facts (b0 b1 b2 b3 : Int) : -1 ≤ topI b0 b1 b2 b3 ∧ topI b0 b1 b2 b3 ≤ 255 ∧ (0 ≤ topI b0 b1 b2 b3 → hasI b0 b1 b2 b3 (topI b0 b1 b2 b3) = true) ∧
    ∀ i : Int, topI b0 b1 b2 b3 < i → i < 256 → hasI b0 b1 b2 b3 i = false := by
  have hh : ∀ i : Int, 0 ≤ i → i < 256 → hasI b0 b1 b2 b3 i = hasN b0 b1 b2 b3 i.toNat := fun i h0 h1 => by
    unfold hasI
    simp [h0, h1]
  unfold topI
  rcases topTo_cases (hasN b0 b1 b2 b3) 256 with ⟨h1, h2⟩ | ⟨t, h1, h2, h3, h4⟩
  · rw [h1]
    refine ⟨by omega, by omega, fun h => by omega, fun i h3 h4 => ?_⟩
    by_cases c : 0 ≤ i
    · rw [hh i c h4]
      exact h2 _ (by omega)
    · exact hasI_out _ _ _ _ _ (by omega)
  · rw [h1]
    refine ⟨by omega, by omega, fun _ => ?_, fun i h5 h6 => ?_⟩
    · rw [hh _ (by omega) (by omega)]
      exact h3
    · rw [hh _ (by omega) h6]
      exact h4 _ (by omega) (by omega)
theorem topI_is (b0 b1 b2 b3 t : Int) (h0 : 0 ≤ t) (h1 : t < 256) (h2 : hasI b0 b1 b2 b3 t = true) (h3 : ∀ i : Int, t < i → i < 256 → hasI b0 b1 b2 b3 i = false) : topI b0 b1 b2 b3 = t := by
  obtain ⟨f1, f2, f3, f4⟩ := topI_facts b0 b1 b2 b3
  by_cases c : topI b0 b1 b2 b3 < t
  · rw [f4 t c h1] at h2
    cases h2
  · by_cases d : t < topI b0 b1 b2 b3
    · have := f3 (by omega)
      rw [h3 _ d (by omega)] at this
      cases this
    · omega
theorem has_set (z : Bool) (b0 b1 b2 b3 k i : Int) (w0 : Word b0) (w1 : Word b1) (w2 : Word b2) (w3 : Word b3) (k0 : 0 ≤ k) (k1 : k < 256) (i0 : 0 ≤ i) (i1 : i < 256) :
    hasI (setI z b0 k 0) (setI z b1 k 1) (setI z b2 k 2) (setI z b3 k 3) i = if i = k then z else hasI b0 b1 b2 b3 i := by
  have key : ∀ (j : Nat) (b c : Int), j < 4 → 0 ≤ b → wordAt b0 b1 b2 b3 j = b → wordAt (setI z b0 k 0) (setI z b1 k 1) (setI z b2 k 2) (setI z b3 k 3) j = c → c = setI z b k j →
      64 * (j : Int) ≤ i → i < 64 * (j : Int) + 64 → hasI (setI z b0 k 0) (setI z b1 k 1) (setI z b2 k 2) (setI z b3 k 3) i = if i = k then z else hasI b0 b1 b2 b3 i := by
    intro j b c hj hb e1 e2 e3 l1 l2
    rw [hasI_in _ _ _ _ i j c l1 l2 hj e2, hasI_in _ _ _ _ i j b l1 l2 hj e1, e3]
    by_cases h : k / 64 = (j : Int)
    · rw [setI_eq z b k j h, put_bit z b _ _ hb]
      by_cases e : i = k
      · rw [if_pos (by rw [e]), if_pos e]
      · have : ¬ (i % 64).toNat = (k % 64).toNat := by omega
        rw [if_neg this, if_neg e]
    · rw [setI_ne z b k j h, if_neg (by omega)]
  have : i < 64 ∨ (64 ≤ i ∧ i < 128) ∨ (128 ≤ i ∧ i < 192) ∨ 192 ≤ i := by omega
  rcases this with c | c | c | c
  · exact key 0 b0 _ (by omega) w0.lo rfl rfl rfl (by omega) (by omega)
  · exact key 1 b1 _ (by omega) w1.lo rfl rfl rfl (by omega) (by omega)
  · exact key 2 b2 _ (by omega) w2.lo rfl rfl rfl (by omega) (by omega)
  · exact key 3 b3 _ (by omega) w3.lo rfl rfl rfl (by omega) (by omega)
theorem top_set (b0 b1 b2 b3 k : Int) (w0 : Word b0) (w1 : Word b1) (w2 : Word b2) (w3 : Word b3) (k0 : 0 ≤ k) (k1 : k < 256) :
    topI (setI true b0 k 0) (setI true b1 k 1) (setI true b2 k 2) (setI true b3 k 3) = max (topI b0 b1 b2 b3) k := by
  obtain ⟨f1, f2, f3, f4⟩ := topI_facts b0 b1 b2 b3
  have hs := fun i (i0 : 0 ≤ i) (i1 : i < 256) => has_set true b0 b1 b2 b3 k i w0 w1 w2 w3 k0 k1 i0 i1
  apply topI_is
  · omega
  · omega
  · rw [hs _ (by omega) (by omega)]
    by_cases e : max (topI b0 b1 b2 b3) k = k
    · rw [if_pos e]
    · rw [if_neg e]
      have e2 : max (topI b0 b1 b2 b3) k = topI b0 b1 b2 b3 := by omega
      rw [e2]
      exact f3 (by omega)
  · intro i h1 h2
    rw [hs _ (by omega) h2, if_neg (by omega)]
    exact f4 i (by omega) h2
theorem top_clr (b0 b1 b2 b3 k : Int) (w0 : Word b0) (w1 : Word b1) (w2 : Word b2) (w3 : Word b3) (k0 : 0 ≤ k) (k1 : k < 256) (h : topI b0 b1 b2 b3 = k) :
    topI (setI false b0 k 0) (setI false b1 k 1) (setI false b2 k 2) (setI false b3 k 3) < k := by
  obtain ⟨f1, f2, f3, f4⟩ := topI_facts b0 b1 b2 b3
  obtain ⟨g1, g2, g3, g4⟩ := topI_facts (setI false b0 k 0) (setI false b1 k 1) (setI false b2 k 2) (setI false b3 k 3)
  have hs := fun i (i0 : 0 ≤ i) (i1 : i < 256) => has_set false b0 b1 b2 b3 k i w0 w1 w2 w3 k0 k1 i0 i1
  apply Int.lt_of_not_ge
  intro hge
  have g5 := g3 (by omega)
  rw [hs _ (by omega) (by omega)] at g5
  by_cases e : topI (setI false b0 k 0) (setI false b1 k 1) (setI false b2 k 2) (setI false b3 k 3) = k
  · rw [if_pos e] at g5
    cases g5
  · rw [if_neg e, f4 _ (by omega) (by omega)] at g5
    cases g5
end Go.Proofs.YtchamgecalfmpaaDoor
