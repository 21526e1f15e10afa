/-
  Capabilities minted: what is minted may be, fits, and derives of what it was minted of; what derives goes on; without the program.
-/
import Derived.Test.YtokehmkegnmfdaaDoorCRights
namespace Go.Proofs.YtokehmkegnmfdaaDoor
set_option linter.unusedSectionVars false
variable [dCp : DecidableEq Cp] [dLim : ∀ k, Decidable (Lim k)] [dBad : ∀ k, Decidable (Bad k)] [dFit : ∀ g z, Decidable (Fit g z)] [dFine : ∀ c, Decidable (Fine c)] [dMint : ∀ c v, Decidable (MintR c v)] [dWho : ∀ x y, Decidable (Whose x y)]
theorem mint_fine {c : Cp} {n v : Int} (h : Fine c) (hk : c.k ≠ 0) (hn : 0 ≤ n ∧ n ≤ 7) (hv : v = 0 ∨ Bad c.k := by exact .inl rfl) : Fine (mintC c n v) := by
  obtain ⟨h1, h2, h3, h4, h5, h6, h7⟩ := h.of_ne hk
  refine .inr ⟨h1, h2, ?_, ?_, ?_, h6, h7⟩
  · show 0 ≤ (if Lim c.k then bits .and .i64 c.r n else c.r) ∧ (if Lim c.k then bits .and .i64 c.r n else c.r) ≤ 7
    split
    · exact and_le h3 hn
    · exact h3
  · show (if Lim c.k then bits .and .i64 c.r n else c.r) = 7 ∨ Lim c.k
    by_cases hL : Lim c.k
    · exact .inr hL
    · rw [if_neg hL]
      exact .inl (h4.resolve_right hL)
  · show (if v = 0 then c.b else v) = 0 ∨ Bad c.k
    rcases hv with rfl | hv
    · rw [if_pos rfl]; exact h5
    · exact .inr hv
theorem mint_fits {c : Cp} {n v : Int} (h : c.Fits) (hr : 0 ≤ c.r ∧ c.r ≤ 7) (hn : 0 ≤ n ∧ n ≤ 7) (hv : 0 ≤ v ∧ v ≤ 18446744073709551615) : (mintC c n v).Fits := by
  refine ⟨h.k, h.o, ?_, ?_, h.g, h.z⟩
  · show -9223372036854775808 ≤ (if Lim c.k then bits .and .i64 c.r n else c.r) ∧ (if Lim c.k then bits .and .i64 c.r n else c.r) ≤ 9223372036854775807
    split
    · have := and_le hr hn; omega
    · exact h.r
  · show 0 ≤ (if v = 0 then c.b else v) ∧ (if v = 0 then c.b else v) ≤ 18446744073709551615
    split
    · exact h.b
    · exact hv
theorem mint_der {c : Cp} {n v : Int} (hk : c.k ≠ 0) (hr : 0 ≤ c.r ∧ c.r ≤ 7) (hn : 0 ≤ n ∧ n ≤ 7) (hb : c.b = 0 ∨ v = 0) : derB c (mintC c n v) = true := by
  have e1 : sameB c (mintC c n v) = true := by simp [sameB, mintC, hk]
  have e2 : bits .andNot .i64 (mintC c n v).r c.r = 0 := by
    show bits .andNot .i64 (if Lim c.k then bits .and .i64 c.r n else c.r) c.r = 0
    split
    · exact and_not hr hn
    · exact not_self hr
  have e3 : c.b = 0 ∨ c.b = (mintC c n v).b := by
    rcases hb with h | h
    · exact .inl h
    · refine .inr ?_
      show c.b = if v = 0 then c.b else v
      rw [if_pos h]
  simp only [derB, e1, Bool.true_and, Bool.and_eq_true, decide_eq_true_eq]
  exact ⟨e2, e3⟩
theorem derB_iff {p c : Cp} : derB p c = true ↔ (p.k ≠ 0 ∧ p.k = c.k ∧ p.o = c.o) ∧ bits .andNot .i64 c.r p.r = 0 ∧ (p.b = 0 ∨ p.b = c.b) := by
  simp only [derB, sameB, Bool.and_eq_true, decide_eq_true_eq]
theorem der_trans {a b c : Cp} (ha : 0 ≤ a.r ∧ a.r ≤ 7) (hb : 0 ≤ b.r ∧ b.r ≤ 7) (hc : 0 ≤ c.r ∧ c.r ≤ 7) (h1 : derB a b = true) (h2 : derB b c = true) : derB a c = true := by
  obtain ⟨⟨p1, p2, p3⟩, p4, p5⟩ := derB_iff.1 h1
  obtain ⟨⟨q1, q2, q3⟩, q4, q5⟩ := derB_iff.1 h2
  refine derB_iff.2 ⟨⟨p1, p2.trans q2, p3.trans q3⟩, not_trans ha hb hc p4 q4, ?_⟩
  rcases p5 with h | h
  · exact .inl h
  · rcases q5 with g | g
    · exact .inl (h.trans g)
    · exact .inr (h.trans g)
theorem fine_rights {c : Cp} (h : Fine c) : 0 ≤ c.r ∧ c.r ≤ 7 := by
  have := fine_word h
  omega
end Go.Proofs.YtokehmkegnmfdaaDoor
