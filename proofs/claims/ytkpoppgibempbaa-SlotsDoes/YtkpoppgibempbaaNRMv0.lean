/-
  What stays behind a write into the document's own nodes answers and leaves; no condition of ours.
-/
import Derived.Test.YtkpoppgibempbaaNRTake
namespace Go.Proofs.Ytkpoppgibempbaa
open Go.RowKit Go.Deep Go.MapKept Go.Maps
set_option linter.unusedSectionVars false
variable [dCp : DecidableEq Cp] [dLim : ∀ k, Decidable (Lim k)] [dBad : ∀ k, Decidable (Bad k)] [dFit : ∀ g z, Decidable (Fit g z)] [dFine : ∀ c, Decidable (Fine c)] [dMint : ∀ c v, Decidable (MintR c v)] [dWho : ∀ x y, Decidable (Whose x y)] [dSl : DecidableEq Sl] [dLt : ∀ a b, Decidable (ltS a b)] [iSl : Inhabited Sl] [iCp : Inhabited Cp]

theorem RB.put {w0 W : World} {p : Nat} {F : Nat → Prop} {S : St} {L : List (Nat × Obj)} (h : RB w0 W p F S L) {n i : Nat} {d : Cp} (hs : Proofs.Ytkpoppgibempbaa.atS S ⟨(n : Int), (i : Int)⟩ = some d) {b m : Nat} {v : Value} {H : List Value} (hr : RN W p v H F S) (hh : H[n]? = some (.slice (some ⟨b, 0, none⟩) m m)) {c : Cp} (hc : c.Fits) (h0 : c.k = 0 → c = no) : RB w0 (put6 W b (i * 6) c) p F (setS S ⟨(n : Int), (i : Int)⟩ c) L := by
  obtain ⟨k, t⟩ := hr.set hs hh hc h0
  refine ⟨⟨v, H, k⟩, h.turn.trans t fun _ hx => .inl hx, h.lt, fun x hx => ?_⟩
  obtain ⟨k1, k2⟩ := h.blk x hx
  exact ⟨(t.block _ (Array.getElem?_eq_some_iff.1 k1).1 fun hf => by have := h.lt _ hf; omega).trans k1, k2⟩
theorem RN.drew {w : World} {p : Nat} {v : Value} {H : List Value} {F : Nat → Prop} {S : St} (h : RN w p v H F S) : RN w.drew p v H F S := h.below ((Below.refl _ _).drew)
theorem cell_other {W : World} {b o k : Nat} (c : Cp) (hk : k ≠ b) (j : Nat) : (put6 W b o c).cell? ⟨k, j, none⟩ = W.cell? ⟨k, j, none⟩ := by
  simp only [World.cell?, put6_other _ _ _ _ _ hk]
/-- Behind a write into one slot the way to another one is as it was. -/
theorem after_put {W : World} {p r N : Nat} {F : Nat → Prop} {S : St} {v : Value} {H : List Value} {n i n2 i2 g cap b m b2 m2 : Nat} {c d e : Cp} (h : RN W p v H F S) (hx : atS S ⟨(n : Int), (i : Int)⟩ = some c) (hy : atS S ⟨(n2 : Int), (i2 : Int)⟩ = some d) (hne : (⟨(n : Int), (i : Int)⟩ : Sl) ≠ ⟨(n2 : Int), (i2 : Int)⟩) (hh : H[n]? = some (.slice (some ⟨b, 0, none⟩) m m)) (hh2 : H[n2]? = some (.slice (some ⟨b2, 0, none⟩) m2 m2)) (hlt : ∀ x, F x → x < r) (he : e.Fits) (h0 : e.k = 0 → e = no)
    (q : W.cell? ⟨p, 0, none⟩ = some (.slice (some ⟨g, 0, none⟩) N cap) ∧ W.cell? ⟨g, n, none⟩ = some (.slice (some ⟨b, 0, none⟩) m m) ∧ W.cell? ⟨g, n2, none⟩ = some (.slice (some ⟨b2, 0, none⟩) m2 m2) ∧ W.cell? ⟨r, 0, none⟩ = some (.int .i64 (n : Int)) ∧ W.cell? ⟨r, 1, none⟩ = some (.int .i64 (i : Int)) ∧ W.cell? ⟨r + 1, 0, none⟩ = some (.int .i64 (n2 : Int)) ∧ W.cell? ⟨r + 1, 1, none⟩ = some (.int .i64 (i2 : Int)) ∧ W.cell? ⟨b, i * 6, none⟩ = some (.int .i64 c.k) ∧ W.cell? ⟨b, i * 6 + 1, none⟩ = some (.int .i64 c.o) ∧ W.cell? ⟨b, i * 6 + 2, none⟩ = some (.int .i64 c.r) ∧ W.cell? ⟨b, i * 6 + 3, none⟩ = some (.int .u64 c.b) ∧ W.cell? ⟨b, i * 6 + 4, none⟩ = some (.int .u64 c.g) ∧ W.cell? ⟨b, i * 6 + 5, none⟩ = some (.int .i64 c.z)) : (put6 W b2 (i2 * 6) e).cell? ⟨p, 0, none⟩ = some (.slice (some ⟨g, 0, none⟩) N cap) ∧ (put6 W b2 (i2 * 6) e).cell? ⟨g, n, none⟩ = some (.slice (some ⟨b, 0, none⟩) m m) ∧ (put6 W b2 (i2 * 6) e).cell? ⟨g, n2, none⟩ = some (.slice (some ⟨b2, 0, none⟩) m2 m2) ∧ (put6 W b2 (i2 * 6) e).cell? ⟨r, 0, none⟩ = some (.int .i64 (n : Int)) ∧ (put6 W b2 (i2 * 6) e).cell? ⟨r, 1, none⟩ = some (.int .i64 (i : Int)) ∧ (put6 W b2 (i2 * 6) e).cell? ⟨r + 1, 0, none⟩ = some (.int .i64 (n2 : Int)) ∧ (put6 W b2 (i2 * 6) e).cell? ⟨r + 1, 1, none⟩ = some (.int .i64 (i2 : Int)) ∧ (put6 W b2 (i2 * 6) e).cell? ⟨b, i * 6, none⟩ = some (.int .i64 c.k) ∧ (put6 W b2 (i2 * 6) e).cell? ⟨b, i * 6 + 1, none⟩ = some (.int .i64 c.o) ∧ (put6 W b2 (i2 * 6) e).cell? ⟨b, i * 6 + 2, none⟩ = some (.int .i64 c.r) ∧ (put6 W b2 (i2 * 6) e).cell? ⟨b, i * 6 + 3, none⟩ = some (.int .u64 c.b) ∧ (put6 W b2 (i2 * 6) e).cell? ⟨b, i * 6 + 4, none⟩ = some (.int .u64 c.g) ∧ (put6 W b2 (i2 * 6) e).cell? ⟨b, i * 6 + 5, none⟩ = some (.int .i64 c.z) := by
  obtain ⟨c0, c1, c1', s0, s1, t0, t1, _⟩ := q
  obtain ⟨k, t⟩ := h.set hy hh2 he h0
  have hat : atS (setS S ⟨(n2 : Int), (i2 : Int)⟩ e) ⟨(n : Int), (i : Int)⟩ = some c := by rw [atS_set hy, if_neg hne, hx]
  obtain ⟨g', cap', b', m', hp', _, _, _, hh', _⟩ := k.path hat
  rw [hh] at hh'
  cases hh'
  have e0 : W.cell? ⟨p, 0, none⟩ = some v := by simp [World.cell?, h.head]
  have e1 : (put6 W b2 (i2 * 6) e).cell? ⟨p, 0, none⟩ = some v := by simp [World.cell?, k.head]
  have ev : v = .slice (some ⟨g, 0, none⟩) N cap := Option.some.inj (e0.symm.trans c0)
  have hb2 : F b2 ∧ b2 ≠ p ∧ v.ownBlock ≠ some b2 := by
    obtain ⟨_, _, h3, _, h5, _⟩ := atS_mem hy
    simp only [Int.toNat_natCast] at h3 h5
    have hl : S[n2]? = some (S.getD n2 []) := by rw [List.getD_eq_getElem?_getD, List.getElem?_eq_getElem h3]; rfl
    rcases h.each n2 _ hl with ⟨e, _⟩ | ⟨b', _, hh', _, hF, hp, hv⟩
    · rw [e] at h5; simp at h5
    · rw [hh2] at hh'
      cases hh'
      exact ⟨hF, hp, hv⟩
  obtain ⟨hF, hp, hv⟩ := hb2
  have hg : g ≠ b2 := fun e => hv (by rw [ev, e]; rfl)
  have hr := hlt b2 hF
  have z := hp'.c0
  rw [e1, ev] at z
  simp only [Option.some.injEq, Value.slice.injEq, Addr.mk.injEq, and_true] at z
  obtain ⟨rfl, _, rfl⟩ := z
  exact ⟨(cell_other e (Ne.symm hp) 0).trans c0, hp'.c1, (cell_other e hg n2).trans c1', (cell_other e (by omega) 0).trans s0, (cell_other e (by omega) 1).trans s1, (cell_other e (by omega) 0).trans t0, (cell_other e (by omega) 1).trans t1, hp'.z0, hp'.z1, hp'.z2, hp'.z3, hp'.z4, hp'.z5⟩
theorem n_drew {W : World} {p g N cap n b m n2 b2 m2 r i i2 : Nat} {c : Cp} (h : W.cell? ⟨p, 0, none⟩ = some (.slice (some ⟨g, 0, none⟩) N cap) ∧ W.cell? ⟨g, n, none⟩ = some (.slice (some ⟨b, 0, none⟩) m m) ∧ W.cell? ⟨g, n2, none⟩ = some (.slice (some ⟨b2, 0, none⟩) m2 m2) ∧ W.cell? ⟨r, 0, none⟩ = some (.int .i64 (n : Int)) ∧ W.cell? ⟨r, 1, none⟩ = some (.int .i64 (i : Int)) ∧ W.cell? ⟨r + 1, 0, none⟩ = some (.int .i64 (n2 : Int)) ∧ W.cell? ⟨r + 1, 1, none⟩ = some (.int .i64 (i2 : Int)) ∧ W.cell? ⟨b, i * 6, none⟩ = some (.int .i64 c.k) ∧ W.cell? ⟨b, i * 6 + 1, none⟩ = some (.int .i64 c.o) ∧ W.cell? ⟨b, i * 6 + 2, none⟩ = some (.int .i64 c.r) ∧ W.cell? ⟨b, i * 6 + 3, none⟩ = some (.int .u64 c.b) ∧ W.cell? ⟨b, i * 6 + 4, none⟩ = some (.int .u64 c.g) ∧ W.cell? ⟨b, i * 6 + 5, none⟩ = some (.int .i64 c.z)) : W.drew.cell? ⟨p, 0, none⟩ = some (.slice (some ⟨g, 0, none⟩) N cap) ∧ W.drew.cell? ⟨g, n, none⟩ = some (.slice (some ⟨b, 0, none⟩) m m) ∧ W.drew.cell? ⟨g, n2, none⟩ = some (.slice (some ⟨b2, 0, none⟩) m2 m2) ∧ W.drew.cell? ⟨r, 0, none⟩ = some (.int .i64 (n : Int)) ∧ W.drew.cell? ⟨r, 1, none⟩ = some (.int .i64 (i : Int)) ∧ W.drew.cell? ⟨r + 1, 0, none⟩ = some (.int .i64 (n2 : Int)) ∧ W.drew.cell? ⟨r + 1, 1, none⟩ = some (.int .i64 (i2 : Int)) ∧ W.drew.cell? ⟨b, i * 6, none⟩ = some (.int .i64 c.k) ∧ W.drew.cell? ⟨b, i * 6 + 1, none⟩ = some (.int .i64 c.o) ∧ W.drew.cell? ⟨b, i * 6 + 2, none⟩ = some (.int .i64 c.r) ∧ W.drew.cell? ⟨b, i * 6 + 3, none⟩ = some (.int .u64 c.b) ∧ W.drew.cell? ⟨b, i * 6 + 4, none⟩ = some (.int .u64 c.g) ∧ W.drew.cell? ⟨b, i * 6 + 5, none⟩ = some (.int .i64 c.z) := h
end Go.Proofs.Ytkpoppgibempbaa
