/-
  Calls of package lookup and of the document's answer where their answers have names; what else stands between an address and its slot; no condition but that the numbers fit.
-/
import Derived.Test.YtafjgoelofobmaaKFrame
import Derived.Test.YtafjgoelofobmaaKRSlot
namespace Go.Proofs.Ytafjgoelofobmaa
open Go.RowKit Go.Deep Go.MapKept Go.Maps
set_option linter.unusedSectionVars false
variable [dCp : DecidableEq Cp] [dLim : ∀ k, Decidable (Lim k)] [dBad : ∀ k, Decidable (Bad k)] [dFit : ∀ g z, Decidable (Fit g z)] [dFine : ∀ c, Decidable (Fine c)] [dMint : ∀ c v, Decidable (MintR c v)] [dWho : ∀ x y, Decidable (Whose x y)] [dSl : DecidableEq Sl] [dLt : ∀ a b, Decidable (ltS a b)] [dIsN : ∀ S c, Decidable (isN S c)] [dGuN : ∀ a c d, Decidable (GuardN a c d)]

section
variable {w : World} {p : Nat} {F : Nat → Prop} {S : St} {c : Cp} {a d : Int}
theorem slot_is {s : Sl} {en : Int} (h : Nds w p F S) (hf : c.Fits) (ha : 0 ≤ a ∧ a ≤ 18446744073709551615) (hv : slotR S c a d = (s, en)) :
    Calls Try.prog 10 #[.pointer (some ⟨p, 0, none⟩), encC c, .int .u64 a, .int .i64 d] w fun e w' => e = .returned (.tuple #[encS s, .int .i64 en]) ∧ Below w.heap.size w w' := by
  have := slot_any p F S c a d w h hf ha
  rwa [hv] at this
theorem cap_is {s : Cp} {en : Int} (h : Nds w p F S) (hf : c.Fits) (ha : 0 ≤ a ∧ a ≤ 18446744073709551615) (hv : capR S c a d = (s, en)) :
    Calls Try.prog 12 #[.pointer (some ⟨p, 0, none⟩), encC c, .int .u64 a, .int .i64 d] w fun e w' => e = .returned (.tuple #[encC s, .int .i64 en]) ∧ Below w.heap.size w w' := by
  have := cap_any p F S c a d w h hf ha
  rwa [hv] at this
end
theorem slot_sl0 {S : St} {c : Cp} {a d : Int} {s : Sl} {en : Int} (hv : slotR S c a d = (s, en)) (he : en ≠ 0) : s = sl0 := by
  have := slotR_err (S := S) (c := c) (a := a) (d := d) (by rw [hv]; exact he)
  rwa [hv] at this
theorem slot_there {S : St} (ok : Okay S) {c : Cp} {a d : Int} {s : Sl} (hv : slotR S c a d = (s, 0)) : (atS S s).isSome = true := by
  have := slotR_at ok (c := c) (a := a) (d := d) (by rw [hv])
  rwa [hv] at this
theorem slot_small {S : St} (ok : Okay S) {c : Cp} {a d : Int} {s : Sl} {en : Int} (hv : slotR S c a d = (s, en)) : s.Fits := by
  have := slotR_small ok (c := c) (a := a) (d := d)
  rw [hv] at this
  exact fits_small this
theorem slot_isN {S : St} {c : Cp} {a d : Int} {s : Sl} (hv : slotR S c a d = (s, 0)) : isN S c ∧ GuardN a.toNat c d.toNat := slotR_root (by rw [hv])
/-- What is in the slot: as its own call says. -/
theorem cap_of {S : St} (ok : Okay S) {c : Cp} {a d : Int} {s : Sl} {en : Int} (hv : slotR S c a d = (s, en)) : capR S c a d = (if en = 0 then getC S s else no, en) := by
  unfold capR
  rw [hv]
  by_cases he : en = 0
  · subst he
    have hs := slot_there ok hv
    simp only [if_true]
    unfold getE
    rw [if_pos hs]
  · simp only [he, if_false]
/-- With another guard at the root nothing is named. -/
theorem xor_one (g : Nat) : (g ^^^ 1) ≠ g := fun h => by
  have := congrArg (fun v => Nat.testBit v 0) h
  simp at this
  omega
theorem other_guard {S : St} {c : Cp} {a d : Int} {s : Sl} (hc : c.Fits) (hv : slotR S c a d = (s, 0)) (hz : c.z ≠ 0) : slotR S { c with g := bits .xor .u64 c.g 1 } a d = (sl0, 61) ∧ Cp.Fits { c with g := bits .xor .u64 c.g 1 } := by
  obtain ⟨h1, h2⟩ := slot_isN hv
  obtain ⟨g1, g2, g3⟩ := fine_guard h1.2.1
  obtain ⟨G, hG⟩ := Int.eq_ofNat_of_zero_le hc.g.1
  obtain ⟨Z, hZ⟩ := Int.eq_ofNat_of_zero_le g1
  have hg := hc.g.2
  have gl := guard_lt h1.2.1
  have hx : bits .xor .u64 c.g 1 = ((G ^^^ 1 : Nat) : Int) := by
    rw [hG]
    exact u64_xor_nat G 1 (by omega) (by omega)
  rw [hx]
  rw [hG, hZ] at gl
  simp only [Int.toNat_natCast] at gl
  have hl : G ^^^ 1 < 2 ^ Z := Nat.xor_lt_two_pow gl (by
    have : 2 ^ 1 ≤ 2 ^ Z := Nat.pow_le_pow_right (by omega) (by omega)
    omega)
  have hp := pow_le Z (by omega)
  have hfits : Cp.Fits { c with g := ((G ^^^ 1 : Nat) : Int) } := { hc with g := ⟨by simp only; omega, by simp only; omega⟩ }
  refine ⟨?_, hfits⟩
  have hon := ones_cast Z
  have hN : isN S { c with g := ((G ^^^ 1 : Nat) : Int) } := by
    refine ⟨h1.1, ?_, h1.2.2⟩
    obtain ⟨f1, f2, f3, f4, f5, f6, f7⟩ := h1.2.1.of_ne (by have := h1.1; omega)
    refine .inr ⟨f1, f2, f3, f4, f5, .inr h1.1, f7.1, f7.2.1, ?_⟩
    simp only
    rw [hZ, hon]
    omega
  have hG2 : ¬ GuardN a.toNat { c with g := ((G ^^^ 1 : Nat) : Int) } d.toNat := fun h => by
    have e1 := h.2
    have e2 := h2.2
    simp only at e1
    rw [e2, hG] at e1
    have : G = (G ^^^ 1) := by omega
    exact xor_one G this.symm
  have hd : 1 ≤ d ∧ d ≤ 64 := by
    unfold slotR at hv
    split at hv
    · assumption
    · cases hv
  have e : nameE S a.toNat { c with g := ((G ^^^ 1 : Nat) : Int) } d.toNat = 61 := by
    unfold nameE
    rw [if_pos hN, if_neg hG2]
  unfold slotR
  rw [if_pos hd]
  unfold look
  rw [e]
  rfl
end Go.Proofs.Ytafjgoelofobmaa
