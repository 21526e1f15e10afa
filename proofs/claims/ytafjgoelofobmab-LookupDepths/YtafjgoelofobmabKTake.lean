/-
  What take and sizeOf of package lookup answer; an address of which bits are taken off lies in a block of its own; no condition of ours.
-/
import Derived.Test.YtafjgoelofobmabKFields
import Derived.Test.YtafjgoelofobmabKMath
import Derived.Test.YtafjgoelofobmabNPut
namespace Go.Proofs.Ytafjgoelofobmab
open Go.RowKit Go.Deep Go.MapKept Go.Maps
set_option linter.unusedSectionVars false
variable [dCp : DecidableEq Cp] [dLim : ∀ k, Decidable (Lim k)] [dBad : ∀ k, Decidable (Bad k)] [dFit : ∀ g z, Decidable (Fit g z)] [dFine : ∀ c, Decidable (Fine c)] [dMint : ∀ c v, Decidable (MintR c v)] [dWho : ∀ x y, Decidable (Whose x y)] [dSl : DecidableEq Sl] [dLt : ∀ a b, Decidable (ltS a b)] [dIsN : ∀ S c, Decidable (isN S c)] [dGuN : ∀ a c d, Decidable (GuardN a c d)]

def objA (a d : Int) : Obj := .cells #[.int .u64 a, .int .i64 d] 55
/-- Block q is the address a, of which d bits count. -/
def AtA (w : World) (q : Nat) (a d : Int) : Prop := w.heap[q]? = some (objA a d)
theorem AtA.lt {w : World} {q : Nat} {a d : Int} (h : AtA w q a d) : q < w.heap.size := (Array.getElem?_eq_some_iff.1 h).1
theorem AtA.new (w : World) (a d : Int) : AtA (w.alloc (objA a d)) w.heap.size a d := blk_alloc_new _ _
theorem AtA.below {w w' : World} {q : Nat} {a d : Int} (h : AtA w q a d) (u : Below w.heap.size w w') : AtA w' q a d := (u.block _ h.lt).trans h
theorem AtA.cells {w : World} {q : Nat} {a d : Int} (h : AtA w q a d) : w.cell? ⟨q, 0, none⟩ = some (.int .u64 a) ∧ w.cell? ⟨q, 1, none⟩ = some (.int .i64 d) ∧ w.frozen? ⟨q, 0, none⟩ = false ∧ w.frozen? ⟨q, 1, none⟩ = false := by
  unfold AtA objA at h
  refine ⟨?_, ?_, ?_, ?_⟩ <;> simp [World.cell?, World.frozen?, h]
theorem AtA.set1 {w : World} {q : Nat} {a d : Int} (h : AtA w q a d) (e : Int) : AtA (w.setCell ⟨q, 1, none⟩ (.int .i64 e)) q a e := by
  unfold AtA objA at h ⊢
  simp only [World.setCell, Array.getElem?_modify, h, Option.map_some]
  simp
theorem AtA.set0 {w : World} {q : Nat} {a d : Int} (h : AtA w q a d) (e : Int) : AtA (w.setCell ⟨q, 0, none⟩ (.int .u64 e)) q e d := by
  unfold AtA objA at h ⊢
  simp only [World.setCell, Array.getElem?_modify, h, Option.map_some]
  simp
def One (q : Nat) : Nat → Prop := fun x => x = q
theorem take_no (q : Nat) (a d b : Int) (w : World) (h : AtA w q a d) (hb : d < b) :
    Calls Try.prog 13 #[.pointer (some ⟨q, 0, none⟩), .int .i64 b] w fun e w' => e = .returned (.tuple #[.int .u64 0, .bool false]) ∧ w' = w := by
  obtain ⟨c0, c1, f0, f1⟩ := h.cells
  clear h
  go_enter Try.func13, Try.ntmps13
  go_wp2
  all_goals go_ret2
  all_goals exact ⟨rfl, rfl⟩
theorem take_yes (q : Nat) (a d b : Int) (w : World) (h : AtA w q a d) (a0 : 0 ≤ a) (a1 : a ≤ 18446744073709551615) (b0 : 0 ≤ b) (hb : b ≤ d) (hd : d ≤ 64) :
    Calls Try.prog 13 #[.pointer (some ⟨q, 0, none⟩), .int .i64 b] w fun e w' => e = .returned (.tuple #[.int .u64 (fieldI a (d - b) b), .bool true]) ∧ AtA w' q a (d - b) ∧ Turn (One q) w w' := by
  obtain ⟨c0, c1, f0, f1⟩ := h.cells
  have k := h.set1 (d - b)
  have K : Hid (AtA (w.setCell ⟨q, 1, none⟩ (.int .i64 (d - b))) q a (d - b) ∧ Turn (One q) w (w.setCell ⟨q, 1, none⟩ (.int .i64 (d - b)))) := ⟨k, Turn.setCell _ w ⟨q, 1, none⟩ _ rfl⟩
  obtain ⟨e0, e1, g0, g1⟩ := k.cells
  clear h k
  have fc := fun W => field_yes a (d - b) b W a0 a1 (by omega) b0 (by omega)
  go_enter Try.func13, Try.ntmps13
  go_wp2
  generalize w.setCell ⟨q, 1, none⟩ (.int .i64 (d - b)) = w2 at *
  go_quiet ((go_at_call 24; refine Calls.quiet_of_same (fc _)))
  go_wp2
  go_ret2
  exact ⟨rfl, K.out.1, K.out.2.os, K.out.2.tape, K.out.2.output, K.out.2.size, K.out.2.block⟩

/-! ### sizeOf -/
def sizeC (S : St) (c : Cp) : Int := if isN S c then bitsN S c else 0
theorem sizeN_is {S : St} {c : Cp} (h : nodeS S c.o ≠ []) : sizeN S c.o = bitsN S c ∧ sizeB S c.o = true := by
  unfold sizeN sizeB bitsN
  rw [if_neg h]
  refine ⟨rfl, ?_⟩
  cases hS : nodeS S c.o with
  | nil => exact absurd hS h
  | cons => rfl
theorem sizeN_no {S : St} {c : Cp} (h : ¬ nodeS S c.o ≠ []) : sizeN S c.o = 0 ∧ sizeB S c.o = false := by
  have h' : nodeS S c.o = [] := Decidable.not_not.1 h
  unfold sizeN sizeB
  rw [h']
  exact ⟨rfl, rfl⟩
theorem sizeOf_any (p : Nat) (F : Nat → Prop) (S : St) (c : Cp) (w : World) (h : Nds w p F S) (hf : c.Fits) :
    Calls Try.prog 25 #[.pointer (some ⟨p, 0, none⟩), encC c] w fun e w' => e = .returned (.tuple #[.int .i64 (sizeC S c), .bool (decide (isN S c))]) ∧ Below w.heap.size w w' := by
  have H : Hid (Nds w p F S ∧ c.Fits) := ⟨h, hf⟩
  have b1 := below_new w (objC c)
  have a1 := AtC.new w c
  have B1 : Hid (Below w.heap.size w (w.alloc (objC c))) := b1
  have A1 : Hid (AtC (w.alloc (objC c)) w.heap.size c) := a1
  obtain ⟨z0, z1, z2, z3, z4, z5⟩ := a1.cells
  clear h hf a1 b1
  by_cases hk : c.k = 2
  · have hk' : (c.k != 2) = false := by simp [hk]
    have HK : Hid (c.k = 2) := hk
    clear hk
    simp only [encC, objC] at *
    go_enter Try.func25, Try.ntmps25
    go_wp2_with fail
    refine (check_any c _ H.out.2).mono ?_
    rintro e w2 ⟨rfl, b2⟩
    have B2 : Hid (Below w.heap.size w w2) := Below.then B1.out b2 B1.out.size
    have a2 := AtC.below A1.out b2
    clear z0 z1 z2 z3 z4 z5 A1 B1 b2
    generalize hr0 : w.heap.size = r at *
    have HR : Hid (w.heap.size = r) := hr0
    clear hr0
    obtain ⟨z0, z1, z2, z3, z4, z5⟩ := a2.cells
    clear a2
    by_cases hF : Fine c
    · have e1 : checkE c = 0 := by simp [checkE, hF]
      rw [e1]
      have HF : Hid (Fine c) := hF
      clear e1 hF
      go_wp2_with fail
      refine (size_any p F S c.o w2 (H.out.1.below (by rw [HR.out]; exact B2.out))).mono ?_
      rintro e w3 ⟨rfl, rfl⟩
      by_cases hn : nodeS S c.o ≠ []
      · have hi : isN S c := ⟨HK.out, HF.out, hn⟩
        obtain ⟨e1, e2⟩ := sizeN_is hn
        rw [e1, e2]
        have e3 : sizeC S c = bitsN S c := by unfold sizeC; rw [if_pos hi]
        have E : Hid (sizeC S c = bitsN S c ∧ decide (isN S c) = true) := ⟨e3, by simp [hi]⟩
        clear e1 e2 e3 hn hi
        go_wp2
        all_goals go_ret2
        all_goals exact ⟨by rw [E.out.1, E.out.2]; rfl, by rw [HR.out]; exact B2.out⟩
      · have hi : ¬ isN S c := fun h => hn h.2.2
        obtain ⟨e1, e2⟩ := sizeN_no hn
        rw [e1, e2]
        have E : Hid (sizeC S c = 0 ∧ decide (isN S c) = false) := ⟨by unfold sizeC; rw [if_neg hi], by simp [hi]⟩
        clear e1 e2 hn hi
        go_wp2
        all_goals go_ret2
        all_goals exact ⟨by rw [E.out.1, E.out.2]; rfl, by rw [HR.out]; exact B2.out⟩
    · have e1 : checkE c = 40 := by simp [checkE, hF]
      rw [e1]
      have hi : ¬ isN S c := fun h => hF h.2.1
      have E : Hid (sizeC S c = 0 ∧ decide (isN S c) = false) := ⟨by unfold sizeC; rw [if_neg hi], by simp [hi]⟩
      clear e1 hF hi
      go_wp2
      all_goals go_ret2
      all_goals exact ⟨by rw [E.out.1, E.out.2]; rfl, by rw [HR.out]; exact B2.out⟩
  · have hk' : (c.k != 2) = true := by simp [hk]
    have hi : ¬ isN S c := fun h => hk h.1
    have E : Hid (sizeC S c = 0 ∧ decide (isN S c) = false) := ⟨by unfold sizeC; rw [if_neg hi], by simp [hi]⟩
    clear hi hk
    simp only [encC, objC] at *
    go_enter Try.func25, Try.ntmps25
    go_wp2
    all_goals go_ret2
    all_goals exact ⟨by rw [E.out.1, E.out.2]; rfl, B1.out⟩
end Go.Proofs.Ytafjgoelofobmab
