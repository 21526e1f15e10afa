/-
  What is held, told beside both sides' nodes: the list is the call's own, and stays; no condition of ours.
-/
import Derived.Test.YtafjgoelofobmaaKCalls
import Derived.Test.YtafjgoelofobmaaNSame
import Derived.Test.YtafjgoelofobmaaNRHeld
namespace Go.Proofs.Ytafjgoelofobmaa
open Go.RowKit Go.Deep Go.MapKept Go.Maps
set_option linter.unusedSectionVars false
variable [dCp : DecidableEq Cp] [dLim : ∀ k, Decidable (Lim k)] [dBad : ∀ k, Decidable (Bad k)] [dFit : ∀ g z, Decidable (Fit g z)] [dFine : ∀ c, Decidable (Fine c)] [dMint : ∀ c v, Decidable (MintR c v)] [dWho : ∀ x y, Decidable (Whose x y)] [dSl : DecidableEq Sl] [dLt : ∀ a b, Decidable (ltS a b)] [dIsN : ∀ S c, Decidable (isN S c)] [dGuN : ∀ a c d, Decidable (GuardN a c d)] [iSl : Inhabited Sl] [iCp : Inhabited Cp]
section
variable {w0 : World} {r : Nat} {w w' : World} {p : Nat} {F : Nat → Prop} {p2 : Nat} {F2 : Nat → Prop} {S T : St} {L : List (Nat × Obj)} {v : Value} {A : List (Sl × Cp)}
/-- The list's own block, if it has one, stands among the caller's. -/
theorem Bk.held (h : Bk w0 r w p F p2 F2 S T L) (o : OwnH w.heap.size w' v A) (b : Below w.heap.size w w') : ∃ (L1 : List (Nat × Obj)) (ao : Option Addr) (cap : Nat), v = .slice ao A.length cap ∧ Bk w0 r w' p F p2 F2 S T (L1 ++ L) ∧ ∀ W, (∀ x ∈ L1, W.heap[x.1]? = some x.2) → OwnH 0 W (.slice ao A.length cap) A := by
  have k := h.below b
  rcases o.2 with ⟨hv, hn⟩ | ⟨g, cap, cur, rfl, hg, hc, rest⟩
  · subst hv
    refine ⟨[], none, 0, by rw [hn], k, fun W _ => ?_⟩
    obtain rfl : A = [] := List.eq_nil_of_length_eq_zero hn
    exact World.ownsRow_nil _ _ _ _
  · refine ⟨[(g, .cells cur 66 (0, 0))], some ⟨g, 0, none⟩, cap, rfl, { k with blk := fun x hx => ?_ }, fun W hW => ?_⟩
    · rcases List.mem_append.1 hx with hx | hx
      · obtain rfl := List.mem_singleton.1 hx
        exact ⟨hc, fun hf => by have := h.nds.lt _ hf; simp only at this; omega, fun hf => by have := h.rds.lt _ hf; simp only at this; omega⟩
      · exact k.blk x hx
    · refine ⟨o.1, .inr ⟨g, cap, cur, rfl, Nat.zero_le _, ?_, rest⟩⟩
      exact hW (g, .cells cur 66 (0, 0)) (by simp)
end
section
variable {w : World} {p : Nat} {F : Nat → Prop} {S : St} {c : Cp} {a d : Int}
theorem rslot_is {s : Sl} {en : Int} (h : Rds w p F S) (hf : c.Fits) (ha : 0 ≤ a ∧ a ≤ 18446744073709551615) (hv : slotR S c a d = (s, en)) :
    Calls Try.prog 11 #[.pointer (some ⟨p, 0, none⟩), encC c, .int .u64 a, .int .i64 d] w fun e w' => e = .returned (.tuple #[encS s, .int .i64 en]) ∧ RLeaves w p F S w' := by
  have := rslot_any p F S c a d w h hf ha
  rwa [hv] at this
theorem rcap_is {s : Cp} {en : Int} (h : Rds w p F S) (hf : c.Fits) (ha : 0 ≤ a ∧ a ≤ 18446744073709551615) (hv : capR S c a d = (s, en)) :
    Calls Try.prog 13 #[.pointer (some ⟨p, 0, none⟩), encC c, .int .u64 a, .int .i64 d] w fun e w' => e = .returned (.tuple #[encC s, .int .i64 en]) ∧ RLeaves w p F S w' := by
  have := rcap_any p F S c a d w h hf ha
  rwa [hv] at this
theorem eq_cap_same (W : World) (c : Cp) : (Op.equalIn 10000 28 (.agg #[.int .i64 c.k, .int .i64 c.o, .int .i64 c.r, .int .u64 c.b, .int .u64 c.g, .int .i64 c.z]) (.agg #[.int .i64 c.k, .int .i64 c.o, .int .i64 c.r, .int .u64 c.b, .int .u64 c.g, .int .i64 c.z])).run Try.prog W = .ok true W := by
  have h := eq_caps W c c
  simpa using h
theorem eq_slot_same (W : World) (s : Sl) : (Op.equalIn 10000 36 (.agg #[.int .i64 s.n, .int .i64 s.i]) (.agg #[.int .i64 s.n, .int .i64 s.i])).run Try.prog W = .ok true W := by
  have h := eq_slots W s s
  simpa using h
end
end Go.Proofs.Ytafjgoelofobmaa
