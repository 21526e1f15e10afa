/-
  A list of items cut behind its first ones, and from one on; no condition of ours.
-/
import Derived.Test.YtkbbjpnkfmegnaaSLaw
namespace Go.Proofs.Ytkbbjpnkfmegnaa
open Go.RowKit Go.Deep
theorem run_cut_items (ao : Option Addr) (n cap : Nat) (k : IntKind) (m : Nat) (hm : m ≤ cap) (w : World) :
    (Instr.slice 24 (.slice ao n cap) none (some (.int k m)) none).run Try.prog w = .ok (.slice ao m cap) w := by
  cases ao <;> simp [Instr.slice, Instr.sliceBounds, Instr.sliceBound, asIntOf, run_underlying Try.underlying24, Addr.add_zero', Sem.run_bind, Result.andThen] <;> rw [if_pos (by omega)]
/-- Where a list from place k on lies. -/
def tailAt (ao : Option Addr) (cap k : Nat) : Option Addr := if cap = k then ao else ao.map (·.add (k * 4))
theorem run_tail_items (ao : Option Addr) (n cap : Nat) (k : IntKind) (m : Nat) (hm : m ≤ n) (w : World) :
    (Instr.slice 24 (.slice ao n cap) (some (.int k m)) none none).run Try.prog w = .ok (.slice (tailAt ao cap m) (n - m) (cap - m)) w := by
  simp [Instr.slice, Instr.sliceBounds, Instr.sliceBound, asIntOf, run_underlying Try.underlying24, tailAt, Sem.run_bind, Result.andThen]
  rw [if_pos (by omega)]
theorem told_tail {w : World} {ao : Option Addr} {L : List It} (h : ToldI w ao L) (cap k : Nat) (hc : L.length ≤ cap) : ToldI w (tailAt ao cap k) (L.drop k) := by
  by_cases hk : L.length ≤ k
  · exact .inl (List.drop_of_length_le hk)
  · rcases h with rfl | ⟨b, o, rfl, hb, hc'⟩
    · simp at hk
    · refine .inr ⟨b, o + k * 4, ?_, hb, fun j x hj => ?_⟩
      · rw [tailAt, if_neg (by omega)]
        simp [Addr.add_lit]
      · rw [List.getElem?_drop] at hj
        have := hc' (k + j) x hj
        rw [show o + (k + j) * 4 = o + k * 4 + j * 4 by omega] at this
        exact this
theorem tail_none {ao : Option Addr} {cap k : Nat} (hz : ao = none → cap = 0) : tailAt ao cap k = none → cap - k = 0 := by
  intro h
  cases ao with
  | none => have := hz rfl; omega
  | some a => simp [tailAt] at h; split at h <;> simp_all
end Go.Proofs.Ytkbbjpnkfmegnaa
