/-
  What the laws of irq share: the fixed calls among things apart, of lines that are all unbound what lies at one; no condition of ours.
-/
import Derived.Test.YtgkcbcigdjappaaIFixed
import Derived.Test.YtgkcbcigdjappaaISay
import Derived.Test.YtgkcbcigdjappaaGMask
namespace Go.Proofs.Ytgkcbcigdjappaa
open Go.RowKit Go.Deep Go.Shelf

theorem fixed_sep {w0 w : World} {r : Nat} {R : List Th} (h : Sep w0 r w R) : Calls Try.prog 22 #[] w fun e w' => e = .returned (.bool true) ∧ Sep w0 r w' R :=
  (fixed_any w).mono fun _ _ ⟨he, b⟩ => ⟨he, h.below b⟩
theorem all_at (k : Nat) (m : Int) (h0 : 0 ≤ m) (h1 : m < k) : atI (List.replicate k ln0) m = some ln0 := by
  unfold atI
  rw [if_pos h0, List.getElem?_replicate, if_pos (by omega)]
end Go.Proofs.Ytgkcbcigdjappaa
