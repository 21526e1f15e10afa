/-
  What the laws of tlb share: the fixed calls among things apart, what a mask leaves; no condition of ours.
-/
import Derived.Test.YtekjoeebomcmeaaYFixed
import Derived.Test.YtekjoeebomcmeaaYSay
import Derived.Test.YtekjoeebomcmeaaGMask
namespace Go.Proofs.Ytekjoeebomcmeaa
open Go.RowKit Go.Deep Go.Shelf
theorem mask15 (x : Int) : ∃ p : Nat, p < 16 ∧ bits .and .i64 x 15 = (p : Int) := mask_is x 4 (by decide)
theorem fixed_sep {w0 w : World} {r : Nat} {R : List Th} (h : Sep w0 r w R) : Calls Try.prog 24 #[] w fun e w' => e = .returned (.bool true) ∧ Sep w0 r w' R :=
  (fixed_any w).mono fun _ _ ⟨he, b⟩ => ⟨he, h.below b⟩
end Go.Proofs.Ytekjoeebomcmeaa
