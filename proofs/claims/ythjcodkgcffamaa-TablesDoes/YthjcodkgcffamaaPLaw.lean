/-
  What the laws of tables share: the fixed calls among things apart; no condition of ours.
-/
import Derived.Test.YthjcodkgcffamaaPFixed
import Derived.Test.YthjcodkgcffamaaPSay0
import Derived.Test.YthjcodkgcffamaaGMask
namespace Go.Proofs.Ythjcodkgcffamaa
open Go.RowKit Go.Deep Go.Shelf

theorem fixed_sep {w0 w : World} {r : Nat} {R : List Th} (h : Sep w0 r w R) : Calls Try.prog 31 #[] w fun e w' => e = .returned (.bool true) ∧ Sep w0 r w' R :=
  (fixed_any w).mono fun _ _ ⟨he, b⟩ => ⟨he, h.below b⟩
end Go.Proofs.Ythjcodkgcffamaa
