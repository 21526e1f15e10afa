/-
  What the laws of tables share: the fixed calls among things apart; no condition of ours.
-/
import Derived.Test.YthjcodkgcffamabPFixed
import Derived.Test.YthjcodkgcffamabPSay0
import Derived.Test.YthjcodkgcffamabGMask
namespace Go.Proofs.Ythjcodkgcffamab
open Go.RowKit Go.Deep Go.Shelf

theorem fixed_sep {w0 w : World} {r : Nat} {R : List Th} (h : Sep w0 r w R) : Calls Try.prog 7 #[] w fun e w' => e = .returned (.bool true) ∧ Sep w0 r w' R :=
  (fixed_any w).mono fun _ _ ⟨he, b⟩ => ⟨he, h.below b⟩
end Go.Proofs.Ythjcodkgcffamab
