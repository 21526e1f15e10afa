/-
  What the laws of threads share: the fixed calls among things apart, numbers under a mask; no condition of ours.
-/
import Derived.Test.YtchamgecalfmpaaDoorHFixed
import Derived.Test.YtchamgecalfmpaaDoorHSay
import Derived.Test.YtchamgecalfmpaaDoorMore
namespace Go.Proofs.YtchamgecalfmpaaDoor
open Go.RowKit Go.Deep Go.Shelf

theorem fixed_sep {w0 w : World} {r : Nat} {R : List Th} (h : Sep w0 r w R) (ht : ∀ u, Below r w0 u → Tab u) : Calls Tryd.prog 23 #[] w fun e w' => e = .returned (.bool true) ∧ Sep w0 r w' R :=
  (fixed_any w (ht w h.low)).mono fun _ _ ⟨he, b⟩ => ⟨he, h.below b⟩
theorem mask_is (x : Int) (m : Nat) (hm : m ≤ 62) : ∃ p : Nat, p < 2 ^ m ∧ bits .and .i64 x ((2 ^ m - 1 : Nat) : Int) = (p : Int) := by
  have hp : (0 : Int) < ((2 ^ m : Nat) : Int) := by
    have := Nat.two_pow_pos m
    omega
  have h0 : 0 ≤ x % ((2 ^ m : Nat) : Int) := Int.emod_nonneg _ (by omega)
  have h1 : x % ((2 ^ m : Nat) : Int) < ((2 ^ m : Nat) : Int) := Int.emod_lt_of_pos _ hp
  exact ⟨(x % ((2 ^ m : Nat) : Int)).toNat, by omega, by rw [i64_mask x m hm]; omega⟩
theorem mask255 (x : Int) : ∃ p : Nat, p < 256 ∧ bits .and .i64 x 255 = (p : Int) := mask_is x 8 (by decide)
theorem mask127 (x : Int) : ∃ p : Nat, p < 128 ∧ bits .and .i64 x 127 = (p : Int) := mask_is x 7 (by decide)
theorem mask7 (x : Int) : ∃ p : Nat, p < 8 ∧ bits .and .i64 x 7 = (p : Int) := mask_is x 3 (by decide)
theorem mask3 (x : Int) : ∃ p : Nat, p < 4 ∧ bits .and .i64 x 3 = (p : Int) := mask_is x 2 (by decide)
theorem mask1 (x : Int) : ∃ p : Nat, p < 2 ∧ bits .and .i64 x 1 = (p : Int) := mask_is x 1 (by decide)
theorem mask64k (x : Int) : ∃ p : Nat, p < 65536 ∧ bits .and .i64 x 65535 = (p : Int) := mask_is x 16 (by decide)
theorem tick_is {w0 w : World} {r : Nat} {R : List Th} {p : Nat} {F : Nat → Prop} {h : Hs} (s : Sep w0 r w (tT p F h :: R)) (ht : ∀ u, Below r w0 u → Tab u) (c : Int) {b : Bool} {h' : Hs} (hh : tickH h c = h') (hb : runsB h c = b) : Calls Tryd.prog 26 #[ptr p, .int .i64 c] w fun e w' => e = .returned (.bool b) ∧ ∃ F', Sep w0 r w' (tT p F' h' :: R) := by
  subst hh
  subst hb
  exact tick_sep s ht c
end Go.Proofs.YtchamgecalfmpaaDoor
