/-
  Make of the document's nodes, both sides in sight; no condition of ours.
-/
import Derived.Test.YtkpoppgibempbaaNBoth
import Derived.Test.YtkpoppgibempbaaNRMake
namespace Go.Proofs.Ytkpoppgibempbaa
open Go.RowKit Go.Deep Go.MapKept Go.Maps
set_option linter.unusedSectionVars false
variable [dCp : DecidableEq Cp] [dLim : ∀ k, Decidable (Lim k)] [dBad : ∀ k, Decidable (Bad k)] [dFit : ∀ g z, Decidable (Fit g z)] [dFine : ∀ c, Decidable (Fine c)] [dMint : ∀ c v, Decidable (MintR c v)] [dWho : ∀ x y, Decidable (Whose x y)] [dSl : DecidableEq Sl] [dLt : ∀ a b, Decidable (ltS a b)] [iSl : Inhabited Sl] [iCp : Inhabited Cp]
variable {w0 : World} {r : Nat} {w w' : World} {p : Nat} {F : Nat → Prop} {p2 : Nat} {F2 : Nat → Prop} {S S' T T' : St} {L : List (Nat × Obj)} {M : List (Value × List (Sl × Cp))}
theorem rmake_bo (bits n e : Int) (U : St) (h : Bo w0 r w p F p2 F2 S T L M) (hn : makeN T bits = n) (he : makeE T bits = e) (hU : makeS T bits = U) :
    Calls Try.prog 33 #[.pointer (some ⟨p2, 0, none⟩), .int .i64 bits] w fun x w' => x = .returned (.tuple #[.int .i64 n, .int .i64 e]) ∧ ∃ F2', Bo w0 r w' p F p2 F2' S U L M := by
  subst hn he hU
  refine (rmake_any p2 F2 T bits w h.rds).mono ?_
  rintro x w' ⟨rfl, l⟩
  exact ⟨rfl, h.rleavesF l⟩
end Go.Proofs.Ytkpoppgibempbaa
