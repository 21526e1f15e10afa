/-
  What stands below: KpCa; no condition but what each says.
-/
import Derived.Test.YtilnjnblpeeigaaGreatDoorPb2
import Derived.Laws.BitsAllLaws
import Derived.Laws.BitsLemmas
namespace Go.Proofs.YtilnjnblpeeigaaGreatDoor.Ca
abbrev decWho (x y:Int):Decidable (Whose x y):=by
 unfold Whose
 have h1:=decFine (readC x y)
 exact inferInstance
set_option linter.unusedSectionVars false
variable [dCp:DecidableEq Cp] [dLim:∀ k,Decidable (Lim k)] [dBad:∀ k,Decidable (Bad k)] [dFit:∀ g z,Decidable (Fit g z)] [dFine:∀ c,Decidable (Fine c)] [dMint:∀ c v,Decidable (MintR c v)] [dWho:∀ x y,Decidable (Whose x y)]
end Go.Proofs.YtilnjnblpeeigaaGreatDoor.Ca
