/-
  What stands below: KpCa KpTa KF1; no condition but what each says.
-/
import Derived.Test.YtilnjnblpeeigaaGreatDoorPb1
import Derived.Test.YtilnjnblpeeigaaGreatDoorPb2
import Derived.Test.YtilnjnblpeeigaaGreatDoorPb3
import Derived.Test.YtilnjnblpeeigaaGreatDoorPb4
import Derived.Below
import Derived.BigQuiet
import Derived.Deep.OwnRows
import Derived.Deep.QuietTactic
import Derived.Deep.RegionHeld3
import Derived.Deep.RegionLaw
import Derived.Deep.RegionWith
import Derived.Laws.AppendOwnNone
import Derived.Laws.BitsAllLaws
import Derived.Laws.BitsLemmas
import Derived.Laws.CopyOwn
import Derived.Laws.StructEq
import Derived.Lib.SliceRun
import Derived.Lib.Walk
import Derived.Maps.AppendAt
import Derived.Shelf.Abstract
import Derived.Shelf.RegionOpenPlain
import Derived.Test.YtilnjnblpeeigaaGreatDoorRows
import Derived.WalkKit
import Derived.WalkLawsBesides
namespace Go.Proofs.YtilnjnblpeeigaaGreatDoor.Ca
abbrev decWho (x y:Int):Decidable (Whose x y):=by
 unfold Whose
 have h1:=decFine (readC x y)
 exact inferInstance
set_option linter.unusedSectionVars false
variable [dCp:DecidableEq Cp] [dLim:∀ k,Decidable (Lim k)] [dBad:∀ k,Decidable (Bad k)] [dFit:∀ g z,Decidable (Fit g z)] [dFine:∀ c,Decidable (Fine c)] [dMint:∀ c v,Decidable (MintR c v)] [dWho:∀ x y,Decidable (Whose x y)]
end Go.Proofs.YtilnjnblpeeigaaGreatDoor.Ca
namespace Go.Proofs.YtilnjnblpeeigaaGreatDoor.Ta
theorem upd_same {α:Type} (g:Int->α) (i:Int) (v:α):upd g i v i=v:=by simp [upd]
end Go.Proofs.YtilnjnblpeeigaaGreatDoor.Ta
namespace Go.Proofs.YtilnjnblpeeigaaGreatDoor
open Go.RowKit Go.Deep Go.Shelf
theorem numD_any (ao:Option Addr) (n cap:Nat) (i:Int) (w:World):Calls Tryz.prog 38 #[.slice ao n cap,.int .i64 i] w fun x w'=>x = .returned (.bool (decide (0<=i) && decide (i<(n:Int))))/\w'=w:=by
 go_enter Tryz.func38,Tryz.ntmps38
 by_cases h:0<=i
 ·have h2:i ≥ 0:=h
  go_wp2
  go_ret
  exact ⟨by simp [h],rfl⟩
 ·have h2:¬ i ≥ 0:=h
  go_wp2
  go_ret
  exact ⟨by simp;omega,rfl⟩
end Go.Proofs.YtilnjnblpeeigaaGreatDoor
