/- Below: KTr; no condition. -/
import Derived.Test.YtbfjjpdnoalojaaGreatDoorPa7
import Derived.Test.YtbfjjpdnoalojaaGreatDoorPxRe1
set_option maxRecDepth 100000
set_option linter.unusedSectionVars false
namespace Go.Proofs.YtbfjjpdnoalojaaGreatDoor
namespace Tr
variable [DecidableEq Sl]
open Go.RowKit Go.Deep Go.Shelf
section
variable {w0:World} {r:Nat} {w:World} {p:Nat} {v:Value} {S:St} {R:List Th}
theorem J37 (a b:Sl) (h:Sep w0 r w (trT p v S::R)) (hl:S.length<=1000) :
  Calls Tryz.prog 227 #[.pointer (some ⟨p,0,none⟩),Jh a,Jh b] w fun e w'=>e=.returned (.int .i64 (AZ S a b))/\∃ v',Sep w0 r w' (trT p v' (moveS S a b)::R):=
 (Jy8 p v S a b w h.head hl).mono fun _ _ ⟨he,g⟩=>⟨he,h.goes g⟩
end
end Tr
end Go.Proofs.YtbfjjpdnoalojaaGreatDoor
