/- Below: GRow; no condition. -/
import Derived.Test.YtbfjjpdnoalojaaGreatDoorPa1
namespace Go.Proofs.YtbfjjpdnoalojaaGreatDoor
section
open Go.RowKit Go.Deep Go.Shelf
section
variable {w0:World} {r:Nat} {w w':World} {t t' u:Th} {R R':List Th}
theorem Sep.drewN (h:Sep w0 r w R) (n:Nat):Sep w0 r (w.drewN n) R:=h.below (JH (Below.refl _ _) n)
end
end
end Go.Proofs.YtbfjjpdnoalojaaGreatDoor
