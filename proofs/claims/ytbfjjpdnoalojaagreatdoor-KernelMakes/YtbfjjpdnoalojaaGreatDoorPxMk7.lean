/- Below: KWMakes; no condition. -/
import Derived.Test.YtbfjjpdnoalojaaGreatDoorRows
import GoSem.ClaimGoes
set_option maxRecDepth 100000
namespace Go.Proofs.YtbfjjpdnoalojaaGreatDoor
namespace kernelMakes
theorem goes:false=Rows.kernelMakesRow.goesBy Tryz.pinned.checked.prog:=by kernel_rfl
end kernelMakes
end Go.Proofs.YtbfjjpdnoalojaaGreatDoor
