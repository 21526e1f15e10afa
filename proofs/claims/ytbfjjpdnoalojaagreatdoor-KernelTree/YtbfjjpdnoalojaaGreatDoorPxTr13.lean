/- Below: KWTree; no condition. -/
import Derived.Test.YtbfjjpdnoalojaaGreatDoorRows
import GoSem.ClaimGoes
set_option maxRecDepth 100000
namespace Go.Proofs.YtbfjjpdnoalojaaGreatDoor
namespace kernelTree
theorem goes:false=Rows.kernelTreeRow.goesBy Tryz.pinned.checked.prog:=by kernel_rfl
end kernelTree
end Go.Proofs.YtbfjjpdnoalojaaGreatDoor
