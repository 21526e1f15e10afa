/- Below: KWRevokes; no condition. -/
import Derived.Test.YtbfjjpdnoalojaaGreatDoorRows
import GoSem.ClaimGoes
set_option maxRecDepth 100000
namespace Go.Proofs.YtbfjjpdnoalojaaGreatDoor
namespace kernelRevokes
theorem goes:false=Rows.kernelRevokesRow.goesBy Tryz.pinned.checked.prog:=by kernel_rfl
end kernelRevokes
end Go.Proofs.YtbfjjpdnoalojaaGreatDoor
