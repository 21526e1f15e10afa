/- Below: KWErrors; no condition. -/
import Derived.Test.YtbfjjpdnoalojaaGreatDoorRows
import GoSem.ClaimGoes
set_option maxRecDepth 100000
namespace Go.Proofs.YtbfjjpdnoalojaaGreatDoor
namespace kernelErrors
theorem goes:false=Rows.kernelErrorsRow.goesBy Tryz.pinned.checked.prog:=by kernel_rfl
end kernelErrors
end Go.Proofs.YtbfjjpdnoalojaaGreatDoor
