/-
  DERIVED. GIVEN WITH THE SEED: THE PROGRAM's TIES (one call each: nine closed facts by the kernel) AND EACH ROW's TIE, after the 31st guide's Derived/Test/Toyas{Tie, Card}.lean. No idea stands in it: it is a product of the set-up. Laid BY PROGRAM, IN A SANDBOX (cutbox-door.mjs). By AI agents, Wed Nov 11 2026. No macro, syntax, notation, axiom, sorry.
-/
import Derived.Test.YtokehmkegnmfdabDoorRows
import Derived.LaidByTextLater
import Derived.SevenTiedAt
import Derived.LaidSub
import Derived.LaidOnce
namespace Go.Proofs.YtokehmkegnmfdabDoor
open Go
set_option maxRecDepth 100000
theorem seatTie1 : Tryd.prog.laidByTextLater [("buttress/caps.kindPlace", Rows.laid_buttress_caps_kindPlace), ("buttress/caps.rightsPlace", Rows.laid_buttress_caps_rightsPlace), ("buttress/caps.bitsPlace", Rows.laid_buttress_caps_bitsPlace), ("buttress/caps.objPlace", Rows.laid_buttress_caps_objPlace)] [.data, .data, .data, .data] true :=
  Program.laidByTextLater_by_one 29 8 3 (by kernel_rfl) (by kernel_rfl) (by kernel_rfl) (by kernel_rfl) (by kernel_rfl) (by kernel_rfl) (fun _ _ => by kernel_rfl)
theorem noOwnUnsafe : Tryd.pinned.checked.prog.headLifts.contains "ownunsafe" = false := by kernel_rfl
theorem tie : Tryd.prog.laidByTextLater [("buttress/caps.kindPlace", Rows.laid_buttress_caps_kindPlace), ("buttress/caps.rightsPlace", Rows.laid_buttress_caps_rightsPlace), ("buttress/caps.bitsPlace", Rows.laid_buttress_caps_bitsPlace), ("buttress/caps.objPlace", Rows.laid_buttress_caps_objPlace)] [.data, .data, .data, .data] true :=
  Program.laidByTextLater.sub seatTie1 ["buttress/caps.kindPlace", "buttress/caps.rightsPlace", "buttress/caps.bitsPlace", "buttress/caps.objPlace"] (by kernel_rfl) (by kernel_rfl)
theorem capsOrder_row_tie : Rows.capsOrderRow.laidByTextAt .later Tryd.pinned [.data, .data, .data, .data] true :=
  OpenClaim.laidByTextAt_later rfl rfl tie noOwnUnsafe
theorem capsLess_row_tie : Rows.capsLessRow.laidByTextAt .later Tryd.pinned [.data, .data, .data, .data] true :=
  OpenClaim.laidByTextAt_later rfl rfl tie noOwnUnsafe
theorem capsGuards_row_tie : Rows.capsGuardsRow.laidByTextAt .later Tryd.pinned [.data, .data, .data, .data] true :=
  OpenClaim.laidByTextAt_later rfl rfl tie noOwnUnsafe
theorem capsOrderUpto_row_tie : Rows.capsOrderUptoRow.laidByTextAt .later Tryd.pinned [.data, .data, .data, .data] true :=
  OpenClaim.laidByTextAt_later rfl rfl tie noOwnUnsafe
theorem capsLessUpto_row_tie : Rows.capsLessUptoRow.laidByTextAt .later Tryd.pinned [.data, .data, .data, .data] true :=
  OpenClaim.laidByTextAt_later rfl rfl tie noOwnUnsafe
theorem capsGuardsUpto_row_tie : Rows.capsGuardsUptoRow.laidByTextAt .later Tryd.pinned [.data, .data, .data, .data] true :=
  OpenClaim.laidByTextAt_later rfl rfl tie noOwnUnsafe
end Go.Proofs.YtokehmkegnmfdabDoor
