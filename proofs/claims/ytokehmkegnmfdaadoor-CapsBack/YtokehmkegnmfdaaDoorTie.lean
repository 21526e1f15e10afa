/-
  DERIVED. GIVEN WITH THE SEED: THE PROGRAM's TIES (one call each: nine closed facts by the kernel) AND EACH ROW's TIE, after the 31st guide's Derived/Test/Toyas{Tie, Card}.lean. No idea stands in it: it is a product of the set-up. Laid BY PROGRAM, IN A SANDBOX (cutbox-door.mjs). By AI agents, Wed Nov 11 2026. No macro, syntax, notation, axiom, sorry.
-/
import Derived.Test.YtokehmkegnmfdaaDoorRows
import Derived.LaidByTextLater
import Derived.SevenTiedAt
import Derived.LaidSub
import Derived.LaidOnce
namespace Go.Proofs.YtokehmkegnmfdaaDoor
open Go
set_option maxRecDepth 100000
theorem seatTie1 : Tryd.prog.laidByTextLater [("buttress/caps.kindPlace", Rows.laid_buttress_caps_kindPlace), ("buttress/caps.rightsPlace", Rows.laid_buttress_caps_rightsPlace), ("buttress/caps.bitsPlace", Rows.laid_buttress_caps_bitsPlace), ("buttress/caps.objPlace", Rows.laid_buttress_caps_objPlace)] [.data, .data, .data, .data] true :=
  Program.laidByTextLater_by_one 29 8 3 (by kernel_rfl) (by kernel_rfl) (by kernel_rfl) (by kernel_rfl) (by kernel_rfl) (by kernel_rfl) (fun _ _ => by kernel_rfl)
theorem noOwnUnsafe : Tryd.pinned.checked.prog.headLifts.contains "ownunsafe" = false := by kernel_rfl
theorem tie : Tryd.prog.laidByTextLater [("buttress/caps.kindPlace", Rows.laid_buttress_caps_kindPlace), ("buttress/caps.rightsPlace", Rows.laid_buttress_caps_rightsPlace), ("buttress/caps.bitsPlace", Rows.laid_buttress_caps_bitsPlace), ("buttress/caps.objPlace", Rows.laid_buttress_caps_objPlace)] [.data, .data, .data, .data] true :=
  Program.laidByTextLater.sub seatTie1 ["buttress/caps.kindPlace", "buttress/caps.rightsPlace", "buttress/caps.bitsPlace", "buttress/caps.objPlace"] (by kernel_rfl) (by kernel_rfl)
theorem capsChecks_row_tie : Rows.capsChecksRow.laidByTextAt .later Tryd.pinned [.data, .data, .data, .data] true :=
  OpenClaim.laidByTextAt_later rfl rfl tie noOwnUnsafe
theorem capsMints_row_tie : Rows.capsMintsRow.laidByTextAt .later Tryd.pinned [.data, .data, .data, .data] true :=
  OpenClaim.laidByTextAt_later rfl rfl tie noOwnUnsafe
theorem capsPacks_row_tie : Rows.capsPacksRow.laidByTextAt .later Tryd.pinned [.data, .data, .data, .data] true :=
  OpenClaim.laidByTextAt_later rfl rfl tie noOwnUnsafe
theorem capsBack_row_tie : Rows.capsBackRow.laidByTextAt .later Tryd.pinned [.data, .data, .data, .data] true :=
  OpenClaim.laidByTextAt_later rfl rfl tie noOwnUnsafe
theorem capsDerive_row_tie : Rows.capsDeriveRow.laidByTextAt .later Tryd.pinned [.data, .data, .data, .data] true :=
  OpenClaim.laidByTextAt_later rfl rfl tie noOwnUnsafe
theorem capsSame_row_tie : Rows.capsSameRow.laidByTextAt .later Tryd.pinned [.data, .data, .data, .data] true :=
  OpenClaim.laidByTextAt_later rfl rfl tie noOwnUnsafe
theorem capsChecksUpto_row_tie : Rows.capsChecksUptoRow.laidByTextAt .later Tryd.pinned [.data, .data, .data, .data] true :=
  OpenClaim.laidByTextAt_later rfl rfl tie noOwnUnsafe
theorem capsMintsUpto_row_tie : Rows.capsMintsUptoRow.laidByTextAt .later Tryd.pinned [.data, .data, .data, .data] true :=
  OpenClaim.laidByTextAt_later rfl rfl tie noOwnUnsafe
theorem capsPacksUpto_row_tie : Rows.capsPacksUptoRow.laidByTextAt .later Tryd.pinned [.data, .data, .data, .data] true :=
  OpenClaim.laidByTextAt_later rfl rfl tie noOwnUnsafe
theorem capsBackUpto_row_tie : Rows.capsBackUptoRow.laidByTextAt .later Tryd.pinned [.data, .data, .data, .data] true :=
  OpenClaim.laidByTextAt_later rfl rfl tie noOwnUnsafe
theorem capsDeriveUpto_row_tie : Rows.capsDeriveUptoRow.laidByTextAt .later Tryd.pinned [.data, .data, .data, .data] true :=
  OpenClaim.laidByTextAt_later rfl rfl tie noOwnUnsafe
theorem capsSameUpto_row_tie : Rows.capsSameUptoRow.laidByTextAt .later Tryd.pinned [.data, .data, .data, .data] true :=
  OpenClaim.laidByTextAt_later rfl rfl tie noOwnUnsafe
end Go.Proofs.YtokehmkegnmfdaaDoor
