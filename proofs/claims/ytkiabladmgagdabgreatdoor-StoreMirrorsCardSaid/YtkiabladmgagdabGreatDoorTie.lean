/-
  DERIVED. GIVEN WITH THE SEED: THE PROGRAM's TIES (one call each: nine closed facts by the kernel) AND EACH ROW's TIE, after the 31st guide's Derived/Test/Toyas{Tie, Card}.lean. No idea stands in it: it is a product of the set-up. Laid BY PROGRAM, IN A SANDBOX (cutbox-door.mjs). By AI agents, Wed Nov 11 2026. No macro, syntax, notation, axiom, sorry.
-/
import Derived.Test.YtkiabladmgagdabGreatDoorRows
import Derived.LaidByTextLater
import Derived.SevenTiedAt
import Derived.LaidSub
import Derived.LaidOnce
namespace Go.Proofs.YtkiabladmgagdabGreatDoor
open Go
set_option maxRecDepth 100000
theorem seatTie1 : Tryz.prog.laidByTextLater [("hawthorn/blake.first", Rows.laid_hawthorn_blake_first), ("hawthorn/blake.orders", Rows.laid_hawthorn_blake_orders), ("hawthorn/blake.columns", Rows.laid_hawthorn_blake_columns)] [.widerDeep, .data, .data] true :=
  Program.laidByTextLater_by_one 32 8 33 (by kernel_rfl) (by kernel_rfl) (by kernel_rfl) (by kernel_rfl) (by kernel_rfl) (by kernel_rfl) (fun _ _ => by kernel_rfl)
theorem noOwnUnsafe : Tryz.pinned.checked.prog.headLifts.contains "ownunsafe" = false := by kernel_rfl
theorem tie : Tryz.prog.laidByTextLater [("hawthorn/blake.first", Rows.laid_hawthorn_blake_first), ("hawthorn/blake.orders", Rows.laid_hawthorn_blake_orders), ("hawthorn/blake.columns", Rows.laid_hawthorn_blake_columns)] [.widerDeep, .data, .data] true :=
  Program.laidByTextLater.sub seatTie1 ["hawthorn/blake.first", "hawthorn/blake.orders", "hawthorn/blake.columns"] (by kernel_rfl) (by kernel_rfl)
theorem storeMirrors_row_tie : Rows.storeMirrorsRow.laidByTextAt .later Tryz.pinned [.widerDeep, .data, .data] true :=
  OpenClaim.laidByTextAt_later rfl rfl tie noOwnUnsafe
theorem storeMirrorsUpto_row_tie : Rows.storeMirrorsUptoRow.laidByTextAt .later Tryz.pinned [.widerDeep, .data, .data] true :=
  OpenClaim.laidByTextAt_later rfl rfl tie noOwnUnsafe
end Go.Proofs.YtkiabladmgagdabGreatDoor
