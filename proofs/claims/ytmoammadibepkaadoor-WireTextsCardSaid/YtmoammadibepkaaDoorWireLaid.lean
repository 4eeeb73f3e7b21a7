/- Layer 3: what the rows' condition on the table of halves gives to the walks, and the world that meets it. -/
import Derived.Test.YtmoammadibepkaaDoorKit
import Derived.Test.YtmoammadibepkaaDoorTie
import Derived.Test.YtmoammadibepkaaDoorCards
import Derived.Test.YtmoammadibepkaaDoorWireAwake
import Derived.LaidMore
import Derived.Stop.Joined
namespace Go.Proofs.YtmoammadibepkaaDoor.Wirey
open Go.ChangeShapes Go.WideShapes Go.ChangeAt Go.RowKit Go.ChangeMaps

abbrev laidAll : List (String × DataW Unit) := [("hawthorn/wire.halves", Rows.laid_hawthorn_wire_halves)]
def halves16 : List Int := [0, 2211385148, 3523063333, 1379049753, 1972956183, 4132954923, 2758099506, 665472270, 3945912366, 1761531666, 986478091, 3104012599, 2661889081, 493239045, 1330944540, 3432748320]
theorem gHalves : Tryd.prog.globalNamed "hawthorn/wire.halves" = some 0 := by kernel_rfl
theorem tHalves : (Tryd.prog.globals[0]?).map (·.type) = some 68 := by kernel_rfl
theorem c16 : Tryd.prog.cellsOf 68 = 16 := by kernel_rfl
theorem c32 : Tryd.prog.cellsOf 45 = 1 := by kernel_rfl
theorem tab16 : ∀ i : Fin 16, halves16.getD i.val 0 = (tab i.val : Int) := by decide +kernel
theorem halves_of {W : World} (h : laidMetH Tryd.prog laidAll W) : Halves W := by
  rw [MakeChecks.laidMetH_plain _ _ _ (by kernel_rfl)] at h
  have hL : laidMet Tryd.prog [("hawthorn/wire.halves", Lib.tabData .u32 halves16)] W := h
  have hT := Lib.tabIs_of_head gHalves tHalves Tryd.underlying68 Tryd.underlying45 c32 c16 hL
  intro i hi
  rw [hT.cell gHalves i hi, tab16 ⟨i, hi⟩]
theorem door_met (os : Os) (args : Array Value) : laidMetH Tryd.prog laidAll ((World.doorLaid Tryd.prog 400 os).forCall (fun _ _ => 0) ⟨#[], args, []⟩).memory :=
  laidMetH_of_parts3 (fuel := 8) (laidMet_of_run' 8 (by kernel_rfl) (by kernel_rfl)) (by kernel_rfl) (by kernel_rfl)
end Go.Proofs.YtmoammadibepkaaDoor.Wirey
