/- What a list of texts lays before a law that is given one: its cells, one text each. -/
import Derived.Test.YtncgfnocokippaaGreatRows
import Derived.Test.YtncgfnocokippaaGreatMem
import Derived.Deep.Slices
import Derived.Deep.Strs
import Derived.Test.YtncgfnocokippaaGreatSq
namespace Go.Proofs.YtncgfnocokippaaGreat.Wirey
open Go.ChangeShapes Go.WideShapes Go.ChangeAt Go.RowKit Go.Deep

structure Texts (w : World) (ao : Option Addr) (n sb off : Nat) (T : Nat → List UInt8) : Prop where
 n63 : n ≤ 9223372036854775807
 ao : 0 < n → ao = some ⟨sb, off, none⟩
 cell : ∀ i, i < n → w.cell? ⟨sb, off + i, none⟩ = some (.string (str (T i)))
 size : ∀ i, i < n → (T i).length ≤ maxLen
 lt : 0 < n → sb < w.heap.size
theorem str_cells : Tryz.prog.cellsOf 9 = 1 := by kernel_rfl
end Go.Proofs.YtncgfnocokippaaGreat.Wirey
