/- Import of the bytes of lists: lists that were made by the call. -/
import Derived.Test.YtgfpedcdclgmiaaGreatRingTake
namespace Go.Proofs.YtgfpedcdclgmiaaGreat.Ringy
open Go.ChangeShapes Go.WideShapes Go.ChangeAt Go.RowKit Go.Shelf
open Wirey (Blk Row str str_size str_list Kp Kept RS)
open Go.ChangeMaps Go.Maps

section
variable {s : Rg}
end
end Go.Proofs.YtgfpedcdclgmiaaGreat.Ringy
