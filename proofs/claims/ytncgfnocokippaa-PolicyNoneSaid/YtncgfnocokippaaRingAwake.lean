/- What the laws of layer 6 begin with: two keys of a list; a text that is not too long. No condition. -/
import Derived.Test.YtncgfnocokippaaRingMake
namespace Go.Proofs.Ytncgfnocokippaa.Ringy
open Go.ChangeShapes Go.WideShapes Go.ChangeAt Go.RowKit
open Wirey (Blk Row str str_size str_list str_take Kp)
open Go.ChangeMaps Go.Maps

/-- At most 80 bytes of a text. -/
def fewL (l : List UInt8) : List UInt8 := if 80 < l.length then l.take 80 else l
theorem fewL_le (l : List UInt8) : (fewL l).length ≤ 80 := by
  unfold fewL
  split
  · rw [List.length_take]; omega
  · omega
theorem fewL_max (l : List UInt8) : (fewL l).length ≤ maxLen := by have := fewL_le l; unfold maxLen; omega
/-- Of lists whose blocks are all new: whatever they turn, nothing that was there turns. -/
theorem Step.below {w w' : World} {m m' : Rm} {B : Nat} (h : Step w m w' m') (hO : ∀ b, m.own b → B ≤ b) (hB : B ≤ w.heap.size) : Below B w w' ∧ ∀ b, m'.own b → B ≤ b :=
  ⟨⟨h.kp.os, h.kp.tape, h.kp.output, h.kp.size, fun k hk => h.kp.block k (by omega) (fun ho => by have := hO k ho; omega)⟩, fun b hb => by
    rcases h.own b hb with h1 | h1
    · exact hO b h1
    · omega⟩

def aw1 : Rg := ((Rg.new 2 3).drop [97]).push 1 [97]
def aw2 : Rg := (aw1.drop [98]).push 1 [98]
theorem aw2_l : aw2.l 1 = [[98]] ++ [[97]] := by decide
theorem aw2_n : aw2.n = 2 ∧ aw2.places = 3 ∧ aw2.many = 2 ∧ aw1.many = 1 := by decide
end Go.Proofs.Ytncgfnocokippaa.Ringy
